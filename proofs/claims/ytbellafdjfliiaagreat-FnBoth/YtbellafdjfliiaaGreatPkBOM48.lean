import Derived.Test.YtbellafdjfliiaaGreatPkBOM47
namespace Go.Proofs.YtbellafdjfliiaaGreat
set_option maxRecDepth 100000
set_option maxHeartbeats 8000000
set_option linter.unusedVariables false
namespace Pw1
open Go.RowKit
open Nd0 Pl1 Pl2 Vl1 Vl2 Bt0 Wd1 Wd2 Wd3 Wd4 Wd5 Ic4 Pv1 Pv3
open Sv1 (Rg below1)
theorem i0 {n:Nd} {W a b c v:Int} (w:World) (h:Rg n W a b c) (hop:n.op=0) (hC:Clo 115 n W a b c v):iApp n W a b c v w:=by
 obtain ⟨h1,h2,h3,h4,h5⟩:=h
 have HC:Hid (Clo 115 n W a b c v):=hC
 clear hC
 have ht:tab[0]'(by decide)=.func (.func 115) #[] #[]:=rfl
 have hts:tab.size=19:=rfl
 have hef:=eql_func
 unfold iApp
 go_enter Tryz.func94,Tryz.ntmps94
 go_wp2_with (first|(go_at_call 84;refine (iWidthOk _ _).mono ?_;rintro e w' ⟨rfl,rfl⟩)|(go_at_call 110;refine (byteOk _ _).mono ?_;rintro e w' ⟨rfl,rfl⟩)|(go_at_call 111;refine (operators _).mono ?_;rintro e w' ⟨rfl,rfl⟩)|refine store_new _ rfl 121 (.tmp 11) (.tmp 36) rfl _ tab _ rfl (by simp) rfl sizeTab rfl oneTab ?_)
 obtain ⟨W3,hW3⟩:∃ W3:World,W3=((w.alloc (.cells #[.int .i64 0,.int .i64 n.w,.int .i64 n.k,.int .i64 n.a,.int .i64 n.b,.int .i64 n.c] 53)).alloc (.cells tab 121)).alloc (.cells tab 121):=⟨_,rfl⟩
 have HS:W3.cell? ⟨w.heap.size,0,none⟩=some (.int .i64 0)/\W3.cell? ⟨w.heap.size,1,none⟩=some (.int .i64 n.w)/\W3.cell? ⟨w.heap.size,2,none⟩=some (.int .i64 n.k)/\W3.cell? ⟨w.heap.size,3,none⟩=some (.int .i64 n.a)/\W3.cell? ⟨w.heap.size,4,none⟩=some (.int .i64 n.b)/\W3.cell? ⟨w.heap.size,5,none⟩=some (.int .i64 n.c)/\W3.cell? ⟨w.heap.size+1+1,0,none⟩=some (.func (.func 115) #[] #[]):=by
  rw [hW3]
  exact facts7 w _ _ _ _ _ _ _ _ _ ht
 have HB3:Hid (Below w.heap.size w W3):=by
  rw [hW3]
  exact (((Below.refl _ _).alloc (Nat.le_refl _) _).alloc (by simp) _).alloc (by simp;omega) _
 rw [<- hW3]
 clear hW3
 have HC2:Hid (Clo 115 ⟨0,n.w,n.k,n.a,n.b,n.c⟩ W a b c v):=by
  have:=HC.out
  rw [show n=⟨n.op,n.w,n.k,n.a,n.b,n.c⟩ from rfl,hop] at this
  exact this
 go_region_held (fun w'=>w'.cell? ⟨w.heap.size,0,none⟩=some (.int .i64 0)/\w'.cell? ⟨w.heap.size,1,none⟩=some (.int .i64 n.w)/\w'.cell? ⟨w.heap.size,2,none⟩=some (.int .i64 n.k)/\w'.cell? ⟨w.heap.size,3,none⟩=some (.int .i64 n.a)/\w'.cell? ⟨w.heap.size,4,none⟩=some (.int .i64 n.b)/\w'.cell? ⟨w.heap.size,5,none⟩=some (.int .i64 n.c)/\w'.cell? ⟨w.heap.size+1+1,0,none⟩=some (.func (.func 115) #[] #[])) ((first|exact HS|exact kept7 (W:=W3.drew) HS hb4)) ((go_at_call 115;refine (HC2.out _).mono ?_;rintro e w4 ⟨rfl,hb4⟩;have HB4:Hid (Below w.heap.size w w4):=HB3.out.drew.trans (hb4.mono HB3.out.size)))
 go_wp2
 go_ret
 exact ⟨rfl,HB4.out⟩
theorem i2 {n:Nd} {W a b c v:Int} (w:World) (h:Rg n W a b c) (hop:n.op=2) (hC:Clo 116 n W a b c v):iApp n W a b c v w:=by
 obtain ⟨h1,h2,h3,h4,h5⟩:=h
 have HC:Hid (Clo 116 n W a b c v):=hC
 clear hC
 have ht:tab[2]'(by decide)=.func (.func 116) #[] #[]:=rfl
 have hts:tab.size=19:=rfl
 have hef:=eql_func
 unfold iApp
 go_enter Tryz.func94,Tryz.ntmps94
 go_wp2_with (first|(go_at_call 84;refine (iWidthOk _ _).mono ?_;rintro e w' ⟨rfl,rfl⟩)|(go_at_call 110;refine (byteOk _ _).mono ?_;rintro e w' ⟨rfl,rfl⟩)|(go_at_call 111;refine (operators _).mono ?_;rintro e w' ⟨rfl,rfl⟩)|refine store_new _ rfl 121 (.tmp 11) (.tmp 36) rfl _ tab _ rfl (by simp) rfl sizeTab rfl oneTab ?_)
 obtain ⟨W3,hW3⟩:∃ W3:World,W3=((w.alloc (.cells #[.int .i64 2,.int .i64 n.w,.int .i64 n.k,.int .i64 n.a,.int .i64 n.b,.int .i64 n.c] 53)).alloc (.cells tab 121)).alloc (.cells tab 121):=⟨_,rfl⟩
 have HS:W3.cell? ⟨w.heap.size,0,none⟩=some (.int .i64 2)/\W3.cell? ⟨w.heap.size,1,none⟩=some (.int .i64 n.w)/\W3.cell? ⟨w.heap.size,2,none⟩=some (.int .i64 n.k)/\W3.cell? ⟨w.heap.size,3,none⟩=some (.int .i64 n.a)/\W3.cell? ⟨w.heap.size,4,none⟩=some (.int .i64 n.b)/\W3.cell? ⟨w.heap.size,5,none⟩=some (.int .i64 n.c)/\W3.cell? ⟨w.heap.size+1+1,2,none⟩=some (.func (.func 116) #[] #[]):=by
  rw [hW3]
  exact facts7 w _ _ _ _ _ _ _ _ _ ht
 have HB3:Hid (Below w.heap.size w W3):=by
  rw [hW3]
  exact (((Below.refl _ _).alloc (Nat.le_refl _) _).alloc (by simp) _).alloc (by simp;omega) _
 rw [<- hW3]
 clear hW3
 have HC2:Hid (Clo 116 ⟨2,n.w,n.k,n.a,n.b,n.c⟩ W a b c v):=by
  have:=HC.out
  rw [show n=⟨n.op,n.w,n.k,n.a,n.b,n.c⟩ from rfl,hop] at this
  exact this
 go_region_held (fun w'=>w'.cell? ⟨w.heap.size,0,none⟩=some (.int .i64 2)/\w'.cell? ⟨w.heap.size,1,none⟩=some (.int .i64 n.w)/\w'.cell? ⟨w.heap.size,2,none⟩=some (.int .i64 n.k)/\w'.cell? ⟨w.heap.size,3,none⟩=some (.int .i64 n.a)/\w'.cell? ⟨w.heap.size,4,none⟩=some (.int .i64 n.b)/\w'.cell? ⟨w.heap.size,5,none⟩=some (.int .i64 n.c)/\w'.cell? ⟨w.heap.size+1+1,2,none⟩=some (.func (.func 116) #[] #[])) ((first|exact HS|exact kept7 (W:=W3.drew) HS hb4)) ((go_at_call 116;refine (HC2.out _).mono ?_;rintro e w4 ⟨rfl,hb4⟩;have HB4:Hid (Below w.heap.size w w4):=HB3.out.drew.trans (hb4.mono HB3.out.size)))
 go_wp2
 go_ret
 exact ⟨rfl,HB4.out⟩
theorem i3 {n:Nd} {W a b c v:Int} (w:World) (h:Rg n W a b c) (hop:n.op=3) (hC:Clo 118 n W a b c v):iApp n W a b c v w:=by
 obtain ⟨h1,h2,h3,h4,h5⟩:=h
 have HC:Hid (Clo 118 n W a b c v):=hC
 clear hC
 have ht:tab[3]'(by decide)=.func (.func 118) #[] #[]:=rfl
 have hts:tab.size=19:=rfl
 have hef:=eql_func
 unfold iApp
 go_enter Tryz.func94,Tryz.ntmps94
 go_wp2_with (first|(go_at_call 84;refine (iWidthOk _ _).mono ?_;rintro e w' ⟨rfl,rfl⟩)|(go_at_call 110;refine (byteOk _ _).mono ?_;rintro e w' ⟨rfl,rfl⟩)|(go_at_call 111;refine (operators _).mono ?_;rintro e w' ⟨rfl,rfl⟩)|refine store_new _ rfl 121 (.tmp 11) (.tmp 36) rfl _ tab _ rfl (by simp) rfl sizeTab rfl oneTab ?_)
 obtain ⟨W3,hW3⟩:∃ W3:World,W3=((w.alloc (.cells #[.int .i64 3,.int .i64 n.w,.int .i64 n.k,.int .i64 n.a,.int .i64 n.b,.int .i64 n.c] 53)).alloc (.cells tab 121)).alloc (.cells tab 121):=⟨_,rfl⟩
 have HS:W3.cell? ⟨w.heap.size,0,none⟩=some (.int .i64 3)/\W3.cell? ⟨w.heap.size,1,none⟩=some (.int .i64 n.w)/\W3.cell? ⟨w.heap.size,2,none⟩=some (.int .i64 n.k)/\W3.cell? ⟨w.heap.size,3,none⟩=some (.int .i64 n.a)/\W3.cell? ⟨w.heap.size,4,none⟩=some (.int .i64 n.b)/\W3.cell? ⟨w.heap.size,5,none⟩=some (.int .i64 n.c)/\W3.cell? ⟨w.heap.size+1+1,3,none⟩=some (.func (.func 118) #[] #[]):=by
  rw [hW3]
  exact facts7 w _ _ _ _ _ _ _ _ _ ht
 have HB3:Hid (Below w.heap.size w W3):=by
  rw [hW3]
  exact (((Below.refl _ _).alloc (Nat.le_refl _) _).alloc (by simp) _).alloc (by simp;omega) _
 rw [<- hW3]
 clear hW3
 have HC2:Hid (Clo 118 ⟨3,n.w,n.k,n.a,n.b,n.c⟩ W a b c v):=by
  have:=HC.out
  rw [show n=⟨n.op,n.w,n.k,n.a,n.b,n.c⟩ from rfl,hop] at this
  exact this
 go_region_held (fun w'=>w'.cell? ⟨w.heap.size,0,none⟩=some (.int .i64 3)/\w'.cell? ⟨w.heap.size,1,none⟩=some (.int .i64 n.w)/\w'.cell? ⟨w.heap.size,2,none⟩=some (.int .i64 n.k)/\w'.cell? ⟨w.heap.size,3,none⟩=some (.int .i64 n.a)/\w'.cell? ⟨w.heap.size,4,none⟩=some (.int .i64 n.b)/\w'.cell? ⟨w.heap.size,5,none⟩=some (.int .i64 n.c)/\w'.cell? ⟨w.heap.size+1+1,3,none⟩=some (.func (.func 118) #[] #[])) ((first|exact HS|exact kept7 (W:=W3.drew) HS hb4)) ((go_at_call 118;refine (HC2.out _).mono ?_;rintro e w4 ⟨rfl,hb4⟩;have HB4:Hid (Below w.heap.size w w4):=HB3.out.drew.trans (hb4.mono HB3.out.size)))
 go_wp2
 go_ret
 exact ⟨rfl,HB4.out⟩
theorem i4 {n:Nd} {W a b c v:Int} (w:World) (h:Rg n W a b c) (hop:n.op=4) (hC:Clo 119 n W a b c v):iApp n W a b c v w:=by
 obtain ⟨h1,h2,h3,h4,h5⟩:=h
 have HC:Hid (Clo 119 n W a b c v):=hC
 clear hC
 have ht:tab[4]'(by decide)=.func (.func 119) #[] #[]:=rfl
 have hts:tab.size=19:=rfl
 have hef:=eql_func
 unfold iApp
 go_enter Tryz.func94,Tryz.ntmps94
 go_wp2_with (first|(go_at_call 84;refine (iWidthOk _ _).mono ?_;rintro e w' ⟨rfl,rfl⟩)|(go_at_call 110;refine (byteOk _ _).mono ?_;rintro e w' ⟨rfl,rfl⟩)|(go_at_call 111;refine (operators _).mono ?_;rintro e w' ⟨rfl,rfl⟩)|refine store_new _ rfl 121 (.tmp 11) (.tmp 36) rfl _ tab _ rfl (by simp) rfl sizeTab rfl oneTab ?_)
 obtain ⟨W3,hW3⟩:∃ W3:World,W3=((w.alloc (.cells #[.int .i64 4,.int .i64 n.w,.int .i64 n.k,.int .i64 n.a,.int .i64 n.b,.int .i64 n.c] 53)).alloc (.cells tab 121)).alloc (.cells tab 121):=⟨_,rfl⟩
 have HS:W3.cell? ⟨w.heap.size,0,none⟩=some (.int .i64 4)/\W3.cell? ⟨w.heap.size,1,none⟩=some (.int .i64 n.w)/\W3.cell? ⟨w.heap.size,2,none⟩=some (.int .i64 n.k)/\W3.cell? ⟨w.heap.size,3,none⟩=some (.int .i64 n.a)/\W3.cell? ⟨w.heap.size,4,none⟩=some (.int .i64 n.b)/\W3.cell? ⟨w.heap.size,5,none⟩=some (.int .i64 n.c)/\W3.cell? ⟨w.heap.size+1+1,4,none⟩=some (.func (.func 119) #[] #[]):=by
  rw [hW3]
  exact facts7 w _ _ _ _ _ _ _ _ _ ht
 have HB3:Hid (Below w.heap.size w W3):=by
  rw [hW3]
  exact (((Below.refl _ _).alloc (Nat.le_refl _) _).alloc (by simp) _).alloc (by simp;omega) _
 rw [<- hW3]
 clear hW3
 have HC2:Hid (Clo 119 ⟨4,n.w,n.k,n.a,n.b,n.c⟩ W a b c v):=by
  have:=HC.out
  rw [show n=⟨n.op,n.w,n.k,n.a,n.b,n.c⟩ from rfl,hop] at this
  exact this
 go_region_held (fun w'=>w'.cell? ⟨w.heap.size,0,none⟩=some (.int .i64 4)/\w'.cell? ⟨w.heap.size,1,none⟩=some (.int .i64 n.w)/\w'.cell? ⟨w.heap.size,2,none⟩=some (.int .i64 n.k)/\w'.cell? ⟨w.heap.size,3,none⟩=some (.int .i64 n.a)/\w'.cell? ⟨w.heap.size,4,none⟩=some (.int .i64 n.b)/\w'.cell? ⟨w.heap.size,5,none⟩=some (.int .i64 n.c)/\w'.cell? ⟨w.heap.size+1+1,4,none⟩=some (.func (.func 119) #[] #[])) ((first|exact HS|exact kept7 (W:=W3.drew) HS hb4)) ((go_at_call 119;refine (HC2.out _).mono ?_;rintro e w4 ⟨rfl,hb4⟩;have HB4:Hid (Below w.heap.size w w4):=HB3.out.drew.trans (hb4.mono HB3.out.size)))
 go_wp2
 go_ret
 exact ⟨rfl,HB4.out⟩
theorem i5 {n:Nd} {W a b c v:Int} (w:World) (h:Rg n W a b c) (hop:n.op=5) (hC:Clo 120 n W a b c v):iApp n W a b c v w:=by
 obtain ⟨h1,h2,h3,h4,h5⟩:=h
 have HC:Hid (Clo 120 n W a b c v):=hC
 clear hC
 have ht:tab[5]'(by decide)=.func (.func 120) #[] #[]:=rfl
 have hts:tab.size=19:=rfl
 have hef:=eql_func
 unfold iApp
 go_enter Tryz.func94,Tryz.ntmps94
 go_wp2_with (first|(go_at_call 84;refine (iWidthOk _ _).mono ?_;rintro e w' ⟨rfl,rfl⟩)|(go_at_call 110;refine (byteOk _ _).mono ?_;rintro e w' ⟨rfl,rfl⟩)|(go_at_call 111;refine (operators _).mono ?_;rintro e w' ⟨rfl,rfl⟩)|refine store_new _ rfl 121 (.tmp 11) (.tmp 36) rfl _ tab _ rfl (by simp) rfl sizeTab rfl oneTab ?_)
 obtain ⟨W3,hW3⟩:∃ W3:World,W3=((w.alloc (.cells #[.int .i64 5,.int .i64 n.w,.int .i64 n.k,.int .i64 n.a,.int .i64 n.b,.int .i64 n.c] 53)).alloc (.cells tab 121)).alloc (.cells tab 121):=⟨_,rfl⟩
 have HS:W3.cell? ⟨w.heap.size,0,none⟩=some (.int .i64 5)/\W3.cell? ⟨w.heap.size,1,none⟩=some (.int .i64 n.w)/\W3.cell? ⟨w.heap.size,2,none⟩=some (.int .i64 n.k)/\W3.cell? ⟨w.heap.size,3,none⟩=some (.int .i64 n.a)/\W3.cell? ⟨w.heap.size,4,none⟩=some (.int .i64 n.b)/\W3.cell? ⟨w.heap.size,5,none⟩=some (.int .i64 n.c)/\W3.cell? ⟨w.heap.size+1+1,5,none⟩=some (.func (.func 120) #[] #[]):=by
  rw [hW3]
  exact facts7 w _ _ _ _ _ _ _ _ _ ht
 have HB3:Hid (Below w.heap.size w W3):=by
  rw [hW3]
  exact (((Below.refl _ _).alloc (Nat.le_refl _) _).alloc (by simp) _).alloc (by simp;omega) _
 rw [<- hW3]
 clear hW3
 have HC2:Hid (Clo 120 ⟨5,n.w,n.k,n.a,n.b,n.c⟩ W a b c v):=by
  have:=HC.out
  rw [show n=⟨n.op,n.w,n.k,n.a,n.b,n.c⟩ from rfl,hop] at this
  exact this
 go_region_held (fun w'=>w'.cell? ⟨w.heap.size,0,none⟩=some (.int .i64 5)/\w'.cell? ⟨w.heap.size,1,none⟩=some (.int .i64 n.w)/\w'.cell? ⟨w.heap.size,2,none⟩=some (.int .i64 n.k)/\w'.cell? ⟨w.heap.size,3,none⟩=some (.int .i64 n.a)/\w'.cell? ⟨w.heap.size,4,none⟩=some (.int .i64 n.b)/\w'.cell? ⟨w.heap.size,5,none⟩=some (.int .i64 n.c)/\w'.cell? ⟨w.heap.size+1+1,5,none⟩=some (.func (.func 120) #[] #[])) ((first|exact HS|exact kept7 (W:=W3.drew) HS hb4)) ((go_at_call 120;refine (HC2.out _).mono ?_;rintro e w4 ⟨rfl,hb4⟩;have HB4:Hid (Below w.heap.size w w4):=HB3.out.drew.trans (hb4.mono HB3.out.size)))
 go_wp2
 go_ret
 exact ⟨rfl,HB4.out⟩
theorem i6 {n:Nd} {W a b c v:Int} (w:World) (h:Rg n W a b c) (hop:n.op=6) (hC:Clo 121 n W a b c v):iApp n W a b c v w:=by
 obtain ⟨h1,h2,h3,h4,h5⟩:=h
 have HC:Hid (Clo 121 n W a b c v):=hC
 clear hC
 have ht:tab[6]'(by decide)=.func (.func 121) #[] #[]:=rfl
 have hts:tab.size=19:=rfl
 have hef:=eql_func
 unfold iApp
 go_enter Tryz.func94,Tryz.ntmps94
 go_wp2_with (first|(go_at_call 84;refine (iWidthOk _ _).mono ?_;rintro e w' ⟨rfl,rfl⟩)|(go_at_call 110;refine (byteOk _ _).mono ?_;rintro e w' ⟨rfl,rfl⟩)|(go_at_call 111;refine (operators _).mono ?_;rintro e w' ⟨rfl,rfl⟩)|refine store_new _ rfl 121 (.tmp 11) (.tmp 36) rfl _ tab _ rfl (by simp) rfl sizeTab rfl oneTab ?_)
 obtain ⟨W3,hW3⟩:∃ W3:World,W3=((w.alloc (.cells #[.int .i64 6,.int .i64 n.w,.int .i64 n.k,.int .i64 n.a,.int .i64 n.b,.int .i64 n.c] 53)).alloc (.cells tab 121)).alloc (.cells tab 121):=⟨_,rfl⟩
 have HS:W3.cell? ⟨w.heap.size,0,none⟩=some (.int .i64 6)/\W3.cell? ⟨w.heap.size,1,none⟩=some (.int .i64 n.w)/\W3.cell? ⟨w.heap.size,2,none⟩=some (.int .i64 n.k)/\W3.cell? ⟨w.heap.size,3,none⟩=some (.int .i64 n.a)/\W3.cell? ⟨w.heap.size,4,none⟩=some (.int .i64 n.b)/\W3.cell? ⟨w.heap.size,5,none⟩=some (.int .i64 n.c)/\W3.cell? ⟨w.heap.size+1+1,6,none⟩=some (.func (.func 121) #[] #[]):=by
  rw [hW3]
  exact facts7 w _ _ _ _ _ _ _ _ _ ht
 have HB3:Hid (Below w.heap.size w W3):=by
  rw [hW3]
  exact (((Below.refl _ _).alloc (Nat.le_refl _) _).alloc (by simp) _).alloc (by simp;omega) _
 rw [<- hW3]
 clear hW3
 have HC2:Hid (Clo 121 ⟨6,n.w,n.k,n.a,n.b,n.c⟩ W a b c v):=by
  have:=HC.out
  rw [show n=⟨n.op,n.w,n.k,n.a,n.b,n.c⟩ from rfl,hop] at this
  exact this
 go_region_held (fun w'=>w'.cell? ⟨w.heap.size,0,none⟩=some (.int .i64 6)/\w'.cell? ⟨w.heap.size,1,none⟩=some (.int .i64 n.w)/\w'.cell? ⟨w.heap.size,2,none⟩=some (.int .i64 n.k)/\w'.cell? ⟨w.heap.size,3,none⟩=some (.int .i64 n.a)/\w'.cell? ⟨w.heap.size,4,none⟩=some (.int .i64 n.b)/\w'.cell? ⟨w.heap.size,5,none⟩=some (.int .i64 n.c)/\w'.cell? ⟨w.heap.size+1+1,6,none⟩=some (.func (.func 121) #[] #[])) ((first|exact HS|exact kept7 (W:=W3.drew) HS hb4)) ((go_at_call 121;refine (HC2.out _).mono ?_;rintro e w4 ⟨rfl,hb4⟩;have HB4:Hid (Below w.heap.size w w4):=HB3.out.drew.trans (hb4.mono HB3.out.size)))
 go_wp2
 go_ret
 exact ⟨rfl,HB4.out⟩
end Pw1
namespace Pw2
open Go.RowKit
open Nd0 Pl1 Pl2 Vl1 Vl2 Bt0 Wd1 Wd2 Wd3 Wd4 Wd5 Ic4 Pv1 Pv3
open Sv1 (Rg below1)
theorem i7 {n:Nd} {W a b c v:Int} (w:World) (h:Rg n W a b c) (hop:n.op=7) (hC:Clo 123 n W a b c v):iApp n W a b c v w:=by
 obtain ⟨h1,h2,h3,h4,h5⟩:=h
 have HC:Hid (Clo 123 n W a b c v):=hC
 clear hC
 have ht:tab[7]'(by decide)=.func (.func 123) #[] #[]:=rfl
 have hts:tab.size=19:=rfl
 have hef:=eql_func
 unfold iApp
 go_enter Tryz.func94,Tryz.ntmps94
 go_wp2_with (first|(go_at_call 84;refine (iWidthOk _ _).mono ?_;rintro e w' ⟨rfl,rfl⟩)|(go_at_call 110;refine (byteOk _ _).mono ?_;rintro e w' ⟨rfl,rfl⟩)|(go_at_call 111;refine (operators _).mono ?_;rintro e w' ⟨rfl,rfl⟩)|refine store_new _ rfl 121 (.tmp 11) (.tmp 36) rfl _ tab _ rfl (by simp) rfl sizeTab rfl oneTab ?_)
 obtain ⟨W3,hW3⟩:∃ W3:World,W3=((w.alloc (.cells #[.int .i64 7,.int .i64 n.w,.int .i64 n.k,.int .i64 n.a,.int .i64 n.b,.int .i64 n.c] 53)).alloc (.cells tab 121)).alloc (.cells tab 121):=⟨_,rfl⟩
 have HS:W3.cell? ⟨w.heap.size,0,none⟩=some (.int .i64 7)/\W3.cell? ⟨w.heap.size,1,none⟩=some (.int .i64 n.w)/\W3.cell? ⟨w.heap.size,2,none⟩=some (.int .i64 n.k)/\W3.cell? ⟨w.heap.size,3,none⟩=some (.int .i64 n.a)/\W3.cell? ⟨w.heap.size,4,none⟩=some (.int .i64 n.b)/\W3.cell? ⟨w.heap.size,5,none⟩=some (.int .i64 n.c)/\W3.cell? ⟨w.heap.size+1+1,7,none⟩=some (.func (.func 123) #[] #[]):=by
  rw [hW3]
  exact facts7 w _ _ _ _ _ _ _ _ _ ht
 have HB3:Hid (Below w.heap.size w W3):=by
  rw [hW3]
  exact (((Below.refl _ _).alloc (Nat.le_refl _) _).alloc (by simp) _).alloc (by simp;omega) _
 rw [<- hW3]
 clear hW3
 have HC2:Hid (Clo 123 ⟨7,n.w,n.k,n.a,n.b,n.c⟩ W a b c v):=by
  have:=HC.out
  rw [show n=⟨n.op,n.w,n.k,n.a,n.b,n.c⟩ from rfl,hop] at this
  exact this
 go_region_held (fun w'=>w'.cell? ⟨w.heap.size,0,none⟩=some (.int .i64 7)/\w'.cell? ⟨w.heap.size,1,none⟩=some (.int .i64 n.w)/\w'.cell? ⟨w.heap.size,2,none⟩=some (.int .i64 n.k)/\w'.cell? ⟨w.heap.size,3,none⟩=some (.int .i64 n.a)/\w'.cell? ⟨w.heap.size,4,none⟩=some (.int .i64 n.b)/\w'.cell? ⟨w.heap.size,5,none⟩=some (.int .i64 n.c)/\w'.cell? ⟨w.heap.size+1+1,7,none⟩=some (.func (.func 123) #[] #[])) ((first|exact HS|exact kept7 (W:=W3.drew) HS hb4)) ((go_at_call 123;refine (HC2.out _).mono ?_;rintro e w4 ⟨rfl,hb4⟩;have HB4:Hid (Below w.heap.size w w4):=HB3.out.drew.trans (hb4.mono HB3.out.size)))
 go_wp2
 go_ret
 exact ⟨rfl,HB4.out⟩
theorem i8 {n:Nd} {W a b c v:Int} (w:World) (h:Rg n W a b c) (hop:n.op=8) (hC:Clo 125 n W a b c v):iApp n W a b c v w:=by
 obtain ⟨h1,h2,h3,h4,h5⟩:=h
 have HC:Hid (Clo 125 n W a b c v):=hC
 clear hC
 have ht:tab[8]'(by decide)=.func (.func 125) #[] #[]:=rfl
 have hts:tab.size=19:=rfl
 have hef:=eql_func
 unfold iApp
 go_enter Tryz.func94,Tryz.ntmps94
 go_wp2_with (first|(go_at_call 84;refine (iWidthOk _ _).mono ?_;rintro e w' ⟨rfl,rfl⟩)|(go_at_call 110;refine (byteOk _ _).mono ?_;rintro e w' ⟨rfl,rfl⟩)|(go_at_call 111;refine (operators _).mono ?_;rintro e w' ⟨rfl,rfl⟩)|refine store_new _ rfl 121 (.tmp 11) (.tmp 36) rfl _ tab _ rfl (by simp) rfl sizeTab rfl oneTab ?_)
 obtain ⟨W3,hW3⟩:∃ W3:World,W3=((w.alloc (.cells #[.int .i64 8,.int .i64 n.w,.int .i64 n.k,.int .i64 n.a,.int .i64 n.b,.int .i64 n.c] 53)).alloc (.cells tab 121)).alloc (.cells tab 121):=⟨_,rfl⟩
 have HS:W3.cell? ⟨w.heap.size,0,none⟩=some (.int .i64 8)/\W3.cell? ⟨w.heap.size,1,none⟩=some (.int .i64 n.w)/\W3.cell? ⟨w.heap.size,2,none⟩=some (.int .i64 n.k)/\W3.cell? ⟨w.heap.size,3,none⟩=some (.int .i64 n.a)/\W3.cell? ⟨w.heap.size,4,none⟩=some (.int .i64 n.b)/\W3.cell? ⟨w.heap.size,5,none⟩=some (.int .i64 n.c)/\W3.cell? ⟨w.heap.size+1+1,8,none⟩=some (.func (.func 125) #[] #[]):=by
  rw [hW3]
  exact facts7 w _ _ _ _ _ _ _ _ _ ht
 have HB3:Hid (Below w.heap.size w W3):=by
  rw [hW3]
  exact (((Below.refl _ _).alloc (Nat.le_refl _) _).alloc (by simp) _).alloc (by simp;omega) _
 rw [<- hW3]
 clear hW3
 have HC2:Hid (Clo 125 ⟨8,n.w,n.k,n.a,n.b,n.c⟩ W a b c v):=by
  have:=HC.out
  rw [show n=⟨n.op,n.w,n.k,n.a,n.b,n.c⟩ from rfl,hop] at this
  exact this
 go_region_held (fun w'=>w'.cell? ⟨w.heap.size,0,none⟩=some (.int .i64 8)/\w'.cell? ⟨w.heap.size,1,none⟩=some (.int .i64 n.w)/\w'.cell? ⟨w.heap.size,2,none⟩=some (.int .i64 n.k)/\w'.cell? ⟨w.heap.size,3,none⟩=some (.int .i64 n.a)/\w'.cell? ⟨w.heap.size,4,none⟩=some (.int .i64 n.b)/\w'.cell? ⟨w.heap.size,5,none⟩=some (.int .i64 n.c)/\w'.cell? ⟨w.heap.size+1+1,8,none⟩=some (.func (.func 125) #[] #[])) ((first|exact HS|exact kept7 (W:=W3.drew) HS hb4)) ((go_at_call 125;refine (HC2.out _).mono ?_;rintro e w4 ⟨rfl,hb4⟩;have HB4:Hid (Below w.heap.size w w4):=HB3.out.drew.trans (hb4.mono HB3.out.size)))
 go_wp2
 go_ret
 exact ⟨rfl,HB4.out⟩
theorem i9 {n:Nd} {W a b c v:Int} (w:World) (h:Rg n W a b c) (hop:n.op=9) (hC:Clo 127 n W a b c v):iApp n W a b c v w:=by
 obtain ⟨h1,h2,h3,h4,h5⟩:=h
 have HC:Hid (Clo 127 n W a b c v):=hC
 clear hC
 have ht:tab[9]'(by decide)=.func (.func 127) #[] #[]:=rfl
 have hts:tab.size=19:=rfl
 have hef:=eql_func
 unfold iApp
 go_enter Tryz.func94,Tryz.ntmps94
 go_wp2_with (first|(go_at_call 84;refine (iWidthOk _ _).mono ?_;rintro e w' ⟨rfl,rfl⟩)|(go_at_call 110;refine (byteOk _ _).mono ?_;rintro e w' ⟨rfl,rfl⟩)|(go_at_call 111;refine (operators _).mono ?_;rintro e w' ⟨rfl,rfl⟩)|refine store_new _ rfl 121 (.tmp 11) (.tmp 36) rfl _ tab _ rfl (by simp) rfl sizeTab rfl oneTab ?_)
 obtain ⟨W3,hW3⟩:∃ W3:World,W3=((w.alloc (.cells #[.int .i64 9,.int .i64 n.w,.int .i64 n.k,.int .i64 n.a,.int .i64 n.b,.int .i64 n.c] 53)).alloc (.cells tab 121)).alloc (.cells tab 121):=⟨_,rfl⟩
 have HS:W3.cell? ⟨w.heap.size,0,none⟩=some (.int .i64 9)/\W3.cell? ⟨w.heap.size,1,none⟩=some (.int .i64 n.w)/\W3.cell? ⟨w.heap.size,2,none⟩=some (.int .i64 n.k)/\W3.cell? ⟨w.heap.size,3,none⟩=some (.int .i64 n.a)/\W3.cell? ⟨w.heap.size,4,none⟩=some (.int .i64 n.b)/\W3.cell? ⟨w.heap.size,5,none⟩=some (.int .i64 n.c)/\W3.cell? ⟨w.heap.size+1+1,9,none⟩=some (.func (.func 127) #[] #[]):=by
  rw [hW3]
  exact facts7 w _ _ _ _ _ _ _ _ _ ht
 have HB3:Hid (Below w.heap.size w W3):=by
  rw [hW3]
  exact (((Below.refl _ _).alloc (Nat.le_refl _) _).alloc (by simp) _).alloc (by simp;omega) _
 rw [<- hW3]
 clear hW3
 have HC2:Hid (Clo 127 ⟨9,n.w,n.k,n.a,n.b,n.c⟩ W a b c v):=by
  have:=HC.out
  rw [show n=⟨n.op,n.w,n.k,n.a,n.b,n.c⟩ from rfl,hop] at this
  exact this
 go_region_held (fun w'=>w'.cell? ⟨w.heap.size,0,none⟩=some (.int .i64 9)/\w'.cell? ⟨w.heap.size,1,none⟩=some (.int .i64 n.w)/\w'.cell? ⟨w.heap.size,2,none⟩=some (.int .i64 n.k)/\w'.cell? ⟨w.heap.size,3,none⟩=some (.int .i64 n.a)/\w'.cell? ⟨w.heap.size,4,none⟩=some (.int .i64 n.b)/\w'.cell? ⟨w.heap.size,5,none⟩=some (.int .i64 n.c)/\w'.cell? ⟨w.heap.size+1+1,9,none⟩=some (.func (.func 127) #[] #[])) ((first|exact HS|exact kept7 (W:=W3.drew) HS hb4)) ((go_at_call 127;refine (HC2.out _).mono ?_;rintro e w4 ⟨rfl,hb4⟩;have HB4:Hid (Below w.heap.size w w4):=HB3.out.drew.trans (hb4.mono HB3.out.size)))
 go_wp2
 go_ret
 exact ⟨rfl,HB4.out⟩
theorem i10 {n:Nd} {W a b c v:Int} (w:World) (h:Rg n W a b c) (hop:n.op=10) (hC:Clo 129 n W a b c v):iApp n W a b c v w:=by
 obtain ⟨h1,h2,h3,h4,h5⟩:=h
 have HC:Hid (Clo 129 n W a b c v):=hC
 clear hC
 have ht:tab[10]'(by decide)=.func (.func 129) #[] #[]:=rfl
 have hts:tab.size=19:=rfl
 have hef:=eql_func
 unfold iApp
 go_enter Tryz.func94,Tryz.ntmps94
 go_wp2_with (first|(go_at_call 84;refine (iWidthOk _ _).mono ?_;rintro e w' ⟨rfl,rfl⟩)|(go_at_call 110;refine (byteOk _ _).mono ?_;rintro e w' ⟨rfl,rfl⟩)|(go_at_call 111;refine (operators _).mono ?_;rintro e w' ⟨rfl,rfl⟩)|refine store_new _ rfl 121 (.tmp 11) (.tmp 36) rfl _ tab _ rfl (by simp) rfl sizeTab rfl oneTab ?_)
 obtain ⟨W3,hW3⟩:∃ W3:World,W3=((w.alloc (.cells #[.int .i64 10,.int .i64 n.w,.int .i64 n.k,.int .i64 n.a,.int .i64 n.b,.int .i64 n.c] 53)).alloc (.cells tab 121)).alloc (.cells tab 121):=⟨_,rfl⟩
 have HS:W3.cell? ⟨w.heap.size,0,none⟩=some (.int .i64 10)/\W3.cell? ⟨w.heap.size,1,none⟩=some (.int .i64 n.w)/\W3.cell? ⟨w.heap.size,2,none⟩=some (.int .i64 n.k)/\W3.cell? ⟨w.heap.size,3,none⟩=some (.int .i64 n.a)/\W3.cell? ⟨w.heap.size,4,none⟩=some (.int .i64 n.b)/\W3.cell? ⟨w.heap.size,5,none⟩=some (.int .i64 n.c)/\W3.cell? ⟨w.heap.size+1+1,10,none⟩=some (.func (.func 129) #[] #[]):=by
  rw [hW3]
  exact facts7 w _ _ _ _ _ _ _ _ _ ht
 have HB3:Hid (Below w.heap.size w W3):=by
  rw [hW3]
  exact (((Below.refl _ _).alloc (Nat.le_refl _) _).alloc (by simp) _).alloc (by simp;omega) _
 rw [<- hW3]
 clear hW3
 have HC2:Hid (Clo 129 ⟨10,n.w,n.k,n.a,n.b,n.c⟩ W a b c v):=by
  have:=HC.out
  rw [show n=⟨n.op,n.w,n.k,n.a,n.b,n.c⟩ from rfl,hop] at this
  exact this
 go_region_held (fun w'=>w'.cell? ⟨w.heap.size,0,none⟩=some (.int .i64 10)/\w'.cell? ⟨w.heap.size,1,none⟩=some (.int .i64 n.w)/\w'.cell? ⟨w.heap.size,2,none⟩=some (.int .i64 n.k)/\w'.cell? ⟨w.heap.size,3,none⟩=some (.int .i64 n.a)/\w'.cell? ⟨w.heap.size,4,none⟩=some (.int .i64 n.b)/\w'.cell? ⟨w.heap.size,5,none⟩=some (.int .i64 n.c)/\w'.cell? ⟨w.heap.size+1+1,10,none⟩=some (.func (.func 129) #[] #[])) ((first|exact HS|exact kept7 (W:=W3.drew) HS hb4)) ((go_at_call 129;refine (HC2.out _).mono ?_;rintro e w4 ⟨rfl,hb4⟩;have HB4:Hid (Below w.heap.size w w4):=HB3.out.drew.trans (hb4.mono HB3.out.size)))
 go_wp2
 go_ret
 exact ⟨rfl,HB4.out⟩
theorem i11 {n:Nd} {W a b c v:Int} (w:World) (h:Rg n W a b c) (hop:n.op=11) (hC:Clo 131 n W a b c v):iApp n W a b c v w:=by
 obtain ⟨h1,h2,h3,h4,h5⟩:=h
 have HC:Hid (Clo 131 n W a b c v):=hC
 clear hC
 have ht:tab[11]'(by decide)=.func (.func 131) #[] #[]:=rfl
 have hts:tab.size=19:=rfl
 have hef:=eql_func
 unfold iApp
 go_enter Tryz.func94,Tryz.ntmps94
 go_wp2_with (first|(go_at_call 84;refine (iWidthOk _ _).mono ?_;rintro e w' ⟨rfl,rfl⟩)|(go_at_call 110;refine (byteOk _ _).mono ?_;rintro e w' ⟨rfl,rfl⟩)|(go_at_call 111;refine (operators _).mono ?_;rintro e w' ⟨rfl,rfl⟩)|refine store_new _ rfl 121 (.tmp 11) (.tmp 36) rfl _ tab _ rfl (by simp) rfl sizeTab rfl oneTab ?_)
 obtain ⟨W3,hW3⟩:∃ W3:World,W3=((w.alloc (.cells #[.int .i64 11,.int .i64 n.w,.int .i64 n.k,.int .i64 n.a,.int .i64 n.b,.int .i64 n.c] 53)).alloc (.cells tab 121)).alloc (.cells tab 121):=⟨_,rfl⟩
 have HS:W3.cell? ⟨w.heap.size,0,none⟩=some (.int .i64 11)/\W3.cell? ⟨w.heap.size,1,none⟩=some (.int .i64 n.w)/\W3.cell? ⟨w.heap.size,2,none⟩=some (.int .i64 n.k)/\W3.cell? ⟨w.heap.size,3,none⟩=some (.int .i64 n.a)/\W3.cell? ⟨w.heap.size,4,none⟩=some (.int .i64 n.b)/\W3.cell? ⟨w.heap.size,5,none⟩=some (.int .i64 n.c)/\W3.cell? ⟨w.heap.size+1+1,11,none⟩=some (.func (.func 131) #[] #[]):=by
  rw [hW3]
  exact facts7 w _ _ _ _ _ _ _ _ _ ht
 have HB3:Hid (Below w.heap.size w W3):=by
  rw [hW3]
  exact (((Below.refl _ _).alloc (Nat.le_refl _) _).alloc (by simp) _).alloc (by simp;omega) _
 rw [<- hW3]
 clear hW3
 have HC2:Hid (Clo 131 ⟨11,n.w,n.k,n.a,n.b,n.c⟩ W a b c v):=by
  have:=HC.out
  rw [show n=⟨n.op,n.w,n.k,n.a,n.b,n.c⟩ from rfl,hop] at this
  exact this
 go_region_held (fun w'=>w'.cell? ⟨w.heap.size,0,none⟩=some (.int .i64 11)/\w'.cell? ⟨w.heap.size,1,none⟩=some (.int .i64 n.w)/\w'.cell? ⟨w.heap.size,2,none⟩=some (.int .i64 n.k)/\w'.cell? ⟨w.heap.size,3,none⟩=some (.int .i64 n.a)/\w'.cell? ⟨w.heap.size,4,none⟩=some (.int .i64 n.b)/\w'.cell? ⟨w.heap.size,5,none⟩=some (.int .i64 n.c)/\w'.cell? ⟨w.heap.size+1+1,11,none⟩=some (.func (.func 131) #[] #[])) ((first|exact HS|exact kept7 (W:=W3.drew) HS hb4)) ((go_at_call 131;refine (HC2.out _).mono ?_;rintro e w4 ⟨rfl,hb4⟩;have HB4:Hid (Below w.heap.size w w4):=HB3.out.drew.trans (hb4.mono HB3.out.size)))
 go_wp2
 go_ret
 exact ⟨rfl,HB4.out⟩
theorem i12 {n:Nd} {W a b c v:Int} (w:World) (h:Rg n W a b c) (hop:n.op=12) (hC:Clo 133 n W a b c v):iApp n W a b c v w:=by
 obtain ⟨h1,h2,h3,h4,h5⟩:=h
 have HC:Hid (Clo 133 n W a b c v):=hC
 clear hC
 have ht:tab[12]'(by decide)=.func (.func 133) #[] #[]:=rfl
 have hts:tab.size=19:=rfl
 have hef:=eql_func
 unfold iApp
 go_enter Tryz.func94,Tryz.ntmps94
 go_wp2_with (first|(go_at_call 84;refine (iWidthOk _ _).mono ?_;rintro e w' ⟨rfl,rfl⟩)|(go_at_call 110;refine (byteOk _ _).mono ?_;rintro e w' ⟨rfl,rfl⟩)|(go_at_call 111;refine (operators _).mono ?_;rintro e w' ⟨rfl,rfl⟩)|refine store_new _ rfl 121 (.tmp 11) (.tmp 36) rfl _ tab _ rfl (by simp) rfl sizeTab rfl oneTab ?_)
 obtain ⟨W3,hW3⟩:∃ W3:World,W3=((w.alloc (.cells #[.int .i64 12,.int .i64 n.w,.int .i64 n.k,.int .i64 n.a,.int .i64 n.b,.int .i64 n.c] 53)).alloc (.cells tab 121)).alloc (.cells tab 121):=⟨_,rfl⟩
 have HS:W3.cell? ⟨w.heap.size,0,none⟩=some (.int .i64 12)/\W3.cell? ⟨w.heap.size,1,none⟩=some (.int .i64 n.w)/\W3.cell? ⟨w.heap.size,2,none⟩=some (.int .i64 n.k)/\W3.cell? ⟨w.heap.size,3,none⟩=some (.int .i64 n.a)/\W3.cell? ⟨w.heap.size,4,none⟩=some (.int .i64 n.b)/\W3.cell? ⟨w.heap.size,5,none⟩=some (.int .i64 n.c)/\W3.cell? ⟨w.heap.size+1+1,12,none⟩=some (.func (.func 133) #[] #[]):=by
  rw [hW3]
  exact facts7 w _ _ _ _ _ _ _ _ _ ht
 have HB3:Hid (Below w.heap.size w W3):=by
  rw [hW3]
  exact (((Below.refl _ _).alloc (Nat.le_refl _) _).alloc (by simp) _).alloc (by simp;omega) _
 rw [<- hW3]
 clear hW3
 have HC2:Hid (Clo 133 ⟨12,n.w,n.k,n.a,n.b,n.c⟩ W a b c v):=by
  have:=HC.out
  rw [show n=⟨n.op,n.w,n.k,n.a,n.b,n.c⟩ from rfl,hop] at this
  exact this
 go_region_held (fun w'=>w'.cell? ⟨w.heap.size,0,none⟩=some (.int .i64 12)/\w'.cell? ⟨w.heap.size,1,none⟩=some (.int .i64 n.w)/\w'.cell? ⟨w.heap.size,2,none⟩=some (.int .i64 n.k)/\w'.cell? ⟨w.heap.size,3,none⟩=some (.int .i64 n.a)/\w'.cell? ⟨w.heap.size,4,none⟩=some (.int .i64 n.b)/\w'.cell? ⟨w.heap.size,5,none⟩=some (.int .i64 n.c)/\w'.cell? ⟨w.heap.size+1+1,12,none⟩=some (.func (.func 133) #[] #[])) ((first|exact HS|exact kept7 (W:=W3.drew) HS hb4)) ((go_at_call 133;refine (HC2.out _).mono ?_;rintro e w4 ⟨rfl,hb4⟩;have HB4:Hid (Below w.heap.size w w4):=HB3.out.drew.trans (hb4.mono HB3.out.size)))
 go_wp2
 go_ret
 exact ⟨rfl,HB4.out⟩
end Pw2
end Go.Proofs.YtbellafdjfliiaaGreat
