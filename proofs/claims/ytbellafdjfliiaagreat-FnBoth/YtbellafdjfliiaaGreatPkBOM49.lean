import Derived.Test.YtbellafdjfliiaaGreatPkBOM47
import Derived.Test.YtbellafdjfliiaaGreatPkBOM48
namespace Go.Proofs.YtbellafdjfliiaaGreat
set_option maxRecDepth 100000
set_option maxHeartbeats 8000000
set_option linter.unusedVariables false
namespace Pw3
open Go.RowKit
open Nd0 Pl1 Pl2 Vl1 Vl2 Bt0 Wd1 Wd2 Wd3 Wd4 Wd5 Ic4 Pv1 Pv3
open Sv1 (Rg below1)
theorem i13 {n:Nd} {W a b c v:Int} (w:World) (h:Rg n W a b c) (hop:n.op=13) (hC:Clo 135 n W a b c v):iApp n W a b c v w:=by
 obtain ⟨h1,h2,h3,h4,h5⟩:=h
 have HC:Hid (Clo 135 n W a b c v):=hC
 clear hC
 have ht:tab[13]'(by decide)=.func (.func 135) #[] #[]:=rfl
 have hts:tab.size=19:=rfl
 have hef:=eql_func
 unfold iApp
 go_enter Tryz.func94,Tryz.ntmps94
 go_wp2_with (first|(go_at_call 84;refine (iWidthOk _ _).mono ?_;rintro e w' ⟨rfl,rfl⟩)|(go_at_call 110;refine (byteOk _ _).mono ?_;rintro e w' ⟨rfl,rfl⟩)|(go_at_call 111;refine (operators _).mono ?_;rintro e w' ⟨rfl,rfl⟩)|refine store_new _ rfl 121 (.tmp 11) (.tmp 36) rfl _ tab _ rfl (by simp) rfl sizeTab rfl oneTab ?_)
 obtain ⟨W3,hW3⟩:∃ W3:World,W3=((w.alloc (.cells #[.int .i64 13,.int .i64 n.w,.int .i64 n.k,.int .i64 n.a,.int .i64 n.b,.int .i64 n.c] 53)).alloc (.cells tab 121)).alloc (.cells tab 121):=⟨_,rfl⟩
 have HS:W3.cell? ⟨w.heap.size,0,none⟩=some (.int .i64 13)/\W3.cell? ⟨w.heap.size,1,none⟩=some (.int .i64 n.w)/\W3.cell? ⟨w.heap.size,2,none⟩=some (.int .i64 n.k)/\W3.cell? ⟨w.heap.size,3,none⟩=some (.int .i64 n.a)/\W3.cell? ⟨w.heap.size,4,none⟩=some (.int .i64 n.b)/\W3.cell? ⟨w.heap.size,5,none⟩=some (.int .i64 n.c)/\W3.cell? ⟨w.heap.size+1+1,13,none⟩=some (.func (.func 135) #[] #[]):=by
  rw [hW3]
  exact facts7 w _ _ _ _ _ _ _ _ _ ht
 have HB3:Hid (Below w.heap.size w W3):=by
  rw [hW3]
  exact (((Below.refl _ _).alloc (Nat.le_refl _) _).alloc (by simp) _).alloc (by simp;omega) _
 rw [<- hW3]
 clear hW3
 have HC2:Hid (Clo 135 ⟨13,n.w,n.k,n.a,n.b,n.c⟩ W a b c v):=by
  have:=HC.out
  rw [show n=⟨n.op,n.w,n.k,n.a,n.b,n.c⟩ from rfl,hop] at this
  exact this
 go_region_held (fun w'=>w'.cell? ⟨w.heap.size,0,none⟩=some (.int .i64 13)/\w'.cell? ⟨w.heap.size,1,none⟩=some (.int .i64 n.w)/\w'.cell? ⟨w.heap.size,2,none⟩=some (.int .i64 n.k)/\w'.cell? ⟨w.heap.size,3,none⟩=some (.int .i64 n.a)/\w'.cell? ⟨w.heap.size,4,none⟩=some (.int .i64 n.b)/\w'.cell? ⟨w.heap.size,5,none⟩=some (.int .i64 n.c)/\w'.cell? ⟨w.heap.size+1+1,13,none⟩=some (.func (.func 135) #[] #[])) ((first|exact HS|exact kept7 (W:=W3.drew) HS hb4)) ((go_at_call 135;refine (HC2.out _).mono ?_;rintro e w4 ⟨rfl,hb4⟩;have HB4:Hid (Below w.heap.size w w4):=HB3.out.drew.trans (hb4.mono HB3.out.size)))
 go_wp2
 go_ret
 exact ⟨rfl,HB4.out⟩
theorem i14 {n:Nd} {W a b c v:Int} (w:World) (h:Rg n W a b c) (hop:n.op=14) (hC:Clo 136 n W a b c v):iApp n W a b c v w:=by
 obtain ⟨h1,h2,h3,h4,h5⟩:=h
 have HC:Hid (Clo 136 n W a b c v):=hC
 clear hC
 have ht:tab[14]'(by decide)=.func (.func 136) #[] #[]:=rfl
 have hts:tab.size=19:=rfl
 have hef:=eql_func
 unfold iApp
 go_enter Tryz.func94,Tryz.ntmps94
 go_wp2_with (first|(go_at_call 84;refine (iWidthOk _ _).mono ?_;rintro e w' ⟨rfl,rfl⟩)|(go_at_call 110;refine (byteOk _ _).mono ?_;rintro e w' ⟨rfl,rfl⟩)|(go_at_call 111;refine (operators _).mono ?_;rintro e w' ⟨rfl,rfl⟩)|refine store_new _ rfl 121 (.tmp 11) (.tmp 36) rfl _ tab _ rfl (by simp) rfl sizeTab rfl oneTab ?_)
 obtain ⟨W3,hW3⟩:∃ W3:World,W3=((w.alloc (.cells #[.int .i64 14,.int .i64 n.w,.int .i64 n.k,.int .i64 n.a,.int .i64 n.b,.int .i64 n.c] 53)).alloc (.cells tab 121)).alloc (.cells tab 121):=⟨_,rfl⟩
 have HS:W3.cell? ⟨w.heap.size,0,none⟩=some (.int .i64 14)/\W3.cell? ⟨w.heap.size,1,none⟩=some (.int .i64 n.w)/\W3.cell? ⟨w.heap.size,2,none⟩=some (.int .i64 n.k)/\W3.cell? ⟨w.heap.size,3,none⟩=some (.int .i64 n.a)/\W3.cell? ⟨w.heap.size,4,none⟩=some (.int .i64 n.b)/\W3.cell? ⟨w.heap.size,5,none⟩=some (.int .i64 n.c)/\W3.cell? ⟨w.heap.size+1+1,14,none⟩=some (.func (.func 136) #[] #[]):=by
  rw [hW3]
  exact facts7 w _ _ _ _ _ _ _ _ _ ht
 have HB3:Hid (Below w.heap.size w W3):=by
  rw [hW3]
  exact (((Below.refl _ _).alloc (Nat.le_refl _) _).alloc (by simp) _).alloc (by simp;omega) _
 rw [<- hW3]
 clear hW3
 have HC2:Hid (Clo 136 ⟨14,n.w,n.k,n.a,n.b,n.c⟩ W a b c v):=by
  have:=HC.out
  rw [show n=⟨n.op,n.w,n.k,n.a,n.b,n.c⟩ from rfl,hop] at this
  exact this
 go_region_held (fun w'=>w'.cell? ⟨w.heap.size,0,none⟩=some (.int .i64 14)/\w'.cell? ⟨w.heap.size,1,none⟩=some (.int .i64 n.w)/\w'.cell? ⟨w.heap.size,2,none⟩=some (.int .i64 n.k)/\w'.cell? ⟨w.heap.size,3,none⟩=some (.int .i64 n.a)/\w'.cell? ⟨w.heap.size,4,none⟩=some (.int .i64 n.b)/\w'.cell? ⟨w.heap.size,5,none⟩=some (.int .i64 n.c)/\w'.cell? ⟨w.heap.size+1+1,14,none⟩=some (.func (.func 136) #[] #[])) ((first|exact HS|exact kept7 (W:=W3.drew) HS hb4)) ((go_at_call 136;refine (HC2.out _).mono ?_;rintro e w4 ⟨rfl,hb4⟩;have HB4:Hid (Below w.heap.size w w4):=HB3.out.drew.trans (hb4.mono HB3.out.size)))
 go_wp2
 go_ret
 exact ⟨rfl,HB4.out⟩
theorem i15 {n:Nd} {W a b c v:Int} (w:World) (h:Rg n W a b c) (hop:n.op=15) (hC:Clo 138 n W a b c v):iApp n W a b c v w:=by
 obtain ⟨h1,h2,h3,h4,h5⟩:=h
 have HC:Hid (Clo 138 n W a b c v):=hC
 clear hC
 have ht:tab[15]'(by decide)=.func (.func 138) #[] #[]:=rfl
 have hts:tab.size=19:=rfl
 have hef:=eql_func
 unfold iApp
 go_enter Tryz.func94,Tryz.ntmps94
 go_wp2_with (first|(go_at_call 84;refine (iWidthOk _ _).mono ?_;rintro e w' ⟨rfl,rfl⟩)|(go_at_call 110;refine (byteOk _ _).mono ?_;rintro e w' ⟨rfl,rfl⟩)|(go_at_call 111;refine (operators _).mono ?_;rintro e w' ⟨rfl,rfl⟩)|refine store_new _ rfl 121 (.tmp 11) (.tmp 36) rfl _ tab _ rfl (by simp) rfl sizeTab rfl oneTab ?_)
 obtain ⟨W3,hW3⟩:∃ W3:World,W3=((w.alloc (.cells #[.int .i64 15,.int .i64 n.w,.int .i64 n.k,.int .i64 n.a,.int .i64 n.b,.int .i64 n.c] 53)).alloc (.cells tab 121)).alloc (.cells tab 121):=⟨_,rfl⟩
 have HS:W3.cell? ⟨w.heap.size,0,none⟩=some (.int .i64 15)/\W3.cell? ⟨w.heap.size,1,none⟩=some (.int .i64 n.w)/\W3.cell? ⟨w.heap.size,2,none⟩=some (.int .i64 n.k)/\W3.cell? ⟨w.heap.size,3,none⟩=some (.int .i64 n.a)/\W3.cell? ⟨w.heap.size,4,none⟩=some (.int .i64 n.b)/\W3.cell? ⟨w.heap.size,5,none⟩=some (.int .i64 n.c)/\W3.cell? ⟨w.heap.size+1+1,15,none⟩=some (.func (.func 138) #[] #[]):=by
  rw [hW3]
  exact facts7 w _ _ _ _ _ _ _ _ _ ht
 have HB3:Hid (Below w.heap.size w W3):=by
  rw [hW3]
  exact (((Below.refl _ _).alloc (Nat.le_refl _) _).alloc (by simp) _).alloc (by simp;omega) _
 rw [<- hW3]
 clear hW3
 have HC2:Hid (Clo 138 ⟨15,n.w,n.k,n.a,n.b,n.c⟩ W a b c v):=by
  have:=HC.out
  rw [show n=⟨n.op,n.w,n.k,n.a,n.b,n.c⟩ from rfl,hop] at this
  exact this
 go_region_held (fun w'=>w'.cell? ⟨w.heap.size,0,none⟩=some (.int .i64 15)/\w'.cell? ⟨w.heap.size,1,none⟩=some (.int .i64 n.w)/\w'.cell? ⟨w.heap.size,2,none⟩=some (.int .i64 n.k)/\w'.cell? ⟨w.heap.size,3,none⟩=some (.int .i64 n.a)/\w'.cell? ⟨w.heap.size,4,none⟩=some (.int .i64 n.b)/\w'.cell? ⟨w.heap.size,5,none⟩=some (.int .i64 n.c)/\w'.cell? ⟨w.heap.size+1+1,15,none⟩=some (.func (.func 138) #[] #[])) ((first|exact HS|exact kept7 (W:=W3.drew) HS hb4)) ((go_at_call 138;refine (HC2.out _).mono ?_;rintro e w4 ⟨rfl,hb4⟩;have HB4:Hid (Below w.heap.size w w4):=HB3.out.drew.trans (hb4.mono HB3.out.size)))
 go_wp2
 go_ret
 exact ⟨rfl,HB4.out⟩
theorem i16 {n:Nd} {W a b c v:Int} (w:World) (h:Rg n W a b c) (hop:n.op=16) (hC:Clo 140 n W a b c v):iApp n W a b c v w:=by
 obtain ⟨h1,h2,h3,h4,h5⟩:=h
 have HC:Hid (Clo 140 n W a b c v):=hC
 clear hC
 have ht:tab[16]'(by decide)=.func (.func 140) #[] #[]:=rfl
 have hts:tab.size=19:=rfl
 have hef:=eql_func
 unfold iApp
 go_enter Tryz.func94,Tryz.ntmps94
 go_wp2_with (first|(go_at_call 84;refine (iWidthOk _ _).mono ?_;rintro e w' ⟨rfl,rfl⟩)|(go_at_call 110;refine (byteOk _ _).mono ?_;rintro e w' ⟨rfl,rfl⟩)|(go_at_call 111;refine (operators _).mono ?_;rintro e w' ⟨rfl,rfl⟩)|refine store_new _ rfl 121 (.tmp 11) (.tmp 36) rfl _ tab _ rfl (by simp) rfl sizeTab rfl oneTab ?_)
 obtain ⟨W3,hW3⟩:∃ W3:World,W3=((w.alloc (.cells #[.int .i64 16,.int .i64 n.w,.int .i64 n.k,.int .i64 n.a,.int .i64 n.b,.int .i64 n.c] 53)).alloc (.cells tab 121)).alloc (.cells tab 121):=⟨_,rfl⟩
 have HS:W3.cell? ⟨w.heap.size,0,none⟩=some (.int .i64 16)/\W3.cell? ⟨w.heap.size,1,none⟩=some (.int .i64 n.w)/\W3.cell? ⟨w.heap.size,2,none⟩=some (.int .i64 n.k)/\W3.cell? ⟨w.heap.size,3,none⟩=some (.int .i64 n.a)/\W3.cell? ⟨w.heap.size,4,none⟩=some (.int .i64 n.b)/\W3.cell? ⟨w.heap.size,5,none⟩=some (.int .i64 n.c)/\W3.cell? ⟨w.heap.size+1+1,16,none⟩=some (.func (.func 140) #[] #[]):=by
  rw [hW3]
  exact facts7 w _ _ _ _ _ _ _ _ _ ht
 have HB3:Hid (Below w.heap.size w W3):=by
  rw [hW3]
  exact (((Below.refl _ _).alloc (Nat.le_refl _) _).alloc (by simp) _).alloc (by simp;omega) _
 rw [<- hW3]
 clear hW3
 have HC2:Hid (Clo 140 ⟨16,n.w,n.k,n.a,n.b,n.c⟩ W a b c v):=by
  have:=HC.out
  rw [show n=⟨n.op,n.w,n.k,n.a,n.b,n.c⟩ from rfl,hop] at this
  exact this
 go_region_held (fun w'=>w'.cell? ⟨w.heap.size,0,none⟩=some (.int .i64 16)/\w'.cell? ⟨w.heap.size,1,none⟩=some (.int .i64 n.w)/\w'.cell? ⟨w.heap.size,2,none⟩=some (.int .i64 n.k)/\w'.cell? ⟨w.heap.size,3,none⟩=some (.int .i64 n.a)/\w'.cell? ⟨w.heap.size,4,none⟩=some (.int .i64 n.b)/\w'.cell? ⟨w.heap.size,5,none⟩=some (.int .i64 n.c)/\w'.cell? ⟨w.heap.size+1+1,16,none⟩=some (.func (.func 140) #[] #[])) ((first|exact HS|exact kept7 (W:=W3.drew) HS hb4)) ((go_at_call 140;refine (HC2.out _).mono ?_;rintro e w4 ⟨rfl,hb4⟩;have HB4:Hid (Below w.heap.size w w4):=HB3.out.drew.trans (hb4.mono HB3.out.size)))
 go_wp2
 go_ret
 exact ⟨rfl,HB4.out⟩
theorem i17 {n:Nd} {W a b c v:Int} (w:World) (h:Rg n W a b c) (hop:n.op=17) (hC:Clo 141 n W a b c v):iApp n W a b c v w:=by
 obtain ⟨h1,h2,h3,h4,h5⟩:=h
 have HC:Hid (Clo 141 n W a b c v):=hC
 clear hC
 have ht:tab[17]'(by decide)=.func (.func 141) #[] #[]:=rfl
 have hts:tab.size=19:=rfl
 have hef:=eql_func
 unfold iApp
 go_enter Tryz.func94,Tryz.ntmps94
 go_wp2_with (first|(go_at_call 84;refine (iWidthOk _ _).mono ?_;rintro e w' ⟨rfl,rfl⟩)|(go_at_call 110;refine (byteOk _ _).mono ?_;rintro e w' ⟨rfl,rfl⟩)|(go_at_call 111;refine (operators _).mono ?_;rintro e w' ⟨rfl,rfl⟩)|refine store_new _ rfl 121 (.tmp 11) (.tmp 36) rfl _ tab _ rfl (by simp) rfl sizeTab rfl oneTab ?_)
 obtain ⟨W3,hW3⟩:∃ W3:World,W3=((w.alloc (.cells #[.int .i64 17,.int .i64 n.w,.int .i64 n.k,.int .i64 n.a,.int .i64 n.b,.int .i64 n.c] 53)).alloc (.cells tab 121)).alloc (.cells tab 121):=⟨_,rfl⟩
 have HS:W3.cell? ⟨w.heap.size,0,none⟩=some (.int .i64 17)/\W3.cell? ⟨w.heap.size,1,none⟩=some (.int .i64 n.w)/\W3.cell? ⟨w.heap.size,2,none⟩=some (.int .i64 n.k)/\W3.cell? ⟨w.heap.size,3,none⟩=some (.int .i64 n.a)/\W3.cell? ⟨w.heap.size,4,none⟩=some (.int .i64 n.b)/\W3.cell? ⟨w.heap.size,5,none⟩=some (.int .i64 n.c)/\W3.cell? ⟨w.heap.size+1+1,17,none⟩=some (.func (.func 141) #[] #[]):=by
  rw [hW3]
  exact facts7 w _ _ _ _ _ _ _ _ _ ht
 have HB3:Hid (Below w.heap.size w W3):=by
  rw [hW3]
  exact (((Below.refl _ _).alloc (Nat.le_refl _) _).alloc (by simp) _).alloc (by simp;omega) _
 rw [<- hW3]
 clear hW3
 have HC2:Hid (Clo 141 ⟨17,n.w,n.k,n.a,n.b,n.c⟩ W a b c v):=by
  have:=HC.out
  rw [show n=⟨n.op,n.w,n.k,n.a,n.b,n.c⟩ from rfl,hop] at this
  exact this
 go_region_held (fun w'=>w'.cell? ⟨w.heap.size,0,none⟩=some (.int .i64 17)/\w'.cell? ⟨w.heap.size,1,none⟩=some (.int .i64 n.w)/\w'.cell? ⟨w.heap.size,2,none⟩=some (.int .i64 n.k)/\w'.cell? ⟨w.heap.size,3,none⟩=some (.int .i64 n.a)/\w'.cell? ⟨w.heap.size,4,none⟩=some (.int .i64 n.b)/\w'.cell? ⟨w.heap.size,5,none⟩=some (.int .i64 n.c)/\w'.cell? ⟨w.heap.size+1+1,17,none⟩=some (.func (.func 141) #[] #[])) ((first|exact HS|exact kept7 (W:=W3.drew) HS hb4)) ((go_at_call 141;refine (HC2.out _).mono ?_;rintro e w4 ⟨rfl,hb4⟩;have HB4:Hid (Below w.heap.size w w4):=HB3.out.drew.trans (hb4.mono HB3.out.size)))
 go_wp2
 go_ret
 exact ⟨rfl,HB4.out⟩
theorem i18 {n:Nd} {W a b c v:Int} (w:World) (h:Rg n W a b c) (hop:n.op=18) (hC:Clo 143 n W a b c v):iApp n W a b c v w:=by
 obtain ⟨h1,h2,h3,h4,h5⟩:=h
 have HC:Hid (Clo 143 n W a b c v):=hC
 clear hC
 have ht:tab[18]'(by decide)=.func (.func 143) #[] #[]:=rfl
 have hts:tab.size=19:=rfl
 have hef:=eql_func
 unfold iApp
 go_enter Tryz.func94,Tryz.ntmps94
 go_wp2_with (first|(go_at_call 84;refine (iWidthOk _ _).mono ?_;rintro e w' ⟨rfl,rfl⟩)|(go_at_call 110;refine (byteOk _ _).mono ?_;rintro e w' ⟨rfl,rfl⟩)|(go_at_call 111;refine (operators _).mono ?_;rintro e w' ⟨rfl,rfl⟩)|refine store_new _ rfl 121 (.tmp 11) (.tmp 36) rfl _ tab _ rfl (by simp) rfl sizeTab rfl oneTab ?_)
 obtain ⟨W3,hW3⟩:∃ W3:World,W3=((w.alloc (.cells #[.int .i64 18,.int .i64 n.w,.int .i64 n.k,.int .i64 n.a,.int .i64 n.b,.int .i64 n.c] 53)).alloc (.cells tab 121)).alloc (.cells tab 121):=⟨_,rfl⟩
 have HS:W3.cell? ⟨w.heap.size,0,none⟩=some (.int .i64 18)/\W3.cell? ⟨w.heap.size,1,none⟩=some (.int .i64 n.w)/\W3.cell? ⟨w.heap.size,2,none⟩=some (.int .i64 n.k)/\W3.cell? ⟨w.heap.size,3,none⟩=some (.int .i64 n.a)/\W3.cell? ⟨w.heap.size,4,none⟩=some (.int .i64 n.b)/\W3.cell? ⟨w.heap.size,5,none⟩=some (.int .i64 n.c)/\W3.cell? ⟨w.heap.size+1+1,18,none⟩=some (.func (.func 143) #[] #[]):=by
  rw [hW3]
  exact facts7 w _ _ _ _ _ _ _ _ _ ht
 have HB3:Hid (Below w.heap.size w W3):=by
  rw [hW3]
  exact (((Below.refl _ _).alloc (Nat.le_refl _) _).alloc (by simp) _).alloc (by simp;omega) _
 rw [<- hW3]
 clear hW3
 have HC2:Hid (Clo 143 ⟨18,n.w,n.k,n.a,n.b,n.c⟩ W a b c v):=by
  have:=HC.out
  rw [show n=⟨n.op,n.w,n.k,n.a,n.b,n.c⟩ from rfl,hop] at this
  exact this
 go_region_held (fun w'=>w'.cell? ⟨w.heap.size,0,none⟩=some (.int .i64 18)/\w'.cell? ⟨w.heap.size,1,none⟩=some (.int .i64 n.w)/\w'.cell? ⟨w.heap.size,2,none⟩=some (.int .i64 n.k)/\w'.cell? ⟨w.heap.size,3,none⟩=some (.int .i64 n.a)/\w'.cell? ⟨w.heap.size,4,none⟩=some (.int .i64 n.b)/\w'.cell? ⟨w.heap.size,5,none⟩=some (.int .i64 n.c)/\w'.cell? ⟨w.heap.size+1+1,18,none⟩=some (.func (.func 143) #[] #[])) ((first|exact HS|exact kept7 (W:=W3.drew) HS hb4)) ((go_at_call 143;refine (HC2.out _).mono ?_;rintro e w4 ⟨rfl,hb4⟩;have HB4:Hid (Below w.heap.size w w4):=HB3.out.drew.trans (hb4.mono HB3.out.size)))
 go_wp2
 go_ret
 exact ⟨rfl,HB4.out⟩
end Pw3
namespace Pw4
open Go.RowKit
open Nd0 Pl1 Pl2 Vl1 Vl2 Bt0 Wd1 Wd2 Wd3 Wd4 Wd5 Ic4 Pv1 Pv3 Pw1 Pw2 Pw3
open Sv1 (Rg below1)
theorem out1 {n:Nd} {W a b c:Int} (w:World) (h1:decide (1<=n.w/\n.w<=8)=false):iApp n W a b c 0 w:=by
 unfold iApp
 go_enter Tryz.func94,Tryz.ntmps94
 go_wp2_with (first|(go_at_call 84;refine (iWidthOk _ _).mono ?_;rintro e w' ⟨rfl,rfl⟩)|(go_at_call 110;refine (byteOk _ _).mono ?_;rintro e w' ⟨rfl,rfl⟩))
 go_ret
 exact ⟨rfl,below1 _ _⟩
theorem out2 {n:Nd} {W a b c:Int} (w:World) (h1:decide (1<=n.w/\n.w<=8)=true) (h2:decide (1<=W/\W<=8)=false):iApp n W a b c 0 w:=by
 unfold iApp
 go_enter Tryz.func94,Tryz.ntmps94
 go_wp2_with (first|(go_at_call 84;refine (iWidthOk _ _).mono ?_;rintro e w' ⟨rfl,rfl⟩)|(go_at_call 110;refine (byteOk _ _).mono ?_;rintro e w' ⟨rfl,rfl⟩))
 go_ret
 exact ⟨rfl,below1 _ _⟩
theorem out3 {n:Nd} {W a b c:Int} (w:World) (h1:decide (1<=n.w/\n.w<=8)=true) (h2:decide (1<=W/\W<=8)=true) (h3:decide (0<=a/\a<=255)=false):iApp n W a b c 0 w:=by
 unfold iApp
 go_enter Tryz.func94,Tryz.ntmps94
 go_wp2_with (first|(go_at_call 84;refine (iWidthOk _ _).mono ?_;rintro e w' ⟨rfl,rfl⟩)|(go_at_call 110;refine (byteOk _ _).mono ?_;rintro e w' ⟨rfl,rfl⟩))
 go_ret
 exact ⟨rfl,below1 _ _⟩
theorem out4 {n:Nd} {W a b c:Int} (w:World) (h1:decide (1<=n.w/\n.w<=8)=true) (h2:decide (1<=W/\W<=8)=true) (h3:decide (0<=a/\a<=255)=true) (h4:decide (0<=b/\b<=255)=false):iApp n W a b c 0 w:=by
 unfold iApp
 go_enter Tryz.func94,Tryz.ntmps94
 go_wp2_with (first|(go_at_call 84;refine (iWidthOk _ _).mono ?_;rintro e w' ⟨rfl,rfl⟩)|(go_at_call 110;refine (byteOk _ _).mono ?_;rintro e w' ⟨rfl,rfl⟩))
 go_ret
 exact ⟨rfl,below1 _ _⟩
theorem out5 {n:Nd} {W a b c:Int} (w:World) (h1:decide (1<=n.w/\n.w<=8)=true) (h2:decide (1<=W/\W<=8)=true) (h3:decide (0<=a/\a<=255)=true) (h4:decide (0<=b/\b<=255)=true) (h5:decide (0<=c/\c<=255)=false):iApp n W a b c 0 w:=by
 unfold iApp
 go_enter Tryz.func94,Tryz.ntmps94
 go_wp2_with (first|(go_at_call 84;refine (iWidthOk _ _).mono ?_;rintro e w' ⟨rfl,rfl⟩)|(go_at_call 110;refine (byteOk _ _).mono ?_;rintro e w' ⟨rfl,rfl⟩))
 go_ret
 exact ⟨rfl,below1 _ _⟩
theorem lo {n:Nd} {W a b c:Int} (w:World) (h:Rg n W a b c) (g:n.op < 0):iApp n W a b c 0 w:=by
 obtain ⟨h1,h2,h3,h4,h5⟩:=h
 unfold iApp
 go_enter Tryz.func94,Tryz.ntmps94
 go_wp2_with (first|(go_at_call 84;refine (iWidthOk _ _).mono ?_;rintro e w' ⟨rfl,rfl⟩)|(go_at_call 110;refine (byteOk _ _).mono ?_;rintro e w' ⟨rfl,rfl⟩)|(go_at_call 111;refine (operators _).mono ?_;rintro e w' ⟨rfl,rfl⟩)|refine store_new _ rfl 121 (.tmp 11) (.tmp 36) rfl _ tab _ rfl (by simp) rfl sizeTab rfl oneTab ?_)
 go_ret
 exact ⟨rfl,(((Below.refl _ _).alloc (Nat.le_refl _) _).alloc (by simp) _).alloc (by simp;omega) _⟩
theorem hi {n:Nd} {W a b c:Int} (w:World) (h:Rg n W a b c) (g:19<=n.op):iApp n W a b c 0 w:=by
 obtain ⟨h1,h2,h3,h4,h5⟩:=h
 have g2:¬ n.op < 0:=by omega
 unfold iApp
 go_enter Tryz.func94,Tryz.ntmps94
 go_wp2_with (first|(go_at_call 84;refine (iWidthOk _ _).mono ?_;rintro e w' ⟨rfl,rfl⟩)|(go_at_call 110;refine (byteOk _ _).mono ?_;rintro e w' ⟨rfl,rfl⟩)|(go_at_call 111;refine (operators _).mono ?_;rintro e w' ⟨rfl,rfl⟩)|refine store_new _ rfl 121 (.tmp 11) (.tmp 36) rfl _ tab _ rfl (by simp) rfl sizeTab rfl oneTab ?_)
 go_ret
 exact ⟨rfl,(((Below.refl _ _).alloc (Nat.le_refl _) _).alloc (by simp) _).alloc (by simp;omega) _⟩
theorem nil {n:Nd} {W a b c:Int} (w:World) (h:Rg n W a b c) (g:n.op=1):iApp n W a b c 0 w:=by
 obtain ⟨h1,h2,h3,h4,h5⟩:=h
 have ht:tab[1]'(by decide)=.nilFunc:=rfl
 have hts:tab.size=19:=rfl
 have hef:=eql_nil
 unfold iApp
 go_enter Tryz.func94,Tryz.ntmps94
 go_wp2_with (first|(go_at_call 84;refine (iWidthOk _ _).mono ?_;rintro e w' ⟨rfl,rfl⟩)|(go_at_call 110;refine (byteOk _ _).mono ?_;rintro e w' ⟨rfl,rfl⟩)|(go_at_call 111;refine (operators _).mono ?_;rintro e w' ⟨rfl,rfl⟩)|refine store_new _ rfl 121 (.tmp 11) (.tmp 36) rfl _ tab _ rfl (by simp) rfl sizeTab rfl oneTab ?_)
 go_ret
 exact ⟨rfl,(((Below.refl _ _).alloc (Nat.le_refl _) _).alloc (by simp) _).alloc (by simp;omega) _⟩
theorem iApply:IApply:=by
 intro n W a b c w hk
 show iApp n W a b c (applyL n.op n.w n.k W a b c) w
 cases h1:decide (1<=n.w/\n.w<=8)
 ·have e:applyL n.op n.w n.k W a b c=0:=by
   unfold applyL inR
   rw [h1];simp
  rw [e];exact out1 w h1
 cases h2:decide (1<=W/\W<=8)
 ·have e:applyL n.op n.w n.k W a b c=0:=by
   unfold applyL inR
   rw [h2];simp
  rw [e];exact out2 w h1 h2
 cases h3:decide (0<=a/\a<=255)
 ·have e:applyL n.op n.w n.k W a b c=0:=by
   unfold applyL inR
   rw [h3];simp
  rw [e];exact out3 w h1 h2 h3
 cases h4:decide (0<=b/\b<=255)
 ·have e:applyL n.op n.w n.k W a b c=0:=by
   unfold applyL inR
   rw [h4];simp
  rw [e];exact out4 w h1 h2 h3 h4
 cases h5:decide (0<=c/\c<=255)
 ·have e:applyL n.op n.w n.k W a b c=0:=by
   unfold applyL inR
   rw [h5];simp
  rw [e];exact out5 w h1 h2 h3 h4 h5
 have h:Rg n W a b c:=⟨h1,h2,h3,h4,h5⟩
 rw [h.eq]
 have r1:=of_decide_eq_true h1
 have r2:=of_decide_eq_true h2
 have r3:=of_decide_eq_true h3
 have r4:=of_decide_eq_true h4
 have hw8:(Lit.int .i64 n.w).wf=true:=by simp [Lit.wf,IntKind.min,IntKind.max,IntKind.signed,IntKind.bits];omega
 by_cases g0:n.op=0
 ·have e:opL n.op n.w n.k W a b c=n.k:=by rw [g0];simp [opL]
  rw [e];exact i0 w h g0 (c0 n W a b c)
 by_cases g2:n.op=2
 ·have e:opL n.op n.w n.k W a b c=vFlip n.w a:=by rw [g2];simp [opL]
  rw [e];exact i2 w h g2 (c2 n W a b c)
 by_cases g3:n.op=3
 ·have e:opL n.op n.w n.k W a b c=nAnd a b:=by rw [g3];simp [opL]
  rw [e];exact i3 w h g3 (c3 n W a b c r3 r4)
 by_cases g4:n.op=4
 ·have e:opL n.op n.w n.k W a b c=nOr a b:=by rw [g4];simp [opL]
  rw [e];exact i4 w h g4 (c4 n W a b c r3 r4)
 by_cases g5:n.op=5
 ·have e:opL n.op n.w n.k W a b c=nXor a b:=by rw [g5];simp [opL]
  rw [e];exact i5 w h g5 (c5 n W a b c r3 r4)
 by_cases g6:n.op=6
 ·have e:opL n.op n.w n.k W a b c=vAdd n.w a b:=by rw [g6];simp [opL]
  rw [e];exact i6 w h g6 (c6 n W a b c)
 by_cases g7:n.op=7
 ·have e:opL n.op n.w n.k W a b c=vSub n.w a b:=by rw [g7];simp [opL]
  rw [e];exact i7 w h g7 (c7 n W a b c)
 by_cases g8:n.op=8
 ·have e:opL n.op n.w n.k W a b c=vMul n.w a b:=by rw [g8];simp [opL]
  rw [e];exact i8 w h g8 (c8 n W a b c)
 by_cases g9:n.op=9
 ·have e:opL n.op n.w n.k W a b c=vDiv n.w a b:=by rw [g9];simp [opL]
  rw [e];exact i9 w h g9 (c9 n W a b c)
 by_cases g10:n.op=10
 ·have e:opL n.op n.w n.k W a b c=vRem n.w a b:=by rw [g10];simp [opL]
  rw [e];exact i10 w h g10 (c10 n W a b c)
 by_cases g11:n.op=11
 ·have e:opL n.op n.w n.k W a b c=vShl n.w a b:=by rw [g11];simp [opL]
  rw [e];exact i11 w h g11 (c11 n W a b c)
 by_cases g12:n.op=12
 ·have e:opL n.op n.w n.k W a b c=vShr n.w a b:=by rw [g12];simp [opL]
  rw [e];exact i12 w h g12 (c12 n W a b c)
 by_cases g13:n.op=13
 ·have e:opL n.op n.w n.k W a b c=if a=b then 1 else 0:=by rw [g13];simp [opL]
  rw [e];exact i13 w h g13 (c13 n W a b c _ rfl)
 by_cases g14:n.op=14
 ·have e:opL n.op n.w n.k W a b c=vLess W a b:=by rw [g14];simp [opL]
  rw [e];exact i14 w h g14 (c14 n W a b c)
 by_cases g15:n.op=15
 ·have e:opL n.op n.w n.k W a b c=vLessSigned W a b:=by rw [g15];simp [opL]
  rw [e];exact i15 w h g15 (c15 n W a b c)
 by_cases g16:n.op=16
 ·have e:opL n.op n.w n.k W a b c=if n.w < W then b else a*p2 (n.w - W).toNat+b:=by rw [g16];simp [opL]
  rw [e];exact i16 w h g16 (c16 n W a b c r1 r2 r3 r4 _ rfl)
 by_cases g17:n.op=17
 ·have e:opL n.op n.w n.k W a b c=vSlice W a n.k n.w:=by rw [g17];simp [opL]
  rw [e];exact i17 w h g17 (c17 n W a b c hw8)
 by_cases g18:n.op=18
 ·have e:opL n.op n.w n.k W a b c=if a=1 then b else c:=by rw [g18];simp [opL]
  rw [e];exact i18 w h g18 (c18 n W a b c _ rfl)
 have e:opL n.op n.w n.k W a b c=0:=by
  unfold opL
  rw [if_neg g0,if_neg g2,if_neg g3,if_neg g4,if_neg g5,if_neg g6,if_neg g7,if_neg g8,if_neg g9,if_neg g10,if_neg g11,if_neg g12,if_neg g13,if_neg g14,if_neg g15,if_neg g16,if_neg g17,if_neg g18]
 rw [e]
 by_cases q1:n.op < 0
 ·exact lo w h q1
 by_cases q2:19<=n.op
 ·exact hi w h q2
 exact nil w h (by omega)
end Pw4
end Go.Proofs.YtbellafdjfliiaaGreat
