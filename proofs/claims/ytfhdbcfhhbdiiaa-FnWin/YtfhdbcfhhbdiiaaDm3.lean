import Derived.Test.YtfhdbcfhhbdiiaaDm2
import Derived.Test.YtfhdbcfhhbdiiaaDp5
namespace Go.Proofs.Ytfhdbcfhhbdiiaa
set_option maxRecDepth 100000
set_option maxHeartbeats 8000000
set_option linter.unusedVariables false
namespace Dm3
open Go.RowKit
open Ta0 Ta1 Ta2 Ta3 Tc2 Tc5 Td1 Td2 Td4 De0 Dv0 Dm1 Dm2
open Dp5 (chV)
open Nd0 (Kept set_other set_same lt_of_cell)
open Nd6 (Bools)
open Ss0 (bs bs_size)
open Ss1 (tl)
theorem md_all (row:List Bool) (h:row.length<=12):MD row:=by
 induction row with
 | nil=>exact md_nil
 | cons q r ih =>
   rw [List.length_cons] at h
   exact md_cons (by omega) (ih (by omega))
theorem sDec (n:Nat) (F:Nat->Bool) (a:Option Addr) (row:List Bool) (c:Nat) (W:World) (hn:n<=12) (hrn:row.length=n) (hB:Bools W a row) (hc:n<=c) :
 Calls Try.prog 34 #[.slice a n c,tv (n:Int) (bs (tab n F))] W fun e w'=>e=.returned (.int .i64 ((dc row F).toNat:Int))/\Below W.heap.size W w':=by
 subst hrn
 exact md_all row hn F W a c hB hc
theorem sDecide0 {N:Int} {S:ByteArray} (ra:Option Addr) (L c:Nat) (w:World) (hS:S.size<=1048576) (h:¬ (tokB N (tl S)=true/\(L:Int)=N)) :
 Calls Try.prog 8 #[.slice ra L c,tv N S] w fun e w'=>e=.returned (.tuple #[.int .i64 0,.bool false])/\Below w.heap.size w w':=by
 have HA:Hid (Below w.heap.size w (w.alloc (.cells #[.int .i64 N,.string S] 26))):=(Below.refl _ _).alloc (Nat.le_refl _) _
 have HRU:Hid (∀ W,Calls Try.prog 33 #[.slice ra L c,tv N S] W fun e w'=>e=.returned (.bool false)/\Below W.heap.size W w'):=fun W=>sOkR0 ra L c W hS h
 clear h
 go_enter Try.func8,Try.ntmps8
 go_wp2_with fail
 refine (HRU.out _).mono ?_
 rintro e w1 ⟨rfl,hb⟩
 have HA1:Hid (Below w.heap.size w w1):=HA.out.trans (hb.mono HA.out.size)
 clear hb
 go_wp2
 go_ret2
 exact ⟨rfl,HA1.out⟩
theorem sDecide (n:Nat) (F:Nat->Bool) (ra:Option Addr) (row:List Bool) (c:Nat) (w:World) (hn:n<=12) (hrn:row.length=n) (hB:Bools w ra row) (hc:n<=c) :
 Calls Try.prog 8 #[.slice ra n c,tv (n:Int) (bs (tab n F))] w fun e w'=>e=.returned (.tuple #[.int .i64 ((dc row F).toNat:Int),.bool true])/\Below w.heap.size w w':=by
 have HRU:Hid (∀ W,Calls Try.prog 33 #[.slice ra n c,tv (n:Int) (bs (tab n F))] W fun e w'=>e=.returned (.bool true)/\Below W.heap.size W w'):=fun W=>sOkR n F ra c W hn
 have HV:Hid (∀ W,Below w.heap.size w W->Calls Try.prog 34 #[.slice ra n c,tv (n:Int) (bs (tab n F))] W fun e w'=>e=.returned (.int .i64 ((dc row F).toNat:Int))/\Below W.heap.size W w'):=fun W h=>sDec n F ra row c W hn hrn (hB.below h) hc
 clear hB
 generalize bs (tab n F)=S at *
 generalize dc row F=r at *
 have HA:Hid (Below w.heap.size w (w.alloc (.cells #[.int .i64 (n:Int),.string S] 26))):=(Below.refl _ _).alloc (Nat.le_refl _) _
 have HX:Hid (Lay (w.alloc (.cells #[.int .i64 (n:Int),.string S] 26)) w.heap.size (.int .i64 (n:Int)) (.string S)):=Lay.made _ _ _ _
 go_enter Try.func8,Try.ntmps8
 go_wp2_with fail
 refine (HRU.out _).mono ?_
 rintro e w1 ⟨rfl,hb⟩
 have HA1:Hid (Below w.heap.size w w1):=HA.out.trans (hb.mono HA.out.size)
 obtain ⟨x0,x1,_,_⟩:=HX.out.below hb
 clear hb
 go_wp2_with fail
 refine (HV.out _ HA1.out).mono ?_
 rintro e w2 ⟨rfl,hb⟩
 have HA2:Hid (Below w.heap.size w w2):=HA1.out.trans (hb.mono HA1.out.size)
 clear hb x0 x1
 go_wp2
 go_ret2
 exact ⟨rfl,HA2.out⟩
theorem sChoose0 {N:Int} {S:ByteArray} (ra:Option Addr) (L c:Nat) (w:World) (hS:S.size<=1048576) (h:¬ (tokB N (tl S)=true/\(L:Int)=N)) :
 Calls Try.prog 75 #[.slice ra L c,tv N S] w fun e w'=>e=.returned (.tuple #[.int .i64 0,.bool false])/\Below w.heap.size w w':=by
 have HA:Hid (Below w.heap.size w (w.alloc (.cells #[.int .i64 N,.string S] 26))):=(Below.refl _ _).alloc (Nat.le_refl _) _
 have HRU:Hid (∀ W,Calls Try.prog 33 #[.slice ra L c,tv N S] W fun e w'=>e=.returned (.bool false)/\Below W.heap.size W w'):=fun W=>sOkR0 ra L c W hS h
 clear h
 go_enter Try.func75,Try.ntmps75
 go_wp2_with fail
 refine (HRU.out _).mono ?_
 rintro e w1 ⟨rfl,hb⟩
 have HA1:Hid (Below w.heap.size w w1):=HA.out.trans (hb.mono HA.out.size)
 clear hb
 go_wp2
 go_ret2
 exact ⟨rfl,HA1.out⟩
theorem sChooseN (F:Nat->Bool) (ra:Option Addr) (c:Nat) (w:World) :
 Calls Try.prog 75 #[.slice ra 0 c,tv 0 (bs (tab 0 F))] w fun e w'=>e=.returned (.tuple #[.int .i64 0,.bool false])/\Below w.heap.size w w':=by
 have HRU:Hid (∀ W,Calls Try.prog 33 #[.slice ra 0 c,tv 0 (bs (tab 0 F))] W fun e w'=>e=.returned (.bool true)/\Below W.heap.size W w'):=fun W=>sOkR 0 F ra c W (by omega)
 generalize bs (tab 0 F)=S at *
 have HA:Hid (Below w.heap.size w (w.alloc (.cells #[.int .i64 0,.string S] 26))):=(Below.refl _ _).alloc (Nat.le_refl _) _
 have HX:Hid (Lay (w.alloc (.cells #[.int .i64 0,.string S] 26)) w.heap.size (.int .i64 0) (.string S)):=Lay.made _ _ _ _
 go_enter Try.func75,Try.ntmps75
 go_wp2_with fail
 refine (HRU.out _).mono ?_
 rintro e w1 ⟨rfl,hb⟩
 have HA1:Hid (Below w.heap.size w w1):=HA.out.trans (hb.mono HA.out.size)
 obtain ⟨x0,x1,_,_⟩:=HX.out.below hb
 clear hb
 go_wp2
 go_ret2
 exact ⟨rfl,HA1.out⟩
theorem ch_yes {x y z:Bool} (h:x=z):fst x y (z.toNat:Int)=0:=by subst h;exact if_pos rfl
theorem ch_no {x y z:Bool} (h:x≠z) (h2:y=z):fst x y (z.toNat:Int)=1:=by subst h2;cases x<;>cases y<;>first|rfl|exact absurd rfl h
theorem sChoose1 (n:Nat) (F:Nat->Bool) (b o:Nat) (q:Bool) (r:List Bool) (c:Nat) (w:World) (hn:n<=11) (hrn:r.length=n) (hB:Bools w (some ⟨b,o,none⟩) (q :: r)) (hT:Bools w (some ⟨b,o,none⟩) r) (hc:n+1<=c) (hce:c=1) :
 Calls Try.prog 75 #[.slice (some ⟨b,o,none⟩) (n+1) c,tv ((n:Int)+1) (bs (tab (n+1) F))] w fun e w'=>e=.returned (.tuple #[.int .i64 (fst (dc r (hb n 0 F)) (dc r (hb n 1 F)) ((dc (q :: r) F).toNat:Int)),.bool true])/\Below w.heap.size w w':=by
 have HRU:Hid (∀ W,Calls Try.prog 33 #[.slice (some ⟨b,o,none⟩) (n+1) c,tv ((n:Int)+1) (bs (tab (n+1) F))] W fun e w'=>e=.returned (.bool true)/\Below W.heap.size W w'):=fun W=>sOkR (n+1) F _ c W (by omega)
 have HH0:Hid (∀ W,Calls Try.prog 63 #[tv ((n:Int)+1) (bs (tab (n+1) F)),.int .i64 0] W fun e w'=>e=.returned (.tuple #[tv (n:Int) (bs (tab n (hb n 0 F))),.bool true])/\Below W.heap.size W w'):=fun W=>sHalf n 0 F W (by omega) (by omega)
 have HI0:Hid (∀ W,Below w.heap.size w W->Calls Try.prog 34 #[.slice (some ⟨b,o,none⟩) 0 0,tv (n:Int) (bs (tab n (hb n 0 F)))] W fun e w'=>e=.returned (.int .i64 ((dc r (hb n 0 F)).toNat:Int))/\Below W.heap.size W w'):=fun W h=>by
  have h1:=sDec n (hb n 0 F) _ r (c - 1) W (by omega) hrn (hT.below h) (by omega)
  have e:n=0:=by omega
  subst e
  rw [hce] at h1
  exact h1
 have HI1:Hid (∀ W,Below w.heap.size w W->Calls Try.prog 34 #[.slice (some ⟨b,o,none⟩) (n+1) c,tv ((n:Int)+1) (bs (tab (n+1) F))] W fun e w'=>e=.returned (.int .i64 ((dc (q :: r) F).toNat:Int))/\Below W.heap.size W w'):=fun W h=>sDec (n+1) F _ (q :: r) c W (by omega) (by rw [List.length_cons,hrn]) (hB.below h) hc
 have HCH:Hid (dc r (hb n 0 F)≠dc (q :: r) F->dc r (hb n 1 F)=dc (q :: r) F):=fun h=>by
  have:=dc_choose q r F
  rw [hrn] at this
  exact this h
 have hb1:(1:Int)<=(n:Int)+1:=by omega
 have hnn:((n:Int)+1==0)=false:=beq_eq_false_iff_ne.2 (by omega)
 clear hB hT
 subst hce
 generalize dc r (hb n 0 F)=r0 at *
 generalize dc r (hb n 1 F)=r1 at *
 generalize dc (q :: r) F=z at *
 generalize bs (tab n (hb n 0 F))=S0 at *
 generalize bs (tab (n+1) F)=S at *
 obtain ⟨W0,hW0⟩:∃ W0,W0=w.alloc (.cells #[.int .i64 ((n:Int)+1),.string S] 26):=⟨_,rfl⟩
 have HX0:Hid (Lay W0 w.heap.size (.int .i64 ((n:Int)+1)) (.string S)):=by rw [hW0];exact Lay.made _ _ _ _
 have HB0:Hid (Below w.heap.size w W0):=by rw [hW0];exact (Below.refl _ _).alloc (Nat.le_refl _) _
 have HW0:Hid (w.alloc (.cells #[.int .i64 ((n:Int)+1),.string S] 26)=W0):=hW0.symm
 clear hW0
 go_enter Try.func75,Try.ntmps75
 go_upto_region 1 with fail
 rw [HW0.out]
 clear HW0
 obtain ⟨x0,x1,_,_⟩:=HX0.out
 go_wp2_with fail
 refine (HRU.out _).mono ?_
 rintro e w1 ⟨rfl,hb⟩
 have HB1:Hid (Below w.heap.size w w1):=HB0.out.trans (hb.mono HB0.out.size)
 have HX1:Hid (Lay w1 w.heap.size (.int .i64 ((n:Int)+1)) (.string S)):=HX0.out.below hb
 clear hb x0 x1 HX0 HB0
 obtain ⟨x0,x1,_,_⟩:=HX1.out
 go_wp2_with fail
 refine (HH0.out _).mono ?_
 rintro e w2 ⟨rfl,hb⟩
 have HB2:Hid (Below w.heap.size w w2):=HB1.out.trans (hb.mono HB1.out.size)
 have HX2:Hid (Lay w2 w.heap.size (.int .i64 ((n:Int)+1)) (.string S)):=HX1.out.below hb
 clear hb x0 x1 HX1 HB1
 obtain ⟨W2,hW2⟩:∃ W2,W2=w2.alloc (.cells #[.int .i64 (n:Int),.string S0] 26):=⟨_,rfl⟩
 have HY4:Hid (Lay W2 w.heap.size (.int .i64 ((n:Int)+1)) (.string S)):=by rw [hW2];exact HX2.out.alloc _
 have HZ4:Hid (Lay W2 w2.heap.size (.int .i64 (n:Int)) (.string S0)):=by rw [hW2];exact Lay.made _ _ _ _
 have HB4:Hid (Below w.heap.size w W2):=by rw [hW2];exact HB2.out.alloc HB2.out.size _
 have HW2:Hid (w2.alloc (.cells #[.int .i64 (n:Int),.string S0] 26)=W2):=hW2.symm
 clear hW2 HX2 HB2
 go_upto_region 4 with fail
 rw [HW2.out]
 generalize hq2:w2.heap.size=q2 at *
 clear hq2 HW2
 have DY:Lay W2.drew w.heap.size (.int .i64 ((n:Int)+1)) (.string S):=HY4.out.kept (S:=fun _=>False) (Kept.refl _ _).drew (fun h=>h)
 have DZ:Lay W2.drew q2 (.int .i64 (n:Int)) (.string S0):=HZ4.out.kept (S:=fun _=>False) (Kept.refl _ _).drew (fun h=>h)
 have HBD:Hid (Below w.heap.size w W2.drew):=HB4.out.drew
 by_cases hz:r0=z
 ·have hzb:((r0.toNat:Int)==(z.toNat:Int))=true:=by rw [hz];simp
  have HF:Hid (fst r0 r1 (z.toNat:Int)=0):=ch_yes hz
  clear hz HCH
  go_region_held3 (fun w'=>w'.cell? ⟨w.heap.size,0,none⟩=some (.int .i64 ((n:Int)+1))/\w'.cell? ⟨w.heap.size,1,none⟩=some (.string S)/\w'.cell? ⟨q2,0,none⟩=some (.int .i64 (n:Int))/\w'.cell? ⟨q2,1,none⟩=some (.string S0)) ((first|exact ⟨EY.c0,EY.c1,EZ.c0,EZ.c1⟩|exact ⟨DY.c0,DY.c1,DZ.c0,DZ.c1⟩)) ((go_at_call 34;(first|with_reducible refine (HI0.out _ HBE.out).mono ?_|with_reducible refine (HI0.out _ HBD.out).mono ?_|with_reducible refine (HI1.out _ HBE.out).mono ?_|with_reducible refine (HI1.out _ HBD.out).mono ?_);rintro e w6 ⟨rfl,hb6⟩;have EY:Lay w6 w.heap.size (.int .i64 ((n:Int)+1)) (.string S):=(by first|exact EY.below hb6|exact DY.below hb6);have EZ:Lay w6 q2 (.int .i64 (n:Int)) (.string S0):=(by first|exact EZ.below hb6|exact DZ.below hb6);have HBE:Hid (Below w.heap.size w w6):=(by first|exact HBE.out.trans (hb6.mono HBE.out.size)|exact HBD.out.trans (hb6.mono HBD.out.size));clear hb6))
  all_goals
   go_wp2
   go_ret2
   rw [HF.out]
   exact ⟨rfl,HBE.out⟩
 ·have hzb:((r0.toNat:Int)==(z.toNat:Int))=false:=by cases r0<;>cases z<;>first|rfl|exact absurd rfl hz
  have HF:Hid (fst r0 r1 (z.toNat:Int)=1):=ch_no hz (HCH.out hz)
  clear hz HCH
  go_region_held3 (fun w'=>w'.cell? ⟨w.heap.size,0,none⟩=some (.int .i64 ((n:Int)+1))/\w'.cell? ⟨w.heap.size,1,none⟩=some (.string S)/\w'.cell? ⟨q2,0,none⟩=some (.int .i64 (n:Int))/\w'.cell? ⟨q2,1,none⟩=some (.string S0)) ((first|exact ⟨EY.c0,EY.c1,EZ.c0,EZ.c1⟩|exact ⟨DY.c0,DY.c1,DZ.c0,DZ.c1⟩)) ((go_at_call 34;(first|with_reducible refine (HI0.out _ HBE.out).mono ?_|with_reducible refine (HI0.out _ HBD.out).mono ?_|with_reducible refine (HI1.out _ HBE.out).mono ?_|with_reducible refine (HI1.out _ HBD.out).mono ?_);rintro e w6 ⟨rfl,hb6⟩;have EY:Lay w6 w.heap.size (.int .i64 ((n:Int)+1)) (.string S):=(by first|exact EY.below hb6|exact DY.below hb6);have EZ:Lay w6 q2 (.int .i64 (n:Int)) (.string S0):=(by first|exact EZ.below hb6|exact DZ.below hb6);have HBE:Hid (Below w.heap.size w w6):=(by first|exact HBE.out.trans (hb6.mono HBE.out.size)|exact HBD.out.trans (hb6.mono HBD.out.size));clear hb6))
  all_goals
   go_wp2
   go_ret2
   rw [HF.out]
   exact ⟨rfl,HBE.out⟩
theorem sChoose2 (n:Nat) (F:Nat->Bool) (b o:Nat) (q:Bool) (r:List Bool) (c:Nat) (w:World) (hn:n<=11) (hrn:r.length=n) (hB:Bools w (some ⟨b,o,none⟩) (q :: r)) (hT:Bools w (some ⟨b,o+1,none⟩) r) (hc:n+1<=c) (hce:¬ c=1) :
 Calls Try.prog 75 #[.slice (some ⟨b,o,none⟩) (n+1) c,tv ((n:Int)+1) (bs (tab (n+1) F))] w fun e w'=>e=.returned (.tuple #[.int .i64 (fst (dc r (hb n 0 F)) (dc r (hb n 1 F)) ((dc (q :: r) F).toNat:Int)),.bool true])/\Below w.heap.size w w':=by
 have HRU:Hid (∀ W,Calls Try.prog 33 #[.slice (some ⟨b,o,none⟩) (n+1) c,tv ((n:Int)+1) (bs (tab (n+1) F))] W fun e w'=>e=.returned (.bool true)/\Below W.heap.size W w'):=fun W=>sOkR (n+1) F _ c W (by omega)
 have HH0:Hid (∀ W,Calls Try.prog 63 #[tv ((n:Int)+1) (bs (tab (n+1) F)),.int .i64 0] W fun e w'=>e=.returned (.tuple #[tv (n:Int) (bs (tab n (hb n 0 F))),.bool true])/\Below W.heap.size W w'):=fun W=>sHalf n 0 F W (by omega) (by omega)
 have HI0:Hid (∀ W,Below w.heap.size w W->Calls Try.prog 34 #[.slice (some ⟨b,o+1,none⟩) n (c - 1),tv (n:Int) (bs (tab n (hb n 0 F)))] W fun e w'=>e=.returned (.int .i64 ((dc r (hb n 0 F)).toNat:Int))/\Below W.heap.size W w'):=fun W h=>by
  have h1:=sDec n (hb n 0 F) _ r (c - 1) W (by omega) hrn (hT.below h) (by omega)
  exact h1
 have HI1:Hid (∀ W,Below w.heap.size w W->Calls Try.prog 34 #[.slice (some ⟨b,o,none⟩) (n+1) c,tv ((n:Int)+1) (bs (tab (n+1) F))] W fun e w'=>e=.returned (.int .i64 ((dc (q :: r) F).toNat:Int))/\Below W.heap.size W w'):=fun W h=>sDec (n+1) F _ (q :: r) c W (by omega) (by rw [List.length_cons,hrn]) (hB.below h) hc
 have HCH:Hid (dc r (hb n 0 F)≠dc (q :: r) F->dc r (hb n 1 F)=dc (q :: r) F):=fun h=>by
  have:=dc_choose q r F
  rw [hrn] at this
  exact this h
 have hb1:(1:Int)<=(n:Int)+1:=by omega
 have hnn:((n:Int)+1==0)=false:=beq_eq_false_iff_ne.2 (by omega)
 clear hB hT
 skip
 generalize dc r (hb n 0 F)=r0 at *
 generalize dc r (hb n 1 F)=r1 at *
 generalize dc (q :: r) F=z at *
 generalize bs (tab n (hb n 0 F))=S0 at *
 generalize bs (tab (n+1) F)=S at *
 obtain ⟨W0,hW0⟩:∃ W0,W0=w.alloc (.cells #[.int .i64 ((n:Int)+1),.string S] 26):=⟨_,rfl⟩
 have HX0:Hid (Lay W0 w.heap.size (.int .i64 ((n:Int)+1)) (.string S)):=by rw [hW0];exact Lay.made _ _ _ _
 have HB0:Hid (Below w.heap.size w W0):=by rw [hW0];exact (Below.refl _ _).alloc (Nat.le_refl _) _
 have HW0:Hid (w.alloc (.cells #[.int .i64 ((n:Int)+1),.string S] 26)=W0):=hW0.symm
 clear hW0
 go_enter Try.func75,Try.ntmps75
 go_upto_region 1 with fail
 rw [HW0.out]
 clear HW0
 obtain ⟨x0,x1,_,_⟩:=HX0.out
 go_wp2_with fail
 refine (HRU.out _).mono ?_
 rintro e w1 ⟨rfl,hb⟩
 have HB1:Hid (Below w.heap.size w w1):=HB0.out.trans (hb.mono HB0.out.size)
 have HX1:Hid (Lay w1 w.heap.size (.int .i64 ((n:Int)+1)) (.string S)):=HX0.out.below hb
 clear hb x0 x1 HX0 HB0
 obtain ⟨x0,x1,_,_⟩:=HX1.out
 go_wp2_with fail
 refine (HH0.out _).mono ?_
 rintro e w2 ⟨rfl,hb⟩
 have HB2:Hid (Below w.heap.size w w2):=HB1.out.trans (hb.mono HB1.out.size)
 have HX2:Hid (Lay w2 w.heap.size (.int .i64 ((n:Int)+1)) (.string S)):=HX1.out.below hb
 clear hb x0 x1 HX1 HB1
 obtain ⟨W2,hW2⟩:∃ W2,W2=w2.alloc (.cells #[.int .i64 (n:Int),.string S0] 26):=⟨_,rfl⟩
 have HY4:Hid (Lay W2 w.heap.size (.int .i64 ((n:Int)+1)) (.string S)):=by rw [hW2];exact HX2.out.alloc _
 have HZ4:Hid (Lay W2 w2.heap.size (.int .i64 (n:Int)) (.string S0)):=by rw [hW2];exact Lay.made _ _ _ _
 have HB4:Hid (Below w.heap.size w W2):=by rw [hW2];exact HB2.out.alloc HB2.out.size _
 have HW2:Hid (w2.alloc (.cells #[.int .i64 (n:Int),.string S0] 26)=W2):=hW2.symm
 clear hW2 HX2 HB2
 go_upto_region 4 with fail
 rw [HW2.out]
 generalize hq2:w2.heap.size=q2 at *
 clear hq2 HW2
 have DY:Lay W2.drew w.heap.size (.int .i64 ((n:Int)+1)) (.string S):=HY4.out.kept (S:=fun _=>False) (Kept.refl _ _).drew (fun h=>h)
 have DZ:Lay W2.drew q2 (.int .i64 (n:Int)) (.string S0):=HZ4.out.kept (S:=fun _=>False) (Kept.refl _ _).drew (fun h=>h)
 have HBD:Hid (Below w.heap.size w W2.drew):=HB4.out.drew
 by_cases hz:r0=z
 ·have hzb:((r0.toNat:Int)==(z.toNat:Int))=true:=by rw [hz];simp
  have HF:Hid (fst r0 r1 (z.toNat:Int)=0):=ch_yes hz
  clear hz HCH
  go_region_held3 (fun w'=>w'.cell? ⟨w.heap.size,0,none⟩=some (.int .i64 ((n:Int)+1))/\w'.cell? ⟨w.heap.size,1,none⟩=some (.string S)/\w'.cell? ⟨q2,0,none⟩=some (.int .i64 (n:Int))/\w'.cell? ⟨q2,1,none⟩=some (.string S0)) ((first|exact ⟨EY.c0,EY.c1,EZ.c0,EZ.c1⟩|exact ⟨DY.c0,DY.c1,DZ.c0,DZ.c1⟩)) ((go_at_call 34;(first|with_reducible refine (HI0.out _ HBE.out).mono ?_|with_reducible refine (HI0.out _ HBD.out).mono ?_|with_reducible refine (HI1.out _ HBE.out).mono ?_|with_reducible refine (HI1.out _ HBD.out).mono ?_);rintro e w6 ⟨rfl,hb6⟩;have EY:Lay w6 w.heap.size (.int .i64 ((n:Int)+1)) (.string S):=(by first|exact EY.below hb6|exact DY.below hb6);have EZ:Lay w6 q2 (.int .i64 (n:Int)) (.string S0):=(by first|exact EZ.below hb6|exact DZ.below hb6);have HBE:Hid (Below w.heap.size w w6):=(by first|exact HBE.out.trans (hb6.mono HBE.out.size)|exact HBD.out.trans (hb6.mono HBD.out.size));clear hb6))
  all_goals
   go_wp2
   go_ret2
   rw [HF.out]
   exact ⟨rfl,HBE.out⟩
 ·have hzb:((r0.toNat:Int)==(z.toNat:Int))=false:=by cases r0<;>cases z<;>first|rfl|exact absurd rfl hz
  have HF:Hid (fst r0 r1 (z.toNat:Int)=1):=ch_no hz (HCH.out hz)
  clear hz HCH
  go_region_held3 (fun w'=>w'.cell? ⟨w.heap.size,0,none⟩=some (.int .i64 ((n:Int)+1))/\w'.cell? ⟨w.heap.size,1,none⟩=some (.string S)/\w'.cell? ⟨q2,0,none⟩=some (.int .i64 (n:Int))/\w'.cell? ⟨q2,1,none⟩=some (.string S0)) ((first|exact ⟨EY.c0,EY.c1,EZ.c0,EZ.c1⟩|exact ⟨DY.c0,DY.c1,DZ.c0,DZ.c1⟩)) ((go_at_call 34;(first|with_reducible refine (HI0.out _ HBE.out).mono ?_|with_reducible refine (HI0.out _ HBD.out).mono ?_|with_reducible refine (HI1.out _ HBE.out).mono ?_|with_reducible refine (HI1.out _ HBD.out).mono ?_);rintro e w6 ⟨rfl,hb6⟩;have EY:Lay w6 w.heap.size (.int .i64 ((n:Int)+1)) (.string S):=(by first|exact EY.below hb6|exact DY.below hb6);have EZ:Lay w6 q2 (.int .i64 (n:Int)) (.string S0):=(by first|exact EZ.below hb6|exact DZ.below hb6);have HBE:Hid (Below w.heap.size w w6):=(by first|exact HBE.out.trans (hb6.mono HBE.out.size)|exact HBD.out.trans (hb6.mono HBD.out.size));clear hb6))
  all_goals
   go_wp2
   go_ret2
   rw [HF.out]
   exact ⟨rfl,HBE.out⟩
theorem sChoose (n:Nat) (F:Nat->Bool) (ra:Option Addr) (row:List Bool) (c:Nat) (w:World) (hn:n<=12) (hn1:1<=n) (hrn:row.length=n) (hB:Bools w ra row) (hc:n<=c) :
 Calls Try.prog 75 #[.slice ra n c,tv (n:Int) (bs (tab n F))] w fun e w'=>e=.returned (.tuple #[.int .i64 (chV row n F),.bool true])/\Below w.heap.size w w':=by
 cases row with
 | nil=>simp at hrn;omega
 | cons q r =>
   rw [List.length_cons] at hrn
   subst hrn
   obtain ⟨b,o,rfl,p0,t,ht,hT⟩:=bools_tail hB hc
   by_cases hc1:c=1
   ·rw [if_pos hc1] at ht
    subst ht
    exact sChoose1 r.length F b t q r c w (by omega) rfl hB hT hc hc1
   ·rw [if_neg hc1] at ht
    subst ht
    exact sChoose2 r.length F b o q r c w (by omega) rfl hB hT hc hc1
end Dm3
end Go.Proofs.Ytfhdbcfhhbdiiaa
