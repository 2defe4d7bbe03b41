import Derived.Test.YthanhcobfehmnaaGreatPb11
namespace Go.Proofs.YthanhcobfehmnaaGreat
set_option maxRecDepth 100000
set_option maxHeartbeats 8000000
set_option linter.unusedVariables false
namespace Pb12
open Go.RowKit
open Nd0 Nd3 Tm0 Tm8 Ap15 Aq0 Aq1 Aq12 Pb3 Vl5
open Ap2 (Own)
open Lx1 (ITermOk)
open Ic4 (IHolds)
open Pb9 (iCloseAll)
open Pb11 (iJoin)
theorem node_one (W:World) (op w k a b c:Int):∀ i (h:i < [(⟨op,w,k,a,b,c⟩:Nd)].length),NodeAt (W.alloc (.cells #[.int .i64 op,.int .i64 w,.int .i64 k,.int .i64 a,.int .i64 b,.int .i64 c] 44)) W.heap.size (0+i*6) [(⟨op,w,k,a,b,c⟩:Nd)][i]:=by
 intro i hi
 have e:i=0:=by simp at hi;omega
 subst e
 exact ⟨by simp,by simp,by simp,by simp,by simp,by simp⟩
theorem iValid (hTO:ITermOk) (hHO:IHolds) (w:World) (a:Option Addr) (l:List Nd) (c:Nat) (hN:Nodes w a l) (hcap:l.length<=c) :
 Calls Tryz.prog 17 #[.slice a l.length c] w fun e w'=>e=.returned (.tuple #[.int .i64 ((holdsL (clL l)).getD 0),.bool (holdsL (clL l)).isSome])/\Below w.heap.size w w':=by
 have HN:Hid (Nodes w a l):=hN
 have HTO:Hid ITermOk:=hTO
 have HHO:Hid IHolds:=hHO
 have HCAP:Hid (l.length<=c):=hcap
 clear hN hTO hHO hcap
 go_enter Tryz.func17,Tryz.ntmps17
 go_wp2_with fail
 refine (iCloseAll HTO.out _ _ l c HN.out HCAP.out).mono ?_
 rintro e w1 ⟨⟨a',c',rfl,hw1,hc1⟩,hb1⟩
 have HW1:Hid (Nodes w1 a' (clL l)):=hw1.nodes
 have HC1:Hid ((clL l).length<=c'):=hc1
 have HB1:Hid (Below w.heap.size w w1):=hb1
 have HL8:Hid ((clL l).length<=1048576):=Nat.le_trans (clL_le l) (by omega)
 clear hw1 hb1 hc1
 generalize hu:clL l=u at HW1 HC1 HL8 ⊢
 have HU:Hid (clL l=u):=hu
 clear hu
 go_wp2_with fail
 refine (HHO.out _ _ u c' HW1.out HC1.out HL8.out).mono ?_
 rintro e w2 ⟨rfl,hb2⟩
 have HB2:Hid (Below w.heap.size w w2):=HB1.out.trans (hb2.mono HB1.out.size)
 clear hb2
 go_wp2
 go_ret2
 rw [HU.out]
 exact ⟨rfl,HB2.out⟩
def eqN (a b:List Nd):Nd:=⟨13,1,0,(a.length:Int) - 1,(a.length:Int)+(b.length:Int) - 1,0⟩
def eqL (a b:List Nd):List Nd:=joinL a b++[eqN a b]
def eqV (a b:List Nd):Option Int:=if termOk a&&termOk b then holdsL (clL (eqL a b)) else none
theorem eq_no1 {a b:List Nd} (h:termOk a=false):eqV a b=none:=by unfold eqV;rw [h];rfl
theorem eq_no2 {a b:List Nd} (h:termOk b=false):eqV a b=none:=by unfold eqV;rw [h,Bool.and_false];rfl
theorem eq_yes {a b:List Nd} (h:termOk a=true) (h2:termOk b=true):eqV a b=holdsL (clL (eqL a b)):=by unfold eqV;rw [h,h2];rfl
theorem iEqual (hTO:ITermOk) (hHO:IHolds) (w:World) (a1 a2:Option Addr) (l1 l2:List Nd) (c1 c2:Nat) (hN1:Nodes w a1 l1) (hN2:Nodes w a2 l2) (hc1:l1.length<=c1) (hc2:l2.length<=c2) :
 Calls Tryz.prog 6 #[.slice a1 l1.length c1,.slice a2 l2.length c2] w fun e w'=>e=.returned (.tuple #[.int .i64 ((eqV l1 l2).getD 0),.bool (eqV l1 l2).isSome])/\Below w.heap.size w w':=by
 have HN1:Hid (Nodes w a1 l1):=hN1
 have HN2:Hid (Nodes w a2 l2):=hN2
 have HTO:Hid ITermOk:=hTO
 have HHO:Hid IHolds:=hHO
 have HC1:Hid (l1.length<=c1):=hc1
 have HC2:Hid (l2.length<=c2):=hc2
 clear hN1 hN2 hTO hHO hc1 hc2
 go_enter Tryz.func6,Tryz.ntmps6
 go_wp2_with fail
 refine (iTO HTO.out _ _ l1 c1 HN1.out HC1.out).mono ?_
 rintro e w1 ⟨rfl,hb1⟩
 have HB1:Hid (Below w.heap.size w w1):=hb1
 clear hb1
 cases hT1:termOk l1
 ·have HE:Hid (eqV l1 l2=none):=eq_no1 hT1
  go_wp2
  go_ret2
  rw [HE.out]
  exact ⟨rfl,HB1.out⟩
 ·have HT1:Hid (termOk l1=true):=hT1
  clear hT1
  go_wp2_with fail
  refine (iTO HTO.out _ _ l2 c2 (HN2.out.below HB1.out) HC2.out).mono ?_
  rintro e w2 ⟨rfl,hb2⟩
  have HB2:Hid (Below w.heap.size w w2):=HB1.out.trans (hb2.mono HB1.out.size)
  clear hb2 HB1
  cases hT2:termOk l2
  ·have HE:Hid (eqV l1 l2=none):=eq_no2 hT2
   go_wp2
   go_ret2
   rw [HE.out]
   exact ⟨rfl,HB2.out⟩
  ·have HT2:Hid (termOk l2=true):=hT2
   have HE:Hid (eqV l1 l2=holdsL (clL (eqL l1 l2))):=eq_yes HT1.out hT2
   obtain ⟨h11,h12⟩:=term_len HT1.out
   obtain ⟨h21,h22⟩:=term_len hT2
   clear hT2
   obtain ⟨W2,hW2⟩:∃ W2:World,W2=w2.alloc (.cells #[.slice a1 l1.length c1,.slice a2 l2.length c2] 24):=⟨_,rfl⟩
   have hb2:Below w2.heap.size w2 W2:=by rw [hW2];exact (Below.refl _ _).alloc (Nat.le_refl _) _
   have HB3:Hid (Below w.heap.size w W2):=HB2.out.trans (hb2.mono HB2.out.size)
   have q0:W2.cell? ⟨w2.heap.size,0,none⟩=some (.slice a1 l1.length c1):=by rw [hW2,World.cell?_alloc_new];rfl
   have q1:W2.cell? ⟨w2.heap.size,0+1,none⟩=some (.slice a2 l2.length c2):=by rw [hW2,World.cell?_alloc_new];rfl
   have HJ:Hid (Calls Tryz.prog 16 #[.slice (some ⟨w2.heap.size,0,none⟩) 2 2] W2 fun e w'=>(∃ g cp rg rc,e=.returned (.tuple #[.slice (some ⟨g,0,none⟩) (joinL l1 l2).length cp,.slice (some ⟨rg,0,none⟩) 2 rc])/\Own w' W2.heap.size (.slice (some ⟨g,0,none⟩) (joinL l1 l2).length cp) (joinL l1 l2)/\w'.cell? ⟨rg,0,none⟩=some (.int .i64 ((l1.length:Int) - 1))/\w'.cell? ⟨rg,1,none⟩=some (.int .i64 ((l1.length:Int)+(l2.length:Int) - 1))/\rg≠g)/\Below W2.heap.size W2 w') :=
    iJoin W2 w2.heap.size 0 2 a1 a2 l1 l2 c1 c2 (HN1.out.below HB3.out) (HN2.out.below HB3.out) (down_of HT1.out) (down_of HT2.out) ⟨h11,h12⟩ ⟨h21,h22⟩ q0 q1
   clear q0 q1 hb2 HB2
   go_wp2_with fail
   rw [<- hW2]
   refine HJ.out.mono ?_
   rintro e w3 ⟨⟨g,cp,rg,rc,rfl,ho3,r0,r1,hrg⟩,hb3⟩
   have HO3:Hid (Own w3 W2.heap.size (.slice (some ⟨g,0,none⟩) (joinL l1 l2).length cp) (joinL l1 l2)):=ho3
   have HB4:Hid (Below w.heap.size w w3):=HB3.out.trans (hb3.mono HB3.out.size)
   have HRG:Hid (rg≠g):=hrg
   have HS3:Hid (W2.heap.size<=w3.heap.size):=hb3.size
   have HJL:Hid ((joinL l1 l2).length<=160):=by show _<=_;rw [joinL_length];omega
   have HEN:Hid (eqN l1 l2=⟨13,1,0,(l1.length:Int) - 1,(l1.length:Int)+(l2.length:Int) - 1,0⟩):=rfl
   have HEL:Hid (joinL l1 l2++[eqN l1 l2]=eqL l1 l2):=rfl
   have HR:Hid (w3.cell? ⟨rg,0,none⟩=some (.int .i64 ((l1.length:Int) - 1))/\w3.cell? ⟨rg,1,none⟩=some (.int .i64 ((l1.length:Int)+(l2.length:Int) - 1))):=⟨r0,r1⟩
   have HWS:Hid (w.heap.size<=W2.heap.size):=HB3.out.size
   have HSX0:∀ W,Below w3.heap.size w3 W->W.cell? ⟨rg,0,none⟩=some (.int .i64 ((l1.length:Int) - 1))/\W.cell? ⟨rg,1,none⟩=some (.int .i64 ((l1.length:Int)+(l2.length:Int) - 1)):=fun W hW=>⟨(hW.cell (lt_of_cell r0)).trans r0,(hW.cell (lt_of_cell r1)).trans r1⟩
   clear hW2 ho3 r0 r1 hrg hb3 HJ HB3
   generalize eqN l1 l2=y at HEN HEL
   generalize joinL l1 l2=X at HO3 HJL HEL ⊢
   generalize hE:eqL l1 l2=E at HEL
   have HEE:Hid (eqL l1 l2=E):=hE
   clear hE
   obtain ⟨z0,hz0⟩:∃ z0:Int,z0=(l1.length:Int) - 1:=⟨_,rfl⟩
   obtain ⟨z1,hz1⟩:∃ z1:Int,z1=(l1.length:Int)+(l2.length:Int) - 1:=⟨_,rfl⟩
   rw [<- hz0,<- hz1] at HEN HR HSX0
   have HSX:Hid (∀ W,Below w3.heap.size w3 W->W.cell? ⟨rg,0,none⟩=some (.int .i64 z0)/\W.cell? ⟨rg,1,none⟩=some (.int .i64 z1)):=HSX0
   have HYE:Hid (X++[⟨13,1,0,z0,z1,0⟩]=E):=by show _=_;rw [<- HEL.out,HEN.out]
   clear hz0 hz1 HSX0
   go_wp2_with fail
   refine wp_region_held_drew (S:=fun W=>W.cell? ⟨rg,0,none⟩=some (.int .i64 z0)/\W.cell? ⟨rg,1,none⟩=some (.int .i64 z1)) (by kernel_rfl) ⟨HR.out.1,HR.out.2⟩ (fun hHeld=>?_)
   refine wpAnyH_take (i:=0) (v:=?_) rfl (by kernel_rfl) (by kernel_rfl) (by kernel_rfl) (fun _ _ _ h=>h) (Or.inl ⟨by rfl,?_⟩) hHeld ?_
   rotate_left
   ·intro v9 hS9
    try dsimp only at hS9
    skip
    go_simp
    try with_reducible rfl
   try simp only [Act.put,List.setIfInBounds_toArray,List.set_cons_zero,List.set_cons_succ,List.getElem_toArray,List.getElem_cons_zero]
   refine wpAnyH_take (i:=1) (v:=?_) rfl (by kernel_rfl) (by kernel_rfl) (by kernel_rfl) (fun _ _ _ h=>h) (Or.inl ⟨by rfl,?_⟩) hHeld ?_
   rotate_left
   ·intro v9 hS9
    try dsimp only at hS9
    skip
    go_simp
    try with_reducible rfl
   try simp only [Act.put,List.setIfInBounds_toArray,List.set_cons_zero,List.set_cons_succ,List.getElem_toArray,List.getElem_cons_zero,List.getElem_cons_succ]
   refine wpAnyH_take (i:=2) (v:=?_) rfl (by kernel_rfl) (by kernel_rfl) (by kernel_rfl) (fun _ _ _ h=>h) (Or.inl ⟨by rfl,?_⟩) hHeld ?_
   rotate_left
   ·intro v9 hS9
    try dsimp only at hS9
    skip
    go_simp
    try with_reducible rfl
   try simp only [Act.put,List.setIfInBounds_toArray,List.set_cons_zero,List.set_cons_succ,List.getElem_toArray,List.getElem_cons_zero,List.getElem_cons_succ]
   refine wpAnyH_take (i:=3) (v:=?_) rfl (by kernel_rfl) (by kernel_rfl) (by kernel_rfl) (fun _ _ _ h=>h) (Or.inl ⟨by rfl,?_⟩) hHeld ?_
   rotate_left
   ·intro v9 hS9
    try dsimp only at hS9
    obtain ⟨s0,s1⟩:=hS9
    go_simp
    try with_reducible rfl
   try simp only [Act.put,List.setIfInBounds_toArray,List.set_cons_zero,List.set_cons_succ,List.getElem_toArray,List.getElem_cons_zero,List.getElem_cons_succ]
   refine wpAnyH_take (i:=4) (v:=?_) rfl (by kernel_rfl) (by kernel_rfl) (by kernel_rfl) (fun _ _ _ h=>h) (Or.inl ⟨by rfl,?_⟩) hHeld ?_
   rotate_left
   ·intro v9 hS9
    try dsimp only at hS9
    skip
    go_simp
    try with_reducible rfl
   try simp only [Act.put,List.setIfInBounds_toArray,List.set_cons_zero,List.set_cons_succ,List.getElem_toArray,List.getElem_cons_zero,List.getElem_cons_succ]
   refine wpAnyH_take (i:=5) (v:=?_) rfl (by kernel_rfl) (by kernel_rfl) (by kernel_rfl) (fun _ _ _ h=>h) (Or.inl ⟨by rfl,?_⟩) hHeld ?_
   rotate_left
   ·intro v9 hS9
    try dsimp only at hS9
    skip
    go_simp
    try with_reducible rfl
   try simp only [Act.put,List.setIfInBounds_toArray,List.set_cons_zero,List.set_cons_succ,List.getElem_toArray,List.getElem_cons_zero,List.getElem_cons_succ]
   refine wpAnyH_take (i:=6) (v:=?_) rfl (by kernel_rfl) (by kernel_rfl) (by kernel_rfl) (fun _ _ _ h=>h) (Or.inl ⟨by rfl,?_⟩) hHeld ?_
   rotate_left
   ·intro v9 hS9
    try dsimp only at hS9
    obtain ⟨s0,s1⟩:=hS9
    go_simp
    try with_reducible rfl
   try simp only [Act.put,List.setIfInBounds_toArray,List.set_cons_zero,List.set_cons_succ,List.getElem_toArray,List.getElem_cons_zero,List.getElem_cons_succ]
   refine wpAnyH_take (i:=7) (v:=?_) rfl (by kernel_rfl) (by kernel_rfl) (by kernel_rfl) (fun _ _ _ h=>h) (Or.inl ⟨by rfl,?_⟩) hHeld ?_
   rotate_left
   ·intro v9 hS9
    try dsimp only at hS9
    skip
    go_simp
    try with_reducible rfl
   try simp only [Act.put,List.setIfInBounds_toArray,List.set_cons_zero,List.set_cons_succ,List.getElem_toArray,List.getElem_cons_zero,List.getElem_cons_succ]
   refine wpAnyH_ready (rs:=[8]) (by kernel_rfl) (by simp) ?_
   refine (AllReadyH.cons rfl (fun K hK=>?_) AllReadyH.nil)
   go_simp
   refine hK.out _ _ (HSX.out _ (((Below.refl w3.heap.size w3).drew).alloc (Nat.le_refl _) _)) (fun hNext=>?_)
   clear hK K hHeld
   have hHeld:=hNext
   clear hNext
   try simp only [Act.put,List.setIfInBounds_toArray,List.set_cons_zero,List.set_cons_succ,List.getElem_toArray,List.getElem_cons_zero,List.getElem_cons_succ]
   refine wpAnyH_ready (rs:=[9]) (by kernel_rfl) (by simp) ?_
   refine (AllReadyH.cons rfl (fun K hK=>?_) AllReadyH.nil)
   refine step_any (w3.drew.alloc (.cells #[.int .i64 13,.int .i64 1,.int .i64 0,.int .i64 z0,.int .i64 z1,.int .i64 0] 44)) rfl _ _ rfl W2.heap.size g cp X [⟨13,1,0,z0,z1,0⟩] E HYE.out w3.heap.size 0 1 X.length 1 rfl rfl rfl rfl (node_one w3.drew 13 1 0 z0 z1 0) (by simp) (HO3.out.kept (S:=fun _=>False) (Kept.ofBelow (((Below.refl w3.heap.size w3).drew).alloc (Nat.le_refl _) _)) (fun _ _ h=>h)) (by have:=HS3.out;simp;omega) (by have:=HJL.out;simp;omega) ?_
   intro g5 cp5 w5 ho5 hk5 hg5
   have HB5:Hid (Below w.heap.size w w5):=(HB4.out.trans ((((Below.refl w3.heap.size w3).drew).alloc (Nat.le_refl _) _).mono HB4.out.size)).trans (hk5.below (fun b (hb:b=g)=>by have:=(HO3.out.lt g rfl).1;have:=HWS.out;omega) (by have:=HB4.out.size;simp;omega))
   have HV5:Hid (Calls Tryz.prog 17 #[.slice (some ⟨g5,0,none⟩) E.length cp5] w5 fun e w'=>e=.returned (.tuple #[.int .i64 ((holdsL (clL E)).getD 0),.bool (holdsL (clL E)).isSome])/\Below w5.heap.size w5 w'):=by
    obtain ⟨av,cv,hv,hw⟩:=ho5.form
    have hcap:=(Ap7.own_cap ho5).2
    cases hv
    exact iValid HTO.out HHO.out w5 (some ⟨g5,0,none⟩) E cp5 hw.nodes hcap
   have HS5:Hid (w5.cell? ⟨rg,0,none⟩=some (.int .i64 z0)/\w5.cell? ⟨rg,1,none⟩=some (.int .i64 z1)):=by
    have h:=HSX.out _ (((Below.refl w3.heap.size w3).drew).alloc (Nat.le_refl _) (.cells #[.int .i64 13,.int .i64 1,.int .i64 0,.int .i64 z0,.int .i64 z1,.int .i64 0] 44))
    exact ⟨(hk5.cell (lt_of_cell h.1) HRG.out).trans h.1,(hk5.cell (lt_of_cell h.2) HRG.out).trans h.2⟩
   clear ho5 hk5 hg5
   refine hK.out _ _ HS5.out (fun hNext=>?_)
   clear hK K hHeld
   have hHeld:=hNext
   clear hNext
   try simp only [Act.put,List.setIfInBounds_toArray,List.set_cons_zero,List.set_cons_succ,List.getElem_toArray,List.getElem_cons_zero,List.getElem_cons_succ]
   refine wpAnyH_ready (rs:=[10]) (by kernel_rfl) (by simp) ?_
   refine (AllReadyH.cons rfl (fun K hK=>?_) AllReadyH.nil)
   refine step_call (f:=17) (args := #[.slice (some ⟨g5,0,none⟩) E.length cp5]) rfl (by go_simp) ?_
   refine HV5.out.mono ?_
   rintro e w6 ⟨rfl,hb6⟩
   have HB6:Hid (Below w.heap.size w w6):=HB5.out.trans (hb6.mono HB5.out.size)
   have HS6:Hid (w6.cell? ⟨rg,0,none⟩=some (.int .i64 z0)/\w6.cell? ⟨rg,1,none⟩=some (.int .i64 z1)):=⟨(hb6.cell (lt_of_cell HS5.out.1)).trans HS5.out.1,(hb6.cell (lt_of_cell HS5.out.2)).trans HS5.out.2⟩
   clear hb6
   refine ⟨_,rfl,?_⟩
   refine hK.out _ _ HS6.out (fun hNext=>?_)
   clear hK K hHeld
   have hHeld:=hNext
   clear hNext
   try simp only [Act.put,List.setIfInBounds_toArray,List.set_cons_zero,List.set_cons_succ,List.getElem_toArray,List.getElem_cons_zero,List.getElem_cons_succ]
   refine wpAnyH_take (i:=11) (v:=?_) rfl (by kernel_rfl) (by kernel_rfl) (by kernel_rfl) (fun _ _ _ h=>h) (Or.inl ⟨by rfl,?_⟩) hHeld ?_
   rotate_left
   ·intro v9 hS9
    try dsimp only at hS9
    skip
    go_simp
    try with_reducible rfl
   try simp only [Act.put,List.setIfInBounds_toArray,List.set_cons_zero,List.set_cons_succ,List.getElem_toArray,List.getElem_cons_zero,List.getElem_cons_succ]
   refine wpAnyH_take (i:=12) (v:=?_) rfl (by kernel_rfl) (by kernel_rfl) (by kernel_rfl) (fun _ _ _ h=>h) (Or.inl ⟨by rfl,?_⟩) hHeld ?_
   rotate_left
   ·intro v9 hS9
    try dsimp only at hS9
    skip
    go_simp
    try with_reducible rfl
   try simp only [Act.put,List.setIfInBounds_toArray,List.set_cons_zero,List.set_cons_succ,List.getElem_toArray,List.getElem_cons_zero,List.getElem_cons_succ]
   refine wpAnyH_take (i:=13) (v:=?_) rfl (by kernel_rfl) (by kernel_rfl) (by kernel_rfl) (fun _ _ _ h=>h) (Or.inl ⟨by rfl,?_⟩) hHeld ?_
   rotate_left
   ·intro v9 hS9
    try dsimp only at hS9
    skip
    go_simp
    try with_reducible rfl
   try simp only [Act.put,List.setIfInBounds_toArray,List.set_cons_zero,List.set_cons_succ,List.getElem_toArray,List.getElem_cons_zero,List.getElem_cons_succ]
   refine wpAnyH_take (i:=14) (v:=?_) rfl (by kernel_rfl) (by kernel_rfl) (by kernel_rfl) (fun _ _ _ h=>h) (Or.inl ⟨by rfl,?_⟩) hHeld ?_
   rotate_left
   ·intro v9 hS9
    try dsimp only at hS9
    skip
    go_simp
    try with_reducible rfl
   try simp only [Act.put,List.setIfInBounds_toArray,List.set_cons_zero,List.set_cons_succ,List.getElem_toArray,List.getElem_cons_zero,List.getElem_cons_succ]
   refine wpAnyH_done (by kernel_rfl) ?_ _
   clear hHeld
   go_wp2
   go_ret2
   rw [HE.out,HEE.out]
   exact ⟨rfl,HB6.out⟩
end Pb12
namespace Vc2
open Nd0 Pl1 Tm0 Tm1 Tm3 Tm4 Tm5 Tm6 Tm8 Tm12 Tm14 Tr0 Vl1 Vl2 Vl3 Vl4 Vl5 Aq0 Aq1 Aq2 Aq12 Vc0 Vc1
open Pb12 (eqN eqL eqV eq_no1 eq_no2 eq_yes)
theorem mk_sh (m:Nat) {n:Nd} (hp:∀ p∈parts n,0<=p) {f g:Nat->Tr} (h:∀ p∈parts n,f (m+p.toNat)=g p.toNat):mkF (shN (m:Int) n) f=mkF n g:=by
 have ht:∀ p:Int,0<=p->(p+(m:Int)).toNat=m+p.toNat:=fun p h0=>by omega
 by_cases h1:n.op=2\/n.op=17\/n.op=19\/n.op=20
 ·have hps:=parts_one h1
  rw [hps] at h hp
  have e:shN (m:Int) n=⟨n.op,n.w,n.k,n.a+m,n.b,n.c⟩:=by unfold shN;rw [hps];rfl
  rw [e,mk_one (n:=⟨n.op,n.w,n.k,n.a+m,n.b,n.c⟩) h1 f,mk_one h1 g]
  show Tr.one _ _ _ _ (f (n.a+(m:Int)).toNat)=_
  rw [ ht n.a (hp n.a (by simp)),h n.a (by simp)]
 ·by_cases h2:3<=n.op/\n.op<=16
  ·have hps:=parts_two h2
   rw [hps] at h hp
   have e:shN (m:Int) n=⟨n.op,n.w,n.k,n.a+m,n.b+m,n.c⟩:=by unfold shN;rw [hps];rfl
   rw [e,mk_two (n:=⟨n.op,n.w,n.k,n.a+m,n.b+m,n.c⟩) h2 f,mk_two h2 g]
   show Tr.two _ _ (f (n.a+(m:Int)).toNat) (f (n.b+(m:Int)).toNat)=_
   rw [ ht n.a (hp n.a (by simp)),ht n.b (hp n.b (by simp)),h n.a (by simp),h n.b (by simp)]
  ·by_cases h3:n.op=18
   ·have hps:=parts_three h3
    rw [hps] at h hp
    have e:shN (m:Int) n=⟨n.op,n.w,n.k,n.a+m,n.b+m,n.c+m⟩:=by unfold shN;rw [hps];rfl
    rw [e,mk_three (n:=⟨n.op,n.w,n.k,n.a+m,n.b+m,n.c+m⟩) h3 f,mk_three h3 g]
    show Tr.three _ _ (f (n.a+(m:Int)).toNat) (f (n.b+(m:Int)).toNat) (f (n.c+(m:Int)).toNat)=_
    rw [ ht n.a (hp n.a (by simp)),ht n.b (hp n.b (by simp)),ht n.c (hp n.c (by simp)),h n.a (by simp),h n.b (by simp),h n.c (by simp)]
   ·rw [mk_leaf h1 h2 h3,mk_leaf (n:=shN (m:Int) n) h1 h2 h3]
    rfl
theorem nth_join {a b:List Nd} {j:Nat} (hj:j < b.length):nth (joinL a b) (a.length+j)=shN (a.length:Int) (nth b j):=by
 unfold joinL nth
 rw [List.getD_eq_getElem?_getD,List.getElem?_append_right (by omega),show a.length+j - a.length=j by omega,List.getElem?_map,List.getElem?_eq_getElem hj,List.getD_eq_getElem?_getD,List.getElem?_eq_getElem hj]
 rfl
theorem tr_join {a b:List Nd} (hD:Down b) (hJ:Down (joinL a b)):∀ j,j < b.length->tr (joinL a b) (a.length+j)=tr b j:=by
 intro j
 induction j using Nat.strongRecOn with
 | ind j ih =>
   intro hj
   rw [tr_at hJ (by rw [joinL_length];omega),tr_at hD hj,nth_join hj]
   have hd:=hD j hj
   exact mk_sh a.length (fun p hp=>(hd p hp).1) (fun p hp=>by
    have h9:=hd p hp
    exact ih p.toNat (by omega) (by omega))
theorem root_eq {a b:List Nd} (hA:termOk a=true) (hB:termOk b=true) (hE:termOk (eqL a b)=true):root (eqL a b)=.two 13 1 (root a) (root b):=by
 obtain ⟨ha1,ha2⟩:=term_len hA
 obtain ⟨hb1,hb2⟩:=term_len hB
 have hjl:=joinL_length a b
 have hJ:termOk (joinL a b)=true:=term_less (l:=joinL a b) (m:=[eqN a b]) hE (by omega)
 have hlen:(eqL a b).length=(joinL a b).length+1:=by unfold eqL;rw [List.length_append];rfl
 unfold root
 rw [tr_at (down_of hE) (by omega)]
 have e1:(eqL a b).length - 1=(joinL a b).length:=by omega
 rw [e1]
 have e2:nth (eqL a b) (joinL a b).length=eqN a b:=nth_app_last (joinL a b) (eqN a b)
 rw [e2,mk_two (n:=eqN a b) (show 3<=(13:Int)/\(13:Int)<=16 by omega)]
 have e3:(eqN a b).a.toNat=a.length - 1:=by show ((a.length:Int) - 1).toNat=_;omega
 have e4:(eqN a b).b.toNat=a.length+(b.length - 1):=by show ((a.length:Int)+(b.length:Int) - 1).toNat=_;omega
 rw [e3,e4]
 have e5:tr (eqL a b) (a.length - 1)=tr a (a.length - 1):=by
  have h1:tr (eqL a b) (a.length - 1)=tr (joinL a b) (a.length - 1):=tr_app (joinL a b) [eqN a b] (by omega)
  have h2:tr (joinL a b) (a.length - 1)=tr a (a.length - 1):=tr_app a (b.map (shN a.length)) (by omega)
  rw [h1,h2]
 have e6:tr (eqL a b) (a.length+(b.length - 1))=tr b (b.length - 1):=by
  have h1:tr (eqL a b) (a.length+(b.length - 1))=tr (joinL a b) (a.length+(b.length - 1)):=tr_app (joinL a b) [eqN a b] (by omega)
  rw [h1,tr_join (down_of hB) (down_of hJ) (b.length - 1) (by omega)]
 rw [e5,e6]
 rfl
theorem fit_some {x:Tr} {e:List Int}:fitT x e=true↔∃ r,needT x=some r/\Fits r e:=by
 unfold fitT
 cases hn:needT x with
 | none=>simp
 | some r =>
   constructor
   ·intro h;exact ⟨r,rfl,fit_iff.1 h⟩
   ·rintro ⟨r',h1,h2⟩;cases h1;exact fit_iff.2 h2
theorem Fits.both {r s:List Nat} {e:List Int} (h1:Fits r e) (h2:Fits s e):Fits (orL r s) e:=fun v hv j hj1 hj8 hb=>by
 rw [or_at r s hv,Nat.testBit_or] at hb
 cases h9:(r.getD v 0).testBit j
 ·rw [h9,Bool.false_or] at hb;exact h2 v hv j hj1 hj8 hb
 ·exact h1 v hv j hj1 hj8 h9
theorem fit_two {op w:Int} {x y:Tr} {e:List Int}:fitT (.two op w x y) e=true↔fitT x e=true/\fitT y e=true:=by
 rw [fit_some,fit_some,fit_some]
 constructor
 ·rintro ⟨r,h,hF⟩
  simp only [needT] at h
  obtain ⟨a,b,h1,h2,rfl⟩:=need_two h
  exact ⟨⟨a,h1,hF.left⟩,⟨b,h2,hF.right⟩⟩
 ·rintro ⟨⟨a,h1,hF1⟩,⟨b,h2,hF2⟩⟩
  refine ⟨orL a b,?_,Fits.both hF1 hF2⟩
  simp only [needT,h1,h2,Option.bind_some]
theorem eq_worth {x y:Tr} {e:List Int} (hx:Rt x) (hy:Rt y) (he:e.length=8) (h1:fitT x e=true) (h2:fitT y e=true):vT (.two 13 1 x y) e=if vT x e=vT y e then 1 else 0:=by
 obtain ⟨r,hr,hF⟩:=fit_some.1 h1
 obtain ⟨s,hs,hG⟩:=fit_some.1 h2
 have v1:=wok_lt (value_word x r e hx hr he hF)
 have v2:=wok_lt (value_word y s e hy hs he hG)
 simp only [vT]
 rw [app_in (by decide) hx.wid v1 v2 (by decide)]
 rfl
theorem root_rt {l:List Nd} (hT:termOk l=true):Rt (root l):=(rt_all (down_of hT) (fun i hi=>term_node hT hi) _ (by have:=(term_len hT).1;omega)).1
theorem eq_core {a b:List Nd} {x:Int} (h:eqV a b=some x):(x=0\/x=1) /\
 (x=1->∀ e:List Int,e.length=8->fitT (root a) e=true->fitT (root b) e=true->vT (root a) e=vT (root b) e) /\
 (x=0->∃ e:List Int,e.length=8/\fitT (root a) e=true/\fitT (root b) e=true/\vT (root a) e≠vT (root b) e):=by
 cases hA:termOk a
 ·rw [eq_no1 hA] at h;cases h
 cases hB:termOk b
 ·rw [eq_no2 hB] at h;cases h
 rw [eq_yes hA hB] at h
 obtain ⟨_,hT,hw,hC,_,_,hv,hx⟩:=holds_closed h
 have hR:=root_eq hA hB hT
 refine ⟨hx,fun h1 e he hf hg=>?_,fun h0=>?_⟩
 ·subst h1
  have h2:=closed_one hT hw hC hv he (by rw [hR];exact fit_two.2 ⟨hf,hg⟩)
  rw [hR,eq_worth (root_rt hA) (root_rt hB) he hf hg] at h2
  by_cases h3:vT (root a) e=vT (root b) e
  ·exact h3
  ·rw [if_neg h3] at h2;cases h2
 ·subst h0
  obtain ⟨e,he⟩:=closed_zero hT hw hC 8 (Nat.le_refl _) _ hv
  obtain ⟨_,h8,_,hf,hx0⟩:=value_parts.1 he
  rw [hR] at hf hx0
  obtain ⟨h1,h2⟩:=fit_two.1 hf
  refine ⟨e,h8,h1,h2,fun h3=>?_⟩
  rw [eq_worth (root_rt hA) (root_rt hB) h8 h1 h2,if_pos h3] at hx0
  cases hx0
theorem eq_self {a:List Nd} {x:Int} (h:eqV a a=some x):x=1:=by
 obtain ⟨h1,_,h0⟩:=eq_core h
 rcases h1 with h1|h1
 ·obtain ⟨e,_,_,_,hne⟩:=h0 h1
  exact absurd rfl hne
 ·exact h1
theorem eq_turn {a b:List Nd} {x y:Int} (h:eqV a b=some x) (h':eqV b a=some y):x=y:=by
 obtain ⟨h1,h11,h10⟩:=eq_core h
 obtain ⟨g1,g11,g10⟩:=eq_core h'
 rcases h1 with h1|h1<;>rcases g1 with g1|g1
 ·rw [h1,g1]
 ·obtain ⟨e,h8,hf,hg,hne⟩:=h10 h1
  exact absurd (g11 g1 e h8 hg hf).symm hne
 ·obtain ⟨e,h8,hf,hg,hne⟩:=g10 g1
  exact absurd (h11 h1 e h8 hg hf).symm hne
 ·rw [h1,g1]
theorem eq_same {a b:List Nd} {x p q:Int} {e:List Int} (h:eqV a b=some x) (hx:x≠0) (ha:valueL a e=some p) (hb:valueL b e=some q):p=q:=by
 obtain ⟨h1,h11,_⟩:=eq_core h
 have hx1:x=1:=by
  rcases h1 with h1|h1
  ·exact absurd h1 hx
  ·exact h1
 obtain ⟨_,h8,_,hf,hp⟩:=value_parts.1 ha
 obtain ⟨_,_,_,hg,hq⟩:=value_parts.1 hb
 rw [<- hp,<- hq]
 exact h11 hx1 e h8 hf hg
end Vc2
end Go.Proofs.YthanhcobfehmnaaGreat
