/- Small texts of mine, one behind the other. -/
import Derived.Deep.RegionWith
import Derived.Laws.MakeOwn
import Derived.Test.YtnbenffechplgaaGreatPkVE29
import Derived.Test.YtnbenffechplgaaGreatPkVE31
import Derived.Test.YtnbenffechplgaaGreatPkVE13
import Derived.Test.YtnbenffechplgaaGreatAm9
import Derived.Test.YtnbenffechplgaaGreatPkVE25
import Derived.Test.YtnbenffechplgaaGreatPkVE0
import Derived.Test.YtnbenffechplgaaGreatPkVE1
import Derived.Test.YtnbenffechplgaaGreatPkVE5
import Derived.Test.YtnbenffechplgaaGreatPkVE4
/- The program's Valid and Equal. Region 4 of Equal step by step. -/
namespace Go.Proofs.YtnbenffechplgaaGreat.Pb12
open Go.RowKit
open Nd0 Nd3 Tm0 Tm8 Ap15 Aq0 Aq1 Aq12 Pb3 Vl5
open Ap2 (Own)
open Lx1 (ITermOk)
open Ic4 (IHolds)
open Pb9 (iCloseAll)
open Pb11 (iJoin)
set_option linter.unusedVariables false

theorem node_one (W : World) (op w k a b c : Int) : ∀ i (h : i < [(⟨op, w, k, a, b, c⟩ : Nd)].length), NodeAt (W.alloc (.cells #[.int .i64 op, .int .i64 w, .int .i64 k, .int .i64 a, .int .i64 b, .int .i64 c] 35)) W.heap.size (0 + i * 6) [(⟨op, w, k, a, b, c⟩ : Nd)][i] := by
  intro i hi
  have e : i = 0 := by simp at hi; omega
  subst e
  exact ⟨by simp, by simp, by simp, by simp, by simp, by simp⟩
set_option maxRecDepth 100000 in
set_option maxHeartbeats 2000000 in
theorem iValid (hTO : ITermOk) (hHO : IHolds) (w : World) (a : Option Addr) (l : List Nd) (c : Nat) (hN : Nodes w a l) (hcap : l.length ≤ c) :
    Calls Tryz.prog 8 #[.slice a l.length c] w fun e w' => e = .returned (.tuple #[.int .i64 ((holdsL (clL l)).getD 0), .bool (holdsL (clL l)).isSome]) ∧ Below w.heap.size w w' := by
  have HN : Hid (Nodes w a l) := hN
  have HTO : Hid ITermOk := hTO
  have HHO : Hid IHolds := hHO
  have HCAP : Hid (l.length ≤ c) := hcap
  clear hN hTO hHO hcap
  go_enter Tryz.func8, Tryz.ntmps8
  go_wp2_with fail
  refine (iCloseAll HTO.out _ _ l c HN.out HCAP.out).mono ?_
  rintro e w1 ⟨⟨a', c', rfl, hw1, hc1⟩, hb1⟩
  have HW1 : Hid (Nodes w1 a' (clL l)) := hw1.nodes
  have HC1 : Hid ((clL l).length ≤ c') := hc1
  have HB1 : Hid (Below w.heap.size w w1) := hb1
  have HL8 : Hid ((clL l).length ≤ 1048576) := Nat.le_trans (clL_le l) (by omega)
  clear hw1 hb1 hc1
  generalize hu : clL l = u at HW1 HC1 HL8 ⊢
  have HU : Hid (clL l = u) := hu
  clear hu
  go_wp2_with fail
  refine (HHO.out _ _ u c' HW1.out HC1.out HL8.out).mono ?_
  rintro e w2 ⟨rfl, hb2⟩
  have HB2 : Hid (Below w.heap.size w w2) := HB1.out.trans (hb2.mono HB1.out.size)
  clear hb2
  go_wp2
  go_ret2
  rw [HU.out]
  exact ⟨rfl, HB2.out⟩

def eqN (a b : List Nd) : Nd := ⟨13, 1, 0, (a.length : Int) - 1, (a.length : Int) + (b.length : Int) - 1, 0⟩
def eqL (a b : List Nd) : List Nd := joinL a b ++ [eqN a b]
def eqV (a b : List Nd) : Option Int := if termOk a && termOk b then holdsL (clL (eqL a b)) else none
theorem eq_no1 {a b : List Nd} (h : termOk a = false) : eqV a b = none := by unfold eqV; rw [h]; rfl
theorem eq_no2 {a b : List Nd} (h : termOk b = false) : eqV a b = none := by unfold eqV; rw [h, Bool.and_false]; rfl
theorem eq_yes {a b : List Nd} (h : termOk a = true) (h2 : termOk b = true) : eqV a b = holdsL (clL (eqL a b)) := by unfold eqV; rw [h, h2]; rfl

set_option maxRecDepth 100000 in
set_option maxHeartbeats 4000000 in
theorem iEqual (hTO : ITermOk) (hHO : IHolds) (w : World) (a1 a2 : Option Addr) (l1 l2 : List Nd) (c1 c2 : Nat) (hN1 : Nodes w a1 l1) (hN2 : Nodes w a2 l2) (hc1 : l1.length ≤ c1) (hc2 : l2.length ≤ c2) :
    Calls Tryz.prog 11 #[.slice a1 l1.length c1, .slice a2 l2.length c2] w fun e w' => e = .returned (.tuple #[.int .i64 ((eqV l1 l2).getD 0), .bool (eqV l1 l2).isSome]) ∧ Below w.heap.size w w' := by
  have HN1 : Hid (Nodes w a1 l1) := hN1
  have HN2 : Hid (Nodes w a2 l2) := hN2
  have HTO : Hid ITermOk := hTO
  have HHO : Hid IHolds := hHO
  have HC1 : Hid (l1.length ≤ c1) := hc1
  have HC2 : Hid (l2.length ≤ c2) := hc2
  clear hN1 hN2 hTO hHO hc1 hc2
  go_enter Tryz.func11, Tryz.ntmps11
  go_wp2_with fail
  refine (iTO HTO.out _ _ l1 c1 HN1.out HC1.out).mono ?_
  rintro e w1 ⟨rfl, hb1⟩
  have HB1 : Hid (Below w.heap.size w w1) := hb1
  clear hb1
  cases hT1 : termOk l1
  · have HE : Hid (eqV l1 l2 = none) := eq_no1 hT1
    go_wp2
    go_ret2
    rw [HE.out]
    exact ⟨rfl, HB1.out⟩
  · have HT1 : Hid (termOk l1 = true) := hT1
    clear hT1
    go_wp2_with fail
    refine (iTO HTO.out _ _ l2 c2 (HN2.out.below HB1.out) HC2.out).mono ?_
    rintro e w2 ⟨rfl, hb2⟩
    have HB2 : Hid (Below w.heap.size w w2) := HB1.out.trans (hb2.mono HB1.out.size)
    clear hb2 HB1
    cases hT2 : termOk l2
    · have HE : Hid (eqV l1 l2 = none) := eq_no2 hT2
      go_wp2
      go_ret2
      rw [HE.out]
      exact ⟨rfl, HB2.out⟩
    · have HT2 : Hid (termOk l2 = true) := hT2
      have HE : Hid (eqV l1 l2 = holdsL (clL (eqL l1 l2))) := eq_yes HT1.out hT2
      obtain ⟨h11, h12⟩ := term_len HT1.out
      obtain ⟨h21, h22⟩ := term_len hT2
      clear hT2
      obtain ⟨W2, hW2⟩ : ∃ W2 : World, W2 = w2.alloc (.cells #[.slice a1 l1.length c1, .slice a2 l2.length c2] 26) := ⟨_, rfl⟩
      have hb2 : Below w2.heap.size w2 W2 := by rw [hW2]; exact (Below.refl _ _).alloc (Nat.le_refl _) _
      have HB3 : Hid (Below w.heap.size w W2) := HB2.out.trans (hb2.mono HB2.out.size)
      have q0 : W2.cell? ⟨w2.heap.size, 0, none⟩ = some (.slice a1 l1.length c1) := by rw [hW2, World.cell?_alloc_new]; rfl
      have q1 : W2.cell? ⟨w2.heap.size, 0 + 1, none⟩ = some (.slice a2 l2.length c2) := by rw [hW2, World.cell?_alloc_new]; rfl
      have HJ : Hid (Calls Tryz.prog 21 #[.slice (some ⟨w2.heap.size, 0, none⟩) 2 2] W2 fun e w' => (∃ g cp rg rc, e = .returned (.tuple #[.slice (some ⟨g, 0, none⟩) (joinL l1 l2).length cp, .slice (some ⟨rg, 0, none⟩) 2 rc]) ∧ Own w' W2.heap.size (.slice (some ⟨g, 0, none⟩) (joinL l1 l2).length cp) (joinL l1 l2) ∧ w'.cell? ⟨rg, 0, none⟩ = some (.int .i64 ((l1.length : Int) - 1)) ∧ w'.cell? ⟨rg, 1, none⟩ = some (.int .i64 ((l1.length : Int) + (l2.length : Int) - 1)) ∧ rg ≠ g) ∧ Below W2.heap.size W2 w') :=
        iJoin W2 w2.heap.size 0 2 a1 a2 l1 l2 c1 c2 (HN1.out.below HB3.out) (HN2.out.below HB3.out) (down_of HT1.out) (down_of HT2.out) ⟨h11, h12⟩ ⟨h21, h22⟩ q0 q1
      clear q0 q1 hb2 HB2
      go_wp2_with fail
      rw [← hW2]
      refine HJ.out.mono ?_
      rintro e w3 ⟨⟨g, cp, rg, rc, rfl, ho3, r0, r1, hrg⟩, hb3⟩
      have HO3 : Hid (Own w3 W2.heap.size (.slice (some ⟨g, 0, none⟩) (joinL l1 l2).length cp) (joinL l1 l2)) := ho3
      have HB4 : Hid (Below w.heap.size w w3) := HB3.out.trans (hb3.mono HB3.out.size)
      have HRG : Hid (rg ≠ g) := hrg
      have HS3 : Hid (W2.heap.size ≤ w3.heap.size) := hb3.size
      have HJL : Hid ((joinL l1 l2).length ≤ 160) := by show _ ≤ _; rw [joinL_length]; omega
      have HEN : Hid (eqN l1 l2 = ⟨13, 1, 0, (l1.length : Int) - 1, (l1.length : Int) + (l2.length : Int) - 1, 0⟩) := rfl
      have HEL : Hid (joinL l1 l2 ++ [eqN l1 l2] = eqL l1 l2) := rfl
      have HR : Hid (w3.cell? ⟨rg, 0, none⟩ = some (.int .i64 ((l1.length : Int) - 1)) ∧ w3.cell? ⟨rg, 1, none⟩ = some (.int .i64 ((l1.length : Int) + (l2.length : Int) - 1))) := ⟨r0, r1⟩
      have HWS : Hid (w.heap.size ≤ W2.heap.size) := HB3.out.size
      have HSX0 : ∀ W, Below w3.heap.size w3 W → W.cell? ⟨rg, 0, none⟩ = some (.int .i64 ((l1.length : Int) - 1)) ∧ W.cell? ⟨rg, 1, none⟩ = some (.int .i64 ((l1.length : Int) + (l2.length : Int) - 1)) := fun W hW => ⟨(hW.cell (lt_of_cell r0)).trans r0, (hW.cell (lt_of_cell r1)).trans r1⟩
      clear hW2 ho3 r0 r1 hrg hb3 HJ HB3
      generalize eqN l1 l2 = y at HEN HEL
      generalize joinL l1 l2 = X at HO3 HJL HEL ⊢
      generalize hE : eqL l1 l2 = E at HEL
      have HEE : Hid (eqL l1 l2 = E) := hE
      clear hE
      obtain ⟨z0, hz0⟩ : ∃ z0 : Int, z0 = (l1.length : Int) - 1 := ⟨_, rfl⟩
      obtain ⟨z1, hz1⟩ : ∃ z1 : Int, z1 = (l1.length : Int) + (l2.length : Int) - 1 := ⟨_, rfl⟩
      rw [← hz0, ← hz1] at HEN HR HSX0
      have HSX : Hid (∀ W, Below w3.heap.size w3 W → W.cell? ⟨rg, 0, none⟩ = some (.int .i64 z0) ∧ W.cell? ⟨rg, 1, none⟩ = some (.int .i64 z1)) := HSX0
      have HYE : Hid (X ++ [⟨13, 1, 0, z0, z1, 0⟩] = E) := by show _ = _; rw [← HEL.out, HEN.out]
      clear hz0 hz1 HSX0
      go_wp2_with fail
      refine wp_region_held_drew (S := fun W => W.cell? ⟨rg, 0, none⟩ = some (.int .i64 z0) ∧ W.cell? ⟨rg, 1, none⟩ = some (.int .i64 z1)) (by kernel_rfl) ⟨HR.out.1, HR.out.2⟩ (fun hHeld => ?_)
      refine wpAnyH_take (i := 0) (v := ?_) rfl (by kernel_rfl) (by kernel_rfl) (by kernel_rfl) (fun _ _ _ h => h) (Or.inl ⟨by rfl, ?_⟩) hHeld ?_
      rotate_left
      · intro v9 hS9
        try dsimp only at hS9
        skip
        go_simp
        try with_reducible rfl
      try simp only [Act.put, List.setIfInBounds_toArray, List.set_cons_zero, List.set_cons_succ, List.getElem_toArray, List.getElem_cons_zero]
      refine wpAnyH_take (i := 1) (v := ?_) rfl (by kernel_rfl) (by kernel_rfl) (by kernel_rfl) (fun _ _ _ h => h) (Or.inl ⟨by rfl, ?_⟩) hHeld ?_
      rotate_left
      · intro v9 hS9
        try dsimp only at hS9
        skip
        go_simp
        try with_reducible rfl
      try simp only [Act.put, List.setIfInBounds_toArray, List.set_cons_zero, List.set_cons_succ, List.getElem_toArray, List.getElem_cons_zero, List.getElem_cons_succ]
      refine wpAnyH_take (i := 2) (v := ?_) rfl (by kernel_rfl) (by kernel_rfl) (by kernel_rfl) (fun _ _ _ h => h) (Or.inl ⟨by rfl, ?_⟩) hHeld ?_
      rotate_left
      · intro v9 hS9
        try dsimp only at hS9
        skip
        go_simp
        try with_reducible rfl
      try simp only [Act.put, List.setIfInBounds_toArray, List.set_cons_zero, List.set_cons_succ, List.getElem_toArray, List.getElem_cons_zero, List.getElem_cons_succ]
      refine wpAnyH_take (i := 3) (v := ?_) rfl (by kernel_rfl) (by kernel_rfl) (by kernel_rfl) (fun _ _ _ h => h) (Or.inl ⟨by rfl, ?_⟩) hHeld ?_
      rotate_left
      · intro v9 hS9
        try dsimp only at hS9
        obtain ⟨s0, s1⟩ := hS9
        go_simp
        try with_reducible rfl
      try simp only [Act.put, List.setIfInBounds_toArray, List.set_cons_zero, List.set_cons_succ, List.getElem_toArray, List.getElem_cons_zero, List.getElem_cons_succ]
      refine wpAnyH_take (i := 4) (v := ?_) rfl (by kernel_rfl) (by kernel_rfl) (by kernel_rfl) (fun _ _ _ h => h) (Or.inl ⟨by rfl, ?_⟩) hHeld ?_
      rotate_left
      · intro v9 hS9
        try dsimp only at hS9
        skip
        go_simp
        try with_reducible rfl
      try simp only [Act.put, List.setIfInBounds_toArray, List.set_cons_zero, List.set_cons_succ, List.getElem_toArray, List.getElem_cons_zero, List.getElem_cons_succ]
      refine wpAnyH_take (i := 5) (v := ?_) rfl (by kernel_rfl) (by kernel_rfl) (by kernel_rfl) (fun _ _ _ h => h) (Or.inl ⟨by rfl, ?_⟩) hHeld ?_
      rotate_left
      · intro v9 hS9
        try dsimp only at hS9
        skip
        go_simp
        try with_reducible rfl
      try simp only [Act.put, List.setIfInBounds_toArray, List.set_cons_zero, List.set_cons_succ, List.getElem_toArray, List.getElem_cons_zero, List.getElem_cons_succ]
      refine wpAnyH_take (i := 6) (v := ?_) rfl (by kernel_rfl) (by kernel_rfl) (by kernel_rfl) (fun _ _ _ h => h) (Or.inl ⟨by rfl, ?_⟩) hHeld ?_
      rotate_left
      · intro v9 hS9
        try dsimp only at hS9
        obtain ⟨s0, s1⟩ := hS9
        go_simp
        try with_reducible rfl
      try simp only [Act.put, List.setIfInBounds_toArray, List.set_cons_zero, List.set_cons_succ, List.getElem_toArray, List.getElem_cons_zero, List.getElem_cons_succ]
      refine wpAnyH_take (i := 7) (v := ?_) rfl (by kernel_rfl) (by kernel_rfl) (by kernel_rfl) (fun _ _ _ h => h) (Or.inl ⟨by rfl, ?_⟩) hHeld ?_
      rotate_left
      · intro v9 hS9
        try dsimp only at hS9
        skip
        go_simp
        try with_reducible rfl
      try simp only [Act.put, List.setIfInBounds_toArray, List.set_cons_zero, List.set_cons_succ, List.getElem_toArray, List.getElem_cons_zero, List.getElem_cons_succ]
      refine wpAnyH_ready (rs := [8]) (by kernel_rfl) (by simp) ?_
      refine (AllReadyH.cons rfl (fun K hK => ?_) AllReadyH.nil)
      go_simp
      refine hK.out _ _ (HSX.out _ (((Below.refl w3.heap.size w3).drew).alloc (Nat.le_refl _) _)) (fun hNext => ?_)
      clear hK K hHeld
      have hHeld := hNext
      clear hNext
      try simp only [Act.put, List.setIfInBounds_toArray, List.set_cons_zero, List.set_cons_succ, List.getElem_toArray, List.getElem_cons_zero, List.getElem_cons_succ]
      refine wpAnyH_ready (rs := [9]) (by kernel_rfl) (by simp) ?_
      refine (AllReadyH.cons rfl (fun K hK => ?_) AllReadyH.nil)
      refine step_any (w3.drew.alloc (.cells #[.int .i64 13, .int .i64 1, .int .i64 0, .int .i64 z0, .int .i64 z1, .int .i64 0] 35)) rfl _ _ rfl W2.heap.size g cp X [⟨13, 1, 0, z0, z1, 0⟩] E HYE.out w3.heap.size 0 1 X.length 1 rfl rfl rfl rfl (node_one w3.drew 13 1 0 z0 z1 0) (by simp) (HO3.out.kept (S := fun _ => False) (Kept.ofBelow (((Below.refl w3.heap.size w3).drew).alloc (Nat.le_refl _) _)) (fun _ _ h => h)) (by have := HS3.out; simp; omega) (by have := HJL.out; simp; omega) ?_
      intro g5 cp5 w5 ho5 hk5 hg5
      have HB5 : Hid (Below w.heap.size w w5) := (HB4.out.trans ((((Below.refl w3.heap.size w3).drew).alloc (Nat.le_refl _) _).mono HB4.out.size)).trans (hk5.below (fun b (hb : b = g) => by have := (HO3.out.lt g rfl).1; have := HWS.out; omega) (by have := HB4.out.size; simp; omega))
      have HV5 : Hid (Calls Tryz.prog 8 #[.slice (some ⟨g5, 0, none⟩) E.length cp5] w5 fun e w' => e = .returned (.tuple #[.int .i64 ((holdsL (clL E)).getD 0), .bool (holdsL (clL E)).isSome]) ∧ Below w5.heap.size w5 w') := by
        obtain ⟨av, cv, hv, hw⟩ := ho5.form
        have hcap := (Ap7.own_cap ho5).2
        cases hv
        exact iValid HTO.out HHO.out w5 (some ⟨g5, 0, none⟩) E cp5 hw.nodes hcap
      have HS5 : Hid (w5.cell? ⟨rg, 0, none⟩ = some (.int .i64 z0) ∧ w5.cell? ⟨rg, 1, none⟩ = some (.int .i64 z1)) := by
        have h := HSX.out _ (((Below.refl w3.heap.size w3).drew).alloc (Nat.le_refl _) (.cells #[.int .i64 13, .int .i64 1, .int .i64 0, .int .i64 z0, .int .i64 z1, .int .i64 0] 35))
        exact ⟨(hk5.cell (lt_of_cell h.1) HRG.out).trans h.1, (hk5.cell (lt_of_cell h.2) HRG.out).trans h.2⟩
      clear ho5 hk5 hg5
      refine hK.out _ _ HS5.out (fun hNext => ?_)
      clear hK K hHeld
      have hHeld := hNext
      clear hNext
      try simp only [Act.put, List.setIfInBounds_toArray, List.set_cons_zero, List.set_cons_succ, List.getElem_toArray, List.getElem_cons_zero, List.getElem_cons_succ]
      refine wpAnyH_ready (rs := [10]) (by kernel_rfl) (by simp) ?_
      refine (AllReadyH.cons rfl (fun K hK => ?_) AllReadyH.nil)
      refine step_call (f := 8) (args := #[.slice (some ⟨g5, 0, none⟩) E.length cp5]) rfl (by go_simp) ?_
      refine HV5.out.mono ?_
      rintro e w6 ⟨rfl, hb6⟩
      have HB6 : Hid (Below w.heap.size w w6) := HB5.out.trans (hb6.mono HB5.out.size)
      have HS6 : Hid (w6.cell? ⟨rg, 0, none⟩ = some (.int .i64 z0) ∧ w6.cell? ⟨rg, 1, none⟩ = some (.int .i64 z1)) := ⟨(hb6.cell (lt_of_cell HS5.out.1)).trans HS5.out.1, (hb6.cell (lt_of_cell HS5.out.2)).trans HS5.out.2⟩
      clear hb6
      refine ⟨_, rfl, ?_⟩
      refine hK.out _ _ HS6.out (fun hNext => ?_)
      clear hK K hHeld
      have hHeld := hNext
      clear hNext
      try simp only [Act.put, List.setIfInBounds_toArray, List.set_cons_zero, List.set_cons_succ, List.getElem_toArray, List.getElem_cons_zero, List.getElem_cons_succ]
      refine wpAnyH_take (i := 11) (v := ?_) rfl (by kernel_rfl) (by kernel_rfl) (by kernel_rfl) (fun _ _ _ h => h) (Or.inl ⟨by rfl, ?_⟩) hHeld ?_
      rotate_left
      · intro v9 hS9
        try dsimp only at hS9
        skip
        go_simp
        try with_reducible rfl
      try simp only [Act.put, List.setIfInBounds_toArray, List.set_cons_zero, List.set_cons_succ, List.getElem_toArray, List.getElem_cons_zero, List.getElem_cons_succ]
      refine wpAnyH_take (i := 12) (v := ?_) rfl (by kernel_rfl) (by kernel_rfl) (by kernel_rfl) (fun _ _ _ h => h) (Or.inl ⟨by rfl, ?_⟩) hHeld ?_
      rotate_left
      · intro v9 hS9
        try dsimp only at hS9
        skip
        go_simp
        try with_reducible rfl
      try simp only [Act.put, List.setIfInBounds_toArray, List.set_cons_zero, List.set_cons_succ, List.getElem_toArray, List.getElem_cons_zero, List.getElem_cons_succ]
      refine wpAnyH_take (i := 13) (v := ?_) rfl (by kernel_rfl) (by kernel_rfl) (by kernel_rfl) (fun _ _ _ h => h) (Or.inl ⟨by rfl, ?_⟩) hHeld ?_
      rotate_left
      · intro v9 hS9
        try dsimp only at hS9
        skip
        go_simp
        try with_reducible rfl
      try simp only [Act.put, List.setIfInBounds_toArray, List.set_cons_zero, List.set_cons_succ, List.getElem_toArray, List.getElem_cons_zero, List.getElem_cons_succ]
      refine wpAnyH_take (i := 14) (v := ?_) rfl (by kernel_rfl) (by kernel_rfl) (by kernel_rfl) (fun _ _ _ h => h) (Or.inl ⟨by rfl, ?_⟩) hHeld ?_
      rotate_left
      · intro v9 hS9
        try dsimp only at hS9
        skip
        go_simp
        try with_reducible rfl
      try simp only [Act.put, List.setIfInBounds_toArray, List.set_cons_zero, List.set_cons_succ, List.getElem_toArray, List.getElem_cons_zero, List.getElem_cons_succ]
      refine wpAnyH_done (by kernel_rfl) ?_ _
      clear hHeld
      go_wp2
      go_ret2
      rw [HE.out, HEE.out]
      exact ⟨rfl, HB6.out⟩

end Go.Proofs.YtnbenffechplgaaGreat.Pb12

/- The walks of the model's Valid and Equal. -/
namespace Go.Proofs.YtnbenffechplgaaGreat.Am10
open Go.RowKit
open Nd0 Nd3 Tm0 Tm8 Aq0 Aq1 Aq12 Vl5
open Ap2 (Own app_node)
open Sv6 (vRes)
open Sv7 (sHolds)
open Am8 (sCloseAll)
open Am9 (sJoin)
open Pb12 (eqN eqL eqV eq_no1 eq_no2 eq_yes)
set_option linter.unusedVariables false

theorem holds_nil : holdsL [] = none := by
  unfold holdsL
  have : Tm6.sentB [] = false := Tm6.sent_term (by decide)
  rw [this]; rfl

set_option maxRecDepth 100000 in
set_option maxHeartbeats 2000000 in
theorem sValid (w : World) (a : Option Addr) (l : List Nd) (c : Nat) (hN : Nodes w a l) :
    Calls Tryz.prog 6 #[.slice a l.length c] w fun e w' => e = .returned (.tuple #[.int .i64 ((holdsL (clL l)).getD 0), .bool (holdsL (clL l)).isSome]) ∧ Below w.heap.size w w' := by
  have HN : Hid (Nodes w a l) := hN
  clear hN
  go_enter Tryz.func6, Tryz.ntmps6
  go_wp2_with fail
  refine (sCloseAll _ _ l c HN.out).mono ?_
  rintro e w1 ⟨⟨a', c', rfl, hw1⟩, hb1⟩
  have HW1 : Hid (Nodes w1 a' (clL l)) := hw1.nodes
  have HB1 : Hid (Below w.heap.size w w1) := hb1
  have HCB : Hid (clB l = false → clL l = []) := fun h => by unfold clL; rw [h]; rfl
  clear hw1 hb1
  cases hc : clB l
  · have HE : Hid (clL l = []) := HCB.out hc
    clear hc
    go_wp2
    go_ret2
    rw [HE.out, holds_nil]
    exact ⟨rfl, HB1.out⟩
  · clear hc HCB
    generalize hu : clL l = u at HW1 ⊢
    have HU : Hid (clL l = u) := hu
    clear hu
    go_wp2_with fail
    refine (sHolds _ _ u c' HW1.out).mono ?_
    unfold vRes
    rintro e w2 ⟨rfl, hb2⟩
    have HB2 : Hid (Below w.heap.size w w2) := HB1.out.trans (hb2.mono HB1.out.size)
    clear hb2
    go_wp2
    go_ret2
    rw [HU.out]
    exact ⟨rfl, HB2.out⟩

set_option maxRecDepth 100000 in
set_option maxHeartbeats 4000000 in
theorem sEqual (w : World) (a1 a2 : Option Addr) (l1 l2 : List Nd) (c1 c2 : Nat) (hN1 : Nodes w a1 l1) (hN2 : Nodes w a2 l2) :
    Calls Tryz.prog 10 #[.slice a1 l1.length c1, .slice a2 l2.length c2] w fun e w' => e = .returned (.tuple #[.int .i64 ((eqV l1 l2).getD 0), .bool (eqV l1 l2).isSome]) ∧ Below w.heap.size w w' := by
  have HN1 : Hid (Nodes w a1 l1) := hN1
  have HN2 : Hid (Nodes w a2 l2) := hN2
  clear hN1 hN2
  go_enter Tryz.func10, Tryz.ntmps10
  go_wp2_with fail
  refine (Sp4.sTermOk _ _ l1 c1 HN1.out).mono ?_
  rintro e w1 ⟨rfl, hb1⟩
  have HB1 : Hid (Below w.heap.size w w1) := hb1
  clear hb1
  cases hT1 : termOk l1
  · have HE : Hid (eqV l1 l2 = none) := eq_no1 hT1
    go_wp2
    go_ret2
    rw [HE.out]
    exact ⟨rfl, HB1.out⟩
  · have HT1 : Hid (termOk l1 = true) := hT1
    clear hT1
    go_wp2_with fail
    refine (Sp4.sTermOk _ _ l2 c2 (HN2.out.below HB1.out)).mono ?_
    rintro e w2 ⟨rfl, hb2⟩
    have HB2 : Hid (Below w.heap.size w w2) := HB1.out.trans (hb2.mono HB1.out.size)
    clear hb2 HB1
    cases hT2 : termOk l2
    · have HE : Hid (eqV l1 l2 = none) := eq_no2 hT2
      go_wp2
      go_ret2
      rw [HE.out]
      exact ⟨rfl, HB2.out⟩
    · have HT2 : Hid (termOk l2 = true) := hT2
      have HE : Hid (eqV l1 l2 = holdsL (clL (eqL l1 l2))) := eq_yes HT1.out hT2
      obtain ⟨h11, h12⟩ := term_len HT1.out
      obtain ⟨h21, h22⟩ := term_len hT2
      clear hT2
      go_wp2_with fail
      refine (sJoin _ a1 a2 l1 l2 c1 c2 (HN1.out.below HB2.out) (HN2.out.below HB2.out) ⟨h11, h12⟩ h22 (down_of HT2.out)).mono ?_
      rintro e w3 ⟨⟨g, cp, rfl, ho3⟩, hb3⟩
      have HO3 : Hid (Own w3 w2.heap.size (.slice (some ⟨g, 0, none⟩) (joinL l1 l2).length cp) (joinL l1 l2)) := ho3
      have HB3 : Hid (Below w.heap.size w w3) := HB2.out.trans (hb3.mono HB2.out.size)
      have HS3 : Hid (w2.heap.size ≤ w3.heap.size) := hb3.size
      have HW2 : Hid (w.heap.size ≤ w2.heap.size) := HB2.out.size
      have hjl : (joinL l1 l2).length = l1.length + l2.length := joinL_length l1 l2
      have HJL : Hid ((joinL l1 l2).length ≤ 160) := by show _ ≤ _; omega
      have HEN : Hid (eqN l1 l2 = ⟨13, 1, 0, (l1.length : Int) - 1, ((joinL l1 l2).length : Int) - 1, 0⟩) := by show _ = _; rw [hjl]; unfold eqN; simp
      have HEL : Hid (joinL l1 l2 ++ [eqN l1 l2] = eqL l1 l2) := rfl
      have hj1 : 1 ≤ (joinL l1 l2).length := by omega
      have hj2 : (joinL l1 l2).length ≤ 160 := by omega
      clear ho3 hb3 hjl
      generalize eqN l1 l2 = y at HEN HEL
      generalize joinL l1 l2 = X at HO3 HJL HEL HEN hj1 hj2 ⊢
      generalize hE : eqL l1 l2 = E at HEL
      have HEE : Hid (eqL l1 l2 = E) := hE
      clear hE
      have HYE : Hid (X ++ [⟨13, 1, 0, (l1.length : Int) - 1, (X.length : Int) - 1, 0⟩] = E) := by show _ = _; rw [← HEL.out, HEN.out]
      have hs3 : w2.heap.size ≤ w3.heap.size := HS3.out
      go_wp2_with (at_builtin; go_must (refine app_node w3 rfl _ _ rfl w2.heap.size (.slice (some ⟨g, 0, none⟩) X.length cp) X ⟨13, 1, 0, (l1.length : Int) - 1, (X.length : Int) - 1, 0⟩ rfl _ rfl rfl HO3.out hs3 (by omega) ?_; intro g5 cp5 w5 ho5 hk5 hg5))
      have HB5 : Hid (Below w.heap.size w w5) := HB3.out.trans (hk5.below (fun b hb => by have := (HO3.out.lt b hb).1; have := HW2.out; omega) HB3.out.size)
      have HN5 : Hid (Nodes w5 (some ⟨g5, 0, none⟩) E) := by
        rw [HYE.out] at ho5
        obtain ⟨av, cv, hv, hw⟩ := ho5.form
        simp only [Value.slice.injEq] at hv
        rw [hv.1]
        exact hw.nodes
      have HEQ : Hid (X.length + 1 = E.length) := by show _ = _; rw [← HYE.out, List.length_append]; rfl
      clear ho5 hk5 hg5
      rw [HEQ.out]
      go_wp2_with fail
      refine (sValid _ _ E cp5 HN5.out).mono ?_
      rintro e w6 ⟨rfl, hb6⟩
      have HB6 : Hid (Below w.heap.size w w6) := HB5.out.trans (hb6.mono HB5.out.size)
      clear hb6
      go_wp2
      go_ret2
      rw [HE.out, HEE.out]
      exact ⟨rfl, HB6.out⟩

end Go.Proofs.YtnbenffechplgaaGreat.Am10

/- Walks of the exact laws' helpers on slices of nodes. -/
namespace Go.Proofs.YtnbenffechplgaaGreat.Nd2
open Go.RowKit
open Nd0 Nd1
set_option linter.unusedVariables false

set_option maxHeartbeats 1000000 in
theorem eqNodeS (w : World) (a a' : Option Addr) (l : List Nd) (c c' : Nat) (h : Nodes w a l) (h' : Nodes w a' l) :
    Calls Tryz.prog 9 #[.slice a l.length c, .slice a' l.length c'] w fun e w' => e = .returned (.bool true) ∧ Below w.heap.size w w' := by
  have H : Hid (Nodes w a l) := h
  have H' : Hid (Nodes w a' l) := h'
  have hm := h.1
  unfold maxLen at hm
  clear h h'
  go_enter Tryz.func9, Tryz.ntmps9
  go_wp2
  go_loopw [5] (fun i wr => ∃ k : Nat, k ≤ l.length ∧ i = .int .i64 k ∧ Below w.heap.size w wr) (fun i _ => l.length - (intOf i).toNat)
  case atStart => exact ⟨0, Nat.zero_le _, rfl, Below.refl _ _⟩
  case round =>
    obtain ⟨k, hk, rfl, hb⟩ := hrel
    have HB : Hid (Below w.heap.size w wr) := hb
    clear hb
    by_cases hlt : k < l.length
    · have hlz : (k : Int) < (l.length : Int) := by omega
      have HN := H.out.below HB.out
      have HN' := H'.out.below HB.out
      rcases HN.2 with h0 | ⟨xb, xo, rfl, hc⟩
      · omega
      rcases HN'.2 with h0 | ⟨yb, yo, rfl, hc'⟩
      · omega
      obtain ⟨p0, p1, p2, p3, p4, p5⟩ := hc k hlt
      obtain ⟨q0, q1, q2, q3, q4, q5⟩ := hc' k hlt
      clear hc hc' HN HN'
      generalize l[k] = x at p0 p1 p2 p3 p4 p5 q0 q1 q2 q3 q4 q5
      obtain ⟨x0, x1, x2, x3, x4, x5⟩ := x
      simp only at p0 p1 p2 p3 p4 p5 q0 q1 q2 q3 q4 q5
      go_wp2
      go_region_with (go_at_call 17; refine (eqNode _ _ _ _ _ _ _ _ _ _ _ _ true (by simp) _).mono ?_; rintro e w' ⟨rfl, hbe⟩)
      all_goals
        have HB2 : Hid (Below w.heap.size w w') := HB.out.drew.trans (hbe.mono (by have := HB.out.size; simpa using this))
        clear hbe
        go_wp2
        go_roundw
        case rel => exact ⟨k + 1, by omega, by go_num, HB2.out⟩
        case measure => simp [intOf]; omega
    · go_wp2
      go_ret
      exact ⟨rfl, HB.out⟩

set_option maxHeartbeats 400000 in
theorem szNodeS (w : World) (a : Option Addr) (n c : Nat) (left : Int) (h0 : 0 ≤ left) (h1 : left ≤ 1048576) (hn : n ≤ maxLen) :
    Calls Tryz.prog 5 #[.slice a n c, .int .i64 left] w fun e w' => e = .returned (.int .i64 (if (n : Int) ≤ left then left - n else -1)) ∧ w' = w := by
  unfold maxLen at hn
  by_cases hc : (n : Int) ≤ left
  · go_enter Tryz.func5, Tryz.ntmps5
    go_wp2
    go_ret
    exact ⟨rfl, rfl⟩
  · go_enter Tryz.func5, Tryz.ntmps5
    go_wp2
    go_ret
    exact ⟨rfl, rfl⟩

end Go.Proofs.YtnbenffechplgaaGreat.Nd2

/- Lists of nodes that may be written, kept apart by where they lie. -/
namespace Go.Proofs.YtnbenffechplgaaGreat.Nd5
open Go.RowKit
open Nd0 Nd3

def NodesIn (w : World) (B U : Nat) (a : Option Addr) (l : List Nd) : Prop :=
  l.length ≤ maxLen ∧ (l.length = 0 ∨ ∃ b o, a = some ⟨b, o, none⟩ ∧ B ≤ b ∧ b < U ∧ (∀ i (h : i < l.length), NodeAt w b (o + i * 6) l[i]) ∧ ∀ j, j < l.length * 6 → w.frozen? ⟨b, o + j, none⟩ = false)
theorem WNodes.within {w : World} {B : Nat} {a : Option Addr} {l : List Nd} (h : WNodes w B a l) : NodesIn w B w.heap.size a l := by
  refine ⟨h.1, ?_⟩
  by_cases e : l.length = 0
  · exact .inl e
  · rcases h.2 with h0 | ⟨b, o, ha, hB, hc, hf⟩
    · exact .inl h0
    · exact .inr ⟨b, o, ha, hB, (hc 0 (by omega)).lt, hc, hf⟩
theorem NodesIn.wnodes {w : World} {B U : Nat} {a : Option Addr} {l : List Nd} (h : NodesIn w B U a l) : WNodes w B a l := by
  refine ⟨h.1, ?_⟩
  rcases h.2 with h0 | ⟨b, o, ha, hB, _, hc, hf⟩
  · exact .inl h0
  · exact .inr ⟨b, o, ha, hB, hc, hf⟩
theorem NodesIn.kept {w w' : World} {B U : Nat} {a : Option Addr} {l : List Nd} (h : NodesIn w B U a l) {S : Nat → Prop} (k : Kept S w w') (hs : ∀ b, B ≤ b → b < U → ¬ S b) : NodesIn w' B U a l := by
  refine ⟨h.1, ?_⟩
  by_cases e : l.length = 0
  · exact .inl e
  rcases h.2 with h0 | ⟨b, o, rfl, hB, hU, hc, hf⟩
  · exact .inl h0
  · have hb : b < w.heap.size := (hc 0 (by omega)).lt
    have hn : ¬ S b := hs b hB hU
    refine .inr ⟨b, o, rfl, hB, hU, fun i hi => ?_, fun j hj => by rw [k.frozen (p := ⟨b, o + j, none⟩) hb hn]; exact hf j hj⟩
    obtain ⟨c0, c1, c2, c3, c4, c5⟩ := hc i hi
    exact ⟨by rw [k.cell hb hn]; exact c0, by rw [k.cell hb hn]; exact c1, by rw [k.cell hb hn]; exact c2, by rw [k.cell hb hn]; exact c3, by rw [k.cell hb hn]; exact c4, by rw [k.cell hb hn]; exact c5⟩
theorem NodesIn.below {w w' : World} {B U : Nat} {a : Option Addr} {l : List Nd} (h : NodesIn w B U a l) (k : Below w.heap.size w w') : NodesIn w' B U a l :=
  h.kept (S := fun _ => False) (Kept.ofBelow k) (fun _ _ _ h => h)
theorem NodesIn.nodes {w : World} {B U : Nat} {a : Option Addr} {l : List Nd} (h : NodesIn w B U a l) : Nodes w a l := h.wnodes.nodes

end Go.Proofs.YtnbenffechplgaaGreat.Nd5

/- Lists of flags at the exact laws' helpers; the helpers' marks from greater numbers on; copies of lists of whole numbers. -/
namespace Go.Proofs.YtnbenffechplgaaGreat.Nd6
open Go.RowKit
open Nd0 Nd1 Nd2 Nd3 Ap1
set_option linter.unusedVariables false

end Go.Proofs.YtnbenffechplgaaGreat.Nd6
