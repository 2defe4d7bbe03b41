/- Small texts of mine, one behind the other. -/
import Derived.Test.YtnbenffechplgaaGreatPkVE32
import Derived.Test.YtnbenffechplgaaGreatPkVE29
import Derived.Test.YtnbenffechplgaaGreatPkVE26
/- The exact laws of Valid and Equal. Written by tools/mkex.py. -/
namespace Go.Proofs.YtnbenffechplgaaGreat.Lx86
open Go.RowKit
open Nd0 Nd1 Nd2 Nd3 Nd4 Nd5 Nd6 Tm0 Tm3 Aq0 Aq12 Ap0 Vl5
open Am10 (sValid sEqual)
open Pb12 (iValid iEqual eqV)
open Lx1 (ITermOk)
open Ic4 (IHolds)
set_option linter.unusedVariables false

set_option maxRecDepth 100000 in
set_option maxHeartbeats 8000000 in
theorem exValid (hI : ITermOk) (hH : IHolds) (w : World) (a0 : Option Addr) (l0 : List Nd) (c0 : Nat) (hN0 : Nodes w a0 l0) :
    Calls Tryz.prog 3 #[.slice a0 l0.length c0] w fun e w' => e = .returned (.bool true) ∧ Below w.heap.size w w' := by
  have HN0 : Hid (Nodes w a0 l0) := hN0
  have hm0 := hN0.1
  clear hN0
  by_cases hl0s : l0.length ≤ 1048576
  rotate_left
  · skip
    go_enter Tryz.func3, Tryz.ntmps3
    go_wp2_with fail
    refine (szNodeS _ a0 l0.length c0 _ (by omega) (by omega) hm0).mono ?_
    rw [if_neg (by omega)]
    rintro e wz ⟨rfl, hz⟩
    have hz' := hz.symm
    clear hz
    subst hz'
    go_wp2
    go_ret
    exact ⟨rfl, Below.refl _ _⟩
  have hl0 : l0.length ≤ 1048576 := by omega
  go_enter Tryz.func3, Tryz.ntmps3
  go_wp2_with fail
  refine (szNodeS _ a0 l0.length c0 _ (by omega) (by omega) hm0).mono ?_
  rw [if_pos (by omega)]
  rintro e wz ⟨rfl, hz⟩
  have hz' := hz.symm
  clear hz
  subst hz'
  have hp0 : 0 ≤ (1048576 : Int) - (l0.length : Int) := by omega
  have HB0 : Hid (Below w.heap.size w w) := Below.refl _ _
  go_wp2_with fail
  refine (toNodeS _ a0 l0 c0 (HN0.out.below HB0.out) hl0).mono ?_
  rintro e x1 ⟨rfl, hw, hb⟩
  have HB1 : Hid (Below w.heap.size w x1) := HB0.out.trans (hb.mono HB0.out.size)
  have hs1 : w.heap.size ≤ x1.heap.size := hb.size
  have Ht0_1 : Hid (NodesIn x1 w.heap.size x1.heap.size (some ⟨w.heap.size, 0, none⟩) l0) := WNodes.within hw
  clear hw hb
  go_wp2_with fail
  refine (sValid _ _ l0 _ Ht0_1.out.nodes).mono ?_
  rintro e x2 ⟨rfl, hb⟩
  have HB2 : Hid (Below w.heap.size w x2) := HB1.out.trans (hb.mono HB1.out.size)
  have hs2 : x1.heap.size ≤ x2.heap.size := hb.size
  clear hb 
  have hne0 : (((holdsL (clL l0)).getD 0) != ((holdsL (clL l0)).getD 0)) = false := by simp
  have hne1 : ((holdsL (clL l0)).isSome != (holdsL (clL l0)).isSome) = false := by simp
  go_wp2_with fail
  refine (toNodeS _ a0 l0 c0 (HN0.out.below HB2.out) hl0).mono ?_
  rintro e x3 ⟨rfl, hw, hb⟩
  have HB3 : Hid (Below w.heap.size w x3) := HB2.out.trans (hb.mono HB2.out.size)
  have hs3 : x2.heap.size ≤ x3.heap.size := hb.size
  have Hx0_3 : Hid (NodesIn x3 x2.heap.size x3.heap.size (some ⟨x2.heap.size, 0, none⟩) l0) := WNodes.within hw
  clear hw hb
  go_wp2_with fail
  refine (iValid hI hH _ _ l0 _ Hx0_3.out.nodes (Nat.le_refl _)).mono ?_
  rintro e x4 ⟨rfl, hb⟩
  have HB4 : Hid (Below w.heap.size w x4) := HB3.out.trans (hb.mono HB3.out.size)
  have hs4 : x3.heap.size ≤ x4.heap.size := hb.size
  have Hx0_4 : Hid (NodesIn x4 x2.heap.size x3.heap.size (some ⟨x2.heap.size, 0, none⟩) l0) := Hx0_3.out.below hb
  clear hb 
  go_wp2_with fail
  refine (toNodeS _ a0 l0 c0 (HN0.out.below HB4.out) hl0).mono ?_
  rintro e x5 ⟨rfl, hw, hb⟩
  have HB5 : Hid (Below w.heap.size w x5) := HB4.out.trans (hb.mono HB4.out.size)
  have hs5 : x4.heap.size ≤ x5.heap.size := hb.size
  have Hx0_5 : Hid (NodesIn x5 x2.heap.size x3.heap.size (some ⟨x2.heap.size, 0, none⟩) l0) := Hx0_4.out.below hb
  have Hy0_5 : Hid (NodesIn x5 x4.heap.size x5.heap.size (some ⟨x4.heap.size, 0, none⟩) l0) := WNodes.within hw
  clear hw hb
  go_wp2_with fail
  refine (eqNodeS _ _ _ l0 _ _ Hx0_5.out.nodes Hy0_5.out.nodes).mono ?_
  rintro e x6 ⟨rfl, hb⟩
  have HB6 : Hid (Below w.heap.size w x6) := HB5.out.trans (hb.mono HB5.out.size)
  have hs6 : x5.heap.size ≤ x6.heap.size := hb.size
  clear hb
  go_wp2
  go_ret
  exact ⟨rfl, HB6.out⟩

set_option maxRecDepth 100000 in
set_option maxHeartbeats 8000000 in
theorem exEqual (hI : ITermOk) (hH : IHolds) (w : World) (a0 : Option Addr) (l0 : List Nd) (c0 : Nat) (a1 : Option Addr) (l1 : List Nd) (c1 : Nat) (hN0 : Nodes w a0 l0) (hN1 : Nodes w a1 l1) :
    Calls Tryz.prog 4 #[.slice a0 l0.length c0, .slice a1 l1.length c1] w fun e w' => e = .returned (.bool true) ∧ Below w.heap.size w w' := by
  have HN0 : Hid (Nodes w a0 l0) := hN0
  have hm0 := hN0.1
  have HN1 : Hid (Nodes w a1 l1) := hN1
  have hm1 := hN1.1
  clear hN0 hN1
  by_cases hl0s : l0.length ≤ 1048576
  rotate_left
  · skip
    go_enter Tryz.func4, Tryz.ntmps4
    go_wp2_with fail
    refine (szNodeS _ a0 l0.length c0 _ (by omega) (by omega) hm0).mono ?_
    rw [if_neg (by omega)]
    rintro e wz ⟨rfl, hz⟩
    have hz' := hz.symm
    clear hz
    subst hz'
    go_wp2
    go_ret
    exact ⟨rfl, Below.refl _ _⟩
  have hl0 : l0.length ≤ 1048576 := by omega
  by_cases hl1s : l0.length + l1.length ≤ 1048576
  rotate_left
  · skip
    go_enter Tryz.func4, Tryz.ntmps4
    go_wp2_with fail
    refine (szNodeS _ a0 l0.length c0 _ (by omega) (by omega) hm0).mono ?_
    rw [if_pos (by omega)]
    rintro e wz ⟨rfl, hz⟩
    have hz' := hz.symm
    clear hz
    subst hz'
    have hp0 : 0 ≤ (1048576 : Int) - (l0.length : Int) := by omega
    go_wp2_with fail
    refine (szNodeS _ a1 l1.length c1 _ (by omega) (by omega) hm1).mono ?_
    rw [if_neg (by omega)]
    rintro e wz ⟨rfl, hz⟩
    have hz' := hz.symm
    clear hz
    subst hz'
    go_wp2
    go_ret
    exact ⟨rfl, Below.refl _ _⟩
  have hl1 : l1.length ≤ 1048576 := by omega
  go_enter Tryz.func4, Tryz.ntmps4
  go_wp2_with fail
  refine (szNodeS _ a0 l0.length c0 _ (by omega) (by omega) hm0).mono ?_
  rw [if_pos (by omega)]
  rintro e wz ⟨rfl, hz⟩
  have hz' := hz.symm
  clear hz
  subst hz'
  have hp0 : 0 ≤ (1048576 : Int) - (l0.length : Int) := by omega
  go_wp2_with fail
  refine (szNodeS _ a1 l1.length c1 _ (by omega) (by omega) hm1).mono ?_
  rw [if_pos (by omega)]
  rintro e wz ⟨rfl, hz⟩
  have hz' := hz.symm
  clear hz
  subst hz'
  have hp1 : 0 ≤ (1048576 : Int) - (l0.length : Int) - (l1.length : Int) := by omega
  have HB0 : Hid (Below w.heap.size w w) := Below.refl _ _
  go_wp2_with fail
  refine (toNodeS _ a0 l0 c0 (HN0.out.below HB0.out) hl0).mono ?_
  rintro e x1 ⟨rfl, hw, hb⟩
  have HB1 : Hid (Below w.heap.size w x1) := HB0.out.trans (hb.mono HB0.out.size)
  have hs1 : w.heap.size ≤ x1.heap.size := hb.size
  have Ht0_1 : Hid (NodesIn x1 w.heap.size x1.heap.size (some ⟨w.heap.size, 0, none⟩) l0) := WNodes.within hw
  clear hw hb
  go_wp2_with fail
  refine (toNodeS _ a1 l1 c1 (HN1.out.below HB1.out) hl1).mono ?_
  rintro e x2 ⟨rfl, hw, hb⟩
  have HB2 : Hid (Below w.heap.size w x2) := HB1.out.trans (hb.mono HB1.out.size)
  have hs2 : x1.heap.size ≤ x2.heap.size := hb.size
  have Ht0_2 : Hid (NodesIn x2 w.heap.size x1.heap.size (some ⟨w.heap.size, 0, none⟩) l0) := Ht0_1.out.below hb
  have Ht1_2 : Hid (NodesIn x2 x1.heap.size x2.heap.size (some ⟨x1.heap.size, 0, none⟩) l1) := WNodes.within hw
  clear hw hb
  go_wp2_with fail
  refine (sEqual _ _ _ l0 l1 _ _ Ht0_2.out.nodes Ht1_2.out.nodes).mono ?_
  rintro e x3 ⟨rfl, hb⟩
  have HB3 : Hid (Below w.heap.size w x3) := HB2.out.trans (hb.mono HB2.out.size)
  have hs3 : x2.heap.size ≤ x3.heap.size := hb.size
  clear hb 
  have hne0 : (((eqV l0 l1).getD 0) != ((eqV l0 l1).getD 0)) = false := by simp
  have hne1 : ((eqV l0 l1).isSome != (eqV l0 l1).isSome) = false := by simp
  go_wp2_with fail
  refine (toNodeS _ a0 l0 c0 (HN0.out.below HB3.out) hl0).mono ?_
  rintro e x4 ⟨rfl, hw, hb⟩
  have HB4 : Hid (Below w.heap.size w x4) := HB3.out.trans (hb.mono HB3.out.size)
  have hs4 : x3.heap.size ≤ x4.heap.size := hb.size
  have Hx0_4 : Hid (NodesIn x4 x3.heap.size x4.heap.size (some ⟨x3.heap.size, 0, none⟩) l0) := WNodes.within hw
  clear hw hb
  go_wp2_with fail
  refine (toNodeS _ a1 l1 c1 (HN1.out.below HB4.out) hl1).mono ?_
  rintro e x5 ⟨rfl, hw, hb⟩
  have HB5 : Hid (Below w.heap.size w x5) := HB4.out.trans (hb.mono HB4.out.size)
  have hs5 : x4.heap.size ≤ x5.heap.size := hb.size
  have Hx0_5 : Hid (NodesIn x5 x3.heap.size x4.heap.size (some ⟨x3.heap.size, 0, none⟩) l0) := Hx0_4.out.below hb
  have Hx1_5 : Hid (NodesIn x5 x4.heap.size x5.heap.size (some ⟨x4.heap.size, 0, none⟩) l1) := WNodes.within hw
  clear hw hb
  go_wp2_with fail
  refine (iEqual hI hH _ _ _ l0 l1 _ _ Hx0_5.out.nodes Hx1_5.out.nodes (Nat.le_refl _) (Nat.le_refl _)).mono ?_
  rintro e x6 ⟨rfl, hb⟩
  have HB6 : Hid (Below w.heap.size w x6) := HB5.out.trans (hb.mono HB5.out.size)
  have hs6 : x5.heap.size ≤ x6.heap.size := hb.size
  have Hx0_6 : Hid (NodesIn x6 x3.heap.size x4.heap.size (some ⟨x3.heap.size, 0, none⟩) l0) := Hx0_5.out.below hb
  have Hx1_6 : Hid (NodesIn x6 x4.heap.size x5.heap.size (some ⟨x4.heap.size, 0, none⟩) l1) := Hx1_5.out.below hb
  clear hb 
  go_wp2_with fail
  refine (toNodeS _ a0 l0 c0 (HN0.out.below HB6.out) hl0).mono ?_
  rintro e x7 ⟨rfl, hw, hb⟩
  have HB7 : Hid (Below w.heap.size w x7) := HB6.out.trans (hb.mono HB6.out.size)
  have hs7 : x6.heap.size ≤ x7.heap.size := hb.size
  have Hx0_7 : Hid (NodesIn x7 x3.heap.size x4.heap.size (some ⟨x3.heap.size, 0, none⟩) l0) := Hx0_6.out.below hb
  have Hx1_7 : Hid (NodesIn x7 x4.heap.size x5.heap.size (some ⟨x4.heap.size, 0, none⟩) l1) := Hx1_6.out.below hb
  have Hy0_7 : Hid (NodesIn x7 x6.heap.size x7.heap.size (some ⟨x6.heap.size, 0, none⟩) l0) := WNodes.within hw
  clear hw hb
  go_wp2_with fail
  refine (eqNodeS _ _ _ l0 _ _ Hx0_7.out.nodes Hy0_7.out.nodes).mono ?_
  rintro e x8 ⟨rfl, hb⟩
  have HB8 : Hid (Below w.heap.size w x8) := HB7.out.trans (hb.mono HB7.out.size)
  have hs8 : x7.heap.size ≤ x8.heap.size := hb.size
  have Hx1_8 : Hid (NodesIn x8 x4.heap.size x5.heap.size (some ⟨x4.heap.size, 0, none⟩) l1) := Hx1_7.out.below hb
  clear hb
  go_wp2_with fail
  refine (toNodeS _ a1 l1 c1 (HN1.out.below HB8.out) hl1).mono ?_
  rintro e x9 ⟨rfl, hw, hb⟩
  have HB9 : Hid (Below w.heap.size w x9) := HB8.out.trans (hb.mono HB8.out.size)
  have hs9 : x8.heap.size ≤ x9.heap.size := hb.size
  have Hx1_9 : Hid (NodesIn x9 x4.heap.size x5.heap.size (some ⟨x4.heap.size, 0, none⟩) l1) := Hx1_8.out.below hb
  have Hy1_9 : Hid (NodesIn x9 x8.heap.size x9.heap.size (some ⟨x8.heap.size, 0, none⟩) l1) := WNodes.within hw
  clear hw hb
  go_wp2_with fail
  refine (eqNodeS _ _ _ l1 _ _ Hx1_9.out.nodes Hy1_9.out.nodes).mono ?_
  rintro e x10 ⟨rfl, hb⟩
  have HB10 : Hid (Below w.heap.size w x10) := HB9.out.trans (hb.mono HB9.out.size)
  have hs10 : x9.heap.size ≤ x10.heap.size := hb.size
  clear hb
  go_wp2
  go_ret
  exact ⟨rfl, HB10.out⟩

end Go.Proofs.YtnbenffechplgaaGreat.Lx86

/- Walks of the program's usedOnly and partsAhead. -/
namespace Go.Proofs.YtnbenffechplgaaGreat.Pg3
open Go.RowKit
open Nd0 Tm0 Tm5 Pl1 Ap0 Pg1 Pg2
open Ws1 (ret_int ret_bool)
set_option linter.unusedVariables false

def used (n : Nd) : Nd :=
  ⟨n.op, n.w, if numbered n.op then n.k else 0, if 0 < cnt n.op then n.a else 0, if 1 < cnt n.op ∨ quant n.op = true then n.b else 0, if 2 < cnt n.op then n.c else 0⟩

set_option maxHeartbeats 4000000 in
theorem iUsed (n : Nd) (w : World) :
    Calls Tryz.prog 64 #[.agg #[.int .i64 n.op, .int .i64 n.w, .int .i64 n.k, .int .i64 n.a, .int .i64 n.b, .int .i64 n.c]] w fun e w' => e = .returned (.agg #[.int .i64 (used n).op, .int .i64 (used n).w, .int .i64 (used n).k, .int .i64 (used n).a, .int .i64 (used n).b, .int .i64 (used n).c]) ∧ Below w.heap.size w w' := by
  have HU : ∀ m : Nd, m = used n → Hid (m = used n) := fun m h => h
  have hc3 := cnt_le n.op
  have HC : Hid (cnt n.op = 0 ∨ cnt n.op = 1 ∨ cnt n.op = 2 ∨ cnt n.op = 3) := by show _ ∨ _; omega
  have HV : Hid (used n = ⟨n.op, n.w, if numbered n.op then n.k else 0, if 0 < cnt n.op then n.a else 0, if 1 < cnt n.op ∨ quant n.op = true then n.b else 0, if 2 < cnt n.op then n.c else 0⟩) := rfl
  clear HU hc3
  generalize used n = u at HV ⊢
  cases hn : numbered n.op <;> cases hq : quant n.op <;> rcases HC.out with hc | hc | hc | hc
  all_goals
    have HN : Hid (numbered n.op = _) := hn
    have HQ : Hid (quant n.op = _) := hq
    have HK : Hid (cnt n.op = _) := hc
    go_enter Tryz.func64, Tryz.ntmps64
    go_wp2_with (first | (go_at_call 68; refine (iCount _ _).mono ?_; rintro e w' ⟨rfl, rfl⟩; rw [hc]) | (go_at_call 77; refine (iNumbered _ _).mono ?_; rintro e w' ⟨rfl, rfl⟩; rw [hn]) | (go_at_call 54; refine (iQuant _ _).mono ?_; rintro e w' ⟨rfl, rfl⟩; rw [hq]))
    refine bodyPost_ret (v := .agg #[.int .i64 u.op, .int .i64 u.w, .int .i64 u.k, .int .i64 u.a, .int .i64 u.b, .int .i64 u.c]) ?_ rfl ⟨rfl, ?_⟩
    · have h9 := HV.out
      rw [HN.out, HQ.out, HK.out] at h9
      simp at h9
      subst h9
      simp [results, Tryz.results64, go_sem]
    · exact (((Below.refl _ _).alloc (Nat.le_refl _) _).alloc (by simp) _).alloc (by simp; omega) _

def pahead (n : Nd) (i : Int) : Bool := (parts n).all fun p => decide (0 ≤ p ∧ p < i)

set_option maxHeartbeats 1000000 in
theorem iAhead (n : Nd) (i : Int) (w : World) :
    Calls Tryz.prog 65 #[.agg #[.int .i64 n.op, .int .i64 n.w, .int .i64 n.k, .int .i64 n.a, .int .i64 n.b, .int .i64 n.c], .int .i64 i] w fun e w' => e = .returned (.bool (pahead n i)) ∧ Below w.heap.size w w' := by
  go_enter Tryz.func65, Tryz.ntmps65
  go_wp2_with fail
  refine (iParts n _).mono ?_
  rintro e w1 ⟨⟨pa, pc, rfl, hpi⟩, hb1⟩
  have HP : Hid (Ints w1 pa (parts n)) := hpi.ints
  have HB1 : Hid (Below w.heap.size w w1) := ((Below.refl _ _).alloc (Nat.le_refl _) _).trans (hb1.mono (by simp))
  have hpl := parts_le n
  clear hpi hb1
  go_wp2_with fail
  go_loop [10] (fun q => ∃ k : Nat, k ≤ (parts n).length ∧ q = .int .i64 k ∧ ∀ j (h : j < (parts n).length), j < k → 0 ≤ (parts n)[j] ∧ (parts n)[j] < i) (fun q => (parts n).length - (intOf q).toNat)
  case atStart => exact ⟨0, Nat.zero_le _, rfl, fun j _ hj => by omega⟩
  case round =>
    obtain ⟨k, hk, rfl, hall⟩ := hrel
    have HA : Hid (∀ j (h : j < (parts n).length), j < k → 0 ≤ (parts n)[j] ∧ (parts n)[j] < i) := hall
    clear hall
    by_cases hlt : k < (parts n).length
    · have hlz : (k : Int) < ((parts n).length : Int) := by omega
      rcases HP.out.2 with h0 | ⟨pb, po, rfl, hpc⟩
      · omega
      have pk := hpc k hlt
      clear hpc
      have HBAD : Hid (¬ (0 ≤ (parts n)[k] ∧ (parts n)[k] < i) → pahead n i = false) := by
        show _ → _
        intro h
        unfold pahead
        rw [List.all_eq_false]
        exact ⟨_, List.getElem_mem hlt, by simpa using h⟩
      have HEQ : Hid (∀ x : Int, x = (parts n)[k] → (0 ≤ x ∧ x < i) → ∀ j (h : j < (parts n).length), j < k + 1 → 0 ≤ (parts n)[j] ∧ (parts n)[j] < i) := by
        show ∀ _, _
        intro x hx hxi j h hj
        by_cases e : j = k
        · subst e; subst hx; exact hxi
        · exact HA.out j h (by omega)
      obtain ⟨x, hx⟩ : ∃ x : Int, x = (parts n)[k] := ⟨_, rfl⟩
      rw [← hx] at pk HBAD
      have HX : Hid (x = (parts n)[k]) := hx
      clear hx
      by_cases h1 : x < 0
      · go_wp2
        go_ret
        exact ⟨ret_bool (HBAD.out (by omega)).symm, HB1.out⟩
      · by_cases h2 : i ≤ x
        · go_wp2
          go_ret
          exact ⟨ret_bool (HBAD.out (by omega)).symm, HB1.out⟩
        · go_wp2
          go_round
          case rel => exact ⟨k + 1, by omega, by go_num, HEQ.out x HX.out ⟨by omega, by omega⟩⟩
          case measure => simp [intOf]; omega
    · have HT : Hid (pahead n i = true) := by
        show pahead n i = true
        unfold pahead
        rw [List.all_eq_true]
        intro p hp
        obtain ⟨j, hj, rfl⟩ := List.getElem_of_mem hp
        simpa using HA.out j hj (by omega)
      go_wp2
      go_ret
      exact ⟨ret_bool HT.out.symm, HB1.out⟩

end Go.Proofs.YtnbenffechplgaaGreat.Pg3
