/- Small texts of mine, one behind the other. -/
import Derived.Test.YtnkkigoeffghdaaAm6
import Derived.Test.YtnkkigoeffghdaaPk1534
import Derived.Test.YtnkkigoeffghdaaPk1513
import Derived.Test.YtnkkigoeffghdaaPk1514
import Derived.Test.YtnkkigoeffghdaaPk1510
/- The exact law of Fold. Written by tools/mkex.py. -/
namespace Go.Proofs.Ytnkkigoeffghdaa.Lx84
open Go.RowKit
open Nd0 Nd1 Nd2 Nd3 Nd4 Nd5 Nd6 Tm0 Tm3 Aq0 Aq1 Ap0
open Am6 (sFold)
open Pb7 (iFold)
open Lx1 (ITermOk)
open Lx4 (IPrune)
open Ic4 (IApply)
set_option linter.unusedVariables false

set_option maxRecDepth 100000 in
set_option maxHeartbeats 8000000 in
theorem exFold (hI : ITermOk) (hA : IApply) (hP : IPrune) (w : World) (a0 : Option Addr) (l0 : List Nd) (c0 : Nat) (hN0 : Nodes w a0 l0) :
    Calls Try.prog 7 #[.slice a0 l0.length c0] w fun e w' => e = .returned (.bool true) ∧ Below w.heap.size w w' := by
  have HN0 : Hid (Nodes w a0 l0) := hN0
  have hm0 := hN0.1
  clear hN0
  by_cases hl0s : l0.length ≤ 1048576
  rotate_left
  · skip
    go_enter Try.func7, Try.ntmps7
    go_wp2_with fail
    refine (szNodeS _ a0 l0.length c0 _ (by omega) (by omega) hm0).mono ?_
    rw [if_neg (by omega)]
    rintro e wz ⟨rfl, hz⟩
    have hz' := hz.symm
    clear hz
    subst hz'
    go_wp2
    go_ret
    exact ⟨rfl, Below.refl _ _⟩
  have hl0 : l0.length ≤ 1048576 := by omega
  have hR0 : (foldL l0).length ≤ 1048576 := Nat.le_trans (foldL_le l0) hl0
  go_enter Try.func7, Try.ntmps7
  go_wp2_with fail
  refine (szNodeS _ a0 l0.length c0 _ (by omega) (by omega) hm0).mono ?_
  rw [if_pos (by omega)]
  rintro e wz ⟨rfl, hz⟩
  have hz' := hz.symm
  clear hz
  subst hz'
  have hp0 : 0 ≤ (1048576 : Int) - (l0.length : Int) := by omega
  have HB0 : Hid (Below w.heap.size w w) := Below.refl _ _
  go_wp2_with fail
  refine (toNodeS _ a0 l0 c0 (HN0.out.below HB0.out) hl0).mono ?_
  rintro e x1 ⟨rfl, hw, hb⟩
  have HB1 : Hid (Below w.heap.size w x1) := HB0.out.trans (hb.mono HB0.out.size)
  have hs1 : w.heap.size ≤ x1.heap.size := hb.size
  have Ht0_1 : Hid (NodesIn x1 w.heap.size x1.heap.size (some ⟨w.heap.size, 0, none⟩) l0) := WNodes.within hw
  clear hw hb
  go_wp2_with fail
  refine (sFold _ _ l0 _ Ht0_1.out.nodes).mono ?_
  rintro e x2 ⟨⟨sa0, sc0, rfl, hr0⟩, hb⟩
  have HB2 : Hid (Below w.heap.size w x2) := HB1.out.trans (hb.mono HB1.out.size)
  have hs2 : x1.heap.size ≤ x2.heap.size := hb.size
  have Hs0_2 : Hid (NodesIn x2 x1.heap.size x2.heap.size sa0 (foldL l0)) := WNodes.within hr0
  clear hb hr0
  have hne1 : ((termOk l0) != (termOk l0)) = false := by simp
  go_wp2_with fail
  refine (toNodeS _ a0 l0 c0 (HN0.out.below HB2.out) hl0).mono ?_
  rintro e x3 ⟨rfl, hw, hb⟩
  have HB3 : Hid (Below w.heap.size w x3) := HB2.out.trans (hb.mono HB2.out.size)
  have hs3 : x2.heap.size ≤ x3.heap.size := hb.size
  have Hs0_3 : Hid (NodesIn x3 x1.heap.size x2.heap.size sa0 (foldL l0)) := Hs0_2.out.below hb
  have Hx0_3 : Hid (NodesIn x3 x2.heap.size x3.heap.size (some ⟨x2.heap.size, 0, none⟩) l0) := WNodes.within hw
  clear hw hb
  go_wp2_with fail
  refine (iFold hI hA hP _ _ l0 _ Hx0_3.out.nodes (Nat.le_refl _) hl0).mono ?_
  rintro e x4 ⟨⟨ga0, gc0, rfl, hr0, _⟩, hb⟩
  have HB4 : Hid (Below w.heap.size w x4) := HB3.out.trans (hb.mono HB3.out.size)
  have hs4 : x3.heap.size ≤ x4.heap.size := hb.size
  have Hs0_4 : Hid (NodesIn x4 x1.heap.size x2.heap.size sa0 (foldL l0)) := Hs0_3.out.below hb
  have Hx0_4 : Hid (NodesIn x4 x2.heap.size x3.heap.size (some ⟨x2.heap.size, 0, none⟩) l0) := Hx0_3.out.below hb
  have Hg0_4 : Hid (NodesIn x4 x3.heap.size x4.heap.size ga0 (foldL l0)) := WNodes.within hr0
  clear hb hr0
  go_wp2_with fail
  refine (eqNodeS _ _ _ (foldL l0) _ _ Hg0_4.out.nodes Hs0_4.out.nodes).mono ?_
  rintro e x5 ⟨rfl, hb⟩
  have HB5 : Hid (Below w.heap.size w x5) := HB4.out.trans (hb.mono HB4.out.size)
  have hs5 : x4.heap.size ≤ x5.heap.size := hb.size
  have Hs0_5 : Hid (NodesIn x5 x1.heap.size x2.heap.size sa0 (foldL l0)) := Hs0_4.out.below hb
  have Hx0_5 : Hid (NodesIn x5 x2.heap.size x3.heap.size (some ⟨x2.heap.size, 0, none⟩) l0) := Hx0_4.out.below hb
  have Hg0_5 : Hid (NodesIn x5 x3.heap.size x4.heap.size ga0 (foldL l0)) := Hg0_4.out.below hb
  clear hb
  go_wp2_with fail
  refine (toNodeS _ a0 l0 c0 (HN0.out.below HB5.out) hl0).mono ?_
  rintro e x6 ⟨rfl, hw, hb⟩
  have HB6 : Hid (Below w.heap.size w x6) := HB5.out.trans (hb.mono HB5.out.size)
  have hs6 : x5.heap.size ≤ x6.heap.size := hb.size
  have Hs0_6 : Hid (NodesIn x6 x1.heap.size x2.heap.size sa0 (foldL l0)) := Hs0_5.out.below hb
  have Hx0_6 : Hid (NodesIn x6 x2.heap.size x3.heap.size (some ⟨x2.heap.size, 0, none⟩) l0) := Hx0_5.out.below hb
  have Hg0_6 : Hid (NodesIn x6 x3.heap.size x4.heap.size ga0 (foldL l0)) := Hg0_5.out.below hb
  have Hy0_6 : Hid (NodesIn x6 x5.heap.size x6.heap.size (some ⟨x5.heap.size, 0, none⟩) l0) := WNodes.within hw
  clear hw hb
  go_wp2_with fail
  refine (eqNodeS _ _ _ l0 _ _ Hx0_6.out.nodes Hy0_6.out.nodes).mono ?_
  rintro e x7 ⟨rfl, hb⟩
  have HB7 : Hid (Below w.heap.size w x7) := HB6.out.trans (hb.mono HB6.out.size)
  have hs7 : x6.heap.size ≤ x7.heap.size := hb.size
  have Hs0_7 : Hid (NodesIn x7 x1.heap.size x2.heap.size sa0 (foldL l0)) := Hs0_6.out.below hb
  have Hx0_7 : Hid (NodesIn x7 x2.heap.size x3.heap.size (some ⟨x2.heap.size, 0, none⟩) l0) := Hx0_6.out.below hb
  have Hg0_7 : Hid (NodesIn x7 x3.heap.size x4.heap.size ga0 (foldL l0)) := Hg0_6.out.below hb
  clear hb
  go_wp2_with fail
  refine (markNodeB _ _ _ l0 _ Hx0_7.out.wnodes _ (by omega) (by omega) hl0).mono ?_
  rintro e x8 ⟨rfl, hw, hk⟩
  have HB8 : Hid (Below w.heap.size w x8) := HB7.out.trans (hk.below (fun b hb => by have := Hx0_7.out.ats hb; omega) HB7.out.size)
  have hs8 : x7.heap.size ≤ x8.heap.size := hk.size
  have Hs0_8 : Hid (NodesIn x8 x1.heap.size x2.heap.size sa0 (foldL l0)) := Hs0_7.out.kept hk (fun b h1 h2 h3 => by have := Hx0_7.out.ats h3; omega)
  have Hg0_8 : Hid (NodesIn x8 x3.heap.size x4.heap.size ga0 (foldL l0)) := Hg0_7.out.kept hk (fun b h1 h2 h3 => by have := Hx0_7.out.ats h3; omega)
  have Hx0_8 : Hid (NodesIn x8 x2.heap.size x3.heap.size (some ⟨x2.heap.size, 0, none⟩) (markN l0.length ((1 : Int)))) := Hx0_7.out.again hw (markN_length _ _)
  clear hw hk
  have hk1 : ¬ (1 : Int) + 6 * (l0.length : Int) < 0 := by omega
  go_wp2_with fail
  refine (eqNodeS _ _ _ (foldL l0) _ _ Hg0_8.out.nodes Hs0_8.out.nodes).mono ?_
  rintro e x9 ⟨rfl, hb⟩
  have HB9 : Hid (Below w.heap.size w x9) := HB8.out.trans (hb.mono HB8.out.size)
  have hs9 : x8.heap.size ≤ x9.heap.size := hb.size
  have Hs0_9 : Hid (NodesIn x9 x1.heap.size x2.heap.size sa0 (foldL l0)) := Hs0_8.out.below hb
  have Hg0_9 : Hid (NodesIn x9 x3.heap.size x4.heap.size ga0 (foldL l0)) := Hg0_8.out.below hb
  clear hb
  go_wp2_with fail
  refine (markNodeB _ _ _ (foldL l0) _ Hg0_9.out.wnodes _ (by omega) (by omega) hR0).mono ?_
  rintro e x10 ⟨rfl, hw, hk⟩
  have HB10 : Hid (Below w.heap.size w x10) := HB9.out.trans (hk.below (fun b hb => by have := Hg0_9.out.ats hb; omega) HB9.out.size)
  have hs10 : x9.heap.size ≤ x10.heap.size := hk.size
  have Hs0_10 : Hid (NodesIn x10 x1.heap.size x2.heap.size sa0 (foldL l0)) := Hs0_9.out.kept hk (fun b h1 h2 h3 => by have := Hg0_9.out.ats h3; omega)
  have Hg0_10 : Hid (NodesIn x10 x3.heap.size x4.heap.size ga0 (markN (foldL l0).length ((1 : Int)))) := Hg0_9.out.again hw (markN_length _ _)
  clear hw hk
  go_wp2_with fail
  refine (heldNodeB _ _ (foldL l0).length _ ((1 : Int)) Hg0_10.out.nodes (by omega) (by omega) hR0).mono ?_
  rintro e wz ⟨rfl, hz⟩
  have hz' := hz.symm
  clear hz
  subst hz'
  have hq0 : ¬ ((1 : Int) + 6 * ((foldL l0).length : Int)) < 0 := by omega
  go_wp2_with fail
  refine (toNodeS _ a0 l0 c0 (HN0.out.below HB10.out) hl0).mono ?_
  rintro e x11 ⟨rfl, hw, hb⟩
  have HB11 : Hid (Below w.heap.size w x11) := HB10.out.trans (hb.mono HB10.out.size)
  have hs11 : x10.heap.size ≤ x11.heap.size := hb.size
  have Hs0_11 : Hid (NodesIn x11 x1.heap.size x2.heap.size sa0 (foldL l0)) := Hs0_10.out.below hb
  have Hg0_11 : Hid (NodesIn x11 x3.heap.size x4.heap.size ga0 (markN (foldL l0).length ((1 : Int)))) := Hg0_10.out.below hb
  have Hz0_11 : Hid (NodesIn x11 x10.heap.size x11.heap.size (some ⟨x10.heap.size, 0, none⟩) l0) := WNodes.within hw
  clear hw hb
  go_wp2_with fail
  refine (iFold hI hA hP _ _ l0 _ Hz0_11.out.nodes (Nat.le_refl _) hl0).mono ?_
  rintro e x12 ⟨⟨ha0, hc0, rfl, hr0, _⟩, hb⟩
  have HB12 : Hid (Below w.heap.size w x12) := HB11.out.trans (hb.mono HB11.out.size)
  have hs12 : x11.heap.size ≤ x12.heap.size := hb.size
  have Hs0_12 : Hid (NodesIn x12 x1.heap.size x2.heap.size sa0 (foldL l0)) := Hs0_11.out.below hb
  have Hg0_12 : Hid (NodesIn x12 x3.heap.size x4.heap.size ga0 (markN (foldL l0).length ((1 : Int)))) := Hg0_11.out.below hb
  have Hh0_12 : Hid (NodesIn x12 x11.heap.size x12.heap.size ha0 (foldL l0)) := WNodes.within hr0
  clear hb hr0
  go_wp2_with fail
  refine (eqNodeS _ _ _ (foldL l0) _ _ Hh0_12.out.nodes Hs0_12.out.nodes).mono ?_
  rintro e x13 ⟨rfl, hb⟩
  have HB13 : Hid (Below w.heap.size w x13) := HB12.out.trans (hb.mono HB12.out.size)
  have hs13 : x12.heap.size ≤ x13.heap.size := hb.size
  have Hg0_13 : Hid (NodesIn x13 x3.heap.size x4.heap.size ga0 (markN (foldL l0).length ((1 : Int)))) := Hg0_12.out.below hb
  clear hb
  go_wp2_with fail
  refine (heldNodeB _ _ (foldL l0).length _ ((1 : Int)) Hg0_13.out.nodes (by omega) (by omega) hR0).mono ?_
  rintro e wz ⟨rfl, hz⟩
  have hz' := hz.symm
  clear hz
  subst hz'
  have hq1 : ¬ ((1 : Int) + 6 * ((foldL l0).length : Int)) < 0 := by omega
  go_wp2
  go_ret
  exact ⟨rfl, HB13.out⟩

end Go.Proofs.Ytnkkigoeffghdaa.Lx84

/- Walks of the program's usedOnly and partsAhead. -/
namespace Go.Proofs.Ytnkkigoeffghdaa.Pg3
open Go.RowKit
open Nd0 Tm0 Tm5 Pl1 Ap0 Pg1 Pg2
open Ws1 (ret_int ret_bool)
set_option linter.unusedVariables false

/-- A node without what it has no use for. -/
def used (n : Nd) : Nd :=
  ⟨n.op, n.w, if numbered n.op then n.k else 0, if 0 < cnt n.op then n.a else 0, if 1 < cnt n.op ∨ quant n.op = true then n.b else 0, if 2 < cnt n.op then n.c else 0⟩

theorem agg_eq {a b c d e f a' b' c' d' e' f' : Int} (h : a = a' ∧ b = b' ∧ c = c' ∧ d = d' ∧ e = e' ∧ f = f') :
    Ending.returned (.agg #[.int .i64 a, .int .i64 b, .int .i64 c, .int .i64 d, .int .i64 e, .int .i64 f]) = .returned (.agg #[.int .i64 a', .int .i64 b', .int .i64 c', .int .i64 d', .int .i64 e', .int .i64 f']) := by
  obtain ⟨rfl, rfl, rfl, rfl, rfl, rfl⟩ := h; rfl

set_option maxHeartbeats 4000000 in
theorem iUsed (n : Nd) (w : World) :
    Calls Try.prog 127 #[.agg #[.int .i64 n.op, .int .i64 n.w, .int .i64 n.k, .int .i64 n.a, .int .i64 n.b, .int .i64 n.c]] w fun e w' => e = .returned (.agg #[.int .i64 (used n).op, .int .i64 (used n).w, .int .i64 (used n).k, .int .i64 (used n).a, .int .i64 (used n).b, .int .i64 (used n).c]) ∧ Below w.heap.size w w' := by
  have HU : ∀ m : Nd, m = used n → Hid (m = used n) := fun m h => h
  have hc3 := cnt_le n.op
  have HC : Hid (cnt n.op = 0 ∨ cnt n.op = 1 ∨ cnt n.op = 2 ∨ cnt n.op = 3) := by show _ ∨ _; omega
  have HV : Hid (used n = ⟨n.op, n.w, if numbered n.op then n.k else 0, if 0 < cnt n.op then n.a else 0, if 1 < cnt n.op ∨ quant n.op = true then n.b else 0, if 2 < cnt n.op then n.c else 0⟩) := rfl
  clear HU hc3
  generalize used n = u at HV ⊢
  cases hn : numbered n.op <;> cases hq : quant n.op <;> rcases HC.out with hc | hc | hc | hc
  all_goals
    have HN : Hid (numbered n.op = _) := hn
    have HQ : Hid (quant n.op = _) := hq
    have HK : Hid (cnt n.op = _) := hc
    go_enter Try.func127, Try.ntmps127
    go_wp2_with (first | (go_at_call 93; refine (iCount _ _).mono ?_; rintro e w' ⟨rfl, rfl⟩; rw [hc]) | (go_at_call 137; refine (iNumbered _ _).mono ?_; rintro e w' ⟨rfl, rfl⟩; rw [hn]) | (go_at_call 111; refine (iQuant _ _).mono ?_; rintro e w' ⟨rfl, rfl⟩; rw [hq]))
    refine bodyPost_ret (v := .agg #[.int .i64 u.op, .int .i64 u.w, .int .i64 u.k, .int .i64 u.a, .int .i64 u.b, .int .i64 u.c]) ?_ rfl ⟨rfl, ?_⟩
    · have h9 := HV.out
      rw [HN.out, HQ.out, HK.out] at h9
      simp at h9
      subst h9
      simp [results, Try.results127, go_sem]
    · exact (((Below.refl _ _).alloc (Nat.le_refl _) _).alloc (by simp) _).alloc (by simp; omega) _

/-- Whether all parts of a node stand ahead of place i. -/
def pahead (n : Nd) (i : Int) : Bool := (parts n).all fun p => decide (0 ≤ p ∧ p < i)

set_option maxHeartbeats 1000000 in
theorem iAhead (n : Nd) (i : Int) (w : World) :
    Calls Try.prog 128 #[.agg #[.int .i64 n.op, .int .i64 n.w, .int .i64 n.k, .int .i64 n.a, .int .i64 n.b, .int .i64 n.c], .int .i64 i] w fun e w' => e = .returned (.bool (pahead n i)) ∧ Below w.heap.size w w' := by
  go_enter Try.func128, Try.ntmps128
  go_wp2_with fail
  refine (iParts n _).mono ?_
  rintro e w1 ⟨⟨pa, pc, rfl, hpi⟩, hb1⟩
  have HP : Hid (Ints w1 pa (parts n)) := hpi.ints
  have HB1 : Hid (Below w.heap.size w w1) := ((Below.refl _ _).alloc (Nat.le_refl _) _).trans (hb1.mono (by simp))
  have hpl := parts_le n
  clear hpi hb1
  go_wp2_with fail
  go_loop [10] (fun q => ∃ k : Nat, k ≤ (parts n).length ∧ q = .int .i64 k ∧ ∀ j (h : j < (parts n).length), j < k → 0 ≤ (parts n)[j] ∧ (parts n)[j] < i) (fun q => (parts n).length - (intOf q).toNat)
  case atStart => exact ⟨0, Nat.zero_le _, rfl, fun j _ hj => by omega⟩
  case round =>
    obtain ⟨k, hk, rfl, hall⟩ := hrel
    have HA : Hid (∀ j (h : j < (parts n).length), j < k → 0 ≤ (parts n)[j] ∧ (parts n)[j] < i) := hall
    clear hall
    by_cases hlt : k < (parts n).length
    · have hlz : (k : Int) < ((parts n).length : Int) := by omega
      rcases HP.out.2 with h0 | ⟨pb, po, rfl, hpc⟩
      · omega
      have pk := hpc k hlt
      clear hpc
      have HBAD : Hid (¬ (0 ≤ (parts n)[k] ∧ (parts n)[k] < i) → pahead n i = false) := by
        show _ → _
        intro h
        unfold pahead
        rw [List.all_eq_false]
        exact ⟨_, List.getElem_mem hlt, by simpa using h⟩
      have HEQ : Hid (∀ x : Int, x = (parts n)[k] → (0 ≤ x ∧ x < i) → ∀ j (h : j < (parts n).length), j < k + 1 → 0 ≤ (parts n)[j] ∧ (parts n)[j] < i) := by
        show ∀ _, _
        intro x hx hxi j h hj
        by_cases e : j = k
        · subst e; subst hx; exact hxi
        · exact HA.out j h (by omega)
      obtain ⟨x, hx⟩ : ∃ x : Int, x = (parts n)[k] := ⟨_, rfl⟩
      rw [← hx] at pk HBAD
      have HX : Hid (x = (parts n)[k]) := hx
      clear hx
      by_cases h1 : x < 0
      · go_wp2
        go_ret
        exact ⟨ret_bool (HBAD.out (by omega)).symm, HB1.out⟩
      · by_cases h2 : i ≤ x
        · go_wp2
          go_ret
          exact ⟨ret_bool (HBAD.out (by omega)).symm, HB1.out⟩
        · go_wp2
          go_round
          case rel => exact ⟨k + 1, by omega, by go_num, HEQ.out x HX.out ⟨by omega, by omega⟩⟩
          case measure => simp [intOf]; omega
    · have HT : Hid (pahead n i = true) := by
        show pahead n i = true
        unfold pahead
        rw [List.all_eq_true]
        intro p hp
        obtain ⟨j, hj, rfl⟩ := List.getElem_of_mem hp
        simpa using HA.out j hj (by omega)
      go_wp2
      go_ret
      exact ⟨ret_bool HT.out.symm, HB1.out⟩

end Go.Proofs.Ytnkkigoeffghdaa.Pg3
