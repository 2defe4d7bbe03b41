/- Plain laws of words: orders, joins, cuts and shifts. -/
import Derived.Test.YtdgcjgicnanmiaaPl2
namespace Go.Proofs.Ytdgcjgicnanmiaa.Pl3
open Go.RowKit
open Pl1 Pl2

theorem half_two {m : Int} (h1 : 1 ≤ m) : p2 m.toNat = 2 * p2 (m.toNat - 1) := by
  rw [← p2_succ, show m.toNat - 1 + 1 = m.toNat by omega]
theorem sgn_half {m a : Int} (h1 : 1 ≤ m) : sgn m a = if p2 (m.toNat - 1) ≤ a then a - p2 m.toNat else a := by
  unfold sgn; rw [show (m - 1).toNat = m.toNat - 1 by omega]
theorem signed_eq {m a : Int} (ha : wok m a = true) : vSigned m a = sgn m a := by simp [vSigned, ha]
theorem sgn_bd {m a : Int} (ha : wok m a = true) : -(p2 (m.toNat - 1)) ≤ vSigned m a ∧ vSigned m a < p2 (m.toNat - 1) ∧ (vSigned m a - a).tmod (p2 m.toNat) = 0 := by
  obtain ⟨h1, h2, h3, h4⟩ := wok_iff.1 ha
  have e := half_two h1
  rw [signed_eq ha, sgn_half h1]
  by_cases h : p2 (m.toNat - 1) ≤ a
  · rw [if_pos h]
    refine ⟨by omega, by omega, ?_⟩
    rw [show a - p2 m.toNat - a = -p2 m.toNat by omega, Int.neg_tmod, Int.tmod_self]; rfl
  · rw [if_neg h]
    refine ⟨by omega, by omega, ?_⟩
    rw [Int.sub_self, Int.zero_tmod]
theorem wok_half {m : Int} (h1 : 1 ≤ m) (h2 : m ≤ 8) : wok m (p2 (m.toNat - 1)) = true := by
  have e := half_two h1
  have := p2_pos (m.toNat - 1)
  exact wok_iff.2 ⟨h1, h2, by omega, by omega⟩
theorem moved {m a : Int} (ha : wok m a = true) : vAdd m a (p2 (m.toNat - 1)) = vSigned m a + p2 (m.toNat - 1) := by
  obtain ⟨h1, h2, h3, h4⟩ := wok_iff.1 ha
  have e := half_two h1
  rw [add_eq ha (wok_half h1 h2), signed_eq ha, sgn_half h1]
  by_cases h : p2 (m.toNat - 1) ≤ a
  · rw [if_pos h, show a + p2 (m.toNat - 1) = (a - p2 (m.toNat - 1)) + p2 m.toNat by omega, Int.add_emod_right, Int.emod_eq_of_lt (by omega) (by omega)]
    omega
  · rw [if_neg h, Int.emod_eq_of_lt (by omega) (by omega)]
theorem lessSigned_eq {m a b : Int} (ha : wok m a = true) (hb : wok m b = true) : vLessSigned m a b = vLess m (vAdd m a (p2 (m.toNat - 1))) (vAdd m b (p2 (m.toNat - 1))) := by
  obtain ⟨h1, h2, _⟩ := wok_iff.1 ha
  have hh := wok_half h1 h2
  unfold vLessSigned vLess
  rw [ha, hb, wok_add ha hh, wok_add hb hh, moved ha, moved hb]
  by_cases h : vSigned m a < vSigned m b
  · rw [decide_eq_true h, decide_eq_true (by omega)]
  · rw [decide_eq_false h, decide_eq_false (by omega)]
theorem less_self {m a : Int} : vLess m a a = 0 := by unfold vLess; simp
theorem less_one {m a b : Int} (ha : wok m a = true) (hb : wok m b = true) (h : a ≠ b) : vLess m a b + vLess m b a = 1 := by
  unfold vLess
  rw [ha, hb]
  by_cases hl : a < b
  · rw [decide_eq_true hl, decide_eq_false (show ¬ b < a by omega)]; rfl
  · rw [decide_eq_false hl, decide_eq_true (show b < a by omega)]; rfl
theorem less_bd (m a b : Int) : 0 ≤ vLess m a b ∧ vLess m a b ≤ 1 := by
  unfold vLess; split <;> omega

theorem join_none {m a v b : Int} (h : wok m a = false ∨ wok v b = false ∨ ¬ m + v ≤ 8) : vJoin m a v b = 0 := by
  unfold vJoin
  rcases h with h | h | h
  · simp [h]
  · simp [h]
  · simp [h]
theorem join_eq {m a v b : Int} (ha : wok m a = true) (hb : wok v b = true) (h : m + v ≤ 8) : vJoin m a v b = a * p2 v.toNat + b := by
  unfold vJoin; simp [ha, hb, h]
theorem join_facts {m a v b : Int} (ha : wok m a = true) (hb : wok v b = true) (h : m + v ≤ 8) :
    wok (m + v) (vJoin m a v b) = true ∧ vSlice (m + v) (vJoin m a v b) v m = a ∧ vSlice (m + v) (vJoin m a v b) 0 v = b ∧ vSlice (m + v) (vJoin m a v b) 1 (m + v) = 0 := by
  obtain ⟨h1, h2, h3, h4⟩ := wok_iff.1 ha
  obtain ⟨k1, k2, k3, k4⟩ := wok_iff.1 hb
  obtain ⟨_, _, j3, j4⟩ := join_spec a b m.toNat v.toNat (by omega) h3 h4 k3 k4
  have hp := p2_pos v.toNat
  have hw : wok (m + v) (a * p2 v.toNat + b) = true := wok_iff.2 ⟨by omega, h, j3, by rw [show (m + v).toNat = m.toNat + v.toNat by omega]; exact j4⟩
  rw [join_eq ha hb h]
  refine ⟨hw, ?_, ?_, ?_⟩
  · unfold vSlice
    rw [if_pos (by rw [hw]; simp; omega), Int.add_comm, Int.add_mul_ediv_right _ _ (by omega), Int.ediv_eq_zero_of_lt k3 k4, Int.zero_add, Int.emod_eq_of_lt h3 h4]
  · unfold vSlice
    rw [if_pos (by rw [hw]; simp; omega)]
    show (a * p2 v.toNat + b) / 1 % p2 v.toNat = b
    rw [Int.ediv_one, Int.add_comm, Int.add_mul_emod_self_right, Int.emod_eq_of_lt k3 k4]
  · unfold vSlice
    rw [if_neg]
    rw [hw]; simp; omega
theorem lt_p2 (k : Nat) : (k : Int) < p2 k := by
  induction k with
  | zero => simp [p2]
  | succ n ih => rw [p2_succ]; have := p2_pos n; omega
theorem shl_pow {m a k : Int} (ha : wok m a = true) (h0 : 0 ≤ k) (hk : k < m) (hw : k < p2 m.toNat) : vShl m a k = vMul m a (p2 k.toNat) ∧ vShr m a k = vDiv m a (p2 k.toNat) := by
  obtain ⟨h1, h2, h3, h4⟩ := wok_iff.1 ha
  have hb : wok m k = true := wok_iff.2 ⟨h1, h2, h0, hw⟩
  have hlt : p2 k.toNat < p2 m.toNat := by
    have := p2_mono (show k.toNat + 1 ≤ m.toNat by omega)
    have := p2_pos k.toNat
    rw [p2_succ] at *; omega
  have hpw : wok m (p2 k.toNat) = true := wok_iff.2 ⟨h1, h2, by have := p2_pos k.toNat; omega, hlt⟩
  have hz : ¬ p2 k.toNat = 0 := by have := p2_pos k.toNat; omega
  have hc : ¬ m ≤ k := by omega
  constructor
  · rw [mul_eq ha hpw]; unfold vShl; rw [ha, hb, Bool.and_self, if_pos rfl, if_neg hc]
  · unfold vShr vDiv; rw [ha, hb, hpw, Bool.and_self, if_pos rfl, if_pos rfl, if_neg hc, if_neg hz]
theorem shl_far {m a k : Int} (hk : m ≤ k) : vShl m a k = 0 ∧ vShr m a k = 0 := by
  unfold vShl vShr
  rw [if_pos hk, if_pos hk]
  simp

end Go.Proofs.Ytdgcjgicnanmiaa.Pl3
