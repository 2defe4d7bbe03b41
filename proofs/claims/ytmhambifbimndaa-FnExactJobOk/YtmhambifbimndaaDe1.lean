/- Idle bits, and a bit taken out place by place: plain facts. -/
import Derived.Test.YtmhambifbimndaaDe0
namespace Go.Proofs.Ytmhambifbimndaa.De1
open Go.RowKit
open Ta1 Ta2 Ta3 De0
set_option linter.unusedVariables false

/-- The bits that a table doesn't need, of the first k. -/
def idTo (n : Nat) (F : Nat → Bool) (k : Nat) : List Int := ((List.range k).filter fun b => !ndB n F b).map fun (b : Nat) => (b : Int)
theorem idTo_yes {n k : Nat} {F : Nat → Bool} (h : ndB n F k = false) : idTo n F (k + 1) = idTo n F k ++ [(k : Int)] := by
  unfold idTo; rw [List.range_succ, List.filter_append]; simp [h]
theorem idTo_no {n k : Nat} {F : Nat → Bool} (h : ndB n F k = true) : idTo n F (k + 1) = idTo n F k := by
  unfold idTo; rw [List.range_succ, List.filter_append]; simp [h]
theorem id_nd (n k : Nat) (F : Nat → Bool) : (idTo n F k).length + (ndTo n F k).length = k := by
  induction k with
  | zero => rfl
  | succ k ih =>
    cases h : ndB n F k
    · rw [idTo_yes h, ndTo_no h, List.length_append, List.length_singleton]; omega
    · rw [idTo_no h, ndTo_yes h, List.length_append, List.length_singleton]; omega
theorem put_low (s p : Nat) : put1 s 0 p / 2 ^ s % 2 = 0 := by
  have hs := Nat.two_pow_pos s
  unfold put1
  have e : p / 2 ^ s * 2 ^ (s + 1) + 0 * 2 ^ s + p % 2 ^ s = p % 2 ^ s + 2 ^ s * (p / 2 ^ s * 2) := by rw [Nat.pow_succ, Nat.zero_mul, Nat.add_zero, Nat.add_comm]; congr 1; rw [← Nat.mul_assoc, ← Nat.mul_assoc, Nat.mul_comm (p / 2 ^ s)]
  rw [e, Nat.add_mul_div_left _ _ hs, Nat.div_eq_of_lt (Nat.mod_lt p hs)]
  omega
theorem put_high (s p : Nat) : put1 s 1 p = put1 s 0 p + 2 ^ s := by
  unfold put1
  omega
/-- A bit that isn't needed changes nothing. -/
theorem idle_put {n k p : Nat} {F : Nat → Bool} (hk : k < n) (h : ndB n F k = false) (hp : p < 2 ^ (n - 1)) : F (put1 (n - 1 - k) 0 p) = F (put1 (n - 1 - k) 1 p) := by
  apply Classical.byContradiction
  intro e
  rw [put_high] at e
  have hl : put1 (n - 1 - k) 0 p < 2 ^ n := by
    have := put_lt (s := n - 1 - k) (k := k) (c := 0) (p := p) (by omega) (by rw [show k + (n - 1 - k) = n - 1 by omega]; exact hp)
    rwa [show k + (n - 1 - k) + 1 = n by omega] at this
  have := nd_yes hl (put_low _ _) e
  rw [h] at this
  cases this

/-- How many places below i have the bit at 0. -/
def rank (s i : Nat) : Nat := i / 2 ^ (s + 1) * 2 ^ s + min (i % 2 ^ (s + 1)) (2 ^ s)
/-- A place as its parts. -/
theorem parts (s i : Nat) : ∃ a b c, i = a * 2 ^ (s + 1) + b * 2 ^ s + c ∧ b ≤ 1 ∧ c < 2 ^ s ∧ i / 2 ^ s % 2 = b ∧ i / 2 ^ (s + 1) = a ∧ i % 2 ^ (s + 1) = b * 2 ^ s + c := by
  have hs := Nat.two_pow_pos s
  have h1 := Nat.div_add_mod i (2 ^ s)
  have h2 := Nat.div_add_mod (i / 2 ^ s) 2
  have e1 : i / 2 ^ (s + 1) = i / 2 ^ s / 2 := by rw [Nat.pow_succ, Nat.div_div_eq_div_mul]
  have e2 : i = i / 2 ^ s / 2 * 2 ^ (s + 1) + i / 2 ^ s % 2 * 2 ^ s + i % 2 ^ s := by
    have : i / 2 ^ s / 2 * 2 ^ (s + 1) + i / 2 ^ s % 2 * 2 ^ s = 2 ^ s * (i / 2 ^ s) := by
      rw [Nat.pow_succ, Nat.mul_comm (2 ^ s) 2, ← Nat.mul_assoc, ← Nat.add_mul, Nat.mul_comm (i / 2 ^ s / 2) 2, h2, Nat.mul_comm]
    omega
  refine ⟨i / 2 ^ s / 2, i / 2 ^ s % 2, i % 2 ^ s, e2, by omega, Nat.mod_lt _ hs, rfl, e1, ?_⟩
  have h3 := Nat.div_add_mod i (2 ^ (s + 1))
  rw [e1, Nat.mul_comm] at h3
  omega
theorem rank_of {s a b c : Nat} (hb : b ≤ 1) (hc : c < 2 ^ s) : rank s (a * 2 ^ (s + 1) + b * 2 ^ s + c) = a * 2 ^ s + min (b * 2 ^ s + c) (2 ^ s) := by
  have hp := Nat.two_pow_pos (s + 1)
  have e2 := p1 s
  have hl : b * 2 ^ s + c < 2 ^ (s + 1) := half_lt hb hc
  unfold rank
  have e : a * 2 ^ (s + 1) + b * 2 ^ s + c = (b * 2 ^ s + c) + 2 ^ (s + 1) * a := by rw [Nat.mul_comm a]; omega
  rw [e, Nat.add_mul_div_left _ _ hp, Nat.add_mul_mod_self_left, Nat.div_eq_of_lt hl, Nat.mod_eq_of_lt hl, Nat.zero_add]
theorem rank_put {s i : Nat} (h : i / 2 ^ s % 2 = 0) : put1 s 0 (rank s i) = i := by
  have hs := Nat.two_pow_pos s
  obtain ⟨a, b, c, e, hb, hc, h1, h2, h3⟩ := parts s i
  have hb0 : b = 0 := by omega
  subst hb0
  have hr : rank s i = a * 2 ^ s + c := by
    rw [e, rank_of hb hc, Nat.zero_mul, Nat.zero_add, Nat.min_eq_left (by omega)]
  unfold put1
  have e3 : a * 2 ^ s + c = c + 2 ^ s * a := by rw [Nat.mul_comm]; omega
  rw [hr, e3, Nat.add_mul_div_left _ _ hs, Nat.add_mul_mod_self_left, Nat.div_eq_of_lt hc, Nat.mod_eq_of_lt hc, Nat.zero_add]
  omega
theorem rank_next (s i : Nat) : rank s (i + 1) = rank s i + if i / 2 ^ s % 2 = 0 then 1 else 0 := by
  have hs := Nat.two_pow_pos s
  have e2 := p1 s
  obtain ⟨a, b, c, e, hb, hc, h1, h2, h3⟩ := parts s i
  rw [h1]
  have hr : rank s i = a * 2 ^ s + min (b * 2 ^ s + c) (2 ^ s) := by conv => lhs; rw [e]
                                                                     exact rank_of hb hc
  by_cases hc1 : c + 1 < 2 ^ s
  · have e4 : i + 1 = a * 2 ^ (s + 1) + b * 2 ^ s + (c + 1) := by omega
    rw [hr, e4, rank_of hb hc1]
    rcases (by omega : b = 0 ∨ b = 1) with rfl | rfl
    · rw [if_pos rfl, Nat.zero_mul, Nat.zero_add, Nat.zero_add, Nat.min_eq_left (by omega), Nat.min_eq_left (by omega)]; omega
    · rw [if_neg (by omega), Nat.one_mul, Nat.min_eq_right (by omega), Nat.min_eq_right (by omega)]; rfl
  · rcases (by omega : b = 0 ∨ b = 1) with rfl | rfl
    · have e4 : i + 1 = a * 2 ^ (s + 1) + 1 * 2 ^ s + 0 := by omega
      rw [hr, e4, rank_of (by omega) hs, if_pos rfl, Nat.one_mul, Nat.zero_mul, Nat.zero_add, Nat.min_eq_right (by omega), Nat.min_eq_left (by omega)]; omega
    · have e4 : i + 1 = (a + 1) * 2 ^ (s + 1) + 0 * 2 ^ s + 0 := by rw [Nat.add_mul]; omega
      rw [hr, e4, rank_of (by omega) hs, if_neg (by omega), Nat.one_mul, Nat.zero_mul, Nat.zero_add, Nat.min_eq_left (by omega), Nat.min_eq_right (by omega), Nat.add_mul]; omega
theorem rank_0 (s : Nat) : rank s 0 = 0 := by
  unfold rank
  rw [Nat.zero_div, Nat.zero_mod, Nat.zero_mul, Nat.zero_add]
  exact Nat.zero_min _
/-- All places of n + 1 bits: as many as n bits have. -/
theorem rank_all (n s : Nat) (hs : s ≤ n) : rank s (2 ^ (n + 1)) = 2 ^ n := by
  unfold rank
  have e : 2 ^ (n + 1) = 2 ^ (s + 1) * 2 ^ (n - s) := by rw [← Nat.pow_add]; congr 1; omega
  rw [e, Nat.mul_div_cancel_left _ (Nat.two_pow_pos _), Nat.mul_mod_right, Nat.zero_min, Nat.add_zero, ← Nat.pow_add]
  congr 1
  omega

end Go.Proofs.Ytmhambifbimndaa.De1
