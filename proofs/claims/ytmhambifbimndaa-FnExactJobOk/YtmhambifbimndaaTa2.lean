/- Plain facts of tables: halves, places, needs. -/
import Derived.Test.YtmhambifbimndaaTa1
import Derived.Test.YtmhambifbimndaaSs1
namespace Go.Proofs.Ytmhambifbimndaa.Ta2
open Go.RowKit
open Ta0 Ta1
open Ss0 (bs bs_size ret_str bs_ext)
set_option linter.unusedVariables false

theorem half_cut (n b : Nat) (F : Nat → Bool) (hb : b ≤ 1) : ((tab (n + 1) F).take (b * 2 ^ n + 2 ^ n)).drop (b * 2 ^ n) = tab n fun p => F (b * 2 ^ n + p) := by
  have hp : 2 ^ (n + 1) = 2 * 2 ^ n := by rw [Nat.pow_succ]; omega
  have hle : b * 2 ^ n + 2 ^ n ≤ 2 ^ (n + 1) := by rcases (by omega : b = 0 ∨ b = 1) with rfl | rfl <;> omega
  refine list_tab ?_ fun i hi => ?_
  · rw [List.length_drop, List.length_take, tab_length]; omega
  · rw [List.getElem_drop, List.getElem_take, tab_get]
theorem half_text (n b : Nat) (F : Nat → Bool) (hb : b ≤ 1) : (bs (tab (n + 1) F)).extract (b * 2 ^ n) (b * 2 ^ n + 2 ^ n) = bs (tab n fun p => F (b * 2 ^ n + p)) := by
  rw [bs_ext, half_cut n b F hb]

theorem xor_add {i s : Nat} (h : i / 2 ^ s % 2 = 0) : i ^^^ 2 ^ s = i + 2 ^ s := by
  obtain ⟨q, r, hi, hr⟩ : ∃ q r, i = 2 ^ (s + 1) * q + r ∧ r < 2 ^ s := by
    refine ⟨i / 2 ^ s / 2, i % 2 ^ s, ?_, Nat.mod_lt _ (Nat.two_pow_pos _)⟩
    have h1 := Nat.div_add_mod i (2 ^ s)
    have h2 : 2 ^ (s + 1) * (i / 2 ^ s / 2) = 2 ^ s * (i / 2 ^ s) := by
      rw [Nat.pow_succ, Nat.mul_assoc]; congr 1; omega
    omega
  have hp : 2 ^ (s + 1) = 2 * 2 ^ s := by rw [Nat.pow_succ]; omega
  have hr1 : r < 2 ^ (s + 1) := by omega
  have hr2 : 2 ^ s + r < 2 ^ (s + 1) := by omega
  refine Nat.eq_of_testBit_eq fun j => ?_
  rw [Nat.testBit_xor, Nat.testBit_two_pow, hi, Nat.add_assoc, Nat.add_comm r, Nat.testBit_two_pow_mul_add q hr1, Nat.testBit_two_pow_mul_add q hr2]
  by_cases hj : j < s + 1
  · rw [if_pos hj, if_pos hj]
    by_cases e : s = j
    · subst e
      rw [Nat.testBit_two_pow_add_eq]; simp
    · rw [Nat.testBit_two_pow_add_gt (by omega)]; simp [e]
  · rw [if_neg hj, if_neg hj]
    have : ¬ s = j := by omega
    simp [this]
theorem xor_sub {i s : Nat} (h : i / 2 ^ s % 2 = 1) : 2 ^ s ≤ i ∧ (i - 2 ^ s) / 2 ^ s % 2 = 0 ∧ i ^^^ 2 ^ s = i - 2 ^ s := by
  have hp := Nat.two_pow_pos s
  have h1 : 2 ^ s ≤ i := by
    rcases Nat.lt_or_ge i (2 ^ s) with h2 | h2
    · rw [Nat.div_eq_of_lt h2] at h; omega
    · exact h2
  have h2 : (i - 2 ^ s) / 2 ^ s = i / 2 ^ s - 1 := by
    have : i = (i - 2 ^ s) + 2 ^ s := by omega
    have h3 := Nat.add_div_right (i - 2 ^ s) hp
    rw [← this] at h3
    rw [h3]; simp
  have h3 : (i - 2 ^ s) / 2 ^ s % 2 = 0 := by rw [h2]; omega
  refine ⟨h1, h3, ?_⟩
  have h4 := xor_add h3
  rw [show i - 2 ^ s + 2 ^ s = i by omega] at h4
  rw [← h4, Nat.xor_assoc, Nat.xor_self, Nat.xor_zero, h4]
/-- Does the table need its bit b? -/
def ndB (n : Nat) (F : Nat → Bool) (b : Nat) : Bool := (List.range (2 ^ n)).any fun p => F p != F (p ^^^ 2 ^ (n - 1 - b))
theorem nd_yes {n b i : Nat} {F : Nat → Bool} (hi : i < 2 ^ n) (h0 : i / 2 ^ (n - 1 - b) % 2 = 0) (h : F i ≠ F (i + 2 ^ (n - 1 - b))) : ndB n F b = true := by
  unfold ndB
  rw [List.any_eq_true]
  refine ⟨i, List.mem_range.2 hi, ?_⟩
  rw [xor_add h0]
  simpa using h
theorem nd_no {n b : Nat} {F : Nat → Bool} (hb : b < n) (h : ∀ i, i < 2 ^ n → i / 2 ^ (n - 1 - b) % 2 = 0 → F i = F (i + 2 ^ (n - 1 - b))) : ndB n F b = false := by
  unfold ndB
  rw [List.any_eq_false]
  intro p hp
  have hp := List.mem_range.1 hp
  rcases Nat.mod_two_eq_zero_or_one (p / 2 ^ (n - 1 - b)) with h0 | h1
  · rw [xor_add h0, ← h p hp h0]; simp
  · obtain ⟨h2, h3, h4⟩ := xor_sub h1
    rw [h4, h (p - 2 ^ (n - 1 - b)) (Nat.lt_of_le_of_lt (Nat.sub_le _ _) hp) h3, show p - 2 ^ (n - 1 - b) + 2 ^ (n - 1 - b) = p by omega]; simp
theorem nd_in {n b i : Nat} (hb : b < n) (hi : i < 2 ^ n) (h0 : i / 2 ^ (n - 1 - b) % 2 = 0) : i + 2 ^ (n - 1 - b) < 2 ^ n := by
  rw [← xor_add h0]
  exact Nat.xor_lt_two_pow hi (Nat.pow_lt_pow_right (by omega) (by omega))
/-- The bits that it needs, of the first k. -/
def ndTo (n : Nat) (F : Nat → Bool) (k : Nat) : List Int := ((List.range k).filter (ndB n F)).map fun (b : Nat) => (b : Int)
theorem ndTo_yes {n k : Nat} {F : Nat → Bool} (h : ndB n F k = true) : ndTo n F (k + 1) = ndTo n F k ++ [(k : Int)] := by
  unfold ndTo; rw [List.range_succ, List.filter_append]; simp [h]
theorem ndTo_no {n k : Nat} {F : Nat → Bool} (h : ndB n F k = false) : ndTo n F (k + 1) = ndTo n F k := by
  unfold ndTo; rw [List.range_succ, List.filter_append]; simp [h]
theorem ndTo_le (n k : Nat) (F : Nat → Bool) : (ndTo n F k).length ≤ k := by
  unfold ndTo; rw [List.length_map]; exact Nat.le_trans (List.length_filter_le _ _) (by simp)

/-- Values of bits. -/
def bitB (x : Int) : Bool := decide (x = 0 ∨ x = 1)
/-- The place that the first k of them name. -/
def plc (l : List Int) : Nat → Nat
  | 0 => 0
  | k + 1 => 2 * plc l k + (l.getD k 0).toNat
theorem plc_lt {l : List Int} {k : Nat} (h : ∀ i, i < k → bitB (l.getD i 0) = true) : plc l k < 2 ^ k := by
  induction k with
  | zero => exact Nat.one_pos
  | succ k ih =>
    have h1 := ih fun i hi => h i (by omega)
    have h2 := of_decide_eq_true (h k (by omega))
    show 2 * plc l k + _ < _
    rw [Nat.pow_succ]
    rcases h2 with h2 | h2 <;> rw [h2] <;> simp <;> omega
/-- What TableAt tells. -/
def atB (n : Nat) (F : Nat → Bool) (l : List Int) : Int := if l.length = n ∧ ∀ i, i < l.length → bitB (l.getD i 0) = true then ((F (plc l l.length)).toNat : Int) else -1
theorem at_len {n : Nat} {F : Nat → Bool} {l : List Int} (h : l.length ≠ n) : atB n F l = -1 := by unfold atB; rw [if_neg fun k => h k.1]
theorem at_bad {n : Nat} {F : Nat → Bool} {l : List Int} {i : Nat} (hi : i < l.length) (h : bitB (l.getD i 0) = false) : atB n F l = -1 := by
  unfold atB; rw [if_neg fun k => by have := k.2 i hi; rw [h] at this; cases this]
theorem at_good {n : Nat} {F : Nat → Bool} {l : List Int} (h : l.length = n) (h2 : ∀ i, i < l.length → bitB (l.getD i 0) = true) : atB n F l = ((F (plc l l.length)).toNat : Int) := by
  unfold atB; rw [if_pos ⟨h, h2⟩]

end Go.Proofs.Ytmhambifbimndaa.Ta2
