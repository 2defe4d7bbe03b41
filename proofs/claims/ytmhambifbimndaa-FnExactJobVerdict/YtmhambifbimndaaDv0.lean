/- The verdict of a part of a table: plain facts. -/
import Derived.Test.YtmhambifbimndaaDe1
namespace Go.Proofs.Ytmhambifbimndaa.Dv0
open Go.RowKit
open Ta1 Ta3 De0
set_option linter.unusedVariables false

/-- The verdict where the first k bits have the values that p tells. -/
def dcAt (row : List Bool) (F : Nat → Bool) (k p : Nat) : Bool := dc (row.drop k) fun q => F (p * 2 ^ (row.length - k) + q)
theorem dcAt_0 (row : List Bool) (F : Nat → Bool) : dcAt row F 0 0 = dc row F := by
  unfold dcAt
  rw [List.drop_zero]
  refine dc_ext row fun q _ => ?_
  rw [Nat.zero_mul, Nat.zero_add]
theorem dcAt_end (row : List Bool) (F : Nat → Bool) (p : Nat) : dcAt row F row.length p = F p := by
  unfold dcAt
  rw [List.drop_length, Nat.sub_self]
  show F (p * 2 ^ 0 + 0) = F p
  rw [Nat.pow_zero, Nat.mul_one, Nat.add_zero]
theorem dcAt_half {row : List Bool} {k : Nat} (h : k < row.length) (F : Nat → Bool) (p b : Nat) :
    dc (row.drop (k + 1)) (hb (row.drop (k + 1)).length b fun q => F (p * 2 ^ (row.length - k) + q)) = dcAt row F (k + 1) (2 * p + b) := by
  unfold dcAt
  refine dc_ext _ fun q _ => ?_
  show F (p * 2 ^ (row.length - k) + (b * 2 ^ (row.drop (k + 1)).length + q)) = F ((2 * p + b) * 2 ^ (row.length - (k + 1)) + q)
  have e : row.length - k = (row.length - (k + 1)) + 1 := by omega
  rw [List.length_drop, e, Nat.pow_succ, Nat.add_mul, Nat.mul_comm 2 p, Nat.mul_assoc p 2, Nat.mul_comm 2, Nat.add_assoc]
theorem dcAt_step {row : List Bool} {k : Nat} (h : k < row.length) (F : Nat → Bool) (p : Nat) :
    dcAt row F k p = if row[k] = true then dcAt row F (k + 1) (2 * p) && dcAt row F (k + 1) (2 * p + 1) else dcAt row F (k + 1) (2 * p) || dcAt row F (k + 1) (2 * p + 1) := by
  have h0 : _ = dcAt row F (k + 1) (2 * p) := dcAt_half h F p 0
  have h1 := dcAt_half h F p 1
  rw [← h0, ← h1]
  conv => lhs; unfold dcAt
  rw [List.drop_eq_getElem_cons h]
  rfl
theorem dcAt_ext (row : List Bool) {F G : Nat → Bool} (h : ∀ p, p < 2 ^ row.length → F p = G p) {k p : Nat} (hk : k ≤ row.length) (hp : p < 2 ^ k) : dcAt row F k p = dcAt row G k p := by
  unfold dcAt
  refine dc_ext _ fun q hq => h _ ?_
  rw [List.length_drop] at hq
  have e : 2 ^ row.length = 2 ^ k * 2 ^ (row.length - k) := by rw [← Nat.pow_add]; congr 1; omega
  rw [e]
  have h1 : p * 2 ^ (row.length - k) ≤ (2 ^ k - 1) * 2 ^ (row.length - k) := Nat.mul_le_mul_right _ (by omega)
  have h2 : (2 ^ k - 1) * 2 ^ (row.length - k) = 2 ^ k * 2 ^ (row.length - k) - 2 ^ (row.length - k) := by rw [Nat.sub_mul, Nat.one_mul]
  have h3 : 2 ^ (row.length - k) ≤ 2 ^ k * 2 ^ (row.length - k) := Nat.le_mul_of_pos_left _ (Nat.two_pow_pos k)
  omega
theorem or_bit (p b : Nat) (hb : b ≤ 1) : 2 * p ||| b = 2 * p + b := by
  have := Nat.two_pow_add_eq_or_of_lt (b := b) (i := 1) (by omega) p
  rw [Nat.pow_one] at this
  exact this.symm

/-- The least value of a bit whose half is worth v. -/
def fst (x y : Bool) (v : Int) : Int := if (x.toNat : Int) = v then 0 else if (y.toNat : Int) = v then 1 else -1

end Go.Proofs.Ytmhambifbimndaa.Dv0
