/- The model's functions over tables: count, known, not. -/
import Derived.Laws.IdiomStrings
import Derived.Test.YtficonkpbohpeaaDoorTc5
import Derived.Test.YtficonkpbohpeaaDoorAp9
namespace Go.Proofs.YtficonkpbohpeaaDoor.Td1
open Go.RowKit
open Ta0 Ta1 Tc2 Tc5 Ap9
open Nd0 (Kept set_other set_same lt_of_cell)
open Ss0 (bs bs_size ret_str)
open Ss1 (tl tl_length tl_get tl_take bs_tl tl_bs tl_inj eqb)
set_option linter.unusedVariables false

/-- What a right table's string has: its size and its signs. -/
structure Sg (S : ByteArray) (P : Nat) (F : Nat → Bool) : Prop where
  size : S.size = P
  at_ : ∀ k (h : k < S.size), (S[k].toNat : Int) = 48 + ((F k).toNat : Int)
theorem sg_tab (n : Nat) (F : Nat → Bool) : Sg (bs (tab n F)) (2 ^ n) F :=
  ⟨by rw [bs_size, tab_length], fun k h => by rw [bs_tab_get, sgn_toNat]; push_cast; rfl⟩

/-- What is known: 0, 1 or nothing. -/
def knw (n : Nat) (F : Nat → Bool) : Int := if cnt F (2 ^ n) = 0 then 0 else if cnt F (2 ^ n) = 2 ^ n then 1 else -1
theorem knw_same {n : Nat} {F : Nat → Bool} (h : ∀ j, j < 2 ^ n → F j = F 0) : knw n F = ((F 0).toNat : Int) := by
  unfold knw
  have hp := Nat.one_le_two_pow (n := n)
  cases h0 : F 0
  · rw [if_pos ((cnt_zero F _).2 fun j hj => by rw [h j hj, h0])]; rfl
  · have h1 := (cnt_all F (2 ^ n)).2 fun j hj => by rw [h j hj, h0]
    rw [if_neg (by omega), if_pos h1]; rfl
theorem knw_diff {n : Nat} {F : Nat → Bool} {k : Nat} (hk : k < 2 ^ n) (h : F k ≠ F 0) : knw n F = -1 := by
  unfold knw
  have hp := Nat.one_le_two_pow (n := n)
  rw [if_neg, if_neg]
  · intro e
    have := (cnt_all F _).1 e
    exact h (by rw [this k hk, this 0 (by omega)])
  · intro e
    have := (cnt_zero F _).1 e
    exact h (by rw [this k hk, this 0 (by omega)])

end Go.Proofs.YtficonkpbohpeaaDoor.Td1
