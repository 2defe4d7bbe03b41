/- Two sentences as one, as plain data. -/
import Derived.Test.YtnkkigoeffghdaaPk1521
import Derived.Test.YtnkkigoeffghdaaPk157
import Derived.Test.YtnkkigoeffghdaaPk1511
namespace Go.Proofs.Ytnkkigoeffghdaa.Aq13
open Nd0 Pl1 Tm0 Tm1 Tm6 Tm8 Tm11 Aq0 Aq1
set_option linter.unusedVariables false

def bothN (a b : List Nd) : Nd := ⟨3, 1, 0, (a.length : Int) - 1, (a.length : Int) + (b.length : Int) - 1, 0⟩
/-- Whether two sentences can be one, and that one. -/
def bothB (a b : List Nd) : Bool := sentB a && sentB b && enough a b && termOk (bothAll a b)
def bothR (a b : List Nd) : List Nd := if bothB a b then bothAll a b else []
theorem bothR_le (a b : List Nd) : (bothR a b).length ≤ 80 := by
  unfold bothR
  split
  · rename_i h
    unfold bothB at h
    simp only [Bool.and_eq_true] at h
    exact (term_len h.2).2
  · exact Nat.zero_le _
theorem both_no {a b : List Nd} (h : bothB a b = false) : bothR a b = [] := by unfold bothR; rw [h]; rfl
theorem both_1 {a b : List Nd} (h : sentB a = false) : bothB a b = false ∧ bothR a b = [] := by
  have h1 : bothB a b = false := by unfold bothB; rw [h]; rfl
  exact ⟨h1, both_no h1⟩
theorem both_2 {a b : List Nd} (h : sentB b = false) : bothB a b = false ∧ bothR a b = [] := by
  have h1 : bothB a b = false := by unfold bothB; rw [h, Bool.and_false]; rfl
  exact ⟨h1, both_no h1⟩
theorem both_3 {a b : List Nd} (h : enough a b = false) : bothB a b = false ∧ bothR a b = [] := by
  have h1 : bothB a b = false := by unfold bothB; rw [h, Bool.and_false]; rfl
  exact ⟨h1, both_no h1⟩
theorem both_4 {a b : List Nd} (h1 : sentB a = true) (h2 : sentB b = true) (h3 : enough a b = true) : bothB a b = termOk (bothAll a b) ∧ bothR a b = if termOk (bothAll a b) then bothAll a b else [] := by
  have h : bothB a b = termOk (bothAll a b) := by unfold bothB; rw [h1, h2, h3]; rfl
  exact ⟨h, by unfold bothR; rw [h]⟩
theorem both_all (a b : List Nd) : joinL a (b.map (nwN a b)) ++ [bothN a b] = bothAll a b := rfl

end Go.Proofs.Ytnkkigoeffghdaa.Aq13
