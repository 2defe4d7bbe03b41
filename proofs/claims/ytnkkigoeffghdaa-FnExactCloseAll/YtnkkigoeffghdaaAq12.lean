/- Terms from terms, as plain data: a formula closed by its free variables. -/
import Derived.Test.YtnkkigoeffghdaaAq2
namespace Go.Proofs.Ytnkkigoeffghdaa.Aq12
open Nd0 Pl1 Tm0 Tm1 Tm3 Tm4 Tm5 Tm7 Tm8 Tm12 Tm13 Tm14 Aq0 Aq2
set_option linter.unusedVariables false

/-- A quantifier for variable v at place p. -/
def clN (v : Nat) (p u : Int) : Nd := ⟨19, 1, (v : Int), p, u, 0⟩
/-- What is put behind l for the k greatest variables. -/
def clTo (l : List Nd) : Nat → List Nd
  | 0 => []
  | k + 1 => if ffTop l (7 - k) = 80 then clTo l k else clTo l k ++ [clN (7 - k) ((l.length : Int) + ((clTo l k).length : Int) - 1) (widL l (7 - k))]
theorem clTo_le (l : List Nd) : ∀ k, (clTo l k).length ≤ k := by
  intro k
  induction k with
  | zero => exact Nat.le_refl _
  | succ k ih =>
    unfold clTo
    split
    · omega
    · rw [List.length_append]; show _ + 1 ≤ _; omega
theorem clTo_skip {l : List Nd} {k : Nat} (h : ffTop l (7 - k) = 80) : clTo l (k + 1) = clTo l k := by
  show (if _ then _ else _) = _
  rw [if_pos h]
theorem clTo_more {l : List Nd} {k : Nat} (h : ¬ ffTop l (7 - k) = 80) : clTo l (k + 1) = clTo l k ++ [clN (7 - k) ((l.length : Int) + ((clTo l k).length : Int) - 1) (widL l (7 - k))] := by
  show (if _ then _ else _) = _
  rw [if_neg h]
def clAll (l : List Nd) : List Nd := l ++ clTo l 8
/-- Whether l can be closed, and what it is closed to. -/
def clB (l : List Nd) : Bool := termOk l && (nth l (l.length - 1)).w == 1 && termOk (clAll l)
def clL (l : List Nd) : List Nd := if clB l then clAll l else []
theorem clL_le (l : List Nd) : (clL l).length ≤ 80 := by
  unfold clL
  split
  · rename_i h
    unfold clB at h
    simp only [Bool.and_eq_true] at h
    exact (term_len h.2).2
  · exact Nat.zero_le _
theorem cl_term {l : List Nd} (h : termOk l = false) : clB l = false ∧ clL l = [] := by
  have h1 : clB l = false := by unfold clB; rw [h]; rfl
  exact ⟨h1, by unfold clL; rw [h1]; rfl⟩
theorem cl_wid {l : List Nd} (h : ((nth l (l.length - 1)).w == 1) = false) : clB l = false ∧ clL l = [] := by
  have h1 : clB l = false := by unfold clB; rw [h, Bool.and_false]; rfl
  exact ⟨h1, by unfold clL; rw [h1]; rfl⟩
theorem cl_all {l : List Nd} (hT : termOk l = true) (h : ((nth l (l.length - 1)).w == 1) = true) : clB l = termOk (clAll l) ∧ clL l = if termOk (clAll l) then clAll l else [] := by
  have h1 : clB l = termOk (clAll l) := by unfold clB; rw [hT, h]; rfl
  exact ⟨h1, by unfold clL; rw [h1]⟩
/-- Where the whole is a term, so is each beginning. -/
theorem cl_less {l : List Nd} (h1 : 1 ≤ l.length) : ∀ d k, k + d = 8 → termOk (clAll l) = true → termOk (l ++ clTo l k) = true := by
  intro d
  induction d with
  | zero => intro k hk h; have : k = 8 := by omega
            subst this; exact h
  | succ d ih =>
    intro k hk h
    have h2 := ih (k + 1) (by omega) h
    by_cases e : ffTop l (7 - k) = 80
    · rw [clTo_skip e] at h2; exact h2
    · rw [clTo_more e, ← List.append_assoc] at h2
      exact term_less h2 (by rw [List.length_append]; omega)

end Go.Proofs.Ytnkkigoeffghdaa.Aq12
