/- When a term is a sentence, as plain data. -/
import Derived.Test.YthcleldkknmflaaTm5
import Derived.Test.YthcleldkknmflaaTm4
namespace Go.Proofs.Ythcleldkknmflaa.Tm6
open Nd0 Pl1 Tm0 Tm1 Tm4 Tm5

def wd (ws : List Int) (p : Int) : Int := ws.getD p.toNat 0
theorem wd_get {ws : List Int} {i : Nat} (h : i < ws.length) : ws[i] = wd ws (i : Int) := by simp [wd, List.getD, h]
def qStep (l : List Nd) (ws : List Int) (k : Nat) : Option (List Int) :=
  if flag (reachL l) k && quant (nth l k).op then (if wd ws (nth l k).k = 0 then some (ws.set (nth l k).k.toNat (nth l k).b) else none) else some ws
/-- The widths that the reached quantifiers among the first k nodes tell; nothing where a variable has two. -/
def quantsTo (l : List Nd) : Nat → Option (List Int)
  | 0 => some (List.replicate 8 0)
  | k + 1 => (quantsTo l k).bind fun ws => qStep l ws k
def badNode (l : List Nd) (ws : List Int) (k : Nat) : Bool :=
  ((nth l k).op == 1 && wd ws (nth l k).k != (nth l k).w) || (flag (holdTo l l.length) k && !outer (nth l k).op)
def addUses (us : List Int) (ps : List Int) : List Int := ps.foldl (fun u p => u.set p.toNat (wd u p + 1)) us
def uStep (l : List Nd) (ws us : List Int) (k : Nat) : Option (List Int) :=
  if flag (reachL l) k then (if badNode l ws k then none else some (addUses us (parts (nth l k)))) else some us
/-- How often each node is a part of one of the first k reached nodes; nothing where one of these may not be. -/
def usesTo (l : List Nd) (ws : List Int) : Nat → Option (List Int)
  | 0 => some (List.replicate l.length 0)
  | k + 1 => (usesTo l ws k).bind fun us => uStep l ws us k
def twice (l : List Nd) (us : List Int) (k : Nat) : Bool := (List.range k).any fun i => flag (reachL l) i && flag (holdTo l l.length) i && decide (1 < wd us (i : Int))
def sentB (l : List Nd) : Bool :=
  termOk l && decide ((nth l (l.length - 1)).w = 1) && decide ((freeL l).length = 0) &&
    match quantsTo l l.length with
    | none => false
    | some ws => match usesTo l ws l.length with
      | none => false
      | some us => !twice l us l.length

theorem quants_none {l : List Nd} {k : Nat} (h : quantsTo l k = none) : ∀ j, k ≤ j → quantsTo l j = none := by
  intro j hj
  induction j with
  | zero => have : k = 0 := by omega
            subst this; exact h
  | succ j ih =>
    by_cases e : k = j + 1
    · subst e; exact h
    · show (quantsTo l j).bind _ = none
      rw [ih (by omega)]; rfl
theorem uses_none {l : List Nd} {ws : List Int} {k : Nat} (h : usesTo l ws k = none) : ∀ j, k ≤ j → usesTo l ws j = none := by
  intro j hj
  induction j with
  | zero => have : k = 0 := by omega
            subst this; exact h
  | succ j ih =>
    by_cases e : k = j + 1
    · subst e; exact h
    · show (usesTo l ws j).bind _ = none
      rw [ih (by omega)]; rfl
theorem quants_succ {l : List Nd} {k : Nat} {ws : List Int} (h : quantsTo l k = some ws) : quantsTo l (k + 1) = qStep l ws k := by
  show (quantsTo l k).bind _ = _; rw [h]; rfl
theorem uses_succ {l : List Nd} {k : Nat} {ws us : List Int} (h : usesTo l ws k = some us) : usesTo l ws (k + 1) = uStep l ws us k := by
  show (usesTo l ws k).bind _ = _; rw [h]; rfl
theorem sent_term {l : List Nd} (h : termOk l = false) : sentB l = false := by unfold sentB; rw [h]; rfl
theorem sent_root {l : List Nd} (h : ¬ (nth l (l.length - 1)).w = 1) : sentB l = false := by unfold sentB; rw [decide_eq_false h]; simp
theorem sent_free {l : List Nd} (h : ¬ (freeL l).length = 0) : sentB l = false := by unfold sentB; rw [decide_eq_false h]; simp
theorem sent_quants {l : List Nd} {k : Nat} (hk : k ≤ l.length) (h : quantsTo l k = none) : sentB l = false := by
  unfold sentB; rw [quants_none h _ hk]; simp
theorem sent_uses {l : List Nd} {k : Nat} {ws : List Int} (hk : k ≤ l.length) (hw : quantsTo l l.length = some ws) (h : usesTo l ws k = none) : sentB l = false := by
  unfold sentB; rw [hw]; simp only; rw [uses_none h _ hk]; simp
theorem sent_twice {l : List Nd} {ws us : List Int} (h1 : termOk l = true) (h2 : (nth l (l.length - 1)).w = 1) (h3 : (freeL l).length = 0) (hw : quantsTo l l.length = some ws) (hu : usesTo l ws l.length = some us) : sentB l = !twice l us l.length := by
  unfold sentB; rw [h1, decide_eq_true h2, decide_eq_true h3, hw]; simp only; rw [hu]; simp
theorem shape_var {l : List Nd} {k : Nat} (h : nodeOk l k = true) : ((nth l k).op = 1 ∨ quant (nth l k).op = true) → 0 ≤ (nth l k).k ∧ (nth l k).k ≤ 7 := by
  intro hop
  simp only [nodeOk, Bool.and_eq_true] at h
  have hs := h.2
  unfold shapeOk at hs
  rcases hop with h1 | h1
  · rw [if_neg (by omega), if_pos h1] at hs
    simp at hs; omega
  · have h2 : (nth l k).op = 19 ∨ (nth l k).op = 20 := by simpa [quant] using h1
    rw [if_neg (by omega), if_neg (by omega), if_neg (by omega), if_neg (by omega), if_neg (by omega), if_neg (by omega), if_neg (by omega), if_neg (by omega), if_pos h2] at hs
    simp at hs; omega

end Go.Proofs.Ythcleldkknmflaa.Tm6
