/- How many bits a sentence quantifies, as plain data. -/
import Derived.Test.YthcleldkknmflaaTm10
namespace Go.Proofs.Ythcleldkknmflaa.Tm11
open Nd0 Pl1 Tm0 Tm1 Tm2 Tm4 Tm5 Tm6 Tm8 Tm9 Tm10

def bitsTo (l : List Nd) : Nat → Int
  | 0 => 0
  | k + 1 => if flag (reachL l) k && quant (nth l k).op then bitsTo l k + (nth l k).b else bitsTo l k
/-- The bits of a sentence's quantifiers. -/
def bitsL (l : List Nd) : Int := if sentB l then bitsTo l l.length else 0
theorem quant_b {l : List Nd} {k : Nat} (h : nodeOk l k = true) (hq : quant (nth l k).op = true) : 1 ≤ (nth l k).b ∧ (nth l k).b ≤ 8 := by
  simp only [nodeOk, Bool.and_eq_true] at h
  have hs := h.2
  unfold shapeOk at hs
  have h2 : (nth l k).op = 19 ∨ (nth l k).op = 20 := by simpa [quant] using hq
  rw [if_neg (by omega), if_neg (by omega), if_neg (by omega), if_neg (by omega), if_neg (by omega), if_neg (by omega), if_neg (by omega), if_neg (by omega), if_pos h2] at hs
  simp at hs; omega
theorem bits_bound {l : List Nd} (hT : termOk l = true) : ∀ k, k ≤ l.length → 0 ≤ bitsTo l k ∧ bitsTo l k ≤ 8 * (k : Int) := by
  intro k
  induction k with
  | zero => intro _; exact ⟨Int.le_refl _, Int.le_refl _⟩
  | succ k ih =>
    intro hk
    have := ih (by omega)
    have e : bitsTo l (k + 1) = if flag (reachL l) k && quant (nth l k).op then bitsTo l k + (nth l k).b else bitsTo l k := rfl
    rw [e]
    split
    · rename_i h
      simp only [Bool.and_eq_true] at h
      have := quant_b (term_node hT (by omega : k < l.length)) h.2
      omega
    · omega
theorem bits_skip (l : List Nd) {x y : Nat} (hxy : x ≤ y) (h : (reachTo l x).length = (reachTo l y).length) : bitsTo l y = bitsTo l x := by
  induction y with
  | zero => have : x = 0 := by omega
            subst this; rfl
  | succ y ih =>
    by_cases e : x = y + 1
    · subst e; rfl
    · have hf : flag (reachL l) y = false := flag_between l h (by omega) (by omega)
      have e1 : bitsTo l (y + 1) = bitsTo l y := by show (if _ then _ else _) = _; rw [hf]; rfl
      rw [e1]
      refine ih (by omega) ?_
      have := reachTo_succ l y
      rw [hf] at this
      rw [h, this]; rfl
theorem bits_same (l : List Nd) {x y : Nat} (h : (reachTo l x).length = (reachTo l y).length) : bitsTo l y = bitsTo l x := by
  rcases Nat.le_total x y with hh | hh
  · exact bits_skip l hh h
  · exact (bits_skip l hh h.symm).symm
theorem sent_ok {l : List Nd} (h : sentB l = true) : termOk l = true := by
  cases ht : termOk l
  · rw [sent_term ht] at h; cases h
  · rfl

end Go.Proofs.Ythcleldkknmflaa.Tm11
