/- How often nodes are used, as plain data: small facts. -/
import Derived.Test.YthcleldkknmflaaTm6
import Derived.Test.YthcleldkknmflaaRw1
namespace Go.Proofs.Ythcleldkknmflaa.Tm9
open Nd0 Pl1 Tm0 Tm1 Tm4 Tm5 Tm6 Rw1

theorem addUses_length (ps : List Int) : ∀ us : List Int, (addUses us ps).length = us.length := by
  induction ps with
  | nil => intro us; rfl
  | cons p ps ih => intro us; show (addUses (us.set p.toNat (wd us p + 1)) ps).length = _; rw [ih, List.length_set]
theorem uses_length {l : List Nd} {ws : List Int} : ∀ {k : Nat} {us : List Int}, usesTo l ws k = some us → us.length = l.length := by
  intro k
  induction k with
  | zero => intro us h; cases h; simp
  | succ k ih =>
    intro us h
    cases hu : usesTo l ws k with
    | none => rw [uses_none hu _ (Nat.le_succ _)] at h; cases h
    | some u0 =>
      rw [uses_succ hu] at h
      unfold uStep at h
      split at h
      · split at h
        · cases h
        · cases h; rw [addUses_length]; exact ih hu
      · cases h; exact ih hu
/-- No number of the list is below 0 or above B. -/
def Upto (us : List Int) (B : Int) : Prop := ∀ p : Int, 0 ≤ wd us p ∧ wd us p ≤ B
theorem upto_zero (n : Nat) : Upto (List.replicate n 0) 0 := by
  intro p
  have : wd (List.replicate n 0) p = 0 := by
    unfold wd; rw [List.getD_eq_getElem?_getD]
    rcases Nat.lt_or_ge p.toNat n with h | h
    · rw [List.getElem?_replicate, if_pos h]; rfl
    · rw [List.getElem?_replicate, if_neg (by omega)]; rfl
  rw [this]; exact ⟨Int.le_refl _, Int.le_refl _⟩
theorem upto_mono {us : List Int} {B C : Int} (h : Upto us B) (hc : B ≤ C) : Upto us C := fun p => ⟨(h p).1, Int.le_trans (h p).2 hc⟩
theorem wd_toNat (us : List Int) (q : Int) : wd us q = wd us ((q.toNat : Nat) : Int) := by unfold wd; rw [Int.toNat_natCast]
theorem upto_set {us : List Int} {B : Int} (h : Upto us B) (p : Nat) : Upto (us.set p (wd us (p : Int) + 1)) (B + 1) := by
  intro q
  have hq := h q
  have hp := h (p : Int)
  by_cases hl : p < us.length
  · have e := wd_toNat (us.set p (wd us (p : Int) + 1)) q
    have e2 := wd_toNat us q
    rw [e, wd_set hl]
    split
    · omega
    · rw [← e2]; omega
  · rw [List.set_eq_of_length_le (by omega)]; omega
theorem twice_succ (l : List Nd) (us : List Int) (k : Nat) : twice l us (k + 1) = (twice l us k || (flag (reachL l) k && flag (holdTo l l.length) k && decide (1 < wd us (k : Int)))) := by
  unfold twice
  rw [List.range_succ, List.any_append]
  simp
theorem twice_found {l : List Nd} {us : List Int} {k n : Nat} (h : k < n) (h1 : flag (reachL l) k = true) (h2 : flag (holdTo l l.length) k = true) (h3 : 1 < wd us (k : Int)) : twice l us n = true := by
  unfold twice
  rw [List.any_eq_true]
  exact ⟨k, List.mem_range.2 h, by rw [h1, h2]; simpa using h3⟩

end Go.Proofs.Ythcleldkknmflaa.Tm9
