/- What the root reaches: the root, the parts of what it reaches, and nothing else. -/
import Derived.Test.YtebejleeadofcaaPkXF4
namespace Go.Proofs.Ytebejleeadofcaa.Tm8
open Nd0 Pl1 Tm0 Tm1 Tm2 Tm3

theorem markAll_flag (ps : List Int) : ∀ (bs : List Bool) (i : Nat), i < bs.length → flag (markAll bs ps) i = (flag bs i || ps.any fun p => p.toNat == i) := by
  induction ps with
  | nil => intro bs i _; simp [markAll]
  | cons p ps ih =>
    intro bs i hi
    show flag (markAll (bs.set p.toNat true) ps) i = _
    rw [ih _ _ (by rw [List.length_set]; exact hi)]
    by_cases hp : p.toNat < bs.length
    · rw [flag_set hp]
      by_cases e : p.toNat = i
      · simp [e]
      · have e' : (p.toNat == i) = false := by simpa using e
        rw [if_neg e, List.any_cons, e', Bool.false_or]
    · have : bs.set p.toNat true = bs := List.set_eq_of_length_le (by omega)
      rw [this]
      have e' : (p.toNat == i) = false := by simp; omega
      rw [List.any_cons, e', Bool.false_or]
/-- The parts of each node of a list stand ahead of it. -/
def Down (l : List Nd) : Prop := ∀ i, i < l.length → ∀ p ∈ parts (nth l i), 0 ≤ p ∧ p < (i : Int)
theorem down_of {l : List Nd} (h : termOk l = true) : Down l := by
  intro i hi p hp
  obtain ⟨j, hj, rfl⟩ := List.getElem_of_mem hp
  exact parts_ok (term_node h hi) j hj
theorem step_flag {l : List Nd} (bs : List Bool) (k i : Nat) (hi : i < bs.length) : flag (reachStep l bs k) i = (flag bs i || (flag bs k && (parts (nth l k)).any fun p => p.toNat == i)) := by
  unfold reachStep
  cases h : flag bs k
  · simp
  · rw [if_pos rfl, markAll_flag _ _ _ hi]; simp
theorem down_high {l : List Nd} (hD : Down l) : ∀ (k : Nat) (bs : List Bool), bs.length = l.length → k ≤ l.length → ∀ i, k ≤ i + 1 → i < l.length → flag (reachDown l k bs) i = flag bs i := by
  intro k
  induction k with
  | zero => intro bs _ _ i _ _; rfl
  | succ k ih =>
    intro bs hb hk i hi hl
    show flag (reachDown l k (reachStep l bs k)) i = _
    rw [ih _ (by rw [reachStep_length]; exact hb) (by omega) i (by omega) hl, step_flag _ _ _ (by omega)]
    have : ((parts (nth l k)).any fun p => p.toNat == i) = false := by
      rw [List.any_eq_false]
      intro p hp
      have := hD k (by omega) p hp
      simp; omega
    rw [this]; simp
theorem down_closed {l : List Nd} (hD : Down l) : ∀ (k : Nat) (bs : List Bool), bs.length = l.length → k ≤ l.length → (∀ i, k ≤ i → i < l.length → flag bs i = true → ∀ p ∈ parts (nth l i), flag bs p.toNat = true) →
    ∀ i, i < l.length → flag (reachDown l k bs) i = true → ∀ p ∈ parts (nth l i), flag (reachDown l k bs) p.toNat = true := by
  intro k
  induction k with
  | zero => intro bs _ _ h i hi hf p hp; exact h i (by omega) hi hf p hp
  | succ k ih =>
    intro bs hb hk h
    refine ih (reachStep l bs k) (by rw [reachStep_length]; exact hb) (by omega) ?_
    intro i hki hi hf p hp
    have hpd := hD i hi p hp
    rw [step_flag _ _ _ (by omega)] at hf
    rw [step_flag _ _ _ (by omega)]
    have hna : ((parts (nth l k)).any fun q => q.toNat == i) = false := by
      rw [List.any_eq_false]
      intro q hq
      have := hD k (by omega) q hq
      simp; omega
    rw [hna, Bool.and_false, Bool.or_false] at hf
    by_cases e : i = k
    · subst e
      rw [hf]
      have : ((parts (nth l i)).any fun q => q.toNat == p.toNat) = true := List.any_eq_true.2 ⟨p, hp, by simp⟩
      rw [this]; simp
    · rw [h i (by omega) hi hf p hp]; simp
theorem init_flag (n i : Nat) (h : i < n) : flag (reachInit n) i = (i + 1 == n) := by simp [flag, reachInit, List.getD, h]
theorem reach_closed {l : List Nd} (hD : Down l) {i : Nat} (hi : i < l.length) (hf : flag (reachL l) i = true) {p : Int} (hp : p ∈ parts (nth l i)) : flag (reachL l) p.toNat = true :=
  down_closed hD l.length _ (reachInit_length _) (Nat.le_refl _) (fun i h1 h2 => by omega) i hi hf p hp
theorem down_more {l : List Nd} : ∀ (k : Nat) (bs : List Bool), bs.length = l.length → ∀ i, i < l.length → flag bs i = true → flag (reachDown l k bs) i = true := by
  intro k
  induction k with
  | zero => intro bs _ i _ h; exact h
  | succ k ih =>
    intro bs hb i hi h
    refine ih (reachStep l bs k) (by rw [reachStep_length]; exact hb) i hi ?_
    rw [step_flag _ _ _ (by omega), h]; rfl
theorem reach_root {l : List Nd} (h : 1 ≤ l.length) : flag (reachL l) (l.length - 1) = true :=
  down_more l.length _ (reachInit_length _) _ (by omega) (by rw [init_flag _ _ (by omega)]; simp; omega)
theorem down_why {l : List Nd} (hD : Down l) : ∀ (k : Nat) (bs : List Bool), bs.length = l.length → k ≤ l.length → ∀ i, i < l.length → flag (reachDown l k bs) i = true → flag bs i = true ∨ ∃ j, i < j ∧ j < l.length ∧ flag (reachDown l k bs) j = true ∧ (i : Int) ∈ parts (nth l j) := by
  intro k
  induction k with
  | zero => intro bs _ _ i _ h; exact .inl h
  | succ k ih =>
    intro bs hb hk i hi h
    rcases ih (reachStep l bs k) (by rw [reachStep_length]; exact hb) (by omega) i hi h with h1 | h1
    · rw [step_flag _ _ _ (by omega)] at h1
      simp only [Bool.or_eq_true, Bool.and_eq_true] at h1
      rcases h1 with h1 | ⟨h1, h2⟩
      · exact .inl h1
      · obtain ⟨p, hp, hpe⟩ := List.any_eq_true.1 h2
        have hd := hD k (by omega) p hp
        simp at hpe
        have hpi : p = (i : Int) := by omega
        subst hpi
        refine .inr ⟨k, by omega, by omega, ?_, hp⟩
        exact down_more k _ (by rw [reachStep_length]; exact hb) k (by omega) (by rw [step_flag _ _ _ (by omega), h1]; rfl)
    · exact .inr h1
theorem reach_why {l : List Nd} (hD : Down l) {i : Nat} (hi : i < l.length) (hf : flag (reachL l) i = true) : i + 1 = l.length ∨ ∃ j, i < j ∧ j < l.length ∧ flag (reachL l) j = true ∧ (i : Int) ∈ parts (nth l j) := by
  rcases down_why hD l.length _ (reachInit_length _) (Nat.le_refl _) i hi hf with h | h
  · rw [init_flag _ _ hi] at h; exact .inl (by simpa using h)
  · exact .inr h

/-- The reached places in order, one by one. -/
theorem reach_at (l : List Nd) : ∀ (k j : Nat) (h : j < (reachTo l k).length), ∃ x : Nat, (reachTo l k)[j] = (x : Int) ∧ x < k ∧ flag (reachL l) x = true ∧ (reachTo l x).length = j := by
  intro k
  induction k with
  | zero => intro j h; simp [reachTo] at h
  | succ k ih =>
    intro j h
    have e := reachTo_succ l k
    cases hf : flag (reachL l) k
    · rw [hf] at e
      simp only [Bool.false_eq_true, if_false] at e
      have h' : j < (reachTo l k).length := by rw [← e]; exact h
      obtain ⟨x, h1, h2, h3, h4⟩ := ih j h'
      exact ⟨x, by simp only [e]; exact h1, by omega, h3, h4⟩
    · rw [hf, if_pos rfl] at e
      have hlen : (reachTo l (k + 1)).length = (reachTo l k).length + 1 := by rw [e]; simp
      by_cases hj : j < (reachTo l k).length
      · obtain ⟨x, h1, h2, h3, h4⟩ := ih j hj
        refine ⟨x, ?_, by omega, h3, h4⟩
        simp only [e]
        rw [List.getElem_append_left hj]; exact h1
      · have hje : j = (reachTo l k).length := by omega
        refine ⟨k, ?_, by omega, hf, hje.symm⟩
        simp only [e, hje]
        rw [List.getElem_append_right (Nat.le_refl _)]
        simp
theorem reachTo_mono (l : List Nd) {a b : Nat} (h : a ≤ b) : (reachTo l a).length ≤ (reachTo l b).length := by
  induction b with
  | zero => have : a = 0 := by omega
            subst this; exact Nat.le_refl _
  | succ b ih =>
    by_cases e : a = b + 1
    · subst e; exact Nat.le_refl _
    · refine Nat.le_trans (ih (by omega)) ?_
      rw [reachTo_succ]; split
      · simp
      · exact Nat.le_refl _
theorem reachTo_lt (l : List Nd) {a b : Nat} (h : a < b) (hf : flag (reachL l) a = true) : (reachTo l a).length < (reachTo l b).length := by
  have h1 := reachTo_mono l (a := a + 1) (b := b) (by omega)
  rw [reachTo_succ, hf, if_pos rfl, List.length_append] at h1
  simp at h1; omega
theorem reachTo_inj (l : List Nd) {a b : Nat} (ha : flag (reachL l) a = true) (hb : flag (reachL l) b = true) (h : (reachTo l a).length = (reachTo l b).length) : a = b := by
  rcases Nat.lt_trichotomy a b with h1 | h1 | h1
  · have := reachTo_lt l h1 ha; omega
  · exact h1
  · have := reachTo_lt l h1 hb; omega
theorem prune_map (l : List Nd) (k : Nat) : pruneTo l k = (reachTo l k).map fun p => remap l (nth l p.toNat) := by
  unfold pruneTo reachTo; rw [List.map_map]; rfl

end Go.Proofs.Ytebejleeadofcaa.Tm8
