/- When a term is a sentence: what the program asks, over the reached nodes alone. -/
import Derived.Test.YtebejleeadofcaaTm8
import Derived.Test.YtebejleeadofcaaPkXF11
namespace Go.Proofs.Ytebejleeadofcaa.Tm10
open Nd0 Pl1 Tm0 Tm1 Tm2 Tm3 Tm4 Tm5 Tm6 Tm8 Tm9 Rw1

theorem quants_skip1 (l : List Nd) (x : Nat) (h : flag (reachL l) x = false) : quantsTo l (x + 1) = quantsTo l x := by
  show (quantsTo l x).bind _ = _
  cases hq : quantsTo l x with
  | none => rfl
  | some ws => show qStep l ws x = _; unfold qStep; rw [h]; rfl
theorem flag_between (l : List Nd) {x y z : Nat} (h : (reachTo l x).length = (reachTo l y).length) (h1 : x ≤ z) (h2 : z < y) : flag (reachL l) z = false := by
  cases hf : flag (reachL l) z
  · rfl
  · have a1 := reachTo_mono l h1
    have a2 := reachTo_lt l h2 hf
    omega
theorem quants_skip (l : List Nd) {x y : Nat} (hxy : x ≤ y) (h : (reachTo l x).length = (reachTo l y).length) : quantsTo l y = quantsTo l x := by
  induction y with
  | zero => have : x = 0 := by omega
            subst this; rfl
  | succ y ih =>
    by_cases e : x = y + 1
    · subst e; rfl
    · have hf : flag (reachL l) y = false := flag_between l h (by omega) (by omega)
      rw [quants_skip1 l y hf]
      refine ih (by omega) ?_
      have := reachTo_succ l y
      rw [hf] at this
      rw [h, this]; rfl
theorem quants_same (l : List Nd) {x y : Nat} (h : (reachTo l x).length = (reachTo l y).length) : quantsTo l y = quantsTo l x := by
  rcases Nat.le_total x y with hh | hh
  · exact quants_skip l hh h
  · exact (quants_skip l hh h.symm).symm
theorem quants_len {l : List Nd} : ∀ {k : Nat} {ws : List Int}, quantsTo l k = some ws → ws.length = 8 := by
  intro k
  induction k with
  | zero => intro ws h; cases h; rfl
  | succ k ih =>
    intro ws h
    cases hq : quantsTo l k with
    | none => rw [quants_none hq _ (Nat.le_succ _)] at h; cases h
    | some w0 =>
      rw [quants_succ hq] at h
      unfold qStep at h
      split at h
      · split at h
        · cases h; rw [List.length_set]; exact ih hq
        · cases h
      · cases h; exact ih hq

/-- How often each node is a part of one of the first k reached nodes. -/
def usesF (l : List Nd) : Nat → List Int
  | 0 => List.replicate l.length 0
  | k + 1 => if flag (reachL l) k then addUses (usesF l k) (parts (nth l k)) else usesF l k
theorem usesF_length (l : List Nd) (k : Nat) : (usesF l k).length = l.length := by
  induction k with
  | zero => simp [usesF]
  | succ k ih => unfold usesF; split
                 · rw [addUses_length]; exact ih
                 · exact ih
theorem uses_some {l : List Nd} {ws : List Int} : ∀ {k : Nat}, (∀ i, i < k → flag (reachL l) i = true → badNode l ws i = false) → usesTo l ws k = some (usesF l k) := by
  intro k
  induction k with
  | zero => intro _; rfl
  | succ k ih =>
    intro h
    rw [uses_succ (ih (fun i hi => h i (by omega)))]
    show uStep l ws (usesF l k) k = some (if flag (reachL l) k then addUses (usesF l k) (parts (nth l k)) else usesF l k)
    unfold uStep
    cases hf : flag (reachL l) k
    · rfl
    · rw [if_pos rfl, if_pos rfl, h k (by omega) hf]; rfl
theorem uses_bad {l : List Nd} {ws : List Int} {i k : Nat} (hi : i < k) (hf : flag (reachL l) i = true) (hb : badNode l ws i = true) : usesTo l ws k = none := by
  have : usesTo l ws (i + 1) = none := by
    show (usesTo l ws i).bind _ = none
    cases hu : usesTo l ws i with
    | none => rfl
    | some us => show uStep l ws us i = none; unfold uStep; rw [hf, if_pos rfl, hb]; rfl
  exact uses_none this _ (by omega)

theorem usesF_skip (l : List Nd) {x y : Nat} (hxy : x ≤ y) (h : (reachTo l x).length = (reachTo l y).length) : usesF l y = usesF l x := by
  induction y with
  | zero => have : x = 0 := by omega
            subst this; rfl
  | succ y ih =>
    by_cases e : x = y + 1
    · subst e; rfl
    · have hf : flag (reachL l) y = false := flag_between l h (by omega) (by omega)
      have e1 : usesF l (y + 1) = usesF l y := by show (if _ then _ else _) = _; rw [hf]; rfl
      rw [e1]
      refine ih (by omega) ?_
      have := reachTo_succ l y
      rw [hf] at this
      rw [h, this]; rfl
theorem usesF_same (l : List Nd) {x y : Nat} (h : (reachTo l x).length = (reachTo l y).length) : usesF l y = usesF l x := by
  rcases Nat.le_total x y with hh | hh
  · exact usesF_skip l hh h
  · exact (usesF_skip l hh h.symm).symm

/-- Adding never takes away. -/
theorem addUses_le (ps : List Int) : ∀ (us : List Int) (q : Nat), wd us (q : Int) ≤ wd (addUses us ps) (q : Int) := by
  induction ps with
  | nil => intro us q; exact Int.le_refl _
  | cons p ps ih =>
    intro us q
    refine Int.le_trans ?_ (ih (us.set p.toNat (wd us p + 1)) q)
    by_cases hp : p.toNat < us.length
    · rw [wd_set hp]
      split
      · rename_i e
        have e2 := wd_toNat us p
        rw [← e] at e2
        omega
      · exact Int.le_refl _
    · rw [List.set_eq_of_length_le (by omega)]; exact Int.le_refl _
theorem usesF_le (l : List Nd) {x y : Nat} (h : x ≤ y) (q : Nat) : wd (usesF l x) (q : Int) ≤ wd (usesF l y) (q : Int) := by
  induction y with
  | zero => have : x = 0 := by omega
            subst this; exact Int.le_refl _
  | succ y ih =>
    by_cases e : x = y + 1
    · subst e; exact Int.le_refl _
    · refine Int.le_trans (ih (by omega)) ?_
      show _ ≤ wd (if _ then _ else _) _
      split
      · exact addUses_le _ _ _
      · exact Int.le_refl _

theorem hold_prefix (l : List Nd) {k n i : Nat} (hi : i < k) (hk : k ≤ n) : flag (holdTo l n) i = flag (holdTo l k) i := by
  induction n with
  | zero => omega
  | succ n ih =>
    by_cases e : k = n + 1
    · subst e; rfl
    · rw [← ih (by omega)]
      show flag (holdTo l n ++ [_]) i = _
      unfold flag
      rw [List.getD_eq_getElem?_getD, List.getElem?_append_left (by rw [holdTo_length]; omega), ← List.getD_eq_getElem?_getD]
/-- A node holds a quantifier just when it is one or one of its parts holds one. -/
theorem hold_at {l : List Nd} (hD : Down l) {i : Nat} (hi : i < l.length) : flag (holdTo l l.length) i = (quant (nth l i).op || below (holdTo l l.length) (parts (nth l i))) := by
  rw [hold_prefix l (k := i + 1) (n := l.length) (by omega) (by omega)]
  have e1 : flag (holdTo l (i + 1)) i = (quant (nth l i).op || below (holdTo l i) (parts (nth l i))) := by
    show flag (holdTo l i ++ [_]) i = _
    unfold flag
    rw [List.getD_eq_getElem?_getD, List.getElem?_append_right (by rw [holdTo_length]; exact Nat.le_refl _), holdTo_length]
    simp
  rw [e1]
  congr 1
  unfold below
  rw [Bool.eq_iff_iff, List.any_eq_true, List.any_eq_true]
  constructor
  · rintro ⟨p, hp, hf⟩
    have hd := hD i hi p hp
    exact ⟨p, hp, by rw [hold_prefix l (k := i) (n := l.length) (by omega) (by omega)]; exact hf⟩
  · rintro ⟨p, hp, hf⟩
    have hd := hD i hi p hp
    exact ⟨p, hp, by rw [← hold_prefix l (k := i) (n := l.length) (by omega) (by omega)]; exact hf⟩

/-- Whether the reached quantifiers can come to the front. -/
def Mov (l : List Nd) : Prop := (∀ i, i < l.length → flag (reachL l) i = true → flag (holdTo l l.length) i = true → outer (nth l i).op = true) ∧ ∀ i, i < l.length → flag (reachL l) i = true → flag (holdTo l l.length) i = true → wd (usesF l l.length) (i : Int) ≤ 1
/-- Whether the reached variables have the widths ws. -/
def Wid (l : List Nd) (ws : List Int) : Prop := ∀ i, i < l.length → flag (reachL l) i = true → (nth l i).op = 1 → (nth l i).w = wd ws (nth l i).k

theorem sent_all {l : List Nd} {ws : List Int} (h1 : termOk l = true) (h2 : (nth l (l.length - 1)).w = 1) (h3 : (freeL l).length = 0) (hq : quantsTo l l.length = some ws) (hw : Wid l ws) (hm : Mov l) : sentB l = true := by
  have hu : usesTo l ws l.length = some (usesF l l.length) := uses_some (fun i hi hf => by
    unfold badNode
    have a1 : ((nth l i).op == 1 && wd ws (nth l i).k != (nth l i).w) = false := by
      cases ho : ((nth l i).op == 1)
      · rfl
      · have := hw i hi hf (by simpa using ho)
        simp [this]
    have a2 : (flag (holdTo l l.length) i && !outer (nth l i).op) = false := by
      cases hh : flag (holdTo l l.length) i
      · rfl
      · rw [hm.1 i hi hf hh]; rfl
    rw [a1, a2]; rfl)
  rw [sent_twice h1 h2 h3 hq hu]
  have : twice l (usesF l l.length) l.length = false := by
    unfold twice
    rw [List.any_eq_false]
    intro i hi
    have hi' := List.mem_range.1 hi
    cases hf : flag (reachL l) i
    · simp
    · cases hh : flag (holdTo l l.length) i
      · simp
      · have := hm.2 i hi' hf hh
        simp; omega
  rw [this]; rfl
theorem sent_wid {l : List Nd} {ws : List Int} (hq : quantsTo l l.length = some ws) {i : Nat} (hi : i < l.length) (hf : flag (reachL l) i = true) (ho : (nth l i).op = 1) (hw : (nth l i).w ≠ wd ws (nth l i).k) : sentB l = false :=
  sent_uses (k := l.length) (Nat.le_refl _) hq (uses_bad hi hf (by
    unfold badNode
    have : ((nth l i).op == 1 && wd ws (nth l i).k != (nth l i).w) = true := by
      rw [Bool.and_eq_true]; exact ⟨by simpa using ho, by simp; exact fun e => hw e.symm⟩
    rw [this]; rfl))
theorem sent_outer {l : List Nd} {i : Nat} (hi : i < l.length) (hf : flag (reachL l) i = true) (hh : flag (holdTo l l.length) i = true) (ho : outer (nth l i).op = false) : sentB l = false := by
  cases hq : quantsTo l l.length with
  | none => exact sent_quants (Nat.le_refl _) hq
  | some ws => exact sent_uses (k := l.length) (Nat.le_refl _) hq (uses_bad hi hf (by unfold badNode; rw [hh, ho]; simp))
theorem sent_used {l : List Nd} {i : Nat} (hi : i < l.length) (hf : flag (reachL l) i = true) (hh : flag (holdTo l l.length) i = true) (hu : 1 < wd (usesF l l.length) (i : Int)) : sentB l = false := by
  cases hq : quantsTo l l.length with
  | none => exact sent_quants (Nat.le_refl _) hq
  | some ws =>
    cases hus : usesTo l ws l.length with
    | none => exact sent_uses (k := l.length) (Nat.le_refl _) hq hus
    | some us =>
      have hno : ∀ i, i < l.length → flag (reachL l) i = true → badNode l ws i = false := by
        intro j hj hjf
        cases hb : badNode l ws j
        · rfl
        · rw [uses_bad hj hjf hb] at hus; cases hus
      have e := uses_some (k := l.length) hno
      rw [hus] at e
      cases e
      unfold sentB
      rw [hq]; simp only
      rw [hus]; simp only
      rw [twice_found hi hf hh hu]; simp

end Go.Proofs.Ytebejleeadofcaa.Tm10
