/- Terms from terms, as plain data: which variable stands free first, and what a formula's closing puts behind it. -/
import Derived.Test.YtnkkigoeffghdaaPk158
import Derived.Test.YtnkkigoeffghdaaPk1521
namespace Go.Proofs.Ytnkkigoeffghdaa.Aq2
open Nd0 Pl1 Tm0 Tm1 Tm3 Tm4 Tm5 Tm7 Tm8 Tm12 Tm13 Tm14 Aq0
set_option linter.unusedVariables false

def isVar (n : Nd) (v : Nat) : Bool := n.op == 1 && n.k == (v : Int)
def isQ (n : Nd) (v : Nat) : Bool := quant n.op && n.k == (v : Int)
def mn (a b : Int) : Int := if b < a then b else a
def least (l : List Int) : Int := l.foldl mn 80
theorem least_snoc (l : List Int) (x : Int) : least (l ++ [x]) = mn (least l) x := by simp [least]
/-- The first node of variable v that stands free in a node whose parts have these. -/
def ffAt (v : Nat) (i : Nat) (n : Nd) (ps : List Int) : Int := if isVar n v then (i : Int) else if isQ n v then 80 else least ps
/-- .. of each variable. -/
def ffF (i : Nat) (n : Nd) (ps : List (List Int)) : List Int := (List.range 8).map fun v => ffAt v i n (ps.map fun r => r.getD v 80)
def ffTo (l : List Nd) (v k : Nat) : List Int := wk 80 (ffAt v) l k
def ffTop (l : List Nd) (v : Nat) : Int := (ffTo l v l.length).getD (l.length - 1) 80
/-- The rows of all variables are the lists of each. -/
theorem rows_at (l : List Nd) {v : Nat} (hv : v < 8) : ∀ k i, i < k → k ≤ l.length → Down l → ((wk [] ffF l k).getD i []).getD v 80 = (ffTo l v k).getD i 80 := by
  intro k
  induction k with
  | zero => intro i hi; omega
  | succ k ih =>
    intro i hi hk hD
    by_cases e : i < k
    · rw [wk_old [] ffF l (k := k) e (by omega), ih i e (by omega) hD]
      exact (wk_old 80 (ffAt v) l (k := k) e (by omega)).symm
    · have e2 : i = k := by omega
      subst e2
      unfold ffTo
      rw [wk_new, wk_new]
      unfold ffF
      rw [List.getD_eq_getElem?_getD, List.getElem?_map, List.getElem?_range hv]
      show ffAt v i (nth l i) _ = _
      congr 1
      rw [List.map_map]
      apply List.map_congr_left
      intro p hp
      have := hD i (by omega) p hp
      exact ih p.toNat (by omega) (by omega) hD

theorem mn_le (a b : Int) : mn a b ≤ a ∧ mn a b ≤ b ∧ (mn a b = a ∨ mn a b = b) := by unfold mn; split <;> omega
theorem fold_le : ∀ (l : List Int) (a : Int), l.foldl mn a ≤ a ∧ (∀ x ∈ l, l.foldl mn a ≤ x) ∧ (l.foldl mn a = a ∨ l.foldl mn a ∈ l) := by
  intro l
  induction l with
  | nil => intro a; exact ⟨Int.le_refl _, (fun x hx => by cases hx), .inl rfl⟩
  | cons y l ih =>
    intro a
    have h := mn_le a y
    have k := ih (mn a y)
    refine ⟨Int.le_trans k.1 h.1, fun x hx => ?_, ?_⟩
    · rcases List.mem_cons.1 hx with rfl | hx
      · exact Int.le_trans k.1 h.2.1
      · exact k.2.1 x hx
    · show l.foldl mn (mn a y) = a ∨ l.foldl mn (mn a y) ∈ y :: l
      rcases k.2.2 with e | e
      · rw [e]
        rcases h.2.2 with e2 | e2
        · exact .inl e2
        · exact .inr (by rw [e2]; simp)
      · exact .inr (List.mem_cons_of_mem _ e)
theorem least_le (l : List Int) : least l ≤ 80 ∧ (∀ x ∈ l, least l ≤ x) ∧ (least l = 80 ∨ least l ∈ l) := fold_le l 80

/-- The nodes that stand free of a quantifier of v, from the root down to place k. -/
def vStep (l : List Nd) (v : Nat) (bs : List Bool) (i : Nat) : List Bool := if flag bs i && !isQ (nth l i) v then markAll bs (parts (nth l i)) else bs
def vDown (l : List Nd) (v : Nat) : Nat → List Bool → List Bool
  | 0, bs => bs
  | k + 1, bs => vDown l v k (vStep l v bs k)
def vL (l : List Nd) (v : Nat) : List Bool := vDown l v l.length (reachInit l.length)
theorem vStep_length (l : List Nd) (v : Nat) (bs : List Bool) (i : Nat) : (vStep l v bs i).length = bs.length := by
  unfold vStep; split
  · exact markAll_length _ _
  · rfl
theorem vDown_length (l : List Nd) (v : Nat) : ∀ (k : Nat) (bs : List Bool), (vDown l v k bs).length = bs.length := by
  intro k
  induction k with
  | zero => intro bs; rfl
  | succ k ih => intro bs; show (vDown l v k _).length = _; rw [ih, vStep_length]
theorem vStep_flag {l : List Nd} (v : Nat) (bs : List Bool) (k i : Nat) (hi : i < bs.length) : flag (vStep l v bs k) i = (flag bs i || ((flag bs k && !isQ (nth l k) v) && (parts (nth l k)).any fun p => p.toNat == i)) := by
  unfold vStep
  split
  · next h => rw [markAll_flag _ _ _ hi, h]; simp
  · next h => simp [Bool.eq_false_iff.2 h]
theorem v_high {l : List Nd} (hD : Down l) (v : Nat) : ∀ (k : Nat) (bs : List Bool), bs.length = l.length → k ≤ l.length → ∀ i, k ≤ i + 1 → i < l.length → flag (vDown l v k bs) i = flag bs i := by
  intro k
  induction k with
  | zero => intro bs _ _ i _ _; rfl
  | succ k ih =>
    intro bs hb hk i hi hl
    show flag (vDown l v k (vStep l v bs k)) i = _
    rw [ih _ (by rw [vStep_length]; exact hb) (by omega) i (by omega) hl, vStep_flag v bs k i (by omega)]
    have : (parts (nth l k)).any (fun p => p.toNat == i) = false := by
      rw [List.any_eq_false]
      intro p hp
      have := hD k (by omega) p hp
      simp; omega
    rw [this]; simp
theorem v_closed {l : List Nd} (hD : Down l) (v : Nat) : ∀ (k : Nat) (bs : List Bool), bs.length = l.length → k ≤ l.length → (∀ i, k ≤ i → i < l.length → flag bs i = true → isQ (nth l i) v = false → ∀ p ∈ parts (nth l i), flag bs p.toNat = true) →
    ∀ i, i < l.length → flag (vDown l v k bs) i = true → isQ (nth l i) v = false → ∀ p ∈ parts (nth l i), flag (vDown l v k bs) p.toNat = true := by
  intro k
  induction k with
  | zero => intro bs hb _ h i hi hf hq p hp; exact h i (by omega) hi hf hq p hp
  | succ k ih =>
    intro bs hb hk h i hi hf hq p hp
    refine ih (vStep l v bs k) (by rw [vStep_length]; exact hb) (by omega) (fun j hj hjl hfj hqj q hq' => ?_) i hi hf hq p hp
    have hqb := hD j hjl q hq'
    rw [vStep_flag v bs k _ (by omega)] at hfj ⊢
    by_cases e : j = k
    · subst e
      have hno : (parts (nth l j)).any (fun p => p.toNat == j) = false := by
        rw [List.any_eq_false]
        intro p hp
        have := hD j hjl p hp
        simp; omega
      rw [hno] at hfj
      simp at hfj
      rw [hfj, hqj]
      have : (parts (nth l j)).any (fun p => p.toNat == q.toNat) = true := List.any_eq_true.2 ⟨q, hq', by simp⟩
      rw [this]; simp
    · have hno : (parts (nth l k)).any (fun p => p.toNat == j) = false := by
        rw [List.any_eq_false]
        intro p hp
        have := hD k (by omega) p hp
        simp; omega
      rw [hno] at hfj
      simp at hfj
      rw [h j (by omega) hjl hfj hqj q hq']
      simp
theorem v_more {l : List Nd} (v : Nat) : ∀ (k : Nat) (bs : List Bool), bs.length = l.length → ∀ i, i < l.length → flag bs i = true → flag (vDown l v k bs) i = true := by
  intro k
  induction k with
  | zero => intro bs _ i _ h; exact h
  | succ k ih =>
    intro bs hb i hi h
    exact ih _ (by rw [vStep_length]; exact hb) i hi (by rw [vStep_flag v bs k i (by omega), h]; rfl)
theorem v_why {l : List Nd} (hD : Down l) (v : Nat) : ∀ (k : Nat) (bs : List Bool), bs.length = l.length → k ≤ l.length → ∀ i, i < l.length → flag (vDown l v k bs) i = true →
    flag bs i = true ∨ ∃ j, i < j ∧ j < l.length ∧ flag (vDown l v k bs) j = true ∧ isQ (nth l j) v = false ∧ (i : Int) ∈ parts (nth l j) := by
  intro k
  induction k with
  | zero => intro bs _ _ i _ h; exact .inl h
  | succ k ih =>
    intro bs hb hk i hi h
    have hb' : (vStep l v bs k).length = l.length := by rw [vStep_length]; exact hb
    rcases ih _ hb' (by omega) i hi h with h1 | ⟨j, h1⟩
    · rw [vStep_flag v bs k i (by omega)] at h1
      cases hf : flag bs i
      · rw [hf] at h1
        simp only [Bool.false_or, Bool.and_eq_true] at h1
        obtain ⟨⟨h2, h3⟩, h4⟩ := h1
        obtain ⟨p, hp, hpi⟩ := List.any_eq_true.1 h4
        have hpd := hD k (by omega) p hp
        have e : p = (i : Int) := by simp at hpi; omega
        subst e
        refine .inr ⟨k, by omega, by omega, ?_, by simpa using h3, hp⟩
        exact v_more v k _ hb' k (by omega) (by rw [vStep_flag v bs k k (by omega), h2]; rfl)
      · exact .inl rfl
    · exact .inr ⟨j, h1⟩
/-- The width of the first node of variable v among those that stand free. -/
def vWid (l : List Nd) (v : Nat) : Nat → Int
  | 0 => 1
  | k + 1 => if flag (vL l v) (l.length - (k + 1)) && isVar (nth l (l.length - (k + 1))) v then (nth l (l.length - (k + 1))).w else vWid l v k
def widL (l : List Nd) (v : Nat) : Int := vWid l v l.length

theorem isVar_parts {n : Nd} {v : Nat} (h : isVar n v = true) : parts n = [] := by
  have : n.op = 1 := by unfold isVar at h; simp at h; exact h.1
  exact parts_none (by omega) (by omega) (by omega)
theorem ff_at {l : List Nd} (hD : Down l) (v : Nat) {i : Nat} (hi : i < l.length) : (ffTo l v l.length).getD i 80 = ffAt v i (nth l i) ((parts (nth l i)).map fun p => (ffTo l v l.length).getD p.toNat 80) :=
  wk_at 80 (ffAt v) hD hi hi
theorem v_root {l : List Nd} (hD : Down l) (v : Nat) (h : 1 ≤ l.length) : flag (vL l v) (l.length - 1) = true :=
  v_more v _ _ (reachInit_length _) _ (by omega) (by rw [init_flag _ _ (by omega)]; simp; omega)
/-- What stands free is not ahead of the first of the root's. -/
theorem ff_down {l : List Nd} (hD : Down l) (v : Nat) (h1 : 1 ≤ l.length) : ∀ d i, l.length = i + 1 + d → flag (vL l v) i = true → ffTop l v ≤ (ffTo l v l.length).getD i 80 := by
  intro d
  induction d using Nat.strongRecOn with
  | ind d ih =>
    intro i hd hf
    rcases v_why hD v l.length _ (reachInit_length _) (Nat.le_refl _) i (by omega) hf with h | ⟨j, hij, hjl, hfj, hqj, hp⟩
    · rw [init_flag _ _ (by omega)] at h
      have : i = l.length - 1 := by simp at h; omega
      subst this; exact Int.le_refl _
    · refine Int.le_trans (ih (l.length - 1 - j) (by omega) j (by omega) hfj) ?_
      rw [ff_at hD v hjl]
      unfold ffAt
      have hv : isVar (nth l j) v = false := by
        cases e : isVar (nth l j) v
        · rfl
        · rw [isVar_parts e] at hp; cases hp
      rw [hv, hqj]
      simp only [Bool.false_eq_true, if_false]
      refine (least_le _).2.1 _ (List.mem_map.2 ⟨(i : Int), hp, ?_⟩)
      rw [Int.toNat_natCast]
/-- What is told of a node that stands free is no number, or that of such a node of the variable. -/
theorem ff_up {l : List Nd} (hD : Down l) (v : Nat) : ∀ i, i < l.length → flag (vL l v) i = true →
    (ffTo l v l.length).getD i 80 = 80 ∨ ∃ j, j ≤ i ∧ (ffTo l v l.length).getD i 80 = (j : Int) ∧ flag (vL l v) j = true ∧ isVar (nth l j) v = true := by
  intro i
  induction i using Nat.strongRecOn with
  | ind i ih =>
    intro hi hf
    rw [ff_at hD v hi]
    unfold ffAt
    cases hv : isVar (nth l i) v
    · cases hq : isQ (nth l i) v
      · simp only [Bool.false_eq_true, if_false]
        rcases (least_le ((parts (nth l i)).map fun p => (ffTo l v l.length).getD p.toNat 80)).2.2 with e | e
        · exact .inl e
        · obtain ⟨p, hp, he⟩ := List.mem_map.1 e
          have hpd := hD i hi p hp
          have hfp := v_closed hD v l.length _ (reachInit_length _) (Nat.le_refl _) (fun a h1 h2 => by omega) i hi hf hq p hp
          rw [← he]
          rcases ih p.toNat (by omega) (by omega) hfp with h | ⟨j, h1, h2⟩
          · exact .inl h
          · exact .inr ⟨j, by omega, h2⟩
      · exact .inl (by simp)
    · exact .inr ⟨i, Nat.le_refl _, by simp, hf, hv⟩
/-- The first one's width. -/
theorem wid_ff {l : List Nd} (hD : Down l) (v : Nat) (h1 : 1 ≤ l.length) (h80 : l.length ≤ 80) (h : ¬ ffTop l v = 80) : ∃ j : Nat, ffTop l v = (j : Int) ∧ j < l.length ∧ widL l v = (nth l j).w := by
  rcases ff_up hD v (l.length - 1) (by omega) (v_root hD v h1) with e | ⟨j, hj, he, hf, hv⟩
  · exact absurd e h
  · refine ⟨j, he, by omega, ?_⟩
    have hmin : ∀ i, i < l.length → flag (vL l v) i = true → isVar (nth l i) v = true → j ≤ i := by
      intro i hi hfi hvi
      have h9 := ff_down hD v h1 (l.length - 1 - i) i (by omega) hfi
      rw [ff_at hD v hi] at h9
      unfold ffAt at h9
      rw [hvi, if_pos rfl] at h9
      have : ffTop l v = (j : Int) := he
      omega
    have : ∀ k, k ≤ l.length → l.length - k ≤ j → vWid l v k = (nth l j).w := by
      intro k
      induction k with
      | zero => intro _ h9; omega
      | succ k ih =>
        intro hk h9
        unfold vWid
        by_cases e : l.length - (k + 1) = j
        · rw [e, hf, hv]; simp
        · have hn : (flag (vL l v) (l.length - (k + 1)) && isVar (nth l (l.length - (k + 1))) v) = false := by
            rw [Bool.eq_false_iff]
            intro hc
            simp only [Bool.and_eq_true] at hc
            have := hmin _ (by omega) hc.1 hc.2
            omega
          rw [hn]
          exact ih (by omega) (by omega)
    exact this l.length (Nat.le_refl _) (by omega)
/-- A variable is free just where there is a first one. -/
theorem ff_free {l : List Nd} (hD : Down l) (h80 : l.length ≤ 80) {v : Nat} (hv : v < 8) : ∀ i, i < l.length → (flag (row (freeRows l l.length) (i : Int)) v = true ↔ ¬ (ffTo l v l.length).getD i 80 = 80) := by
  intro i
  induction i using Nat.strongRecOn with
  | ind i ih =>
    intro hi
    rw [free_at hD hi hv, ff_at hD v hi]
    have hq' : (((nth l i).op == 19 || (nth l i).op == 20) && (nth l i).k == (v : Int)) = isQ (nth l i) v := rfl
    have hv' : ((nth l i).op == 1 && (nth l i).k == (v : Int)) = isVar (nth l i) v := rfl
    unfold freeAt ffAt
    rw [hq', hv']
    cases hvv : isVar (nth l i) v
    · cases hq : isQ (nth l i) v
      · simp only [Bool.false_eq_true, if_false, Bool.false_or]
        have hl := least_le ((parts (nth l i)).map fun p => (ffTo l v l.length).getD p.toNat 80)
        unfold inParts
        rw [List.any_eq_true]
        constructor
        · rintro ⟨p, hp, hf⟩
          have hpd := hD i hi p hp
          have e : ((p.toNat : Nat) : Int) = p := by omega
          rw [← e] at hf
          have h9 := (ih p.toNat (by omega) (by omega)).1 hf
          have h8 := hl.2.1 _ (List.mem_map.2 ⟨p, hp, rfl⟩)
          have h7 : (ffTo l v l.length).getD p.toNat 80 ≤ 80 := by
            rw [ff_at hD v (by omega)]
            unfold ffAt
            split
            · omega
            · split
              · omega
              · exact (least_le _).1
          omega
        · intro h9
          rcases hl.2.2 with e | e
          · exact absurd e h9
          · obtain ⟨p, hp, he⟩ := List.mem_map.1 e
            have hpd := hD i hi p hp
            refine ⟨p, hp, ?_⟩
            have e2 : ((p.toNat : Nat) : Int) = p := by omega
            rw [← e2]
            exact (ih p.toNat (by omega) (by omega)).2 (by rw [he]; exact h9)
      · simp
    · have hq : isQ (nth l i) v = false := by
        unfold isVar at hvv
        unfold isQ quant
        simp only [Bool.and_eq_true, beq_iff_eq] at hvv
        rw [hvv.1]; rfl
      rw [hq]
      simp; omega
theorem free_top {l : List Nd} (hD : Down l) (h1 : 1 ≤ l.length) (h80 : l.length ≤ 80) {v : Nat} (hv : v < 8) : flag (freeTop l) v = true ↔ ¬ ffTop l v = 80 := by
  have h := ff_free hD h80 hv (l.length - 1) (by omega)
  have e : ((l.length - 1 : Nat) : Int) = (l.length : Int) - 1 := by omega
  rw [e] at h
  exact h

end Go.Proofs.Ytnkkigoeffghdaa.Aq2
