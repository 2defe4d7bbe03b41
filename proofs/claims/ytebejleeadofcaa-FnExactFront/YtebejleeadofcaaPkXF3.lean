/- Small texts of mine, one behind the other. -/
import Derived.Test.YtebejleeadofcaaPkXF2
import Derived.Test.YtebejleeadofcaaPkXF1
/- From which nodes a quantifier is reached, as plain data. -/
namespace Go.Proofs.Ytebejleeadofcaa.Tm5
open Nd0 Pl1 Tm0 Tm1

def quant (op : Int) : Bool := op == 19 || op == 20
def outer (op : Int) : Bool := op == 2 || op == 3 || op == 4 || quant op
def below (bs : List Bool) (ps : List Int) : Bool := ps.any fun p => flag bs p.toNat
/-- For each of the first k nodes whether a quantifier is reached from it. -/
def holdTo (l : List Nd) : Nat → List Bool
  | 0 => []
  | k + 1 => holdTo l k ++ [quant (nth l k).op || below (holdTo l k) (parts (nth l k))]
theorem holdTo_length (l : List Nd) (k : Nat) : (holdTo l k).length = k := by
  induction k with
  | zero => rfl
  | succ k ih => show (holdTo l k ++ [_]).length = _; rw [List.length_append, ih]; rfl
theorem below_take (bs : List Bool) (ps : List Int) (k : Nat) (h : k < ps.length) : below bs (ps.take (k + 1)) = (below bs (ps.take k) || flag bs (ps[k]).toNat) := by
  unfold below
  rw [List.take_succ_eq_append_getElem h, List.any_append]
  simp

end Go.Proofs.Ytebejleeadofcaa.Tm5

/- When a term is a sentence, as plain data. -/
namespace Go.Proofs.Ytebejleeadofcaa.Tm6
open Nd0 Pl1 Tm0 Tm1 Tm4 Tm5

def wd (ws : List Int) (p : Int) : Int := ws.getD p.toNat 0
theorem wd_get {ws : List Int} {i : Nat} (h : i < ws.length) : ws[i] = wd ws (i : Int) := by simp [wd, List.getD, h]
def qStep (l : List Nd) (ws : List Int) (k : Nat) : Option (List Int) :=
  if flag (reachL l) k && quant (nth l k).op then (if wd ws (nth l k).k = 0 then some (ws.set (nth l k).k.toNat (nth l k).b) else none) else some ws
/-- The widths that the reached quantifiers among the first k nodes tell; nothing where a variable has two. -/
def quantsTo (l : List Nd) : Nat → Option (List Int)
  | 0 => some (List.replicate 8 0)
  | k + 1 => (quantsTo l k).bind fun ws => qStep l ws k
def badNode (l : List Nd) (ws : List Int) (k : Nat) : Bool :=
  ((nth l k).op == 1 && wd ws (nth l k).k != (nth l k).w) || (flag (holdTo l l.length) k && !outer (nth l k).op)
def addUses (us : List Int) (ps : List Int) : List Int := ps.foldl (fun u p => u.set p.toNat (wd u p + 1)) us
def uStep (l : List Nd) (ws us : List Int) (k : Nat) : Option (List Int) :=
  if flag (reachL l) k then (if badNode l ws k then none else some (addUses us (parts (nth l k)))) else some us
/-- How often each node is a part of one of the first k reached nodes; nothing where one of these may not be. -/
def usesTo (l : List Nd) (ws : List Int) : Nat → Option (List Int)
  | 0 => some (List.replicate l.length 0)
  | k + 1 => (usesTo l ws k).bind fun us => uStep l ws us k
def twice (l : List Nd) (us : List Int) (k : Nat) : Bool := (List.range k).any fun i => flag (reachL l) i && flag (holdTo l l.length) i && decide (1 < wd us (i : Int))
def sentB (l : List Nd) : Bool :=
  termOk l && decide ((nth l (l.length - 1)).w = 1) && decide ((freeL l).length = 0) &&
    match quantsTo l l.length with
    | none => false
    | some ws => match usesTo l ws l.length with
      | none => false
      | some us => !twice l us l.length

theorem quants_none {l : List Nd} {k : Nat} (h : quantsTo l k = none) : ∀ j, k ≤ j → quantsTo l j = none := by
  intro j hj
  induction j with
  | zero => have : k = 0 := by omega
            subst this; exact h
  | succ j ih =>
    by_cases e : k = j + 1
    · subst e; exact h
    · show (quantsTo l j).bind _ = none
      rw [ih (by omega)]; rfl
theorem uses_none {l : List Nd} {ws : List Int} {k : Nat} (h : usesTo l ws k = none) : ∀ j, k ≤ j → usesTo l ws j = none := by
  intro j hj
  induction j with
  | zero => have : k = 0 := by omega
            subst this; exact h
  | succ j ih =>
    by_cases e : k = j + 1
    · subst e; exact h
    · show (usesTo l ws j).bind _ = none
      rw [ih (by omega)]; rfl
theorem quants_succ {l : List Nd} {k : Nat} {ws : List Int} (h : quantsTo l k = some ws) : quantsTo l (k + 1) = qStep l ws k := by
  show (quantsTo l k).bind _ = _; rw [h]; rfl
theorem uses_succ {l : List Nd} {k : Nat} {ws us : List Int} (h : usesTo l ws k = some us) : usesTo l ws (k + 1) = uStep l ws us k := by
  show (usesTo l ws k).bind _ = _; rw [h]; rfl
theorem sent_term {l : List Nd} (h : termOk l = false) : sentB l = false := by unfold sentB; rw [h]; rfl
theorem sent_root {l : List Nd} (h : ¬ (nth l (l.length - 1)).w = 1) : sentB l = false := by unfold sentB; rw [decide_eq_false h]; simp
theorem sent_free {l : List Nd} (h : ¬ (freeL l).length = 0) : sentB l = false := by unfold sentB; rw [decide_eq_false h]; simp
theorem sent_quants {l : List Nd} {k : Nat} (hk : k ≤ l.length) (h : quantsTo l k = none) : sentB l = false := by
  unfold sentB; rw [quants_none h _ hk]; simp
theorem sent_uses {l : List Nd} {k : Nat} {ws : List Int} (hk : k ≤ l.length) (hw : quantsTo l l.length = some ws) (h : usesTo l ws k = none) : sentB l = false := by
  unfold sentB; rw [hw]; simp only; rw [uses_none h _ hk]; simp
theorem sent_twice {l : List Nd} {ws us : List Int} (h1 : termOk l = true) (h2 : (nth l (l.length - 1)).w = 1) (h3 : (freeL l).length = 0) (hw : quantsTo l l.length = some ws) (hu : usesTo l ws l.length = some us) : sentB l = !twice l us l.length := by
  unfold sentB; rw [h1, decide_eq_true h2, decide_eq_true h3, hw]; simp only; rw [hu]; simp
theorem shape_var {l : List Nd} {k : Nat} (h : nodeOk l k = true) : ((nth l k).op = 1 ∨ quant (nth l k).op = true) → 0 ≤ (nth l k).k ∧ (nth l k).k ≤ 7 := by
  intro hop
  simp only [nodeOk, Bool.and_eq_true] at h
  have hs := h.2
  unfold shapeOk at hs
  rcases hop with h1 | h1
  · rw [if_neg (by omega), if_pos h1] at hs
    simp at hs; omega
  · have h2 : (nth l k).op = 19 ∨ (nth l k).op = 20 := by simpa [quant] using h1
    rw [if_neg (by omega), if_neg (by omega), if_neg (by omega), if_neg (by omega), if_neg (by omega), if_neg (by omega), if_neg (by omega), if_neg (by omega), if_pos h2] at hs
    simp at hs; omega

end Go.Proofs.Ytebejleeadofcaa.Tm6

/- Quantifiers at the front, as plain data: how often they change, their bits, when they and a rest are right, and the term that they make. -/
namespace Go.Proofs.Ytebejleeadofcaa.Fr0
open Nd0 Qa0 Tm0 Tm1 Tm5 Tm6
set_option linter.unusedVariables false

def qth (q : List Qu) (i : Nat) : Qu := q.getD i Qu.zero
theorem qth_get {q : List Qu} {i : Nat} (h : i < q.length) : q[i] = qth q i := by simp [qth, List.getD, h]

/-- How often among the first i a quantifier follows one of the other kind. -/
def swTo (q : List Qu) : Nat → Nat
  | 0 => 0
  | i + 1 => swTo q i + (if i = 0 then 0 else if (qth q i).all != (qth q (i - 1)).all then 1 else 0)
def swapsL (q : List Qu) : Nat := swTo q q.length
theorem swTo_le (q : List Qu) (i : Nat) : swTo q i ≤ i := by
  induction i with
  | zero => exact Nat.le_refl _
  | succ i ih =>
    show swTo q i + _ ≤ _
    split
    · omega
    · split <;> omega
theorem sw_one (q : List Qu) : swTo q 1 = 0 := rfl
theorem sw_next (q : List Qu) {i : Nat} (h : 1 ≤ i) : swTo q (i + 1) = swTo q i + (if (qth q i).all != (qth q (i - 1)).all then 1 else 0) := by
  show swTo q i + _ = _
  rw [if_neg (by omega)]

/-- The bits of the first i quantifiers; none where one has no width. -/
def bqTo (q : List Qu) : Nat → Option Nat
  | 0 => some 0
  | i + 1 => (bqTo q i).bind fun n => if 1 ≤ (qth q i).bits ∧ (qth q i).bits ≤ 8 then some (n + (qth q i).bits.toNat) else none
def rowTo (q : List Qu) : Nat → List Bool
  | 0 => []
  | i + 1 => rowTo q i ++ List.replicate (qth q i).bits.toNat (qth q i).all
/-- Whether they are right and no more bits than may be. -/
def fewB (q : List Qu) : Bool := match bqTo q q.length with
  | none => false
  | some n => decide (n ≤ 12)
def rowsL (q : List Qu) : List Bool := if fewB q then rowTo q q.length else []
theorem bq_none {q : List Qu} {k : Nat} (h : bqTo q k = none) : ∀ j, k ≤ j → bqTo q j = none := by
  intro j hj
  induction j with
  | zero => have : k = 0 := by omega
            subst this; exact h
  | succ j ih =>
    by_cases e : k = j + 1
    · subst e; exact h
    · show (bqTo q j).bind _ = none
      rw [ih (by omega)]; rfl
theorem bq_succ {q : List Qu} {k n : Nat} (h : bqTo q k = some n) (hb : 1 ≤ (qth q k).bits ∧ (qth q k).bits ≤ 8) : bqTo q (k + 1) = some (n + (qth q k).bits.toNat) := by
  show (bqTo q k).bind _ = _
  rw [h]
  exact if_pos hb
theorem bq_bad {q : List Qu} {k : Nat} (hb : ¬ (1 ≤ (qth q k).bits ∧ (qth q k).bits ≤ 8)) : bqTo q (k + 1) = none := by
  show (bqTo q k).bind _ = _
  cases bqTo q k with
  | none => rfl
  | some n => exact if_neg hb
theorem bq_le {q : List Qu} {k : Nat} : ∀ n, bqTo q k = some n → n ≤ 8 * k := by
  induction k with
  | zero => intro n h; cases h; omega
  | succ k ih =>
    intro n h
    by_cases hb : 1 ≤ (qth q k).bits ∧ (qth q k).bits ≤ 8
    · cases hk : bqTo q k with
      | none => rw [bq_none hk (k + 1) (by omega)] at h; cases h
      | some m =>
        rw [bq_succ hk hb] at h
        cases h
        have := ih m hk
        omega
    · rw [bq_bad hb] at h; cases h
theorem bq_mono {q : List Qu} {k n : Nat} (h : bqTo q k = some n) : ∀ j m, k ≤ j → bqTo q j = some m → n ≤ m := by
  intro j
  induction j with
  | zero => intro m hj hm; have : k = 0 := by omega
            subst this; rw [h] at hm; cases hm; exact Nat.le_refl _
  | succ j ih =>
    intro m hj hm
    by_cases e : k = j + 1
    · subst e; rw [h] at hm; cases hm; exact Nat.le_refl _
    · by_cases hb : 1 ≤ (qth q j).bits ∧ (qth q j).bits ≤ 8
      · cases hk : bqTo q j with
        | none => rw [bq_none hk (j + 1) (by omega)] at hm; cases hm
        | some x =>
          rw [bq_succ hk hb] at hm
          cases hm
          have := ih x (by omega) hk
          omega
      · rw [bq_bad hb] at hm; cases hm
theorem rowTo_length {q : List Qu} {k : Nat} : ∀ n, bqTo q k = some n → (rowTo q k).length = n := by
  induction k with
  | zero => intro n h; cases h; rfl
  | succ k ih =>
    intro n h
    by_cases hb : 1 ≤ (qth q k).bits ∧ (qth q k).bits ≤ 8
    · cases hk : bqTo q k with
      | none => rw [bq_none hk (k + 1) (by omega)] at h; cases h
      | some m =>
        rw [bq_succ hk hb] at h
        cases h
        show (rowTo q k ++ _).length = _
        rw [List.length_append, ih m hk, List.length_replicate]
    · rw [bq_bad hb] at h; cases h
theorem few_bad {q : List Qu} {k : Nat} (hk : k ≤ q.length) (h : bqTo q k = none) : fewB q = false := by
  unfold fewB; rw [bq_none h _ hk]
theorem few_much {q : List Qu} {k n : Nat} (hk : k ≤ q.length) (h : bqTo q k = some n) (hn : 12 < n) : fewB q = false := by
  unfold fewB
  cases hm : bqTo q q.length with
  | none => rfl
  | some m =>
    have := bq_mono h _ m hk hm
    exact decide_eq_false (by omega)
theorem few_yes {q : List Qu} {n : Nat} (h : bqTo q q.length = some n) (hn : n ≤ 12) : fewB q = true := by
  unfold fewB; rw [h]; exact decide_eq_true hn
theorem few_of {q : List Qu} (h : fewB q = true) : ∃ n, bqTo q q.length = some n ∧ n ≤ 12 := by
  unfold fewB at h
  cases hm : bqTo q q.length with
  | none => rw [hm] at h; cases h
  | some m => rw [hm] at h; exact ⟨m, rfl, of_decide_eq_true h⟩
theorem rowsL_le (q : List Qu) : (rowsL q).length ≤ 12 := by
  unfold rowsL
  split
  · rename_i h
    obtain ⟨n, h1, h2⟩ := few_of h
    rw [rowTo_length n h1]; exact h2
  · exact Nat.zero_le _
theorem rowTo_part (q : List Qu) (k j : Nat) : rowTo q k ++ List.replicate (j + 1) (qth q k).all = (rowTo q k ++ List.replicate j (qth q k).all) ++ [(qth q k).all] := by
  rw [List.replicate_succ', List.append_assoc]

/-- The width of each quantified variable; none where a variable or a width is none or a variable is there twice. -/
def wqStep (ws : List Int) (x : Qu) : Option (List Int) := if 0 ≤ x.vr ∧ x.vr ≤ 7 ∧ 1 ≤ x.bits ∧ x.bits ≤ 8 ∧ wd ws x.vr = 0 then some (ws.set x.vr.toNat x.bits) else none
def wqTo (q : List Qu) : Nat → Option (List Int)
  | 0 => some (List.replicate 8 0)
  | i + 1 => (wqTo q i).bind fun ws => wqStep ws (qth q i)
theorem wq_none {q : List Qu} {k : Nat} (h : wqTo q k = none) : ∀ j, k ≤ j → wqTo q j = none := by
  intro j hj
  induction j with
  | zero => have : k = 0 := by omega
            subst this; exact h
  | succ j ih =>
    by_cases e : k = j + 1
    · subst e; exact h
    · show (wqTo q j).bind _ = none
      rw [ih (by omega)]; rfl
theorem wq_succ {q : List Qu} {k : Nat} {ws : List Int} (h : wqTo q k = some ws) : wqTo q (k + 1) = wqStep ws (qth q k) := by
  show (wqTo q k).bind _ = _; rw [h]; rfl
theorem wq_len {q : List Qu} {k : Nat} : ∀ ws, wqTo q k = some ws → ws.length = 8 := by
  induction k with
  | zero => intro ws h; cases h; rfl
  | succ k ih =>
    intro ws h
    cases hk : wqTo q k with
    | none => rw [wq_none hk (k + 1) (by omega)] at h; cases h
    | some us =>
      rw [wq_succ hk] at h
      unfold wqStep at h
      split at h
      · cases h; rw [List.length_set]; exact ih us hk
      · cases h
/-- Whether node i of the rest may not be. -/
def badF (l : List Nd) (ws : List Int) (i : Nat) : Bool := quant (nth l i).op || (flag (reachL l) i && (nth l i).op == 1 && wd ws (nth l i).k != (nth l i).w)
def frontOkB (q : List Qu) (l : List Nd) : Bool :=
  termOk l && decide ((nth l (l.length - 1)).w = 1) && match wqTo q q.length with
    | none => false
    | some ws => !(List.range l.length).any (badF l ws)
theorem fo_term {q : List Qu} {l : List Nd} (h : termOk l = false) : frontOkB q l = false := by unfold frontOkB; rw [h]; rfl
theorem fo_root {q : List Qu} {l : List Nd} (h : ¬ (nth l (l.length - 1)).w = 1) : frontOkB q l = false := by unfold frontOkB; rw [decide_eq_false h]; simp
theorem fo_wid {q : List Qu} {l : List Nd} {k : Nat} (hk : k ≤ q.length) (h : wqTo q k = none) : frontOkB q l = false := by unfold frontOkB; rw [wq_none h _ hk]; simp
theorem fo_bad {q : List Qu} {l : List Nd} {ws : List Int} (h : wqTo q q.length = some ws) {i : Nat} (hi : i < l.length) (hb : badF l ws i = true) : frontOkB q l = false := by
  unfold frontOkB
  rw [h]
  have : (List.range l.length).any (badF l ws) = true := List.any_eq_true.2 ⟨i, List.mem_range.2 hi, hb⟩
  simp only [this]
  simp
theorem fo_yes {q : List Qu} {l : List Nd} {ws : List Int} (hT : termOk l = true) (hr : (nth l (l.length - 1)).w = 1) (h : wqTo q q.length = some ws) (hg : ∀ i, i < l.length → badF l ws i = false) : frontOkB q l = true := by
  unfold frontOkB
  rw [h, hT, decide_eq_true hr]
  have : (List.range l.length).any (badF l ws) = false := by
    rw [List.any_eq_false]; intro i hi; rw [hg i (List.mem_range.1 hi)]; simp
  simp only [this]
  rfl
theorem fo_of {q : List Qu} {l : List Nd} (h : frontOkB q l = true) : termOk l = true ∧ (nth l (l.length - 1)).w = 1 ∧ ∃ ws, wqTo q q.length = some ws ∧ ∀ i, i < l.length → badF l ws i = false := by
  unfold frontOkB at h
  simp only [Bool.and_eq_true] at h
  refine ⟨h.1.1, of_decide_eq_true h.1.2, ?_⟩
  cases hw : wqTo q q.length with
  | none => rw [hw] at h; cases h.2
  | some ws =>
    rw [hw] at h
    refine ⟨ws, rfl, fun i hi => ?_⟩
    have h2 := h.2
    simp only [Bool.not_eq_true', List.any_eq_false] at h2
    have := h2 i (List.mem_range.2 hi)
    simpa using this

/-- A quantifier as a node over place p. -/
def qNode (x : Qu) (p : Int) : Nd := ⟨if x.all then 19 else 20, 1, x.vr, p, x.bits, 0⟩
/-- The rest with the last k quantifiers behind it. -/
def backTo (q : List Qu) (l : List Nd) : Nat → List Nd
  | 0 => l
  | k + 1 => backTo q l k ++ [qNode (qth q (q.length - 1 - k)) ((backTo q l k).length - 1)]
theorem backTo_length (q : List Qu) (l : List Nd) (k : Nat) : (backTo q l k).length = l.length + k := by
  induction k with
  | zero => rfl
  | succ k ih => show (backTo q l k ++ [_]).length = _; rw [List.length_append, ih]; rfl
def backB (q : List Qu) (l : List Nd) : Bool := frontOkB q l && decide (l.length + q.length ≤ 80)
def backL (q : List Qu) (l : List Nd) : List Nd := if backB q l then backTo q l q.length else []
theorem backL_le (q : List Qu) (l : List Nd) : (backL q l).length ≤ 80 := by
  unfold backL
  split
  · rename_i h
    unfold backB at h
    simp only [Bool.and_eq_true, decide_eq_true_eq] at h
    rw [backTo_length]; omega
  · exact Nat.zero_le _
theorem wq_count {q : List Qu} : ∀ k ws, wqTo q k = some ws → k + (ws.filter (fun x => x == 0)).length ≤ 8 := by
  intro k
  induction k with
  | zero => intro ws h; cases h; decide
  | succ k ih =>
    intro ws h
    cases hk : wqTo q k with
    | none => rw [wq_none hk (k + 1) (by omega)] at h; cases h
    | some us =>
      have h1 := ih us hk
      have h8 := wq_len us hk
      rw [wq_succ hk] at h
      unfold wqStep at h
      split at h
      · rename_i hc
        cases h
        have : ∀ (l : List Int) (i : Nat) (y : Int), i < l.length → l.getD i 0 = 0 → y ≠ 0 → ((l.set i y).filter (fun x => x == 0)).length + 1 = (l.filter (fun x => x == 0)).length := by
          intro l
          induction l with
          | nil => intro i y hi; exact absurd hi (Nat.not_lt_zero _)
          | cons a l ih2 =>
            intro i y hi h0 hy
            cases i with
            | zero =>
              have h0' : a = 0 := h0
              subst h0'
              simp [hy]
            | succ i =>
              have h2 := ih2 i y (by simpa using hi) h0 hy
              rw [List.set_cons_succ, List.filter_cons, List.filter_cons]
              split
              · simp only [List.length_cons]; omega
              · exact h2
        have h2 := this us (qth q k).vr.toNat (qth q k).bits (by omega) (by have := hc.2.2.2.2; exact this) (by omega)
        omega
      · cases h
/-- Right quantifiers are at most eight. -/
theorem fo_few {q : List Qu} {l : List Nd} (h : frontOkB q l = true) : q.length ≤ 8 := by
  obtain ⟨_, _, ws, hw, _⟩ := fo_of h
  have := wq_count q.length ws hw
  omega

end Go.Proofs.Ytebejleeadofcaa.Fr0

/- The places of the reached nodes, as plain data. -/
namespace Go.Proofs.Ytebejleeadofcaa.Tm2
open Nd0 Pl1 Tm0 Tm1

def reachTo (l : List Nd) (k : Nat) : List Int := ((List.range k).filter (flag (reachL l))).map fun (i : Nat) => (i : Int)
/-- The places that the root reaches, ascending. -/
def reachedL (l : List Nd) : List Int := if termOk l then reachTo l l.length else []
theorem reachTo_succ (l : List Nd) (k : Nat) : reachTo l (k + 1) = if flag (reachL l) k then reachTo l k ++ [(k : Int)] else reachTo l k := by
  unfold reachTo
  rw [List.range_succ, List.filter_append, List.map_append]
  cases h : flag (reachL l) k <;> simp [h]
theorem reachTo_length (l : List Nd) (k : Nat) : (reachTo l k).length ≤ k := by
  unfold reachTo
  rw [List.length_map]
  exact Nat.le_trans (List.length_filter_le _ _) (by simp)

theorem reachedL_le (l : List Nd) : (reachedL l).length ≤ l.length := by
  unfold reachedL; split
  · exact reachTo_length l _
  · exact Nat.zero_le _

end Go.Proofs.Ytebejleeadofcaa.Tm2
