/- Small texts of mine, one behind the other. -/
import Derived.Test.YtbnjndloeflgiaaGreatPkTA0
/- When a term is a sentence, as plain data. -/
namespace Go.Proofs.YtbnjndloeflgiaaGreat.Tm6
open Nd0 Pl1 Tm0 Tm1 Tm4 Tm5

def wd (ws : List Int) (p : Int) : Int := ws.getD p.toNat 0
theorem wd_get {ws : List Int} {i : Nat} (h : i < ws.length) : ws[i] = wd ws (i : Int) := by simp [wd, List.getD, h]
def qStep (l : List Nd) (ws : List Int) (k : Nat) : Option (List Int) :=
  if flag (reachL l) k && quant (nth l k).op then (if wd ws (nth l k).k = 0 then some (ws.set (nth l k).k.toNat (nth l k).b) else none) else some ws
def quantsTo (l : List Nd) : Nat → Option (List Int)
  | 0 => some (List.replicate 8 0)
  | k + 1 => (quantsTo l k).bind fun ws => qStep l ws k
def badNode (l : List Nd) (ws : List Int) (k : Nat) : Bool :=
  ((nth l k).op == 1 && wd ws (nth l k).k != (nth l k).w) || (flag (holdTo l l.length) k && !outer (nth l k).op)
def addUses (us : List Int) (ps : List Int) : List Int := ps.foldl (fun u p => u.set p.toNat (wd u p + 1)) us
def uStep (l : List Nd) (ws us : List Int) (k : Nat) : Option (List Int) :=
  if flag (reachL l) k then (if badNode l ws k then none else some (addUses us (parts (nth l k)))) else some us
def usesTo (l : List Nd) (ws : List Int) : Nat → Option (List Int)
  | 0 => some (List.replicate l.length 0)
  | k + 1 => (usesTo l ws k).bind fun us => uStep l ws us k
def twice (l : List Nd) (us : List Int) (k : Nat) : Bool := (List.range k).any fun i => flag (reachL l) i && flag (holdTo l l.length) i && decide (1 < wd us (i : Int))
def sentB (l : List Nd) : Bool :=
  termOk l && decide ((nth l (l.length - 1)).w = 1) && decide ((freeL l).length = 0) &&
    match quantsTo l l.length with
    | none => false
    | some ws => match usesTo l ws l.length with
      | none => false
      | some us => !twice l us l.length

theorem quants_none {l : List Nd} {k : Nat} (h : quantsTo l k = none) : ∀ j, k ≤ j → quantsTo l j = none := by
  intro j hj
  induction j with
  | zero => have : k = 0 := by omega
            subst this; exact h
  | succ j ih =>
    by_cases e : k = j + 1
    · subst e; exact h
    · show (quantsTo l j).bind _ = none
      rw [ih (by omega)]; rfl
theorem uses_none {l : List Nd} {ws : List Int} {k : Nat} (h : usesTo l ws k = none) : ∀ j, k ≤ j → usesTo l ws j = none := by
  intro j hj
  induction j with
  | zero => have : k = 0 := by omega
            subst this; exact h
  | succ j ih =>
    by_cases e : k = j + 1
    · subst e; exact h
    · show (usesTo l ws j).bind _ = none
      rw [ih (by omega)]; rfl
theorem quants_succ {l : List Nd} {k : Nat} {ws : List Int} (h : quantsTo l k = some ws) : quantsTo l (k + 1) = qStep l ws k := by
  show (quantsTo l k).bind _ = _; rw [h]; rfl
theorem uses_succ {l : List Nd} {k : Nat} {ws us : List Int} (h : usesTo l ws k = some us) : usesTo l ws (k + 1) = uStep l ws us k := by
  show (usesTo l ws k).bind _ = _; rw [h]; rfl
theorem sent_term {l : List Nd} (h : termOk l = false) : sentB l = false := by unfold sentB; rw [h]; rfl
theorem sent_root {l : List Nd} (h : ¬ (nth l (l.length - 1)).w = 1) : sentB l = false := by unfold sentB; rw [decide_eq_false h]; simp
theorem sent_free {l : List Nd} (h : ¬ (freeL l).length = 0) : sentB l = false := by unfold sentB; rw [decide_eq_false h]; simp
theorem sent_quants {l : List Nd} {k : Nat} (hk : k ≤ l.length) (h : quantsTo l k = none) : sentB l = false := by
  unfold sentB; rw [quants_none h _ hk]; simp
theorem sent_uses {l : List Nd} {k : Nat} {ws : List Int} (hk : k ≤ l.length) (hw : quantsTo l l.length = some ws) (h : usesTo l ws k = none) : sentB l = false := by
  unfold sentB; rw [hw]; simp only; rw [uses_none h _ hk]; simp
theorem sent_twice {l : List Nd} {ws us : List Int} (h1 : termOk l = true) (h2 : (nth l (l.length - 1)).w = 1) (h3 : (freeL l).length = 0) (hw : quantsTo l l.length = some ws) (hu : usesTo l ws l.length = some us) : sentB l = !twice l us l.length := by
  unfold sentB; rw [h1, decide_eq_true h2, decide_eq_true h3, hw]; simp only; rw [hu]; simp
theorem shape_var {l : List Nd} {k : Nat} (h : nodeOk l k = true) : ((nth l k).op = 1 ∨ quant (nth l k).op = true) → 0 ≤ (nth l k).k ∧ (nth l k).k ≤ 7 := by
  intro hop
  simp only [nodeOk, Bool.and_eq_true] at h
  have hs := h.2
  unfold shapeOk at hs
  rcases hop with h1 | h1
  · rw [if_neg (by omega), if_pos h1] at hs
    simp at hs; omega
  · have h2 : (nth l k).op = 19 ∨ (nth l k).op = 20 := by simpa [quant] using h1
    rw [if_neg (by omega), if_neg (by omega), if_neg (by omega), if_neg (by omega), if_neg (by omega), if_neg (by omega), if_neg (by omega), if_neg (by omega), if_pos h2] at hs
    simp at hs; omega

end Go.Proofs.YtbnjndloeflgiaaGreat.Tm6

/- Quantifiers at the front, as plain data: how often they change, their bits, when they and a rest are right, and the term that they make. -/
namespace Go.Proofs.YtbnjndloeflgiaaGreat.Fr0
open Nd0 Qa0 Tm0 Tm1 Tm5 Tm6
set_option linter.unusedVariables false

def qth (q : List Qu) (i : Nat) : Qu := q.getD i Qu.zero
theorem qth_get {q : List Qu} {i : Nat} (h : i < q.length) : q[i] = qth q i := by simp [qth, List.getD, h]

def swTo (q : List Qu) : Nat → Nat
  | 0 => 0
  | i + 1 => swTo q i + (if i = 0 then 0 else if (qth q i).all != (qth q (i - 1)).all then 1 else 0)
def bqTo (q : List Qu) : Nat → Option Nat
  | 0 => some 0
  | i + 1 => (bqTo q i).bind fun n => if 1 ≤ (qth q i).bits ∧ (qth q i).bits ≤ 8 then some (n + (qth q i).bits.toNat) else none
def rowTo (q : List Qu) : Nat → List Bool
  | 0 => []
  | i + 1 => rowTo q i ++ List.replicate (qth q i).bits.toNat (qth q i).all
def fewB (q : List Qu) : Bool := match bqTo q q.length with
  | none => false
  | some n => decide (n ≤ 12)
def rowsL (q : List Qu) : List Bool := if fewB q then rowTo q q.length else []
theorem bq_none {q : List Qu} {k : Nat} (h : bqTo q k = none) : ∀ j, k ≤ j → bqTo q j = none := by
  intro j hj
  induction j with
  | zero => have : k = 0 := by omega
            subst this; exact h
  | succ j ih =>
    by_cases e : k = j + 1
    · subst e; exact h
    · show (bqTo q j).bind _ = none
      rw [ih (by omega)]; rfl
theorem bq_succ {q : List Qu} {k n : Nat} (h : bqTo q k = some n) (hb : 1 ≤ (qth q k).bits ∧ (qth q k).bits ≤ 8) : bqTo q (k + 1) = some (n + (qth q k).bits.toNat) := by
  show (bqTo q k).bind _ = _
  rw [h]
  exact if_pos hb
theorem bq_bad {q : List Qu} {k : Nat} (hb : ¬ (1 ≤ (qth q k).bits ∧ (qth q k).bits ≤ 8)) : bqTo q (k + 1) = none := by
  show (bqTo q k).bind _ = _
  cases bqTo q k with
  | none => rfl
  | some n => exact if_neg hb
theorem bq_le {q : List Qu} {k : Nat} : ∀ n, bqTo q k = some n → n ≤ 8 * k := by
  induction k with
  | zero => intro n h; cases h; omega
  | succ k ih =>
    intro n h
    by_cases hb : 1 ≤ (qth q k).bits ∧ (qth q k).bits ≤ 8
    · cases hk : bqTo q k with
      | none => rw [bq_none hk (k + 1) (by omega)] at h; cases h
      | some m =>
        rw [bq_succ hk hb] at h
        cases h
        have := ih m hk
        omega
    · rw [bq_bad hb] at h; cases h
theorem bq_mono {q : List Qu} {k n : Nat} (h : bqTo q k = some n) : ∀ j m, k ≤ j → bqTo q j = some m → n ≤ m := by
  intro j
  induction j with
  | zero => intro m hj hm; have : k = 0 := by omega
            subst this; rw [h] at hm; cases hm; exact Nat.le_refl _
  | succ j ih =>
    intro m hj hm
    by_cases e : k = j + 1
    · subst e; rw [h] at hm; cases hm; exact Nat.le_refl _
    · by_cases hb : 1 ≤ (qth q j).bits ∧ (qth q j).bits ≤ 8
      · cases hk : bqTo q j with
        | none => rw [bq_none hk (j + 1) (by omega)] at hm; cases hm
        | some x =>
          rw [bq_succ hk hb] at hm
          cases hm
          have := ih x (by omega) hk
          omega
      · rw [bq_bad hb] at hm; cases hm
theorem rowTo_length {q : List Qu} {k : Nat} : ∀ n, bqTo q k = some n → (rowTo q k).length = n := by
  induction k with
  | zero => intro n h; cases h; rfl
  | succ k ih =>
    intro n h
    by_cases hb : 1 ≤ (qth q k).bits ∧ (qth q k).bits ≤ 8
    · cases hk : bqTo q k with
      | none => rw [bq_none hk (k + 1) (by omega)] at h; cases h
      | some m =>
        rw [bq_succ hk hb] at h
        cases h
        show (rowTo q k ++ _).length = _
        rw [List.length_append, ih m hk, List.length_replicate]
    · rw [bq_bad hb] at h; cases h
theorem few_bad {q : List Qu} {k : Nat} (hk : k ≤ q.length) (h : bqTo q k = none) : fewB q = false := by
  unfold fewB; rw [bq_none h _ hk]
theorem few_much {q : List Qu} {k n : Nat} (hk : k ≤ q.length) (h : bqTo q k = some n) (hn : 12 < n) : fewB q = false := by
  unfold fewB
  cases hm : bqTo q q.length with
  | none => rfl
  | some m =>
    have := bq_mono h _ m hk hm
    exact decide_eq_false (by omega)
theorem few_yes {q : List Qu} {n : Nat} (h : bqTo q q.length = some n) (hn : n ≤ 12) : fewB q = true := by
  unfold fewB; rw [h]; exact decide_eq_true hn
theorem few_of {q : List Qu} (h : fewB q = true) : ∃ n, bqTo q q.length = some n ∧ n ≤ 12 := by
  unfold fewB at h
  cases hm : bqTo q q.length with
  | none => rw [hm] at h; cases h
  | some m => rw [hm] at h; exact ⟨m, rfl, of_decide_eq_true h⟩
theorem rowTo_part (q : List Qu) (k j : Nat) : rowTo q k ++ List.replicate (j + 1) (qth q k).all = (rowTo q k ++ List.replicate j (qth q k).all) ++ [(qth q k).all] := by
  rw [List.replicate_succ', List.append_assoc]

def wqStep (ws : List Int) (x : Qu) : Option (List Int) := if 0 ≤ x.vr ∧ x.vr ≤ 7 ∧ 1 ≤ x.bits ∧ x.bits ≤ 8 ∧ wd ws x.vr = 0 then some (ws.set x.vr.toNat x.bits) else none
def wqTo (q : List Qu) : Nat → Option (List Int)
  | 0 => some (List.replicate 8 0)
  | i + 1 => (wqTo q i).bind fun ws => wqStep ws (qth q i)
theorem wq_none {q : List Qu} {k : Nat} (h : wqTo q k = none) : ∀ j, k ≤ j → wqTo q j = none := by
  intro j hj
  induction j with
  | zero => have : k = 0 := by omega
            subst this; exact h
  | succ j ih =>
    by_cases e : k = j + 1
    · subst e; exact h
    · show (wqTo q j).bind _ = none
      rw [ih (by omega)]; rfl
theorem wq_succ {q : List Qu} {k : Nat} {ws : List Int} (h : wqTo q k = some ws) : wqTo q (k + 1) = wqStep ws (qth q k) := by
  show (wqTo q k).bind _ = _; rw [h]; rfl
theorem wq_len {q : List Qu} {k : Nat} : ∀ ws, wqTo q k = some ws → ws.length = 8 := by
  induction k with
  | zero => intro ws h; cases h; rfl
  | succ k ih =>
    intro ws h
    cases hk : wqTo q k with
    | none => rw [wq_none hk (k + 1) (by omega)] at h; cases h
    | some us =>
      rw [wq_succ hk] at h
      unfold wqStep at h
      split at h
      · cases h; rw [List.length_set]; exact ih us hk
      · cases h
def badF (l : List Nd) (ws : List Int) (i : Nat) : Bool := quant (nth l i).op || (flag (reachL l) i && (nth l i).op == 1 && wd ws (nth l i).k != (nth l i).w)
def frontOkB (q : List Qu) (l : List Nd) : Bool :=
  termOk l && decide ((nth l (l.length - 1)).w = 1) && match wqTo q q.length with
    | none => false
    | some ws => !(List.range l.length).any (badF l ws)
theorem fo_term {q : List Qu} {l : List Nd} (h : termOk l = false) : frontOkB q l = false := by unfold frontOkB; rw [h]; rfl
theorem fo_root {q : List Qu} {l : List Nd} (h : ¬ (nth l (l.length - 1)).w = 1) : frontOkB q l = false := by unfold frontOkB; rw [decide_eq_false h]; simp
theorem fo_wid {q : List Qu} {l : List Nd} {k : Nat} (hk : k ≤ q.length) (h : wqTo q k = none) : frontOkB q l = false := by unfold frontOkB; rw [wq_none h _ hk]; simp
theorem fo_bad {q : List Qu} {l : List Nd} {ws : List Int} (h : wqTo q q.length = some ws) {i : Nat} (hi : i < l.length) (hb : badF l ws i = true) : frontOkB q l = false := by
  unfold frontOkB
  rw [h]
  have : (List.range l.length).any (badF l ws) = true := List.any_eq_true.2 ⟨i, List.mem_range.2 hi, hb⟩
  simp only [this]
  simp
theorem fo_yes {q : List Qu} {l : List Nd} {ws : List Int} (hT : termOk l = true) (hr : (nth l (l.length - 1)).w = 1) (h : wqTo q q.length = some ws) (hg : ∀ i, i < l.length → badF l ws i = false) : frontOkB q l = true := by
  unfold frontOkB
  rw [h, hT, decide_eq_true hr]
  have : (List.range l.length).any (badF l ws) = false := by
    rw [List.any_eq_false]; intro i hi; rw [hg i (List.mem_range.1 hi)]; simp
  simp only [this]
  rfl
theorem fo_of {q : List Qu} {l : List Nd} (h : frontOkB q l = true) : termOk l = true ∧ (nth l (l.length - 1)).w = 1 ∧ ∃ ws, wqTo q q.length = some ws ∧ ∀ i, i < l.length → badF l ws i = false := by
  unfold frontOkB at h
  simp only [Bool.and_eq_true] at h
  refine ⟨h.1.1, of_decide_eq_true h.1.2, ?_⟩
  cases hw : wqTo q q.length with
  | none => rw [hw] at h; cases h.2
  | some ws =>
    rw [hw] at h
    refine ⟨ws, rfl, fun i hi => ?_⟩
    have h2 := h.2
    simp only [Bool.not_eq_true', List.any_eq_false] at h2
    have := h2 i (List.mem_range.2 hi)
    simpa using this

end Go.Proofs.YtbnjndloeflgiaaGreat.Fr0

/- The places of the reached nodes, as plain data. -/
namespace Go.Proofs.YtbnjndloeflgiaaGreat.Tm2
open Nd0 Pl1 Tm0 Tm1

def reachTo (l : List Nd) (k : Nat) : List Int := ((List.range k).filter (flag (reachL l))).map fun (i : Nat) => (i : Int)
def reachedL (l : List Nd) : List Int := if termOk l then reachTo l l.length else []
theorem reachTo_succ (l : List Nd) (k : Nat) : reachTo l (k + 1) = if flag (reachL l) k then reachTo l k ++ [(k : Int)] else reachTo l k := by
  unfold reachTo
  rw [List.range_succ, List.filter_append, List.map_append]
  cases h : flag (reachL l) k <;> simp [h]
theorem reachTo_length (l : List Nd) (k : Nat) : (reachTo l k).length ≤ k := by
  unfold reachTo
  rw [List.length_map]
  exact Nat.le_trans (List.length_filter_le _ _) (by simp)

theorem reachedL_le (l : List Nd) : (reachedL l).length ≤ l.length := by
  unfold reachedL; split
  · exact reachTo_length l _
  · exact Nat.zero_le _

end Go.Proofs.YtbnjndloeflgiaaGreat.Tm2

/- A term without what its root does not reach, as plain data. -/
namespace Go.Proofs.YtbnjndloeflgiaaGreat.Tm3
open Nd0 Pl1 Tm0 Tm1 Tm2

def plc (l : List Nd) (p : Int) : Int := ((reachTo l p.toNat).length : Int)
def places (l : List Nd) (k : Nat) : List Int := (List.range k).map fun i => ((reachTo l i).length : Int)
theorem places_length (l : List Nd) (k : Nat) : (places l k).length = k := by simp [places]
theorem places_get (l : List Nd) (k i : Nat) (h : i < (places l k).length) : (places l k)[i] = plc l (i : Int) := by simp [places, plc]
theorem places_succ (l : List Nd) (k : Nat) : places l (k + 1) = places l k ++ [((reachTo l k).length : Int)] := by
  unfold places; rw [List.range_succ, List.map_append]; rfl
def remap (l : List Nd) (n : Nd) : Nd :=
  ⟨n.op, n.w, n.k, if 0 < (parts n).length then plc l n.a else n.a, if 1 < (parts n).length then plc l n.b else n.b, if 2 < (parts n).length then plc l n.c else n.c⟩
def pruneTo (l : List Nd) (k : Nat) : List Nd := ((List.range k).filter (flag (reachL l))).map fun i => remap l (nth l i)
def pruneL (l : List Nd) : List Nd := if termOk l then pruneTo l l.length else []
theorem pruneTo_succ (l : List Nd) (k : Nat) : pruneTo l (k + 1) = if flag (reachL l) k then pruneTo l k ++ [remap l (nth l k)] else pruneTo l k := by
  unfold pruneTo
  rw [List.range_succ, List.filter_append, List.map_append]
  cases h : flag (reachL l) k <;> simp [h]
theorem pruneTo_length (l : List Nd) (k : Nat) : (pruneTo l k).length = (reachTo l k).length := by simp [pruneTo, reachTo]
theorem pruneL_le (l : List Nd) : (pruneL l).length ≤ l.length := by
  unfold pruneL; split
  · rw [pruneTo_length]; exact reachTo_length l _
  · exact Nat.zero_le _
theorem parts_cases (n : Nd) : parts n = [] ∨ parts n = [n.a] ∨ parts n = [n.a, n.b] ∨ parts n = [n.a, n.b, n.c] := by
  unfold parts
  split
  · exact .inr (.inl rfl)
  · split
    · exact .inr (.inr (.inl rfl))
    · split
      · exact .inr (.inr (.inr rfl))
      · exact .inl rfl

end Go.Proofs.YtbnjndloeflgiaaGreat.Tm3

/- Texts of terms as plain data: numbers in decimal digits, words, the text of a node. -/
namespace Go.Proofs.YtbnjndloeflgiaaGreat.Tx0
open Nd0 Pl1 Tm0 Tm1

end Go.Proofs.YtbnjndloeflgiaaGreat.Tx0

/- The reader of a text is local: what it took it takes again, whatever stands behind; where it fails. -/
namespace Go.Proofs.YtbnjndloeflgiaaGreat.Tx1
open Nd0 Pl1 Tm0 Tm1 Tx0

end Go.Proofs.YtbnjndloeflgiaaGreat.Tx1

/- What the root reaches: the root, the parts of what it reaches, and nothing else. -/
namespace Go.Proofs.YtbnjndloeflgiaaGreat.Tm8
open Nd0 Pl1 Tm0 Tm1 Tm2 Tm3

theorem markAll_flag (ps : List Int) : ∀ (bs : List Bool) (i : Nat), i < bs.length → flag (markAll bs ps) i = (flag bs i || ps.any fun p => p.toNat == i) := by
  induction ps with
  | nil => intro bs i _; simp [markAll]
  | cons p ps ih =>
    intro bs i hi
    show flag (markAll (bs.set p.toNat true) ps) i = _
    rw [ih _ _ (by rw [List.length_set]; exact hi)]
    by_cases hp : p.toNat < bs.length
    · rw [flag_set hp]
      by_cases e : p.toNat = i
      · simp [e]
      · have e' : (p.toNat == i) = false := by simpa using e
        rw [if_neg e, List.any_cons, e', Bool.false_or]
    · have : bs.set p.toNat true = bs := List.set_eq_of_length_le (by omega)
      rw [this]
      have e' : (p.toNat == i) = false := by simp; omega
      rw [List.any_cons, e', Bool.false_or]
def Down (l : List Nd) : Prop := ∀ i, i < l.length → ∀ p ∈ parts (nth l i), 0 ≤ p ∧ p < (i : Int)
theorem down_of {l : List Nd} (h : termOk l = true) : Down l := by
  intro i hi p hp
  obtain ⟨j, hj, rfl⟩ := List.getElem_of_mem hp
  exact parts_ok (term_node h hi) j hj
theorem step_flag {l : List Nd} (bs : List Bool) (k i : Nat) (hi : i < bs.length) : flag (reachStep l bs k) i = (flag bs i || (flag bs k && (parts (nth l k)).any fun p => p.toNat == i)) := by
  unfold reachStep
  cases h : flag bs k
  · simp
  · rw [if_pos rfl, markAll_flag _ _ _ hi]; simp
theorem down_high {l : List Nd} (hD : Down l) : ∀ (k : Nat) (bs : List Bool), bs.length = l.length → k ≤ l.length → ∀ i, k ≤ i + 1 → i < l.length → flag (reachDown l k bs) i = flag bs i := by
  intro k
  induction k with
  | zero => intro bs _ _ i _ _; rfl
  | succ k ih =>
    intro bs hb hk i hi hl
    show flag (reachDown l k (reachStep l bs k)) i = _
    rw [ih _ (by rw [reachStep_length]; exact hb) (by omega) i (by omega) hl, step_flag _ _ _ (by omega)]
    have : ((parts (nth l k)).any fun p => p.toNat == i) = false := by
      rw [List.any_eq_false]
      intro p hp
      have := hD k (by omega) p hp
      simp; omega
    rw [this]; simp
theorem down_closed {l : List Nd} (hD : Down l) : ∀ (k : Nat) (bs : List Bool), bs.length = l.length → k ≤ l.length → (∀ i, k ≤ i → i < l.length → flag bs i = true → ∀ p ∈ parts (nth l i), flag bs p.toNat = true) →
    ∀ i, i < l.length → flag (reachDown l k bs) i = true → ∀ p ∈ parts (nth l i), flag (reachDown l k bs) p.toNat = true := by
  intro k
  induction k with
  | zero => intro bs _ _ h i hi hf p hp; exact h i (by omega) hi hf p hp
  | succ k ih =>
    intro bs hb hk h
    refine ih (reachStep l bs k) (by rw [reachStep_length]; exact hb) (by omega) ?_
    intro i hki hi hf p hp
    have hpd := hD i hi p hp
    rw [step_flag _ _ _ (by omega)] at hf
    rw [step_flag _ _ _ (by omega)]
    have hna : ((parts (nth l k)).any fun q => q.toNat == i) = false := by
      rw [List.any_eq_false]
      intro q hq
      have := hD k (by omega) q hq
      simp; omega
    rw [hna, Bool.and_false, Bool.or_false] at hf
    by_cases e : i = k
    · subst e
      rw [hf]
      have : ((parts (nth l i)).any fun q => q.toNat == p.toNat) = true := List.any_eq_true.2 ⟨p, hp, by simp⟩
      rw [this]; simp
    · rw [h i (by omega) hi hf p hp]; simp
theorem init_flag (n i : Nat) (h : i < n) : flag (reachInit n) i = (i + 1 == n) := by simp [flag, reachInit, List.getD, h]
theorem reach_closed {l : List Nd} (hD : Down l) {i : Nat} (hi : i < l.length) (hf : flag (reachL l) i = true) {p : Int} (hp : p ∈ parts (nth l i)) : flag (reachL l) p.toNat = true :=
  down_closed hD l.length _ (reachInit_length _) (Nat.le_refl _) (fun i h1 h2 => by omega) i hi hf p hp
theorem down_more {l : List Nd} : ∀ (k : Nat) (bs : List Bool), bs.length = l.length → ∀ i, i < l.length → flag bs i = true → flag (reachDown l k bs) i = true := by
  intro k
  induction k with
  | zero => intro bs _ i _ h; exact h
  | succ k ih =>
    intro bs hb i hi h
    refine ih (reachStep l bs k) (by rw [reachStep_length]; exact hb) i hi ?_
    rw [step_flag _ _ _ (by omega), h]; rfl
theorem reach_root {l : List Nd} (h : 1 ≤ l.length) : flag (reachL l) (l.length - 1) = true :=
  down_more l.length _ (reachInit_length _) _ (by omega) (by rw [init_flag _ _ (by omega)]; simp; omega)
theorem down_why {l : List Nd} (hD : Down l) : ∀ (k : Nat) (bs : List Bool), bs.length = l.length → k ≤ l.length → ∀ i, i < l.length → flag (reachDown l k bs) i = true → flag bs i = true ∨ ∃ j, i < j ∧ j < l.length ∧ flag (reachDown l k bs) j = true ∧ (i : Int) ∈ parts (nth l j) := by
  intro k
  induction k with
  | zero => intro bs _ _ i _ h; exact .inl h
  | succ k ih =>
    intro bs hb hk i hi h
    rcases ih (reachStep l bs k) (by rw [reachStep_length]; exact hb) (by omega) i hi h with h1 | h1
    · rw [step_flag _ _ _ (by omega)] at h1
      simp only [Bool.or_eq_true, Bool.and_eq_true] at h1
      rcases h1 with h1 | ⟨h1, h2⟩
      · exact .inl h1
      · obtain ⟨p, hp, hpe⟩ := List.any_eq_true.1 h2
        have hd := hD k (by omega) p hp
        simp at hpe
        have hpi : p = (i : Int) := by omega
        subst hpi
        refine .inr ⟨k, by omega, by omega, ?_, hp⟩
        exact down_more k _ (by rw [reachStep_length]; exact hb) k (by omega) (by rw [step_flag _ _ _ (by omega), h1]; rfl)
    · exact .inr h1
theorem reach_why {l : List Nd} (hD : Down l) {i : Nat} (hi : i < l.length) (hf : flag (reachL l) i = true) : i + 1 = l.length ∨ ∃ j, i < j ∧ j < l.length ∧ flag (reachL l) j = true ∧ (i : Int) ∈ parts (nth l j) := by
  rcases down_why hD l.length _ (reachInit_length _) (Nat.le_refl _) i hi hf with h | h
  · rw [init_flag _ _ hi] at h; exact .inl (by simpa using h)
  · exact .inr h

theorem reach_at (l : List Nd) : ∀ (k j : Nat) (h : j < (reachTo l k).length), ∃ x : Nat, (reachTo l k)[j] = (x : Int) ∧ x < k ∧ flag (reachL l) x = true ∧ (reachTo l x).length = j := by
  intro k
  induction k with
  | zero => intro j h; simp [reachTo] at h
  | succ k ih =>
    intro j h
    have e := reachTo_succ l k
    cases hf : flag (reachL l) k
    · rw [hf] at e
      simp only [Bool.false_eq_true, if_false] at e
      have h' : j < (reachTo l k).length := by rw [← e]; exact h
      obtain ⟨x, h1, h2, h3, h4⟩ := ih j h'
      exact ⟨x, by simp only [e]; exact h1, by omega, h3, h4⟩
    · rw [hf, if_pos rfl] at e
      have hlen : (reachTo l (k + 1)).length = (reachTo l k).length + 1 := by rw [e]; simp
      by_cases hj : j < (reachTo l k).length
      · obtain ⟨x, h1, h2, h3, h4⟩ := ih j hj
        refine ⟨x, ?_, by omega, h3, h4⟩
        simp only [e]
        rw [List.getElem_append_left hj]; exact h1
      · have hje : j = (reachTo l k).length := by omega
        refine ⟨k, ?_, by omega, hf, hje.symm⟩
        simp only [e, hje]
        rw [List.getElem_append_right (Nat.le_refl _)]
        simp
theorem reachTo_mono (l : List Nd) {a b : Nat} (h : a ≤ b) : (reachTo l a).length ≤ (reachTo l b).length := by
  induction b with
  | zero => have : a = 0 := by omega
            subst this; exact Nat.le_refl _
  | succ b ih =>
    by_cases e : a = b + 1
    · subst e; exact Nat.le_refl _
    · refine Nat.le_trans (ih (by omega)) ?_
      rw [reachTo_succ]; split
      · simp
      · exact Nat.le_refl _
theorem reachTo_lt (l : List Nd) {a b : Nat} (h : a < b) (hf : flag (reachL l) a = true) : (reachTo l a).length < (reachTo l b).length := by
  have h1 := reachTo_mono l (a := a + 1) (b := b) (by omega)
  rw [reachTo_succ, hf, if_pos rfl, List.length_append] at h1
  simp at h1; omega
theorem reachTo_inj (l : List Nd) {a b : Nat} (ha : flag (reachL l) a = true) (hb : flag (reachL l) b = true) (h : (reachTo l a).length = (reachTo l b).length) : a = b := by
  rcases Nat.lt_trichotomy a b with h1 | h1 | h1
  · have := reachTo_lt l h1 ha; omega
  · exact h1
  · have := reachTo_lt l h1 hb; omega
end Go.Proofs.YtbnjndloeflgiaaGreat.Tm8

/- The text of a node is read as that node, when its parts are. -/
namespace Go.Proofs.YtbnjndloeflgiaaGreat.Tx2
open Nd0 Pl1 Tm0 Tm1 Tm3 Tm8 Tx0 Tx1

end Go.Proofs.YtbnjndloeflgiaaGreat.Tx2

/- Sets of variables as words of bits, as plain data. -/
namespace Go.Proofs.YtbnjndloeflgiaaGreat.Tm7
open Nd0 Pl1 Tm0 Tm1 Tm4
open Go.RowKit

theorem flag_freeRow (rows : List (List Bool)) (n : Nd) (v : Nat) (hv : v < 8) : flag (freeRow rows n) v = freeAt rows n v := by
  simp [flag, freeRow, List.getD, hv]
theorem row_old (l : List Nd) (k : Nat) (p : Int) (h0 : 0 ≤ p) (hp : p < k) : row (freeRows l (k + 1)) p = row (freeRows l k) p := by
  unfold row
  show (freeRows l k ++ [_]).getD p.toNat [] = _
  rw [List.getD_eq_getElem?_getD, List.getElem?_append_left (by rw [freeRows_length]; omega), ← List.getD_eq_getElem?_getD]
theorem row_new (l : List Nd) (k : Nat) : row (freeRows l (k + 1)) (k : Int) = freeRow (freeRows l k) (nth l k) := by
  unfold row
  show (freeRows l k ++ [_]).getD k [] = _
  rw [List.getD_eq_getElem?_getD, List.getElem?_append_right (by rw [freeRows_length]; exact Nat.le_refl _), freeRows_length]
  simp

end Go.Proofs.YtbnjndloeflgiaaGreat.Tm7

/- A quantifier put on a formula: what is free in it, as plain data. -/
namespace Go.Proofs.YtbnjndloeflgiaaGreat.Tm12
open Nd0 Pl1 Tm0 Tm1 Tm4 Tm7

end Go.Proofs.YtbnjndloeflgiaaGreat.Tm12

/- What is written of a term is read: as its canonical form, of which the same is written. -/
namespace Go.Proofs.YtbnjndloeflgiaaGreat.Tx3
open Nd0 Pl1 Tm0 Tm1 Tm3 Tm8 Tx0 Tx1 Tx2

end Go.Proofs.YtbnjndloeflgiaaGreat.Tx3

/- Terms as trees: what a node is with all that lies below it. -/
namespace Go.Proofs.YtbnjndloeflgiaaGreat.Tr0
open Nd0 Pl1 Tm0 Tm1 Tm3 Tm8 Tx0 Tx1 Tx2 Tx3

inductive Tr where
  | leaf (op w k : Int)
  | one (op w k b : Int) (x : Tr)
  | two (op w : Int) (x y : Tr)
  | three (op w : Int) (x y z : Tr)
def Tr.nil : Tr := .leaf 0 0 0
def Tr.op : Tr → Int
  | .leaf o _ _ => o
  | .one o _ _ _ _ => o
  | .two o _ _ _ => o
  | .three o _ _ _ _ => o
def Tr.wid : Tr → Int
  | .leaf _ w _ => w
  | .one _ w _ _ _ => w
  | .two _ w _ _ => w
  | .three _ w _ _ _ => w
def mkF (n : Nd) (f : Nat → Tr) : Tr :=
  if n.op = 2 ∨ n.op = 17 ∨ n.op = 19 ∨ n.op = 20 then .one n.op n.w n.k n.b (f n.a.toNat)
  else if 3 ≤ n.op ∧ n.op ≤ 16 then .two n.op n.w (f n.a.toNat) (f n.b.toNat)
  else if n.op = 18 then .three n.op n.w (f n.a.toNat) (f n.b.toNat) (f n.c.toNat)
  else .leaf n.op n.w n.k
def trTo (l : List Nd) : Nat → List Tr
  | 0 => []
  | k + 1 => trTo l k ++ [mkF (nth l k) fun i => (trTo l k).getD i Tr.nil]
def tr (l : List Nd) (i : Nat) : Tr := (trTo l l.length).getD i Tr.nil

theorem mk_one {n : Nd} (h : n.op = 2 ∨ n.op = 17 ∨ n.op = 19 ∨ n.op = 20) (f : Nat → Tr) : mkF n f = .one n.op n.w n.k n.b (f n.a.toNat) := if_pos h
theorem mk_two {n : Nd} (h : 3 ≤ n.op ∧ n.op ≤ 16) (f : Nat → Tr) : mkF n f = .two n.op n.w (f n.a.toNat) (f n.b.toNat) := by unfold mkF; rw [if_neg (by omega), if_pos h]
theorem mk_three {n : Nd} (h : n.op = 18) (f : Nat → Tr) : mkF n f = .three n.op n.w (f n.a.toNat) (f n.b.toNat) (f n.c.toNat) := by unfold mkF; rw [if_neg (by omega), if_neg (by omega), if_pos h]
theorem mk_leaf {n : Nd} (h : ¬ (n.op = 2 ∨ n.op = 17 ∨ n.op = 19 ∨ n.op = 20)) (h2 : ¬ (3 ≤ n.op ∧ n.op ≤ 16)) (h3 : ¬ n.op = 18) (f : Nat → Tr) : mkF n f = .leaf n.op n.w n.k := by unfold mkF; rw [if_neg h, if_neg h2, if_neg h3]
theorem mk_wid (n : Nd) (f : Nat → Tr) : (mkF n f).wid = n.w := by
  unfold mkF
  split
  · rfl
  · split
    · rfl
    · split <;> rfl
theorem mk_congr {n : Nd} {f g : Nat → Tr} (h : ∀ p ∈ parts n, f p.toNat = g p.toNat) : mkF n f = mkF n g := by
  by_cases h1 : n.op = 2 ∨ n.op = 17 ∨ n.op = 19 ∨ n.op = 20
  · rw [parts_one h1] at h
    rw [mk_one h1, mk_one h1, h n.a (by simp)]
  · by_cases h2 : 3 ≤ n.op ∧ n.op ≤ 16
    · rw [parts_two h2] at h
      rw [mk_two h2, mk_two h2, h n.a (by simp), h n.b (by simp)]
    · by_cases h3 : n.op = 18
      · rw [parts_three h3] at h
        rw [mk_three h3, mk_three h3, h n.a (by simp), h n.b (by simp), h n.c (by simp)]
      · rw [mk_leaf h1 h2 h3, mk_leaf h1 h2 h3]
theorem trTo_length (l : List Nd) (k : Nat) : (trTo l k).length = k := by
  induction k with
  | zero => rfl
  | succ k ih => show (trTo l k ++ [_]).length = _; rw [List.length_append, ih]; rfl
theorem tr_prefix (l : List Nd) {i k : Nat} (hi : i < k) : ∀ n, k ≤ n → (trTo l n).getD i Tr.nil = (trTo l k).getD i Tr.nil := by
  intro n hn
  obtain ⟨d, rfl⟩ : ∃ d, n = k + d := ⟨n - k, by omega⟩
  clear hn
  induction d with
  | zero => rfl
  | succ d ih =>
    rw [← ih]
    show (trTo l (k + d) ++ [_]).getD i Tr.nil = _
    rw [List.getD_eq_getElem?_getD, List.getElem?_append_left (by rw [trTo_length]; omega), ← List.getD_eq_getElem?_getD]
theorem tr_at {l : List Nd} (hD : Down l) {i : Nat} (hi : i < l.length) : tr l i = mkF (nth l i) (tr l) := by
  unfold tr
  rw [tr_prefix l (k := i + 1) (by omega) l.length (by omega)]
  show (trTo l i ++ [mkF (nth l i) fun j => (trTo l i).getD j Tr.nil]).getD i Tr.nil = _
  rw [List.getD_eq_getElem?_getD, List.getElem?_append_right (by rw [trTo_length]; exact Nat.le_refl _), trTo_length, Nat.sub_self]
  show mkF (nth l i) (fun j => (trTo l i).getD j Tr.nil) = _
  refine mk_congr (fun p hp => ?_)
  have := hD i hi p hp
  exact (tr_prefix l (i := p.toNat) (k := i) (by omega) l.length (by omega)).symm
end Go.Proofs.YtbnjndloeflgiaaGreat.Tr0
