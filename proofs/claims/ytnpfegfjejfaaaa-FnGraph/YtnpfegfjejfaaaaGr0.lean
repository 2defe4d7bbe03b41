/- Graphs as plain data: which are right, where an and stands, what is put on. -/
import Derived.Test.YtnpfegfjejfaaaaQb0
namespace Go.Proofs.Ytnpfegfjejfaaaa.Gr0
open Go.RowKit
open Nd0 Qb0
set_option linter.unusedVariables false

theorem An.ext' {x y : An} (h : x.a = y.a ∧ x.b = y.b) : x = y := by
  cases x; cases y; simp_all
def nth (l : List An) (i : Nat) : An := l.getD i An.zero
theorem nth_get {l : List An} {i : Nat} (h : i < l.length) : l[i] = nth l i := by simp [nth, List.getD, h]
theorem nth_app {l : List An} {x : An} {i : Nat} (h : i < l.length) : nth (l ++ [x]) i = nth l i := by
  simp [nth, List.getD, List.getElem?_append_left h]
theorem nth_end {l : List An} {x : An} : nth (l ++ [x]) l.length = x := by
  simp [nth, List.getD]
theorem nth_take {l : List An} {i k : Nat} (h : k < i) : nth (l.take i) k = nth l k := by
  simp [nth, List.getD, h]
theorem take_snoc {l : List An} {i : Nat} (h : i < l.length) : l.take (i + 1) = l.take i ++ [nth l i] := by
  rw [List.take_add_one, ← nth_get h]; simp [h]
/-- The numbers of ands are int's. -/
def Rn (x : An) : Prop := -9223372036854775808 ≤ x.a ∧ x.a ≤ 9223372036854775807 ∧ -9223372036854775808 ≤ x.b ∧ x.b ≤ 9223372036854775807
def Rg (l : List An) : Prop := ∀ i, i < l.length → Rn (nth l i)

/-- The place of an and in a list: the first. -/
def posOf (l : List An) (x : An) : Option Nat := l.findIdx? fun y => decide (y.a = x.a ∧ y.b = x.b)
theorem pos_nil (x : An) : posOf [] x = none := rfl
theorem pos_new {l : List An} {x : An} (h : posOf l x = none) : posOf (l ++ [x]) x = some l.length := by
  unfold posOf at h ⊢
  rw [List.findIdx?_append, h]
  simp [List.findIdx?_cons]
theorem pos_old {l : List An} {x y : An} (h : y ≠ x) : posOf (l ++ [x]) y = posOf l y := by
  unfold posOf
  rw [List.findIdx?_append]
  have e : ¬ (x.a = y.a ∧ x.b = y.b) := fun e => h (An.ext' ⟨e.1.symm, e.2.symm⟩)
  simp [List.findIdx?_cons, e]
theorem pos_some {l : List An} {x : An} {i : Nat} (h : posOf l x = some i) : i < l.length ∧ nth l i = x ∧ ∀ k, k < i → nth l k ≠ x := by
  unfold posOf at h
  rw [List.findIdx?_eq_some_iff_getElem] at h
  obtain ⟨hi, h1, h2⟩ := h
  refine ⟨hi, ?_, fun k hk e => ?_⟩
  · rw [← nth_get hi]; exact An.ext' (of_decide_eq_true h1)
  · have h3 := h2 k hk
    rw [nth_get (by omega), e] at h3
    simp at h3
theorem pos_none {l : List An} {x : An} (h : posOf l x = none) : ∀ k, k < l.length → nth l k ≠ x := by
  intro k hk e
  unfold posOf at h
  rw [List.findIdx?_eq_none_iff] at h
  have h3 := h l[k] (List.getElem_mem hk)
  rw [nth_get hk, e] at h3
  simp at h3
theorem pos_is_none {l : List An} {x : An} (h : ∀ k, k < l.length → nth l k ≠ x) : posOf l x = none := by
  cases e : posOf l x with
  | none => rfl
  | some i => obtain ⟨h1, h2, _⟩ := pos_some e; exact absurd h2 (h i h1)
theorem pos_is {l : List An} {x : An} {i : Nat} (hi : i < l.length) (h1 : nth l i = x) (h2 : ∀ k, k < i → nth l k ≠ x) : posOf l x = some i := by
  cases e : posOf l x with
  | none => exact absurd h1 (pos_none e i hi)
  | some j =>
    obtain ⟨k1, k2, k3⟩ := pos_some e
    rcases Nat.lt_trichotomy i j with h | h | h
    · exact absurd h1 (k3 i h)
    · rw [h]
    · exact absurd k2 (h2 j h)

/-- An and that can go behind the others. -/
def takeB (ins : Int) (l : List An) (x : An) : Bool := decide (2 ≤ x.a ∧ x.a / 2 < x.b / 2 ∧ x.b / 2 ≤ ins + l.length) && (posOf l x).isNone
def okL (ins : Int) (l : List An) : Bool := (List.range l.length).all fun i => takeB ins (l.take i) (nth l i)
theorem ok_stop {ins : Int} {l : List An} {i : Nat} (hi : i < l.length) (h : takeB ins (l.take i) (nth l i) = false) : okL ins l = false := by
  unfold okL
  rw [List.all_eq_false]
  exact ⟨i, List.mem_range.2 hi, by rw [h]; simp⟩
theorem ok_all {ins : Int} {l : List An} (h : ∀ i, i < l.length → takeB ins (l.take i) (nth l i) = true) : okL ins l = true := by
  unfold okL
  rw [List.all_eq_true]
  exact fun i hi => h i (List.mem_range.1 hi)
theorem ok_at {ins : Int} {l : List An} (h : okL ins l = true) {i : Nat} (hi : i < l.length) : takeB ins (l.take i) (nth l i) = true := by
  unfold okL at h
  rw [List.all_eq_true] at h
  exact h i (List.mem_range.2 hi)
theorem ok_nil (ins : Int) : okL ins [] = true := rfl
theorem ok_snoc {ins : Int} {l : List An} {x : An} (h : okL ins l = true) (hx : takeB ins l x = true) : okL ins (l ++ [x]) = true := by
  refine ok_all fun i hi => ?_
  rw [List.length_append, List.length_singleton] at hi
  by_cases e : i = l.length
  · subst e
    rw [nth_end, List.take_left]; exact hx
  · have hi' : i < l.length := by omega
    rw [nth_app hi', List.take_append_of_le_length (by omega)]
    exact ok_at h hi'
theorem take_facts {ins : Int} {l : List An} {x : An} (h : takeB ins l x = true) : 2 ≤ x.a ∧ x.a / 2 < x.b / 2 ∧ x.b / 2 ≤ ins + l.length ∧ posOf l x = none := by
  unfold takeB at h
  rw [Bool.and_eq_true] at h
  obtain ⟨h1, h2, h3⟩ := of_decide_eq_true h.1
  exact ⟨h1, h2, h3, by simpa using h.2⟩
theorem ok_facts {ins : Int} {l : List An} (h : okL ins l = true) {i : Nat} (hi : i < l.length) : 2 ≤ (nth l i).a ∧ (nth l i).a / 2 < (nth l i).b / 2 ∧ (nth l i).b / 2 ≤ ins + i := by
  obtain ⟨h1, h2, h3, _⟩ := take_facts (ok_at h hi)
  rw [List.length_take, Nat.min_eq_left (by omega)] at h3
  exact ⟨h1, h2, h3⟩
/-- A right graph. -/
def gokB (ins : Int) (l : List An) : Bool := decide (0 ≤ ins ∧ ins ≤ 12 ∧ l.length ≤ 3000) && okL ins l
theorem gok_facts {ins : Int} {l : List An} (h : gokB ins l = true) : 0 ≤ ins ∧ ins ≤ 12 ∧ l.length ≤ 3000 ∧ okL ins l = true := by
  unfold gokB at h
  rw [Bool.and_eq_true] at h
  obtain ⟨h1, h2, h3⟩ := of_decide_eq_true h.1
  exact ⟨h1, h2, h3, h.2⟩
theorem gok_of {ins : Int} {l : List An} (h1 : 0 ≤ ins) (h2 : ins ≤ 12) (h3 : l.length ≤ 3000) : gokB ins l = okL ins l := by
  unfold gokB
  rw [decide_eq_true ⟨h1, h2, h3⟩, Bool.true_and]
theorem gok_no {ins : Int} {l : List An} (h : ¬ (0 ≤ ins ∧ ins ≤ 12 ∧ l.length ≤ 3000)) : gokB ins l = false := by
  unfold gokB
  rw [decide_eq_false h, Bool.false_and]

/-- A wire turned. -/
def turnW (w : Int) : Int := if w % 2 = 0 then w + 1 else w - 1
def wireB (ins : Int) (l : List An) (w : Int) : Bool := decide (0 ≤ w ∧ w ≤ 2 * (ins + l.length) + 1)
theorem turn_turn (w : Int) : turnW (turnW w) = w := by unfold turnW; split <;> split <;> omega
theorem turn_wire {ins : Int} {l : List An} {w : Int} : wireB ins l (turnW w) = wireB ins l w := by
  unfold wireB turnW
  split <;> exact decide_eq_decide.2 (by omega)
/-- The and of two wires: what becomes of the list, and the wire. -/
def andTo (ins : Int) (l : List An) (a b : Int) : List An × Int :=
  if min a b = 0 ∨ min a b = turnW (max a b) then (l, 0)
  else if min a b = 1 ∨ min a b = max a b then (l, max a b)
  else match posOf l ⟨min a b, max a b⟩ with
    | some i => (l, 2 * (ins + 1 + (i : Int)))
    | none => if 3000 ≤ l.length then (l, -1) else (l ++ [⟨min a b, max a b⟩], 2 * (ins + 1 + (l.length : Int)))
def orTo (ins : Int) (l : List An) (a b : Int) : List An × Int :=
  ((andTo ins l (turnW a) (turnW b)).1, if (andTo ins l (turnW a) (turnW b)).2 = -1 then -1 else turnW (andTo ins l (turnW a) (turnW b)).2)

end Go.Proofs.Ytnpfegfjejfaaaa.Gr0
