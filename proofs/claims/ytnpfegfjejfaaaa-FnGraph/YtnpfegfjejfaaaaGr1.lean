/- What becomes of a graph by an and, an or: plain facts. -/
import Derived.Test.YtnpfegfjejfaaaaGr0
namespace Go.Proofs.Ytnpfegfjejfaaaa.Gr1
open Go.RowKit
open Nd0 Qb0 Gr0
set_option linter.unusedVariables false

/-- The and of a lesser and a greater wire. -/
def andL (ins : Int) (l : List An) (lo hi : Int) : List An × Int :=
  if lo = 0 ∨ lo = turnW hi then (l, 0)
  else if lo = 1 ∨ lo = hi then (l, hi)
  else match posOf l ⟨lo, hi⟩ with
    | some i => (l, 2 * (ins + 1 + (i : Int)))
    | none => if 3000 ≤ l.length then (l, -1) else (l ++ [⟨lo, hi⟩], 2 * (ins + 1 + (l.length : Int)))
/-- .. of any two. -/
def andW (ins : Int) (l : List An) (a b : Int) : List An × Int :=
  if wireB ins l a = true ∧ wireB ins l b = true then (if a ≤ b then andL ins l a b else andL ins l b a) else (l, -1)
def orW (ins : Int) (l : List An) (a b : Int) : List An × Int :=
  ((andW ins l (turnW a) (turnW b)).1, if (andW ins l (turnW a) (turnW b)).2 = -1 then -1 else turnW (andW ins l (turnW a) (turnW b)).2)
def kept (l : List An) (r : List An × Int) : List An × Int := if r.2 = -1 then (l, -1) else r
def gAnd (ins : Int) (l : List An) (a b : Int) : List An × Int := if gokB ins l = true then kept l (andW ins l a b) else (l, -1)
def gOr (ins : Int) (l : List An) (a b : Int) : List An × Int := if gokB ins l = true then kept l (orW ins l a b) else (l, -1)

theorem turn_even {x : Int} (h : x % 2 = 0) : turnW x = x + 1 := by unfold turnW; rw [if_pos h]
theorem turn_div (x : Int) : turnW x / 2 = x / 2 := by unfold turnW; split <;> omega
/-- Wires that need an and are of two nodes, the lesser at least 2. -/
theorem need {lo hi : Int} (h : lo ≤ hi) (h0 : 0 ≤ lo) (h1 : ¬ (lo = 0 ∨ lo = turnW hi)) (h2 : ¬ (lo = 1 ∨ lo = hi)) : 2 ≤ lo ∧ lo / 2 < hi / 2 := by
  unfold turnW at h1
  split at h1 <;> omega
theorem need_take {ins : Int} {l : List An} {lo hi : Int} (h : lo ≤ hi) (hw : wireB ins l lo = true) (hw' : wireB ins l hi = true) (h1 : ¬ (lo = 0 ∨ lo = turnW hi)) (h2 : ¬ (lo = 1 ∨ lo = hi)) (hp : posOf l ⟨lo, hi⟩ = none) : takeB ins l ⟨lo, hi⟩ = true := by
  have w1 := of_decide_eq_true hw
  have w2 := of_decide_eq_true hw'
  obtain ⟨h3, h4⟩ := need h w1.1 h1 h2
  unfold takeB
  rw [hp, decide_eq_true ⟨h3, h4, by simp only; omega⟩]
  rfl
theorem andL_len {ins : Int} {l : List An} {lo hi : Int} : l.length ≤ (andL ins l lo hi).1.length := by
  unfold andL
  split
  · exact Nat.le_refl _
  · split
    · exact Nat.le_refl _
    · split
      · exact Nat.le_refl _
      · split
        · exact Nat.le_refl _
        · simp
/-- What an and of a right list makes is a right list, and a wire of it. -/
theorem andL_ok {ins : Int} {l : List An} {lo hi : Int} (h : lo ≤ hi) (hi0 : 0 ≤ ins) (hw : wireB ins l lo = true) (hw' : wireB ins l hi = true) (hok : okL ins l = true) (hl : l.length ≤ 3000) :
    okL ins (andL ins l lo hi).1 = true ∧ (andL ins l lo hi).1.length ≤ 3000 ∧ ((andL ins l lo hi).2 = -1 ∨ wireB ins (andL ins l lo hi).1 (andL ins l lo hi).2 = true) := by
  have w1 := of_decide_eq_true hw
  have w2 := of_decide_eq_true hw'
  unfold andL
  split
  · exact ⟨hok, hl, .inr (decide_eq_true (by omega))⟩
  · rename_i g1
    split
    · exact ⟨hok, hl, .inr hw'⟩
    · rename_i g2
      split
      · rename_i i hi
        obtain ⟨hil, _, _⟩ := pos_some hi
        exact ⟨hok, hl, .inr (decide_eq_true (by simp only; omega))⟩
      · rename_i hp
        split
        · exact ⟨hok, hl, .inl rfl⟩
        · refine ⟨ok_snoc hok (need_take h hw hw' g1 g2 hp), by simp; omega, .inr (decide_eq_true ?_)⟩
          simp only [List.length_append, List.length_singleton]
          omega
theorem andW_ok {ins : Int} {l : List An} {a b : Int} (hi0 : 0 ≤ ins) (hok : okL ins l = true) (hl : l.length ≤ 3000) :
    okL ins (andW ins l a b).1 = true ∧ (andW ins l a b).1.length ≤ 3000 ∧ ((andW ins l a b).2 = -1 ∨ wireB ins (andW ins l a b).1 (andW ins l a b).2 = true) := by
  unfold andW
  split
  · rename_i hw
    split
    · rename_i hab
      exact andL_ok hab hi0 hw.1 hw.2 hok hl
    · exact andL_ok (by omega) hi0 hw.2 hw.1 hok hl
  · exact ⟨hok, hl, .inl rfl⟩
theorem orW_ok {ins : Int} {l : List An} {a b : Int} (hi0 : 0 ≤ ins) (hok : okL ins l = true) (hl : l.length ≤ 3000) :
    okL ins (orW ins l a b).1 = true ∧ (orW ins l a b).1.length ≤ 3000 ∧ ((orW ins l a b).2 = -1 ∨ wireB ins (orW ins l a b).1 (orW ins l a b).2 = true) := by
  obtain ⟨h1, h2, h3⟩ := andW_ok (a := turnW a) (b := turnW b) hi0 hok hl
  unfold orW
  refine ⟨h1, h2, ?_⟩
  simp only
  split
  · exact .inl rfl
  · rename_i hn
    rcases h3 with h3 | h3
    · exact absurd h3 hn
    · exact .inr (by rw [turn_wire]; exact h3)
theorem kept_len {l : List An} {r : List An × Int} (hl : l.length ≤ 3000) (h : r.1.length ≤ 3000) : (kept l r).1.length ≤ 3000 := by
  unfold kept
  split
  · exact hl
  · exact h
theorem gAnd_len {ins : Int} {l : List An} {a b : Int} (hl : l.length ≤ 1048576) : (gAnd ins l a b).1.length ≤ 1048576 := by
  unfold gAnd
  split
  · rename_i hg
    obtain ⟨h0, _, h2, h3⟩ := gok_facts hg
    exact Nat.le_trans (kept_len h2 (andW_ok h0 h3 h2).2.1) (by omega)
  · exact hl
theorem gOr_len {ins : Int} {l : List An} {a b : Int} (hl : l.length ≤ 1048576) : (gOr ins l a b).1.length ≤ 1048576 := by
  unfold gOr
  split
  · rename_i hg
    obtain ⟨h0, _, h2, h3⟩ := gok_facts hg
    exact Nat.le_trans (kept_len h2 (orW_ok h0 h3 h2).2.1) (by omega)
  · exact hl

end Go.Proofs.Ytnpfegfjejfaaaa.Gr1
