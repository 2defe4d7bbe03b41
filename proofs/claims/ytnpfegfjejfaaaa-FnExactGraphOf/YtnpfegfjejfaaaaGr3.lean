/- The circuit of a table: plain facts. -/
import Derived.Test.YtnpfegfjejfaaaaGr1
import Derived.Test.YtnpfegfjejfaaaaTa3
namespace Go.Proofs.Ytnpfegfjejfaaaa.Gr3
open Go.RowKit
open Nd0 Qb0 Gr0 Gr1 Ta1 Ta3 Td1
set_option linter.unusedVariables false

/-- A choice as the program makes it: a failure flows through. -/
def ifW (ins : Int) (l : List An) (x a b : Int) : List An × Int :=
  orW ins (andW ins (andW ins l x a).1 (turnW x) b).1 (andW ins l x a).2 (andW ins (andW ins l x a).1 (turnW x) b).2
/-- .. as the model makes it: it ends at the first failure. -/
def ifM (ins : Int) (l : List An) (x a b : Int) : List An × Int :=
  if (andW ins l x a).2 = -1 then ((andW ins l x a).1, -1)
  else if (andW ins (andW ins l x a).1 (turnW x) b).2 = -1 then ((andW ins (andW ins l x a).1 (turnW x) b).1, -1)
  else ifW ins l x a b
/-- The same answer, and where it is a wire the same list. -/
def Ag (p m : List An × Int) : Prop := p.2 = m.2 ∧ (m.2 ≠ -1 → p = m)
theorem Ag.refl (p : List An × Int) : Ag p p := ⟨rfl, fun _ => rfl⟩

theorem or_no (ins : Int) (l : List An) {a b : Int} (h : a = -1 ∨ b = -1) : orW ins l a b = (l, -1) := by
  have ht : turnW (-1) = -2 := by decide
  have hw : wireB ins l (-2) = false := decide_eq_false (by omega)
  have h1 : andW ins l (turnW a) (turnW b) = (l, -1) := by
    unfold andW
    rw [if_neg (fun e => by
      rcases h with rfl | rfl
      · rw [ht, hw] at e; exact absurd e.1 (by simp)
      · rw [ht, hw] at e; exact absurd e.2 (by simp))]
  unfold orW
  rw [h1, if_pos rfl]
theorem and_no (ins : Int) (l : List An) (x : Int) : andW ins l x (-1) = (l, -1) := by
  have hw : wireB ins l (-1) = false := decide_eq_false (by omega)
  unfold andW
  rw [if_neg (fun e => by rw [hw] at e; exact absurd e.2 (by simp))]
theorem if_no (ins : Int) (l : List An) (x : Int) {a b : Int} (h : a = -1 ∨ b = -1) : (ifW ins l x a b).2 = -1 := by
  unfold ifW
  rcases h with rfl | rfl
  · rw [or_no ins _ (.inl (by rw [and_no]))]
  · rw [or_no ins _ (.inr (by rw [and_no]))]
theorem if_ag (ins : Int) (l : List An) (x a b : Int) : Ag (ifW ins l x a b) (ifM ins l x a b) := by
  unfold ifM
  split
  · rename_i h
    exact ⟨by unfold ifW; rw [or_no ins _ (.inl h)], fun e => absurd rfl e⟩
  · split
    · rename_i h
      exact ⟨by unfold ifW; rw [or_no ins _ (.inr h)], fun e => absurd rfl e⟩
    · exact Ag.refl _

theorem andW_len {ins : Int} {l : List An} {a b : Int} : l.length ≤ (andW ins l a b).1.length := by
  unfold andW
  split
  · split <;> exact andL_len
  · exact Nat.le_refl _
theorem orW_len {ins : Int} {l : List An} {a b : Int} : l.length ≤ (orW ins l a b).1.length := andW_len
/-- A right list, not longer than it may be, with a wire of it or none. -/
def Gd (ins : Int) (l : List An) (r : List An × Int) : Prop := okL ins r.1 = true ∧ r.1.length ≤ 3000 ∧ l.length ≤ r.1.length ∧ (r.2 = -1 ∨ wireB ins r.1 r.2 = true)
theorem ifW_gd {ins : Int} {l : List An} {x a b : Int} (hi0 : 0 ≤ ins) (hok : okL ins l = true) (hl : l.length ≤ 3000) : Gd ins l (ifW ins l x a b) := by
  obtain ⟨a1, a2, a3⟩ := andW_ok (a := x) (b := a) hi0 hok hl
  obtain ⟨b1, b2, b3⟩ := andW_ok (a := turnW x) (b := b) hi0 a1 a2
  obtain ⟨c1, c2, c3⟩ := orW_ok (a := (andW ins l x a).2) (b := (andW ins (andW ins l x a).1 (turnW x) b).2) hi0 b1 b2
  exact ⟨c1, c2, Nat.le_trans andW_len (Nat.le_trans andW_len orW_len), c3⟩
theorem ifM_gd {ins : Int} {l : List An} {x a b : Int} (hi0 : 0 ≤ ins) (hok : okL ins l = true) (hl : l.length ≤ 3000) : Gd ins l (ifM ins l x a b) := by
  obtain ⟨a1, a2, a3⟩ := andW_ok (a := x) (b := a) hi0 hok hl
  obtain ⟨b1, b2, b3⟩ := andW_ok (a := turnW x) (b := b) hi0 a1 a2
  unfold ifM
  split
  · exact ⟨a1, a2, andW_len, .inl rfl⟩
  · split
    · exact ⟨b1, b2, Nat.le_trans andW_len andW_len, .inl rfl⟩
    · exact ifW_gd hi0 hok hl
theorem wire_le {ins : Int} {l l' : List An} {x : Int} (h : wireB ins l x = true) (hl : l.length ≤ l'.length) : wireB ins l' x = true := by
  have := of_decide_eq_true h
  exact decide_eq_true (by omega)

/-- The input wire that a table of n bits is chosen by. -/
def inW (ins : Int) (n : Nat) : Int := 2 * (ins - n + 1)
/-- The wire of a table as the program makes it. -/
def tW (ins : Int) : Nat → (Nat → Bool) → List An → List An × Int
  | 0, F, l => (l, knw 0 F)
  | n + 1, F, l =>
    if 0 ≤ knw (n + 1) F then (l, knw (n + 1) F)
    else if tab n (hb n 0 F) = tab n (hb n 1 F) then tW ins n (hb n 0 F) l
    else ifW ins (tW ins n (hb n 1 F) (tW ins n (hb n 0 F) l).1).1 (inW ins (n + 1)) (tW ins n (hb n 1 F) (tW ins n (hb n 0 F) l).1).2 (tW ins n (hb n 0 F) l).2
/-- .. as the model does. -/
def tM (ins : Int) : Nat → (Nat → Bool) → List An → List An × Int
  | 0, F, l => (l, knw 0 F)
  | n + 1, F, l =>
    if 0 ≤ knw (n + 1) F then (l, knw (n + 1) F)
    else if tab n (hb n 0 F) = tab n (hb n 1 F) then tM ins n (hb n 0 F) l
    else if (tM ins n (hb n 0 F) l).2 = -1 then ((tM ins n (hb n 0 F) l).1, -1)
    else if (tM ins n (hb n 1 F) (tM ins n (hb n 0 F) l).1).2 = -1 then ((tM ins n (hb n 1 F) (tM ins n (hb n 0 F) l).1).1, -1)
    else ifM ins (tM ins n (hb n 1 F) (tM ins n (hb n 0 F) l).1).1 (inW ins (n + 1)) (tM ins n (hb n 1 F) (tM ins n (hb n 0 F) l).1).2 (tM ins n (hb n 0 F) l).2
theorem t_ag (ins : Int) (n : Nat) : ∀ (F : Nat → Bool) (l : List An), Ag (tW ins n F l) (tM ins n F l) := by
  induction n with
  | zero => exact fun F l => Ag.refl _
  | succ n ih =>
    intro F l
    unfold tW tM
    split
    · exact Ag.refl _
    · split
      · exact ih _ _
      · obtain ⟨e1, e2⟩ := ih (hb n 0 F) l
        split
        · rename_i h
          exact ⟨if_no _ _ _ (.inr (e1.trans h)), fun e => absurd rfl e⟩
        · rename_i h
          rw [e2 h]
          obtain ⟨f1, f2⟩ := ih (hb n 1 F) (tM ins n (hb n 0 F) l).1
          split
          · rename_i h2
            exact ⟨if_no _ _ _ (.inl (f1.trans h2)), fun e => absurd rfl e⟩
          · rename_i h2
            rw [f2 h2]
            exact if_ag _ _ _ _ _
theorem knw_wire {ins : Int} {l : List An} (n : Nat) (F : Nat → Bool) (h : 0 ≤ knw n F) (hi : 0 ≤ ins) : wireB ins l (knw n F) = true := by
  have := knw_range n F
  exact decide_eq_true (by omega)
theorem knw_zero (F : Nat → Bool) : 0 ≤ knw 0 F := by
  rw [knw_con (fun j hj => by rw [show j = 0 by simpa using hj])]
  omega
theorem tW_gd {ins : Int} (hi0 : 0 ≤ ins) (n : Nat) : ∀ (F : Nat → Bool) (l : List An), okL ins l = true → l.length ≤ 3000 → Gd ins l (tW ins n F l) := by
  induction n with
  | zero => exact fun F l hok hl => ⟨hok, hl, Nat.le_refl _, .inr (knw_wire 0 F (knw_zero F) hi0)⟩
  | succ n ih =>
    intro F l hok hl
    unfold tW
    split
    · rename_i h
      exact ⟨hok, hl, Nat.le_refl _, .inr (knw_wire _ F h hi0)⟩
    · split
      · exact ih _ _ hok hl
      · obtain ⟨a1, a2, a3, a4⟩ := ih (hb n 0 F) l hok hl
        obtain ⟨b1, b2, b3, b4⟩ := ih (hb n 1 F) _ a1 a2
        obtain ⟨c1, c2, c3, c4⟩ := ifW_gd (x := inW ins (n + 1)) (a := (tW ins n (hb n 1 F) (tW ins n (hb n 0 F) l).1).2) (b := (tW ins n (hb n 0 F) l).2) hi0 b1 b2
        exact ⟨c1, c2, Nat.le_trans a3 (Nat.le_trans b3 c3), c4⟩
theorem tM_gd {ins : Int} (hi0 : 0 ≤ ins) (n : Nat) : ∀ (F : Nat → Bool) (l : List An), okL ins l = true → l.length ≤ 3000 → Gd ins l (tM ins n F l) := by
  induction n with
  | zero => exact fun F l hok hl => ⟨hok, hl, Nat.le_refl _, .inr (knw_wire 0 F (knw_zero F) hi0)⟩
  | succ n ih =>
    intro F l hok hl
    unfold tM
    split
    · rename_i h
      exact ⟨hok, hl, Nat.le_refl _, .inr (knw_wire _ F h hi0)⟩
    · split
      · exact ih _ _ hok hl
      · obtain ⟨a1, a2, a3, a4⟩ := ih (hb n 0 F) l hok hl
        obtain ⟨b1, b2, b3, b4⟩ := ih (hb n 1 F) _ a1 a2
        obtain ⟨c1, c2, c3, c4⟩ := ifM_gd (x := inW ins (n + 1)) (a := (tM ins n (hb n 1 F) (tM ins n (hb n 0 F) l).1).2) (b := (tM ins n (hb n 0 F) l).2) hi0 b1 b2
        split
        · exact ⟨a1, a2, a3, .inl rfl⟩
        · split
          · exact ⟨b1, b2, Nat.le_trans a3 b3, .inl rfl⟩
          · exact ⟨c1, c2, Nat.le_trans a3 (Nat.le_trans b3 c3), c4⟩
/-- What comes of a table: its inputs, the circuit, the wire; nothing where there is no room. -/
def gOf (n : Nat) (F : Nat → Bool) : Int × List An × Int := if (tW n n F []).2 = -1 then (0, [], -1) else ((n : Int), (tW n n F []).1, (tW n n F []).2)
theorem gOf_m (n : Nat) (F : Nat → Bool) : gOf n F = if (tM n n F []).2 = -1 then (0, [], -1) else ((n : Int), (tM n n F []).1, (tM n n F []).2) := by
  obtain ⟨e1, e2⟩ := t_ag n n F []
  unfold gOf
  by_cases h : (tM n n F []).2 = -1
  · rw [if_pos h, if_pos (e1.trans h)]
  · rw [e2 h]
theorem gOf_len (n : Nat) (F : Nat → Bool) : (gOf n F).2.1.length ≤ 3000 := by
  unfold gOf
  split
  · exact Nat.zero_le _
  · exact (tW_gd (Int.natCast_nonneg n) n F [] (by rfl) (Nat.zero_le _)).2.1

end Go.Proofs.Ytnpfegfjejfaaaa.Gr3
