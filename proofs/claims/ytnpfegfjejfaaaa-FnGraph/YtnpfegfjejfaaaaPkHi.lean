/- Small texts of mine, one behind the other. -/
import Derived.Test.YtnpfegfjejfaaaaGr1
import Derived.Test.YtnpfegfjejfaaaaTa3
import Derived.Test.YtnpfegfjejfaaaaWv0
/- The circuit of a table: plain facts. -/
namespace Go.Proofs.Ytnpfegfjejfaaaa.Gr3
open Go.RowKit
open Nd0 Qb0 Gr0 Gr1 Ta1 Ta3 Td1
set_option linter.unusedVariables false

/-- A choice as the program makes it: a failure flows through. -/
def ifW (ins : Int) (l : List An) (x a b : Int) : List An × Int :=
  orW ins (andW ins (andW ins l x a).1 (turnW x) b).1 (andW ins l x a).2 (andW ins (andW ins l x a).1 (turnW x) b).2
/-- .. as the model makes it: it ends at the first failure. -/
def ifM (ins : Int) (l : List An) (x a b : Int) : List An × Int :=
  if (andW ins l x a).2 = -1 then ((andW ins l x a).1, -1)
  else if (andW ins (andW ins l x a).1 (turnW x) b).2 = -1 then ((andW ins (andW ins l x a).1 (turnW x) b).1, -1)
  else ifW ins l x a b
/-- The same answer, and where it is a wire the same list. -/
def Ag (p m : List An × Int) : Prop := p.2 = m.2 ∧ (m.2 ≠ -1 → p = m)
theorem Ag.refl (p : List An × Int) : Ag p p := ⟨rfl, fun _ => rfl⟩

theorem or_no (ins : Int) (l : List An) {a b : Int} (h : a = -1 ∨ b = -1) : orW ins l a b = (l, -1) := by
  have ht : turnW (-1) = -2 := by decide
  have hw : wireB ins l (-2) = false := decide_eq_false (by omega)
  have h1 : andW ins l (turnW a) (turnW b) = (l, -1) := by
    unfold andW
    rw [if_neg (fun e => by
      rcases h with rfl | rfl
      · rw [ht, hw] at e; exact absurd e.1 (by simp)
      · rw [ht, hw] at e; exact absurd e.2 (by simp))]
  unfold orW
  rw [h1, if_pos rfl]
theorem and_no (ins : Int) (l : List An) (x : Int) : andW ins l x (-1) = (l, -1) := by
  have hw : wireB ins l (-1) = false := decide_eq_false (by omega)
  unfold andW
  rw [if_neg (fun e => by rw [hw] at e; exact absurd e.2 (by simp))]
theorem if_no (ins : Int) (l : List An) (x : Int) {a b : Int} (h : a = -1 ∨ b = -1) : (ifW ins l x a b).2 = -1 := by
  unfold ifW
  rcases h with rfl | rfl
  · rw [or_no ins _ (.inl (by rw [and_no]))]
  · rw [or_no ins _ (.inr (by rw [and_no]))]
theorem if_ag (ins : Int) (l : List An) (x a b : Int) : Ag (ifW ins l x a b) (ifM ins l x a b) := by
  unfold ifM
  split
  · rename_i h
    exact ⟨by unfold ifW; rw [or_no ins _ (.inl h)], fun e => absurd rfl e⟩
  · split
    · rename_i h
      exact ⟨by unfold ifW; rw [or_no ins _ (.inr h)], fun e => absurd rfl e⟩
    · exact Ag.refl _

theorem andW_len {ins : Int} {l : List An} {a b : Int} : l.length ≤ (andW ins l a b).1.length := by
  unfold andW
  split
  · split <;> exact andL_len
  · exact Nat.le_refl _
theorem orW_len {ins : Int} {l : List An} {a b : Int} : l.length ≤ (orW ins l a b).1.length := andW_len
/-- A right list, not longer than it may be, with a wire of it or none. -/
def Gd (ins : Int) (l : List An) (r : List An × Int) : Prop := okL ins r.1 = true ∧ r.1.length ≤ 3000 ∧ l.length ≤ r.1.length ∧ (r.2 = -1 ∨ wireB ins r.1 r.2 = true)
theorem ifW_gd {ins : Int} {l : List An} {x a b : Int} (hi0 : 0 ≤ ins) (hok : okL ins l = true) (hl : l.length ≤ 3000) : Gd ins l (ifW ins l x a b) := by
  obtain ⟨a1, a2, a3⟩ := andW_ok (a := x) (b := a) hi0 hok hl
  obtain ⟨b1, b2, b3⟩ := andW_ok (a := turnW x) (b := b) hi0 a1 a2
  obtain ⟨c1, c2, c3⟩ := orW_ok (a := (andW ins l x a).2) (b := (andW ins (andW ins l x a).1 (turnW x) b).2) hi0 b1 b2
  exact ⟨c1, c2, Nat.le_trans andW_len (Nat.le_trans andW_len orW_len), c3⟩
theorem ifM_gd {ins : Int} {l : List An} {x a b : Int} (hi0 : 0 ≤ ins) (hok : okL ins l = true) (hl : l.length ≤ 3000) : Gd ins l (ifM ins l x a b) := by
  obtain ⟨a1, a2, a3⟩ := andW_ok (a := x) (b := a) hi0 hok hl
  obtain ⟨b1, b2, b3⟩ := andW_ok (a := turnW x) (b := b) hi0 a1 a2
  unfold ifM
  split
  · exact ⟨a1, a2, andW_len, .inl rfl⟩
  · split
    · exact ⟨b1, b2, Nat.le_trans andW_len andW_len, .inl rfl⟩
    · exact ifW_gd hi0 hok hl
theorem wire_le {ins : Int} {l l' : List An} {x : Int} (h : wireB ins l x = true) (hl : l.length ≤ l'.length) : wireB ins l' x = true := by
  have := of_decide_eq_true h
  exact decide_eq_true (by omega)

/-- The input wire that a table of n bits is chosen by. -/
def inW (ins : Int) (n : Nat) : Int := 2 * (ins - n + 1)
/-- The wire of a table as the program makes it. -/
def tW (ins : Int) : Nat → (Nat → Bool) → List An → List An × Int
  | 0, F, l => (l, knw 0 F)
  | n + 1, F, l =>
    if 0 ≤ knw (n + 1) F then (l, knw (n + 1) F)
    else if tab n (hb n 0 F) = tab n (hb n 1 F) then tW ins n (hb n 0 F) l
    else ifW ins (tW ins n (hb n 1 F) (tW ins n (hb n 0 F) l).1).1 (inW ins (n + 1)) (tW ins n (hb n 1 F) (tW ins n (hb n 0 F) l).1).2 (tW ins n (hb n 0 F) l).2
/-- .. as the model does. -/
def tM (ins : Int) : Nat → (Nat → Bool) → List An → List An × Int
  | 0, F, l => (l, knw 0 F)
  | n + 1, F, l =>
    if 0 ≤ knw (n + 1) F then (l, knw (n + 1) F)
    else if tab n (hb n 0 F) = tab n (hb n 1 F) then tM ins n (hb n 0 F) l
    else if (tM ins n (hb n 0 F) l).2 = -1 then ((tM ins n (hb n 0 F) l).1, -1)
    else if (tM ins n (hb n 1 F) (tM ins n (hb n 0 F) l).1).2 = -1 then ((tM ins n (hb n 1 F) (tM ins n (hb n 0 F) l).1).1, -1)
    else ifM ins (tM ins n (hb n 1 F) (tM ins n (hb n 0 F) l).1).1 (inW ins (n + 1)) (tM ins n (hb n 1 F) (tM ins n (hb n 0 F) l).1).2 (tM ins n (hb n 0 F) l).2
theorem t_ag (ins : Int) (n : Nat) : ∀ (F : Nat → Bool) (l : List An), Ag (tW ins n F l) (tM ins n F l) := by
  induction n with
  | zero => exact fun F l => Ag.refl _
  | succ n ih =>
    intro F l
    unfold tW tM
    split
    · exact Ag.refl _
    · split
      · exact ih _ _
      · obtain ⟨e1, e2⟩ := ih (hb n 0 F) l
        split
        · rename_i h
          exact ⟨if_no _ _ _ (.inr (e1.trans h)), fun e => absurd rfl e⟩
        · rename_i h
          rw [e2 h]
          obtain ⟨f1, f2⟩ := ih (hb n 1 F) (tM ins n (hb n 0 F) l).1
          split
          · rename_i h2
            exact ⟨if_no _ _ _ (.inl (f1.trans h2)), fun e => absurd rfl e⟩
          · rename_i h2
            rw [f2 h2]
            exact if_ag _ _ _ _ _
theorem knw_wire {ins : Int} {l : List An} (n : Nat) (F : Nat → Bool) (h : 0 ≤ knw n F) (hi : 0 ≤ ins) : wireB ins l (knw n F) = true := by
  have := knw_range n F
  exact decide_eq_true (by omega)
theorem knw_zero (F : Nat → Bool) : 0 ≤ knw 0 F := by
  rw [knw_con (fun j hj => by rw [show j = 0 by simpa using hj])]
  omega
theorem tW_gd {ins : Int} (hi0 : 0 ≤ ins) (n : Nat) : ∀ (F : Nat → Bool) (l : List An), okL ins l = true → l.length ≤ 3000 → Gd ins l (tW ins n F l) := by
  induction n with
  | zero => exact fun F l hok hl => ⟨hok, hl, Nat.le_refl _, .inr (knw_wire 0 F (knw_zero F) hi0)⟩
  | succ n ih =>
    intro F l hok hl
    unfold tW
    split
    · rename_i h
      exact ⟨hok, hl, Nat.le_refl _, .inr (knw_wire _ F h hi0)⟩
    · split
      · exact ih _ _ hok hl
      · obtain ⟨a1, a2, a3, a4⟩ := ih (hb n 0 F) l hok hl
        obtain ⟨b1, b2, b3, b4⟩ := ih (hb n 1 F) _ a1 a2
        obtain ⟨c1, c2, c3, c4⟩ := ifW_gd (x := inW ins (n + 1)) (a := (tW ins n (hb n 1 F) (tW ins n (hb n 0 F) l).1).2) (b := (tW ins n (hb n 0 F) l).2) hi0 b1 b2
        exact ⟨c1, c2, Nat.le_trans a3 (Nat.le_trans b3 c3), c4⟩
theorem tM_gd {ins : Int} (hi0 : 0 ≤ ins) (n : Nat) : ∀ (F : Nat → Bool) (l : List An), okL ins l = true → l.length ≤ 3000 → Gd ins l (tM ins n F l) := by
  induction n with
  | zero => exact fun F l hok hl => ⟨hok, hl, Nat.le_refl _, .inr (knw_wire 0 F (knw_zero F) hi0)⟩
  | succ n ih =>
    intro F l hok hl
    unfold tM
    split
    · rename_i h
      exact ⟨hok, hl, Nat.le_refl _, .inr (knw_wire _ F h hi0)⟩
    · split
      · exact ih _ _ hok hl
      · obtain ⟨a1, a2, a3, a4⟩ := ih (hb n 0 F) l hok hl
        obtain ⟨b1, b2, b3, b4⟩ := ih (hb n 1 F) _ a1 a2
        obtain ⟨c1, c2, c3, c4⟩ := ifM_gd (x := inW ins (n + 1)) (a := (tM ins n (hb n 1 F) (tM ins n (hb n 0 F) l).1).2) (b := (tM ins n (hb n 0 F) l).2) hi0 b1 b2
        split
        · exact ⟨a1, a2, a3, .inl rfl⟩
        · split
          · exact ⟨b1, b2, Nat.le_trans a3 b3, .inl rfl⟩
          · exact ⟨c1, c2, Nat.le_trans a3 (Nat.le_trans b3 c3), c4⟩
/-- What comes of a table: its inputs, the circuit, the wire; nothing where there is no room. -/
def gOf (n : Nat) (F : Nat → Bool) : Int × List An × Int := if (tW n n F []).2 = -1 then (0, [], -1) else ((n : Int), (tW n n F []).1, (tW n n F []).2)
theorem gOf_m (n : Nat) (F : Nat → Bool) : gOf n F = if (tM n n F []).2 = -1 then (0, [], -1) else ((n : Int), (tM n n F []).1, (tM n n F []).2) := by
  obtain ⟨e1, e2⟩ := t_ag n n F []
  unfold gOf
  by_cases h : (tM n n F []).2 = -1
  · rw [if_pos h, if_pos (e1.trans h)]
  · rw [e2 h]
theorem gOf_len (n : Nat) (F : Nat → Bool) : (gOf n F).2.1.length ≤ 3000 := by
  unfold gOf
  split
  · exact Nat.zero_le _
  · exact (tW_gd (Int.natCast_nonneg n) n F [] (by rfl) (Nat.zero_le _)).2.1

end Go.Proofs.Ytnpfegfjejfaaaa.Gr3

/- What the circuit of a table is worth: plain facts. -/
namespace Go.Proofs.Ytnpfegfjejfaaaa.Gr4
open Go.RowKit
open Qb0 Gr0 Gr1 Gr3 Wv0 Ta1 Ta3 Td1
set_option linter.unusedVariables false

/-- The list is the front of the other. -/
def Ex (l l' : List An) : Prop := ∃ k, l' = l ++ k
theorem Ex.refl (l : List An) : Ex l l := ⟨[], by simp⟩
theorem Ex.trans {l l' l'' : List An} (h : Ex l l') (g : Ex l' l'') : Ex l l'' := by
  obtain ⟨k, rfl⟩ := h
  obtain ⟨k', rfl⟩ := g
  exact ⟨k ++ k', by rw [List.append_assoc]⟩
theorem nth_front {l k : List An} {i : Nat} (h : i < l.length) : nth (l ++ k) i = nth l i := by simp [nth, List.getD, List.getElem?_append_left h]
theorem vl_front {I : Nat → Bool} {n : Nat} {l k : List An} {m : Nat} (h : m ≤ l.length) : vl I n (l ++ k) m = vl I n l m := by
  induction m with
  | zero => rfl
  | succ m ih => rw [vl, vl, ih (by omega), nth_front (by omega)]
theorem vl_far {I : Nat → Bool} {n : Nat} {l : List An} {m j : Nat} (d : Nat) (h : j < n + 1 + m) : (vl I n l (m + d)).getD j false = (vl I n l m).getD j false := by
  induction d with
  | zero => rfl
  | succ d ih => rw [Nat.add_succ, vl_old (by omega), ih]
theorem wv_far {I : Nat → Bool} {n : Nat} {l : List An} {m : Nat} {x : Int} (d : Nat) (h : (x / 2).toNat < n + 1 + m) : wv (vl I n l (m + d)) x = wv (vl I n l m) x := by
  unfold wv
  rw [vl_far d h]
/-- A wire keeps its value while the list grows. -/
theorem gval_ex {I : Nat → Bool} {n : Nat} {l l' : List An} {x : Int} (h : Ex l l') (hw : wireB n l x = true) : gval I n l' x = gval I n l x := by
  obtain ⟨k, rfl⟩ := h
  have := of_decide_eq_true hw
  unfold gval
  rw [List.length_append, wv_far k.length (by omega), vl_front (Nat.le_refl _)]
theorem gval_turn {I : Nat → Bool} {n : Nat} {l : List An} {x : Int} (h : 0 ≤ x) : gval I n l (turnW x) = !gval I n l x := by
  unfold gval wv
  rw [turn_div]
  by_cases e : x % 2 = 0
  · rw [show decide (turnW x % 2 = 1) = true from decide_eq_true (by unfold turnW; rw [if_pos e]; omega), decide_eq_false (by omega : ¬ x % 2 = 1)]
    simp
  · rw [show decide (turnW x % 2 = 1) = false from decide_eq_false (by unfold turnW; rw [if_neg e]; omega), decide_eq_true (by omega : x % 2 = 1)]
    simp
theorem vl_head {I : Nat → Bool} {n : Nat} {l : List An} (m : Nat) : (vl I n l m).getD 0 false = false := by
  have := vl_far (I := I) (n := n) (l := l) (m := 0) (j := 0) m (by omega)
  rw [Nat.zero_add] at this
  rw [this]
  rfl
theorem gval_0 {I : Nat → Bool} {n : Nat} {l : List An} : gval I n l 0 = false := by
  unfold gval wv
  rw [show ((0 : Int) / 2).toNat = 0 from rfl, vl_head]
  rfl
theorem gval_1 {I : Nat → Bool} {n : Nat} {l : List An} : gval I n l 1 = true := by
  unfold gval wv
  rw [show ((1 : Int) / 2).toNat = 0 from rfl, vl_head]
  rfl
/-- An input's wire. -/
theorem gval_in {I : Nat → Bool} {n : Nat} {l : List An} {i : Nat} (h : i < n) : gval I n l (2 * ((i : Int) + 1)) = I i := by
  unfold gval wv
  have e : (2 * ((i : Int) + 1) / 2).toNat = i + 1 := by omega
  have h0 := vl_far (I := I) (n := n) (l := l) (m := 0) (j := i + 1) l.length (by omega)
  rw [Nat.zero_add] at h0
  rw [e, h0, decide_eq_false (by omega), Bool.xor_false]
  simp [vl, List.getD, h]
/-- An and's wire. -/
theorem gval_and {I : Nat → Bool} {n : Nat} {l : List An} {i : Nat} (hok : okL n l = true) (h : i < l.length) : gval I n l (2 * ((n : Int) + 1 + (i : Int))) = (gval I n l (nth l i).a && gval I n l (nth l i).b) := by
  obtain ⟨f1, f2, f3⟩ := ok_facts hok h
  unfold gval
  have e : l.length = i + 1 + (l.length - (i + 1)) := by omega
  have e2 : l.length = i + (l.length - i) := by omega
  have ea : wv (vl I n l l.length) (nth l i).a = wv (vl I n l i) (nth l i).a := by
    have := wv_far (I := I) (n := n) (l := l) (m := i) (x := (nth l i).a) (l.length - i) (by omega)
    rwa [← e2] at this
  have eb : wv (vl I n l l.length) (nth l i).b = wv (vl I n l i) (nth l i).b := by
    have := wv_far (I := I) (n := n) (l := l) (m := i) (x := (nth l i).b) (l.length - i) (by omega)
    rwa [← e2] at this
  have ec : wv (vl I n l l.length) (2 * ((n : Int) + 1 + (i : Int))) = wv (vl I n l (i + 1)) (2 * ((n : Int) + 1 + (i : Int))) := by
    have := wv_far (I := I) (n := n) (l := l) (m := i + 1) (x := 2 * ((n : Int) + 1 + (i : Int))) (l.length - (i + 1)) (by omega)
    rwa [← e] at this
  rw [ea, eb, ec]
  conv => lhs; unfold wv
  rw [show (2 * ((n : Int) + 1 + (i : Int)) / 2).toNat = n + 1 + i by omega, vl_new, decide_eq_false (by omega), Bool.xor_false]

theorem andL_ex {ins : Int} {l : List An} {lo hi : Int} : Ex l (andL ins l lo hi).1 := by
  unfold andL
  split
  · exact Ex.refl _
  · split
    · exact Ex.refl _
    · split
      · exact Ex.refl _
      · split
        · exact Ex.refl _
        · exact ⟨_, rfl⟩
theorem andW_ex {ins : Int} {l : List An} {a b : Int} : Ex l (andW ins l a b).1 := by
  unfold andW
  split
  · split <;> exact andL_ex
  · exact Ex.refl _
theorem orW_ex {ins : Int} {l : List An} {a b : Int} : Ex l (orW ins l a b).1 := andW_ex
theorem ifW_ex {ins : Int} {l : List An} {x a b : Int} : Ex l (ifW ins l x a b).1 := andW_ex.trans (andW_ex.trans orW_ex)
theorem tW_ex {ins : Int} (n : Nat) : ∀ (F : Nat → Bool) (l : List An), Ex l (tW ins n F l).1 := by
  induction n with
  | zero => exact fun F l => Ex.refl _
  | succ n ih =>
    intro F l
    unfold tW
    split
    · exact Ex.refl _
    · split
      · exact ih _ _
      · exact (ih _ _).trans ((ih _ _).trans ifW_ex)

theorem andL_val {I : Nat → Bool} {n : Nat} {l : List An} {lo hi : Int} (hle : lo ≤ hi) (hw : wireB n l lo = true) (hw' : wireB n l hi = true) (hok : okL n l = true) (hn : (andL n l lo hi).2 ≠ -1) :
    gval I n (andL n l lo hi).1 (andL n l lo hi).2 = (gval I n l lo && gval I n l hi) := by
  have w1 := of_decide_eq_true hw
  have w2 := of_decide_eq_true hw'
  unfold andL at hn ⊢
  split
  · rename_i g
    simp only
    rw [gval_0]
    rcases g with rfl | rfl
    · rw [gval_0]; rfl
    · rw [gval_turn w2.1]; cases gval I n l hi <;> rfl
  · rename_i g1
    rw [if_neg g1] at hn
    split
    · rename_i g
      simp only
      rcases g with rfl | rfl
      · rw [gval_1]; rfl
      · cases gval I n l lo <;> rfl
    · rename_i g2
      rw [if_neg g2] at hn
      split
      · rename_i i hi
        obtain ⟨h1, h2, _⟩ := pos_some hi
        simp only
        rw [gval_and hok h1, h2]
      · rename_i hp
        rw [hp] at hn
        simp only at hn
        split
        · rename_i g3
          rw [if_pos g3] at hn
          exact absurd rfl hn
        · have ho2 := ok_snoc hok (need_take hle hw hw' g1 g2 hp)
          have hx : Ex l (l ++ [(⟨lo, hi⟩ : An)]) := ⟨_, rfl⟩
          have hnn : nth (l ++ [(⟨lo, hi⟩ : An)]) l.length = ⟨lo, hi⟩ := by simp [nth, List.getD]
          simp only
          rw [gval_and ho2 (by simp), hnn, gval_ex hx hw, gval_ex hx hw']
theorem andW_wires {ins : Int} {l : List An} {a b : Int} (h : (andW ins l a b).2 ≠ -1) : wireB ins l a = true ∧ wireB ins l b = true := by
  unfold andW at h
  split at h
  · rename_i g; exact g
  · exact absurd rfl h
theorem andW_val {I : Nat → Bool} {n : Nat} {l : List An} {a b : Int} (hok : okL n l = true) (hn : (andW n l a b).2 ≠ -1) :
    gval I n (andW n l a b).1 (andW n l a b).2 = (gval I n l a && gval I n l b) := by
  have hw := andW_wires hn
  unfold andW at hn ⊢
  rw [if_pos hw] at hn ⊢
  split
  · rename_i hle
    rw [if_pos hle] at hn
    exact andL_val hle hw.1 hw.2 hok hn
  · rename_i hle
    rw [if_neg hle] at hn
    rw [andL_val (by omega) hw.2 hw.1 hok hn, Bool.and_comm]
theorem orW_val {I : Nat → Bool} {n : Nat} {l : List An} {a b : Int} (hok : okL n l = true) (hl : l.length ≤ 3000) (hn : (orW n l a b).2 ≠ -1) :
    gval I n (orW n l a b).1 (orW n l a b).2 = (gval I n l a || gval I n l b) := by
  have h1 : (andW n l (turnW a) (turnW b)).2 ≠ -1 := fun e => hn (by unfold orW; rw [if_pos e])
  have hw := andW_wires h1
  rw [turn_wire, turn_wire] at hw
  have ra := of_decide_eq_true hw.1
  have rb := of_decide_eq_true hw.2
  have h2 := (andW_ok (a := turnW a) (b := turnW b) (Int.natCast_nonneg n) hok hl).2.2.resolve_left h1
  have r2 := of_decide_eq_true h2
  unfold orW
  rw [if_neg h1]
  simp only
  rw [gval_turn r2.1, andW_val hok h1, gval_turn ra.1, gval_turn rb.1]
  cases gval I n l a <;> cases gval I n l b <;> rfl
theorem ifW_some {ins : Int} {l : List An} {x a b : Int} (hn : (ifW ins l x a b).2 ≠ -1) : (andW ins l x a).2 ≠ -1 ∧ (andW ins (andW ins l x a).1 (turnW x) b).2 ≠ -1 := by
  constructor
  · exact fun e => hn (by unfold ifW; rw [or_no ins _ (.inl e)])
  · exact fun e => hn (by unfold ifW; rw [or_no ins _ (.inr e)])
theorem ifW_val {I : Nat → Bool} {n : Nat} {l : List An} {x a b : Int} (hok : okL n l = true) (hl : l.length ≤ 3000) (hb : wireB n l b = true) (hn : (ifW n l x a b).2 ≠ -1) :
    gval I n (ifW n l x a b).1 (ifW n l x a b).2 = if gval I n l x = true then gval I n l a else gval I n l b := by
  obtain ⟨h1, h2⟩ := ifW_some hn
  have hx := (andW_wires h1).1
  have rx := of_decide_eq_true hx
  obtain ⟨a1, a2, a3⟩ := andW_ok (a := x) (b := a) (Int.natCast_nonneg n) hok hl
  obtain ⟨b1, b2, b3⟩ := andW_ok (a := turnW x) (b := b) (Int.natCast_nonneg n) a1 a2
  have e1 := andW_val (I := I) hok h1
  have e2 := andW_val (I := I) a1 h2
  unfold ifW at hn ⊢
  rw [orW_val b1 b2 hn, gval_ex andW_ex (a3.resolve_left h1), e1, e2, gval_ex andW_ex (by rw [turn_wire]; exact hx), gval_ex andW_ex hb, gval_turn rx.1]
  cases gval I n l x <;> cases gval I n l a <;> cases gval I n l b <;> rfl

/-- The place that the last n of N inputs make. -/
def plN (I : Nat → Bool) (N : Nat) : Nat → Nat
  | 0 => 0
  | n + 1 => (I (N - (n + 1))).toNat * 2 ^ n + plN I N n
theorem plN_lt (I : Nat → Bool) (N n : Nat) : plN I N n < 2 ^ n := by
  induction n with
  | zero => simp [plN]
  | succ n ih =>
    rw [plN, p1]
    have := (I (N - (n + 1))).toNat_le
    have : (I (N - (n + 1))).toNat * 2 ^ n ≤ 1 * 2 ^ n := Nat.mul_le_mul_right _ this
    omega
theorem tab_eq {n : Nat} {F G : Nat → Bool} (h : tab n F = tab n G) {j : Nat} (hj : j < 2 ^ n) : F j = G j := by
  have h1 := tab_get n F j (by rw [tab_length]; exact hj)
  have h2 := tab_get n G j (by rw [tab_length]; exact hj)
  have h3 : sgn (F j) = sgn (G j) := by
    rw [← h1, ← h2]
    congr 1
  revert h3
  cases F j <;> cases G j <;> decide
theorem known_val {I : Nat → Bool} {N n : Nat} {l : List An} {F : Nat → Bool} (h : 0 ≤ knw n F) {j : Nat} (hj : j < 2 ^ n) : gval I N l (knw n F) = F j := by
  by_cases hc : Con n F
  · rw [knw_con hc, hc j hj]
    cases F 0
    · exact gval_0
    · exact gval_1
  · rw [knw_not hc] at h
    omega
/-- The wire of a table is worth what the table says. -/
theorem tW_val (I : Nat → Bool) {N : Nat} (n : Nat) (hn : n ≤ N) : ∀ (F : Nat → Bool) (l : List An), okL N l = true → l.length ≤ 3000 → (tW N n F l).2 ≠ -1 → gval I N (tW N n F l).1 (tW N n F l).2 = F (plN I N n) := by
  induction n with
  | zero => exact fun F l hok hl _ => known_val (knw_zero F) (by simp [plN])
  | succ n ih =>
    intro F l hok hl hx
    have hp := plN_lt I N n
    unfold tW at hx ⊢
    split
    · rename_i h
      exact known_val h (plN_lt I N (n + 1))
    · rename_i h
      rw [if_neg h] at hx
      split
      · rename_i e
        rw [if_pos e] at hx
        rw [ih (by omega) _ _ hok hl hx, plN]
        cases I (N - (n + 1))
        · rw [hb0]; congr 1; simp
        · rw [tab_eq e hp, hb1]; congr 1; simp
      · rename_i e
        rw [if_neg e] at hx
        obtain ⟨a1, a2, a3, a4⟩ := tW_gd (Int.natCast_nonneg N) n (hb n 0 F) l hok hl
        obtain ⟨b1, b2, b3, b4⟩ := tW_gd (Int.natCast_nonneg N) n (hb n 1 F) _ a1 a2
        have n0 : (tW N n (hb n 0 F) l).2 ≠ -1 := fun e => hx (if_no _ _ _ (.inr e))
        have n1 : (tW N n (hb n 1 F) (tW N n (hb n 0 F) l).1).2 ≠ -1 := fun e => hx (if_no _ _ _ (.inl e))
        have w0 := a4.resolve_left n0
        rw [ifW_val b1 b2 (wire_le w0 b3) hx, gval_ex (tW_ex n _ _) w0, ih (by omega) _ _ hok hl n0, ih (by omega) _ _ a1 a2 n1]
        have ei : inW N (n + 1) = 2 * (((N - (n + 1) : Nat) : Int) + 1) := by unfold inW; omega
        rw [ei, gval_in (by omega), plN]
        cases I (N - (n + 1))
        · rw [if_neg (by simp), hb0]; congr 1; simp
        · rw [if_pos rfl, hb1]; congr 1; simp

/-- No more than three ands for each place, and room enough for them. -/
theorem andL_step {ins : Int} {l : List An} {lo hi : Int} (h : l.length < 3000) (hi0 : 0 ≤ ins) (h0 : 0 ≤ lo) (hle : lo ≤ hi) : (andL ins l lo hi).1.length ≤ l.length + 1 ∧ (andL ins l lo hi).2 ≠ -1 := by
  unfold andL
  split
  · exact ⟨by simp, by simp⟩
  · split
    · exact ⟨by simp, by simp only; omega⟩
    · split
      · exact ⟨by simp, by simp only; omega⟩
      · rw [if_neg (by omega)]
        exact ⟨by simp, by simp only; omega⟩
theorem andW_step {ins : Int} {l : List An} {a b : Int} (h : l.length < 3000) (hi0 : 0 ≤ ins) (ha : wireB ins l a = true) (hb : wireB ins l b = true) : (andW ins l a b).1.length ≤ l.length + 1 ∧ (andW ins l a b).2 ≠ -1 := by
  have w1 := of_decide_eq_true ha
  have w2 := of_decide_eq_true hb
  unfold andW
  rw [if_pos ⟨ha, hb⟩]
  split
  · exact andL_step h hi0 w1.1 (by omega)
  · exact andL_step h hi0 w2.1 (by omega)
theorem turn_ne {x : Int} (h : 0 ≤ x) : turnW x ≠ -1 := by
  unfold turnW
  split <;> omega
theorem ifW_step {ins : Int} {l : List An} {x a b : Int} (h : l.length + 3 ≤ 3000) (hi0 : 0 ≤ ins) (hok : okL ins l = true) (hx : wireB ins l x = true) (ha : wireB ins l a = true) (hb : wireB ins l b = true) : (ifW ins l x a b).1.length ≤ l.length + 3 ∧ (ifW ins l x a b).2 ≠ -1 := by
  obtain ⟨p1, p2⟩ := andW_step (by omega) hi0 hx ha
  obtain ⟨a1, a2, a3⟩ := andW_ok (a := x) (b := a) hi0 hok (by omega)
  have hx2 : wireB ins (andW ins l x a).1 (turnW x) = true := by rw [turn_wire]; exact wire_le hx andW_len
  obtain ⟨q1, q2⟩ := andW_step (by omega) hi0 hx2 (wire_le hb andW_len)
  obtain ⟨b1, b2, b3⟩ := andW_ok (a := turnW x) (b := b) hi0 a1 a2
  have w1 := wire_le (a3.resolve_left p2) (andW_len (ins := ins) (l := (andW ins l x a).1) (a := turnW x) (b := b))
  have w2 := b3.resolve_left q2
  obtain ⟨r1, r2⟩ := andW_step (l := (andW ins (andW ins l x a).1 (turnW x) b).1) (a := turnW (andW ins l x a).2) (b := turnW (andW ins (andW ins l x a).1 (turnW x) b).2) (by omega) hi0 (by rw [turn_wire]; exact w1) (by rw [turn_wire]; exact w2)
  unfold ifW orW
  rw [if_neg r2]
  refine ⟨by simp only; omega, ?_⟩
  obtain ⟨c1, c2, c3⟩ := andW_ok (a := turnW (andW ins l x a).2) (b := turnW (andW ins (andW ins l x a).1 (turnW x) b).2) hi0 b1 b2
  have := of_decide_eq_true (c3.resolve_left r2)
  exact turn_ne this.1
theorem tW_step {N : Nat} (n : Nat) (hn : n ≤ N) : ∀ (F : Nat → Bool) (l : List An), okL N l = true → l.length + 3 * (2 ^ n - 1) ≤ 3000 → (tW N n F l).1.length ≤ l.length + 3 * (2 ^ n - 1) ∧ (tW N n F l).2 ≠ -1 := by
  induction n with
  | zero => exact fun F l hok hl => ⟨by simp [tW], by have := knw_zero F; simp only [tW]; omega⟩
  | succ n ih =>
    intro F l hok hl
    have hp := Nat.two_pow_pos n
    have e2 := p1 n
    unfold tW
    split
    · rename_i h
      exact ⟨by simp only; omega, by simp only; omega⟩
    · split
      · obtain ⟨x1, x2⟩ := ih (by omega) (hb n 0 F) l hok (by omega)
        exact ⟨by omega, x2⟩
      · obtain ⟨x1, x2⟩ := ih (by omega) (hb n 0 F) l hok (by omega)
        obtain ⟨a1, a2, a3, a4⟩ := tW_gd (Int.natCast_nonneg N) n (hb n 0 F) l hok (by omega)
        obtain ⟨y1, y2⟩ := ih (by omega) (hb n 1 F) _ a1 (by omega)
        obtain ⟨b1, b2, b3, b4⟩ := tW_gd (Int.natCast_nonneg N) n (hb n 1 F) _ a1 a2
        obtain ⟨z1, z2⟩ := ifW_step (x := inW N (n + 1)) (by omega) (Int.natCast_nonneg N) b1 (decide_eq_true (by unfold inW; omega)) (b4.resolve_left y2) (wire_le (a4.resolve_left x2) b3)
        exact ⟨by omega, z2⟩

end Go.Proofs.Ytnpfegfjejfaaaa.Gr4
