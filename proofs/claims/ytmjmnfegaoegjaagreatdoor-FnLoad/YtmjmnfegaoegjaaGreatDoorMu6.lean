/- The machine's step as plain data over the machine itself; a right machine stays right. -/
import Derived.Test.YtmjmnfegaoegjaaGreatDoorMu5
import Derived.Test.YtmjmnfegaoegjaaGreatDoorPkLD15
namespace Go.Proofs.YtmjmnfegaoegjaaGreatDoor.Mu6
open Go.RowKit
open Qc0 (Sn)
open Mm0 Mu1 Mu3 Mu5
open Ta0 Ta1 Ta2 Ta3 Tc2 Td1 Mc0 Mm1
open Tk0 (keyL)
open Ss0 (bs)
open Ss1 (tl)
set_option linter.unusedVariables false

def bools (l : List Int) : List Bool := l.map fun x => decide (x = 1)
theorem bools_bi {l : List Int} (h : ∀ x ∈ l, 0 ≤ x ∧ x ≤ 1) : l = (bools l).map bi := by
  unfold bools
  rw [List.map_map]
  conv => lhs; rw [← List.map_id l]
  apply List.map_congr_left
  intro x hx
  have := h x hx
  have hx2 : x = 0 ∨ x = 1 := by omega
  rcases hx2 with rfl | rfl <;> rfl
theorem bools_len (l : List Int) : (bools l).length = l.length := by unfold bools; rw [List.length_map]
def kyM (n : Nat) (F : Nat → Bool) (l : List Int) : ByteArray := bs (keyL (n - (bools l).length) (tab (n - (bools l).length) (lft n F (bools l))))
def upM (n : Nat) (F : Nat → Bool) (m : Mc) : Mc :=
  if m.vals = [] then { m with over := true }
  else if (m.row.getD m.vals.dropLast.length false != (m.ret == 0)) && (m.vals.getLastD 0 == 0) then { m with vals := m.vals.dropLast ++ [1], ret := -1 }
  else { m with vals := m.vals.dropLast, memo := keepM m.room m.memo (kyM n F m.vals.dropLast) m.ret }
def stepM (n : Nat) (F : Nat → Bool) (m : Mc) : Mc :=
  if m.over = true ∨ 1000000000 ≤ m.steps then m
  else if m.ret < 0 then downM n F (bools m.vals) { m with steps := m.steps + 1 } else upM n F { m with steps := m.steps + 1 }

theorem fnd_in {l : List Sn} {k : ByteArray} (h : 0 ≤ fnd l k) : ∃ x ∈ l, x.k = k ∧ x.r = fnd l k := by
  induction l with
  | nil => exact absurd (show (0 : Int) ≤ -1 from h) (by decide)
  | cons x r ih =>
    unfold fnd at h ⊢
    by_cases e : x.k = k
    · rw [if_pos e]; exact ⟨x, List.mem_cons_self, e, rfl⟩
    · rw [if_neg e] at h ⊢
      obtain ⟨y, hy, h1, h2⟩ := ih h
      exact ⟨y, List.mem_cons_of_mem _ hy, h1, h2⟩
theorem fnd_not {l : List Sn} {k : ByteArray} (hr : ∀ x ∈ l, 0 ≤ x.r ∧ x.r ≤ 1) (h : fnd l k < 0) : ∀ x ∈ l, x.k ≠ k := by
  induction l with
  | nil => intro x hx; cases hx
  | cons y r ih =>
    intro x hx
    unfold fnd at h
    by_cases e : y.k = k
    · rw [if_pos e] at h
      have := hr y List.mem_cons_self
      omega
    · rw [if_neg e] at h
      rcases List.mem_cons.1 hx with rfl | hx
      · exact e
      · exact ih (fun z hz => hr z (List.mem_cons_of_mem _ hz)) h x hx
theorem apart_snoc {l : List Sn} {y : Sn} (h : apart l) (hn : ∀ x ∈ l, x.k ≠ y.k) : apart (l ++ [y]) := by
  intro i j hi hj hji
  rw [List.length_append, List.length_singleton] at hi hj
  have hjl : j < l.length := by omega
  rw [List.getElem_append_left hjl]
  by_cases e : i < l.length
  · rw [List.getElem_append_left e]
    exact h i j e hjl hji
  · have : (l ++ [y])[i]'(by rw [List.length_append]; simpa using hi) = y := by
      rw [List.getElem_append_right (by omega)]
      simp
    rw [this]
    exact hn _ (List.getElem_mem hjl)
theorem apart_drop {l : List Sn} (h : apart l) : apart (l.drop 1) := by
  intro i j hi hj hji
  rw [List.length_drop] at hi hj
  rw [List.getElem_drop, List.getElem_drop]
  exact h (1 + i) (1 + j) (by omega) (by omega) (by omega)
theorem keepM_ok {room : Int} {l : List Sn} {k : ByteArray} {r : Int} (hl : (l.length : Int) ≤ room) (hs : ∀ x ∈ l, 0 ≤ x.r ∧ x.r ≤ 1) (ha : apart l) (hr : 0 ≤ r ∧ r ≤ 1) : ((keepM room l k r).length : Int) ≤ room ∧ (∀ x ∈ keepM room l k r, 0 ≤ x.r ∧ x.r ≤ 1) ∧ apart (keepM room l k r) := by
  unfold keepM
  by_cases h : 0 < room ∧ fnd l k < 0
  · rw [if_pos h]
    have h1 : ∀ x ∈ l ++ [(⟨k, r⟩ : Sn)], 0 ≤ x.r ∧ x.r ≤ 1 := fun x hx => by
      rcases List.mem_append.1 hx with e | e
      · exact hs x e
      · rw [List.mem_singleton.1 e]; exact hr
    have h2 : apart (l ++ [(⟨k, r⟩ : Sn)]) := apart_snoc ha (fnd_not hs h.2)
    by_cases e : room < ((l ++ [(⟨k, r⟩ : Sn)]).length : Int)
    · rw [if_pos e]
      refine ⟨?_, fun x hx => h1 x (List.mem_of_mem_drop hx), apart_drop h2⟩
      rw [List.length_drop, List.length_append, List.length_singleton]
      omega
    · rw [if_neg e]
      exact ⟨by omega, h1, h2⟩
  · rw [if_neg h]
    exact ⟨hl, hs, ha⟩
theorem knw_range (e : Nat) (G : Nat → Bool) : -1 ≤ knw e G ∧ knw e G ≤ 1 := by
  unfold knw
  split
  · omega
  · split <;> omega
theorem knw_full {G : Nat → Bool} : 0 ≤ knw 0 G := by
  rw [knw_same (fun j hj => by have : j = 0 := (by simpa using hj); rw [this])]
  omega
theorem drop_last {l : List Int} (h : l ≠ []) : l = l.dropLast ++ [l.getLastD 0] := by
  have h1 := (List.dropLast_concat_getLast h).symm
  have h2 : l.getLastD 0 = l.getLast h := by
    rw [List.getLastD_eq_getLast?, List.getLast?_eq_some_getLast h]
    rfl
  rw [h2]
  exact h1
theorem step_ok {n : Nat} {F : Nat → Bool} {m : Mc} (h : Mok m) (hN : m.N = (n : Int)) (hl : m.looks < 1000000000) (hh : m.hits < 1000000000) : Mok (stepM n F m) ∧ (stepM n F m).N = m.N ∧ (stepM n F m).S = m.S ∧ (stepM n F m).row = m.row ∧ (stepM n F m).room = m.room := by
  obtain ⟨h1, h2, h3, h4, h5, h6, h7, h8, h9, h10, h11, h12, h13⟩ := h
  unfold stepM
  by_cases ho : m.over = true ∨ 1000000000 ≤ m.steps
  · rw [if_pos ho]
    exact ⟨⟨h1, h2, h3, h4, h5, h6, h7, h8, h9, h10, h11, h12, h13⟩, rfl, rfl, rfl, rfl⟩
  rw [if_neg ho]
  have hov : m.over = false := by
    cases e : m.over
    · rfl
    · exact absurd (.inl e) ho
  have hst : ¬ 1000000000 ≤ m.steps := fun e => ho (.inr e)
  have h8' : 0 ≤ m.steps + 1 ∧ m.steps + 1 ≤ 1000000000 := by omega
  by_cases hr : m.ret < 0
  · rw [if_pos hr]
    unfold downM
    by_cases hA : 0 ≤ knw (n - (bools m.vals).length) (lft n F (bools m.vals))
    · rw [if_pos hA]
      have hk := knw_range (n - (bools m.vals).length) (lft n F (bools m.vals))
      refine ⟨⟨h1, h2, h3, h4, h5, hk, fun e => ?_, h8', ?_, h10, h11, h12, h13⟩, rfl, rfl, rfl, rfl⟩
      · exact absurd (show m.over = true from e) (by rw [hov]; simp)
      · show 0 ≤ m.looks + 1 ∧ m.looks + 1 ≤ 1000000000
        omega
    · rw [if_neg hA]
      split
      · rename_i hf
        obtain ⟨x, hx, hxk, hxr⟩ := fnd_in hf
        have := h12 x hx
        refine ⟨⟨h1, h2, h3, h4, h5, ?_, fun e => ?_, h8', h9, ?_, h11, h12, h13⟩, rfl, rfl, rfl, rfl⟩
        · show -1 ≤ fnd m.memo _ ∧ fnd m.memo _ ≤ 1
          rw [← hxr]
          omega
        · exact absurd (show m.over = true from e) (by rw [hov]; simp)
        · show 0 ≤ m.hits + 1 ∧ m.hits + 1 ≤ 1000000000
          omega
      · refine ⟨⟨h1, h2, h3, h4, ?_, h6, fun e => ?_, h8', h9, h10, fun x hx => ?_, h12, h13⟩, rfl, rfl, rfl, rfl⟩
        · show (((m.vals ++ [0]).length : Nat) : Int) ≤ m.N
          rw [List.length_append, List.length_singleton]
          have hlt : (bools m.vals).length < n := by
            apply Classical.byContradiction
            intro hc
            have e : n - (bools m.vals).length = 0 := by omega
            rw [e] at hA
            exact hA knw_full
          rw [bools_len] at hlt
          omega
        · exact absurd (show m.over = true from e) (by rw [hov]; simp)
        · rcases List.mem_append.1 hx with e | e
          · exact h11 x e
          · rw [List.mem_singleton.1 e]; omega
  · rw [if_neg hr]
    unfold upM
    by_cases hv : m.vals = []
    · rw [if_pos hv]
      exact ⟨⟨h1, h2, h3, h4, h5, h6, fun _ => ⟨by show 0 ≤ m.ret; omega, by show m.vals.length = 0; rw [hv]; rfl⟩, h8', h9, h10, h11, h12, h13⟩, rfl, rfl, rfl, rfl⟩
    · rw [if_neg hv]
      have hd := drop_last hv
      have hdl : m.vals.dropLast.length + 1 = m.vals.length := by
        have := congrArg List.length hd
        rw [List.length_append, List.length_singleton] at this
        omega
      have hmem : ∀ x ∈ m.vals.dropLast, x ∈ m.vals := fun x hx => List.dropLast_subset _ hx
      split
      · refine ⟨⟨h1, h2, h3, h4, ?_, ⟨by show (-1 : Int) ≤ -1; omega, by show (-1 : Int) ≤ 1; omega⟩, fun e => ?_, h8', h9, h10, fun x hx => ?_, h12, h13⟩, rfl, rfl, rfl, rfl⟩
        · show (((m.vals.dropLast ++ [1]).length : Nat) : Int) ≤ m.N
          rw [List.length_append, List.length_singleton]
          omega
        · exact absurd (show m.over = true from e) (by rw [hov]; simp)
        · rcases List.mem_append.1 hx with e | e
          · exact h11 x (hmem x e)
          · rw [List.mem_singleton.1 e]; omega
      · obtain ⟨k1, k2, k3⟩ := keepM_ok (k := kyM n F m.vals.dropLast) (r := m.ret) h4 h12 h13 (by omega)
        refine ⟨⟨h1, h2, h3, k1, ?_, h6, fun e => ?_, h8', h9, h10, fun x hx => h11 x (hmem x hx), k2, k3⟩, rfl, rfl, rfl, rfl⟩
        · show ((m.vals.dropLast.length : Nat) : Int) ≤ m.N
          omega
        · exact absurd (show m.over = true from e) (by rw [hov]; simp)

end Go.Proofs.YtmjmnfegaoegjaaGreatDoor.Mu6
