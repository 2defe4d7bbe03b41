/- The numbers that are left, one behind the other; a list turned number by number. -/
import Derived.Test.YtnkkigoeffghdaaAq13
import Derived.Test.YtnkkigoeffghdaaPk1513
namespace Go.Proofs.Ytnkkigoeffghdaa.Aq14
open Nd0 Pl1 Tm0 Tm1 Tm6 Tm8 Tm11 Aq0 Aq1 Aq13
set_option linter.unusedVariables false

/-- How many numbers below u are left. -/
def rk (a b : List Nd) (u : Nat) : Nat := ((List.range u).filter (lfB a b)).length
theorem rk_succ (a b : List Nd) (u : Nat) : rk a b (u + 1) = rk a b u + if lfB a b u then 1 else 0 := by
  unfold rk
  rw [List.range_succ, List.filter_append, List.length_append]
  cases h : lfB a b u <;> simp [h]
theorem rk_8 (a b : List Nd) : rk a b 8 = (lfL a b).length := rfl
theorem rk_mono (a b : List Nd) {u v : Nat} (h : u ≤ v) : rk a b u ≤ rk a b v := by
  induction v with
  | zero => have : u = 0 := by omega
            subst this; exact Nat.le_refl _
  | succ v ih =>
    by_cases e : u = v + 1
    · subst e; exact Nat.le_refl _
    · have := ih (by omega)
      rw [rk_succ]; omega
theorem rk_to (a b : List Nd) {u : Nat} (h : lfB a b u = true) : ∀ d, ((List.range (u + 1 + d)).filter (lfB a b)).getD (rk a b u) 0 = u := by
  intro d
  induction d with
  | zero =>
    rw [Nat.add_zero, List.range_succ, List.filter_append]
    unfold rk
    rw [List.getD_eq_getElem?_getD, List.getElem?_append_right (Nat.le_refl _)]
    simp [h]
  | succ d ih =>
    rw [← Nat.add_assoc, List.range_succ, List.filter_append]
    have h1 : rk a b u < ((List.range (u + 1 + d)).filter (lfB a b)).length := by
      have h2 := rk_mono a b (u := u + 1) (v := u + 1 + d) (by omega)
      rw [rk_succ, h] at h2
      have h3 : rk a b (u + 1 + d) = ((List.range (u + 1 + d)).filter (lfB a b)).length := rfl
      simp at h2
      omega
    rw [List.getD_eq_getElem?_getD, List.getElem?_append_left h1, ← List.getD_eq_getElem?_getD]
    exact ih
theorem lf_rk (a b : List Nd) {u : Nat} (hu : u < 8) (h : lfB a b u = true) : (lfL a b).getD (rk a b u) 0 = u := by
  have := rk_to a b h (7 - u)
  rw [show u + 1 + (7 - u) = 8 by omega] at this
  exact this
/-- Whether u is taken when j numbers more are. -/
def tkB (a b : List Nd) (j u : Nat) : Bool := !lfB a b u || decide (rk a b u < j)
theorem tk_zero (a b : List Nd) (u : Nat) : tkB a b 0 u = (numB a u || numB b u) := by
  unfold tkB lfB
  simp
theorem tk_least {a b : List Nd} {j : Nat} : ∀ u, (∀ x, x < u → tkB a b j x = true) → rk a b u ≤ j := by
  intro u
  induction u with
  | zero => intro _; exact Nat.zero_le _
  | succ u ih =>
    intro h
    have h1 := h u (by omega)
    have h2 := ih (fun x hx => h x (by omega))
    rw [rk_succ]
    unfold tkB at h1
    cases hl : lfB a b u
    · simp; exact h2
    · rw [hl] at h1
      simp at h1
      simp; omega
theorem tk_at {a b : List Nd} {j u : Nat} (h : ∀ x, x < u → tkB a b j x = true) (hu : tkB a b j u = false) : lfB a b u = true ∧ rk a b u = j := by
  have h1 := tk_least u h
  unfold tkB at hu
  simp at hu
  exact ⟨hu.1, by omega⟩
theorem tk_set {a b : List Nd} {j u : Nat} (hl : lfB a b u = true) (hr : rk a b u = j) (x : Nat) : tkB a b (j + 1) x = if u = x then true else tkB a b j x := by
  by_cases e : u = x
  · subst e
    rw [if_pos rfl]
    unfold tkB
    rw [hr]; simp
  · rw [if_neg e]
    unfold tkB
    cases hx : lfB a b x
    · rfl
    · have h1 : rk a b x ≠ j := by
        intro h9
        by_cases hlt : u < x
        · have h2 := rk_mono a b (u := u + 1) (v := x) hlt
          rw [rk_succ, hl] at h2; simp at h2; omega
        · have h2 := rk_mono a b (u := x + 1) (v := u) (by omega)
          rw [rk_succ, hx] at h2; simp at h2; omega
      simp
      omega
/-- A node whose number has been turned if it is below v. -/
def nwV (a b : List Nd) (v : Nat) (n : Nd) : Nd := if nmd n && decide (n.k < (v : Int)) then nwN a b n else n
def tnTo (a b : List Nd) (v : Nat) : List Nd := b.map (nwV a b v)
theorem tn_len (a b : List Nd) (v : Nat) : (tnTo a b v).length = b.length := by unfold tnTo; rw [List.length_map]
/-- A list whose numbers are such. -/
def Nmk (l : List Nd) : Prop := ∀ n ∈ l, nmd n = true → ∃ k : Nat, n.k = (k : Int) ∧ k ≤ 7
theorem nmk_of {l : List Nd} (h : termOk l = true) : Nmk l := by
  intro n hn hm
  obtain ⟨i, hi, rfl⟩ := List.getElem_of_mem hn
  rw [nth_get hi] at hm ⊢
  refine Pg9.var_of (term_node h hi) ?_
  unfold nmd at hm
  simp only [Bool.or_eq_true, beq_iff_eq] at hm
  exact hm
theorem tn_zero {a b : List Nd} (h : Nmk b) : tnTo a b 0 = b := by
  unfold tnTo
  have : ∀ n ∈ b, nwV a b 0 n = n := fun n hn => by
    unfold nwV
    cases hm : nmd n
    · rfl
    · obtain ⟨k, hk, -⟩ := h n hn hm
      rw [hk, decide_eq_false (by omega)]; rfl
  rw [List.map_congr_left this, List.map_id']
theorem tn_all {a b : List Nd} (h : Nmk b) : tnTo a b 8 = b.map (nwN a b) := by
  unfold tnTo
  refine List.map_congr_left fun n hn => ?_
  unfold nwV
  cases hm : nmd n
  · unfold nwN; rw [hm]; rfl
  · obtain ⟨k, hk, h7⟩ := h n hn hm
    rw [hk, decide_eq_true (by omega)]; rfl
theorem tn_skip {a b : List Nd} (h : Nmk b) {v : Nat} (hv : shB a b v = false) : tnTo a b (v + 1) = tnTo a b v := by
  unfold tnTo
  refine List.map_congr_left fun n hn => ?_
  unfold nwV
  cases hm : nmd n
  · rfl
  · obtain ⟨k, hk, h7⟩ := h n hn hm
    by_cases e : k = v
    · subst e
      have e2 : nwN a b n = n := by
        unfold nwN nwK
        rw [hm, hk, Int.toNat_natCast, hv]
        cases n
        simp at hk ⊢
        exact hk.symm
      rw [e2]
      split <;> split <;> rfl
    · have e3 : decide (n.k < ((v + 1 : Nat) : Int)) = decide (n.k < (v : Int)) := by
        rw [hk]
        by_cases hlt : k < v
        · rw [decide_eq_true (by omega), decide_eq_true (by omega)]
        · rw [decide_eq_false (by omega), decide_eq_false (by omega)]
      rw [e3]
theorem nwK_ne {a b : List Nd} {v k : Nat} (hv : shB a b v = true) (hk : k ≠ v) (he : (shTo a b k).length < (lfL a b).length) : nwK a b k ≠ v := by
  unfold nwK
  split
  · rw [List.getD_eq_getElem?_getD, List.getElem?_eq_getElem he]
    have h2 := (lfL_at a b he).2
    intro e
    simp only [Option.getD_some] at e
    rw [e] at h2
    unfold lfB at h2
    unfold shB at hv
    simp at h2 hv
    rw [hv.1] at h2
    cases h2.1
  · exact hk
theorem tn_turn {a b : List Nd} (h : Nmk b) {v u : Nat} (hv : shB a b v = true) (hu : (lfL a b).getD (shTo a b v).length 0 = u) (hl : (shTo a b v).length < (lfL a b).length) : renL (tnTo a b v) (v : Int) (u : Int) = tnTo a b (v + 1) := by
  unfold tnTo renL
  rw [List.map_map]
  refine List.map_congr_left fun n hn => ?_
  show renN (v : Int) (u : Int) (nwV a b v n) = _
  unfold nwV
  cases hm : nmd n
  · simp only [Bool.false_and, Bool.false_eq_true, if_false]
    unfold renN
    rw [hm]; rfl
  · obtain ⟨k, hk, h7⟩ := h n hn hm
    simp only [Bool.true_and]
    by_cases e : k = v
    · subst e
      rw [hk, if_neg (by simp), if_pos (by simp; omega)]
      unfold renN nwN nwK
      rw [hm, hk, Int.toNat_natCast, hv, hu]
      simp
    · by_cases hlt : k < v
      · rw [hk, if_pos (by simpa using hlt), if_pos (by simp; omega)]
        have h3 : nwK a b k ≠ v := nwK_ne hv e (Nat.lt_of_le_of_lt (shTo_mono a b (by omega)) hl)
        unfold renN nwN
        rw [hm, hk, Int.toNat_natCast]
        simp only [if_true]
        rw [if_neg]
        intro h9
        simp only [Bool.and_eq_true, beq_iff_eq] at h9
        exact h3 (by omega)
      · rw [hk, if_neg (by simp; omega), if_neg (by simp; omega)]
        unfold renN
        rw [hm, hk, if_neg]
        simp
        omega

end Go.Proofs.Ytnkkigoeffghdaa.Aq14
