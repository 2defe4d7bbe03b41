/- What is worth below quantifiers does not hang on what their own variables were; quantifiers that are right have the widths that they tell. -/
import Derived.Test.YtdmogjhabladcaaGreatFr1
namespace Go.Proofs.YtdmogjhabladcaaGreat.Fr4
open Nd0 Qa0 Pl1 Pl2 Tm0 Tm1 Tm5 Tm6 Tr0 Vl1 Vl2 Vm0 Fr0 Fr1
set_option linter.unusedVariables false

/-- The two agree but for the variables of q. -/
def Off (q : List Qu) (e e' : List Int) : Prop := e.length = e'.length ∧ ∀ j : Nat, (∀ x ∈ q, x.vr.toNat ≠ j) → e[j]? = e'[j]?
theorem Off.refl (q : List Qu) (e : List Int) : Off q e e := ⟨rfl, fun _ _ => rfl⟩
theorem Off.trans {q : List Qu} {e e' e'' : List Int} (h : Off q e e') (k : Off q e' e'') : Off q e e'' := ⟨h.1.trans k.1, fun j hj => (h.2 j hj).trans (k.2 j hj)⟩
theorem Off.mono {p q : List Qu} {e e' : List Int} (h : Off p e e') (hs : ∀ x ∈ p, x ∈ q) : Off q e e' := ⟨h.1, fun j hj => h.2 j (fun x hx => hj x (hs x hx))⟩
theorem Off.set {x : Qu} {q : List Qu} {e e' : List Int} (h : Off (x :: q) e e') (i : Int) : Off q (e.set x.vr.toNat i) (e'.set x.vr.toNat i) := by
  refine ⟨by rw [List.length_set, List.length_set]; exact h.1, fun j hj => ?_⟩
  by_cases hc : x.vr.toNat = j
  · subst hc
    rw [List.getElem?_set_self', List.getElem?_set_self']
    have hl := h.1
    by_cases hlt : x.vr.toNat < e.length
    · simp [hlt, show x.vr.toNat < e'.length by omega]
    · simp [show ¬ x.vr.toNat < e.length by omega, show ¬ x.vr.toNat < e'.length by omega]
  · rw [List.getElem?_set_ne hc, List.getElem?_set_ne hc]
    exact h.2 j (fun y hy => by
      rcases List.mem_cons.1 hy with rfl | hy
      · exact hc
      · exact hj y hy)
theorem Off.one {x : Qu} {q : List Qu} (e : List Int) (i : Int) : Off (x :: q) e (e.set x.vr.toNat i) :=
  ⟨by rw [List.length_set], fun j hj => by rw [List.getElem?_set_ne (hj x List.mem_cons_self)]⟩
theorem hf_off : ∀ (q : List Qu) (t : Tr) (e e' : List Int), Off q e e' → hf q t e = hf q t e' := by
  intro q t
  induction q with
  | nil =>
    intro e e' h
    have : e = e' := List.ext_getElem? (fun j => h.2 j (fun x hx => by cases hx))
    rw [this]
  | cons x q ih =>
    intro e e' h
    simp only [hf]
    have hfn : (fun i : Nat => hf q t (e.set x.vr.toNat (i : Int))) = fun i : Nat => hf q t (e'.set x.vr.toNat (i : Int)) := funext (fun i => ih _ _ (h.set _))
    rw [hfn]
/-- Right quantifiers have the widths that they tell. -/
theorem wq_ty {q : List Qu} : ∀ k ws, k ≤ q.length → wqTo q k = some ws → ∀ i, i < k → TyQ ws (qth q i) := by
  intro k
  induction k with
  | zero => intro ws _ _ i hi; exact absurd hi (Nat.not_lt_zero _)
  | succ k ih =>
    intro ws hk h i hi
    cases hq : wqTo q k with
    | none => rw [wq_none hq (k + 1) (by omega)] at h; cases h
    | some us =>
      have h8 := wq_len us hq
      rw [wq_succ hq] at h
      unfold wqStep at h
      split at h
      · rename_i hc
        cases h
        by_cases e : i = k
        · subst e
          refine ⟨hc.1, hc.2.1, hc.2.2.1, hc.2.2.2.1, ?_⟩
          unfold wd
          simp [List.getD, h8, show (qth q i).vr.toNat < 8 by omega]
        · obtain ⟨h1, h2, h3, h4, h5⟩ := ih us (by omega) hq i (by omega)
          refine ⟨h1, h2, h3, h4, ?_⟩
          have hne : (qth q k).vr.toNat ≠ (qth q i).vr.toNat := fun he => by
            have h6 : (qth q k).vr = (qth q i).vr := by omega
            have h7 := hc.2.2.2.2
            rw [h6, ← h5] at h7
            omega
          unfold wd
          rw [show (us.set (qth q k).vr.toNat (qth q k).bits).getD (qth q i).vr.toNat 0 = us.getD (qth q i).vr.toNat 0 by simp [List.getD, List.getElem?_set_ne hne]]
          exact h5
      · cases h
theorem env_zero (ws : List Int) (h : ∀ v : Nat, v < 8 → 0 ≤ wd ws (v : Int) ∧ wd ws (v : Int) ≤ 8) : EnvOk ws (List.replicate 8 0) := by
  refine ⟨by simp, fun v hv h0 => ?_⟩
  have h1 := h v hv
  have e : wd (List.replicate 8 0) (v : Int) = 0 := Tm14.wd_zeros 8 _
  rw [e]
  exact wok_zero (by omega) (by omega)
theorem wq_bound {q : List Qu} : ∀ k ws, wqTo q k = some ws → ∀ v : Nat, v < 8 → 0 ≤ wd ws (v : Int) ∧ wd ws (v : Int) ≤ 8 := by
  intro k
  induction k with
  | zero => intro ws h v hv; cases h; rw [Tm14.wd_zeros]; omega
  | succ k ih =>
    intro ws h v hv
    cases hq : wqTo q k with
    | none => rw [wq_none hq (k + 1) (by omega)] at h; cases h
    | some us =>
      have h8 := wq_len us hq
      rw [wq_succ hq] at h
      unfold wqStep at h
      split at h
      · rename_i hc
        cases h
        by_cases e : (qth q k).vr.toNat = v
        · unfold wd
          rw [Int.toNat_natCast, ← e]
          simp [List.getD, h8, show (qth q k).vr.toNat < 8 by omega]
          omega
        · have := ih us hq v hv
          unfold wd at this ⊢
          rw [Int.toNat_natCast] at this ⊢
          rw [show (us.set (qth q k).vr.toNat (qth q k).bits).getD v 0 = us.getD v 0 by simp [List.getD, List.getElem?_set_ne e]]
          exact this
      · cases h
/-- Of a right rest: its tree is of these widths. -/
theorem rest_ty {q : List Qu} {l : List Nd} {ws : List Int} (hT : termOk l = true) (hg : ∀ i, i < l.length → badF l ws i = false) : ∀ i, i < l.length → flag (reachL l) i = true → Ty ws (tr l i) := by
  have hD := Tm8.down_of hT
  intro i
  induction i using Nat.strongRecOn with
  | ind i ih =>
    intro hi hf
    have hp : ∀ p ∈ parts (nth l i), Ty ws (tr l p.toNat) := fun p hp => by
      have h1 := hD i hi p hp
      exact ih _ (by omega) (by omega) (Tm8.reach_closed hD hi hf hp)
    have hb := hg i hi
    unfold badF at hb
    rw [hf, Bool.true_and, Bool.or_eq_false_iff] at hb
    rw [tr_at hD hi]
    by_cases h1 : (nth l i).op = 2 ∨ (nth l i).op = 17 ∨ (nth l i).op = 19 ∨ (nth l i).op = 20
    · rw [parts_one h1] at hp
      rw [mk_one h1]
      exact ⟨hp _ (by simp), fun h => by rw [hb.1] at h; cases h⟩
    · by_cases h2 : 3 ≤ (nth l i).op ∧ (nth l i).op ≤ 16
      · rw [parts_two h2] at hp
        rw [mk_two h2]
        exact ⟨hp _ (by simp), hp _ (by simp)⟩
      · by_cases h3 : (nth l i).op = 18
        · rw [parts_three h3] at hp
          rw [mk_three h3]
          exact ⟨hp _ (by simp), hp _ (by simp), hp _ (by simp)⟩
        · rw [mk_leaf h1 h2 h3]
          intro h4
          have h5 := hb.2
          rw [h4] at h5
          simp at h5
          exact h5.symm

end Go.Proofs.YtdmogjhabladcaaGreat.Fr4
