/- Small texts of mine, one behind the other. -/
import Derived.Test.YtiojfommmmggoaaPkDE10
import Derived.Test.YtiojfommmmggoaaPkDE47
import Derived.Test.YtiojfommmmggoaaPkDE4
import Derived.Test.YtiojfommmmggoaaPkDE22
import Derived.Test.YtiojfommmmggoaaPkDE34
/- The bits of a sentence are no more than those of its quantifiers at the front: plain facts. -/
namespace Go.Proofs.Ytiojfommmmggoaa.Dh1
open Nd0 Qa0 Pl1 Tm0 Tm1 Tm5 Tm6 Tm8 Tm10 Tm11 Tr0 Vl1 Vl2 Fr0 Fr1 Fr2 Fr3 Fr5 To0
set_option linter.unusedVariables false

theorem rch_head {l : List Nd} {i z : Nat} (h : Rch l i z) : z = i ∨ ∃ p ∈ parts (nth l i), Rch l p.toNat z := by
  induction h with
  | refl => exact .inl rfl
  | down h hp ih =>
    rcases ih with rfl | ⟨p', hp', h'⟩
    · exact .inr ⟨_, hp, .refl⟩
    · exact .inr ⟨p', hp', .down h' hp⟩
theorem rch_root {l : List Nd} (hD : Down l) : ∀ d z, z + d + 1 = l.length → flag (reachL l) z = true → Rch l (l.length - 1) z := by
  intro d
  induction d using Nat.strongRecOn with
  | _ d ih =>
    intro z hz hf
    rcases reach_why hD (by omega) hf with h | ⟨j, h1, h2, h3, h4⟩
    · have : z = l.length - 1 := by omega
      rw [← this]
      exact .refl
    · have := ih (l.length - 1 - j) (by omega) j (by omega) h3
      have h5 := Rch.down this h4
      rw [Int.toNat_natCast] at h5
      exact h5
theorem in_wk {l : List Nd} (hS : sentB l = true) (hT : termOk l = true) : ∀ i, i < l.length → flag (reachL l) i = true → ∀ z, Rch l i z → quant (nth l z).op = true → ∀ u, ∃ x ∈ wk (tr l i) u, x.vr = (nth l z).k ∧ x.bits = (nth l z).b := by
  intro i
  induction i using Nat.strongRecOn with
  | _ i ih =>
    intro hi hf z hz hq u
    have hD := down_of hT
    have hzl : z < l.length := Nat.lt_of_le_of_lt (hz.le hD hi) hi
    rcases rch_head hz with rfl | ⟨p, hp, hz'⟩
    · rw [wk_q hT hi hq]
      exact ⟨_, List.mem_cons_self, rfl, rfl⟩
    · have hpi := hD i hi p hp
      have hp0 : p.toNat < i := by omega
      have hfp := reach_closed hD hi hf hp
      have hh : flag (holdTo l l.length) i = true := hz.hold hD hi (quant_hold hD hzl hq)
      have go : ∀ u, ∃ x ∈ wk (tr l p.toNat) u, x.vr = (nth l z).k ∧ x.bits = (nth l z).b := fun u => ih p.toNat hp0 (by omega) hfp z hz' hq u
      rcases hold_outer hS hi hf hh with h | h | h | h
      · rw [wk_not hT hi h]
        have : p = (nth l i).a := by rw [parts_one (.inl h)] at hp; simpa using hp
        rw [← this]
        exact go _
      · rw [wk_two hT hi (.inl h)]
        have : p = (nth l i).a ∨ p = (nth l i).b := by rw [parts_two (by omega)] at hp; simpa using hp
        rcases this with e | e
        · obtain ⟨x, hx, h9⟩ := go u
          exact ⟨x, List.mem_append.2 (.inl (e ▸ hx)), h9⟩
        · obtain ⟨x, hx, h9⟩ := go u
          exact ⟨x, List.mem_append.2 (.inr (e ▸ hx)), h9⟩
      · rw [wk_two hT hi (.inr h)]
        have : p = (nth l i).a ∨ p = (nth l i).b := by rw [parts_two (by omega)] at hp; simpa using hp
        rcases this with e | e
        · obtain ⟨x, hx, h9⟩ := go u
          exact ⟨x, List.mem_append.2 (.inl (e ▸ hx)), h9⟩
        · obtain ⟨x, hx, h9⟩ := go u
          exact ⟨x, List.mem_append.2 (.inr (e ▸ hx)), h9⟩
      · rw [wk_q hT hi h]
        have h2 : (nth l i).op = 19 ∨ (nth l i).op = 20 := by simpa [quant] using h
        have : p = (nth l i).a := by rw [parts_one (by omega)] at hp; simpa using hp
        obtain ⟨x, hx, h9⟩ := go u
        exact ⟨x, List.mem_cons_of_mem _ (this ▸ hx), h9⟩
def sumP (P : Qu → Bool) : List Qu → Nat
  | [] => 0
  | x :: q => (if P x then x.bits.toNat else 0) + sumP P q
theorem sum_le (P : Qu → Bool) (q : List Qu) : sumP P q ≤ bitL q := by
  induction q with
  | nil => exact Nat.le_refl _
  | cons x q ih =>
    unfold sumP bitL
    split <;> omega
theorem sum_mono {P P' : Qu → Bool} (h : ∀ x, P x = true → P' x = true) (q : List Qu) : sumP P q ≤ sumP P' q := by
  induction q with
  | nil => exact Nat.le_refl _
  | cons x q ih =>
    unfold sumP
    by_cases hx : P x = true
    · rw [if_pos hx, if_pos (h x hx)]; omega
    · rw [if_neg hx]
      omega
theorem sum_more {P P' : Qu → Bool} (h : ∀ x, P x = true → P' x = true) : ∀ (q : List Qu) (y : Qu), y ∈ q → P y = false → P' y = true → sumP P q + y.bits.toNat ≤ sumP P' q := by
  intro q
  induction q with
  | nil => intro y hy; cases hy
  | cons x q ih =>
    intro y hy h0 h1
    have hm := sum_mono h q
    unfold sumP
    rcases List.mem_cons.1 hy with rfl | hy
    · rw [h0, h1]
      simp
      omega
    · have := ih y hy h0 h1
      by_cases hx : P x = true
      · rw [if_pos hx, if_pos (h x hx)]; omega
      · rw [if_neg hx]
        omega
open Classical in
noncomputable def Pk (l : List Nd) (k : Nat) (x : Qu) : Bool := decide (∃ i, i < k ∧ RQ l i ∧ (nth l i).k = x.vr)
theorem pk_iff {l : List Nd} {k : Nat} {x : Qu} : Pk l k x = true ↔ ∃ i, i < k ∧ RQ l i ∧ (nth l i).k = x.vr := by unfold Pk; simp
theorem bits_front {l : List Nd} (hS : sentB l = true) : bitsTo l l.length ≤ (bitL (wk (root l) false) : Int) := by
  obtain ⟨ws, hq, hr, hw, hty, hsc⟩ := sent_tree hS
  have hT := sent_ok hS
  have h1 := term_len hT
  have hqw := (quants_widths hT l.length (Nat.le_refl _) ws hq).2
  have key : ∀ k, k ≤ l.length → bitsTo l k ≤ (sumP (Pk l k) (wk (root l) false) : Int) := by
    intro k
    induction k with
    | zero => intro _; exact Int.natCast_nonneg _
    | succ k ih =>
      intro hk
      have hmono : ∀ x, Pk l k x = true → Pk l (k + 1) x = true := fun x hx => by
        obtain ⟨i, hi, h9⟩ := pk_iff.1 hx
        exact pk_iff.2 ⟨i, by omega, h9⟩
      show (if flag (reachL l) k && quant (nth l k).op then bitsTo l k + (nth l k).b else bitsTo l k) ≤ _
      by_cases hc : (flag (reachL l) k && quant (nth l k).op) = true
      · rw [if_pos hc]
        obtain ⟨hf, hqk⟩ := Bool.and_eq_true_iff.1 hc
        obtain ⟨x, hx, hv, hb⟩ := in_wk hS hT (l.length - 1) (by omega) (reach_root h1.1) k (rch_root (down_of hT) (l.length - 1 - k) k (by omega) hf) hqk false
        have hno : Pk l k x = false := by
          refine Bool.eq_false_iff.2 fun hp => ?_
          obtain ⟨i, hi, hRQ, he⟩ := pk_iff.1 hp
          exact hqw i k hi (by omega) hRQ ⟨hf, hqk⟩ (he.trans hv)
        have hyes : Pk l (k + 1) x = true := pk_iff.2 ⟨k, by omega, ⟨hf, hqk⟩, hv.symm⟩
        have h2 := sum_more hmono (wk (root l) false) x hx hno hyes
        have h3 := ih (by omega)
        have h4 : (x.bits.toNat : Int) = (nth l k).b := by
          have := (wk_ty (root l) false hr hty x hx).2.2.1
          rw [← hb]
          omega
        omega
      · rw [if_neg hc]
        have h2 := sum_mono hmono (wk (root l) false)
        have h3 := ih (by omega)
        omega
  have h5 := key l.length (Nat.le_refl _)
  have h6 := sum_le (Pk l l.length) (wk (root l) false)
  omega

end Go.Proofs.Ytiojfommmmggoaa.Dh1

/- The verdict of a sentence's row and table is what it is worth: plain facts of FnDecide. -/
namespace Go.Proofs.Ytiojfommmmggoaa.Dh2
open Nd0 Qa0 Pl1 Tm0 Tm1 Tm5 Tm6 Tm8 Tm10 Tm11 Tr0 Vl1 Vl2 Fr0 Fr1 Fr2 Fr3 Fr4 Fr5 To0 To0t De0 Dh0 Dh1
open Vl5 (holdsL)
set_option linter.unusedVariables false

theorem quants_bound {l : List Nd} (hT : termOk l = true) : ∀ k, k ≤ l.length → ∀ ws, quantsTo l k = some ws → ∀ v : Nat, v < 8 → 0 ≤ wd ws (v : Int) ∧ wd ws (v : Int) ≤ 8 := by
  intro k
  induction k with
  | zero =>
    intro _ ws h v hv
    cases h
    rw [wdz v]
    omega
  | succ k ih =>
    intro hk ws h
    cases hq : quantsTo l k with
    | none => rw [quants_none hq (k + 1) (by omega)] at h; cases h
    | some us =>
      rw [quants_succ hq] at h
      have h1 := ih (by omega) us hq
      unfold qStep at h
      by_cases hc : (flag (reachL l) k && quant (nth l k).op) = true
      · rw [if_pos hc] at h
        simp only [Bool.and_eq_true] at hc
        by_cases h0 : wd us (nth l k).k = 0
        · rw [if_pos h0] at h
          cases h
          have hlen := quants_len hq
          have hkk := shape_var (term_node hT (by omega : k < l.length)) (.inr hc.2)
          have hb := quant_b (term_node hT (by omega : k < l.length)) hc.2
          intro v hv
          by_cases e : (nth l k).k.toNat = v
          · have e2 : (v : Int) = (nth l k).k := by omega
            rw [e2, Fr3.wd_set_same (by omega)]
            omega
          · rw [Fr3.wd_set_ne (by omega)]
            exact h1 v hv
        · rw [if_neg h0] at h; cases h
      · rw [if_neg hc] at h
        cases h
        exact h1
theorem said {l : List Nd} (h : toB (frontQ l) (frontR l) = true) : holdsL l = some (if dc (rowsL (frontQ l)) (atL (frontQ l) (frontR l)) = true then 1 else 0) := by
  unfold toB at h
  obtain ⟨hfew, hfo⟩ := Bool.and_eq_true_iff.1 h
  cases hS : sentB l with
  | false =>
    have e : frontR l = [] := by unfold frontR; rw [hS]; rfl
    rw [e] at hfo
    have := (fo_of hfo).1
    have := term_len this
    simp at this
  | true =>
    have eQ : frontQ l = wk (root l) false := by unfold frontQ; rw [hS]; rfl
    have eR : frontR l = restL l := by unfold frontR; rw [hS]; rfl
    have hT := sent_ok hS
    obtain ⟨ws, hq, hr, hw, hty, hsc⟩ := sent_tree hS
    have hz := env_zero ws (quants_bound hT l.length (Nat.le_refl _) ws hq)
    obtain ⟨ws', hF⟩ := fo_all hfo
    have hv := verdict hF
    have hp := prenex (root l) [] hr hw hty hsc (fun s hs => by cases hs) (List.replicate 8 0) hz
    have hbits : bitsTo l l.length ≤ 12 := by
      have h1 := bits_front hS
      obtain ⟨n, hn1, hn2⟩ := few_of hfew
      have h2 := bit_all hn1
      rw [eQ] at h2
      omega
    have hrr : root (frontR l) = str (root l) := by rw [eR]; exact rest_root hT
    have hfit : fitT (root l) (List.replicate 8 0) = true := by
      obtain ⟨r, hr1, hr2⟩ := need_ty (root l) hr hty
      unfold fitT
      rw [hr1]
      exact fit_iff.2 (fits_ty hr2 hz)
    have hval : valueL l (List.replicate 8 0) = some (vT (root l) (List.replicate 8 0)) := Vl3.value_parts.2 ⟨hT, by simp, hbits, hfit, rfl⟩
    unfold holdsL
    rw [hS, if_pos rfl, hval, rows_L hfew]
    congr 1
    rw [hrr] at hv
    rw [← eQ] at hp
    rcases ty_bit hr hty hz hw with e | e
    · rw [e, if_neg]
      intro hd
      have := hp.2 (hv.1 hd)
      rw [e] at this
      cases this
    · rw [e, if_pos (hv.2 (hp.1 e))]

end Go.Proofs.Ytiojfommmmggoaa.Dh2
