/- Small texts of mine, one behind the other. -/
import Derived.WalkKit
import Derived.Laws.Bits64
import Derived.Laws.Bits64b
import Derived.Test.YtejoeahehljhnaaGreatRows
import Derived.WalkSpells
import Derived.WalkLawsBesides
import Derived.Deep.QuietTactic
import Derived.BigQuiet
import Derived.Deep.RegionWith
import Derived.Laws.MakeOwn
import Derived.Deep.RegionHeld3
import Derived.Deep.AppendLies
import Derived.OwnWalk
import Derived.Laws.IdiomStrings
import Derived.Test.YtejoeahehljhnaaGreatFr1
import Derived.Test.YtejoeahehljhnaaGreatPkIQ1
import Derived.Test.YtejoeahehljhnaaGreatWs1
import Derived.Test.YtejoeahehljhnaaGreatPkIQ0
import Derived.Test.YtejoeahehljhnaaGreatPkIQ7
import Derived.Test.YtejoeahehljhnaaGreatPkIQ3
import Derived.Test.YtejoeahehljhnaaGreatPkIQ2
import Derived.Test.YtejoeahehljhnaaGreatPkIQ4
/- What is worth below quantifiers does not hang on what their own variables were; quantifiers that are right have the widths that they tell. -/
namespace Go.Proofs.YtejoeahehljhnaaGreat.Fr4
open Nd0 Qa0 Pl1 Pl2 Tm0 Tm1 Tm5 Tm6 Tr0 Vl1 Vl2 Vm0 Fr0 Fr1
set_option linter.unusedVariables false

def Off (q : List Qu) (e e' : List Int) : Prop := e.length = e'.length ∧ ∀ j : Nat, (∀ x ∈ q, x.vr.toNat ≠ j) → e[j]? = e'[j]?
theorem Off.refl (q : List Qu) (e : List Int) : Off q e e := ⟨rfl, fun _ _ => rfl⟩
theorem Off.trans {q : List Qu} {e e' e'' : List Int} (h : Off q e e') (k : Off q e' e'') : Off q e e'' := ⟨h.1.trans k.1, fun j hj => (h.2 j hj).trans (k.2 j hj)⟩
theorem Off.mono {p q : List Qu} {e e' : List Int} (h : Off p e e') (hs : ∀ x ∈ p, x ∈ q) : Off q e e' := ⟨h.1, fun j hj => h.2 j (fun x hx => hj x (hs x hx))⟩
theorem Off.set {x : Qu} {q : List Qu} {e e' : List Int} (h : Off (x :: q) e e') (i : Int) : Off q (e.set x.vr.toNat i) (e'.set x.vr.toNat i) := by
  refine ⟨by rw [List.length_set, List.length_set]; exact h.1, fun j hj => ?_⟩
  by_cases hc : x.vr.toNat = j
  · subst hc
    rw [List.getElem?_set_self', List.getElem?_set_self']
    have hl := h.1
    by_cases hlt : x.vr.toNat < e.length
    · simp [hlt, show x.vr.toNat < e'.length by omega]
    · simp [show ¬ x.vr.toNat < e.length by omega, show ¬ x.vr.toNat < e'.length by omega]
  · rw [List.getElem?_set_ne hc, List.getElem?_set_ne hc]
    exact h.2 j (fun y hy => by
      rcases List.mem_cons.1 hy with rfl | hy
      · exact hc
      · exact hj y hy)
theorem Off.one {x : Qu} {q : List Qu} (e : List Int) (i : Int) : Off (x :: q) e (e.set x.vr.toNat i) :=
  ⟨by rw [List.length_set], fun j hj => by rw [List.getElem?_set_ne (hj x List.mem_cons_self)]⟩
theorem hf_off : ∀ (q : List Qu) (t : Tr) (e e' : List Int), Off q e e' → hf q t e = hf q t e' := by
  intro q t
  induction q with
  | nil =>
    intro e e' h
    have : e = e' := List.ext_getElem? (fun j => h.2 j (fun x hx => by cases hx))
    rw [this]
  | cons x q ih =>
    intro e e' h
    simp only [hf]
    have hfn : (fun i : Nat => hf q t (e.set x.vr.toNat (i : Int))) = fun i : Nat => hf q t (e'.set x.vr.toNat (i : Int)) := funext (fun i => ih _ _ (h.set _))
    rw [hfn]
theorem wq_ty {q : List Qu} : ∀ k ws, k ≤ q.length → wqTo q k = some ws → ∀ i, i < k → TyQ ws (qth q i) := by
  intro k
  induction k with
  | zero => intro ws _ _ i hi; exact absurd hi (Nat.not_lt_zero _)
  | succ k ih =>
    intro ws hk h i hi
    cases hq : wqTo q k with
    | none => rw [wq_none hq (k + 1) (by omega)] at h; cases h
    | some us =>
      have h8 := wq_len us hq
      rw [wq_succ hq] at h
      unfold wqStep at h
      split at h
      · rename_i hc
        cases h
        by_cases e : i = k
        · subst e
          refine ⟨hc.1, hc.2.1, hc.2.2.1, hc.2.2.2.1, ?_⟩
          unfold wd
          simp [List.getD, h8, show (qth q i).vr.toNat < 8 by omega]
        · obtain ⟨h1, h2, h3, h4, h5⟩ := ih us (by omega) hq i (by omega)
          refine ⟨h1, h2, h3, h4, ?_⟩
          have hne : (qth q k).vr.toNat ≠ (qth q i).vr.toNat := fun he => by
            have h6 : (qth q k).vr = (qth q i).vr := by omega
            have h7 := hc.2.2.2.2
            rw [h6, ← h5] at h7
            omega
          unfold wd
          rw [show (us.set (qth q k).vr.toNat (qth q k).bits).getD (qth q i).vr.toNat 0 = us.getD (qth q i).vr.toNat 0 by simp [List.getD, List.getElem?_set_ne hne]]
          exact h5
      · cases h
theorem env_zero (ws : List Int) (h : ∀ v : Nat, v < 8 → 0 ≤ wd ws (v : Int) ∧ wd ws (v : Int) ≤ 8) : EnvOk ws (List.replicate 8 0) := by
  refine ⟨by simp, fun v hv h0 => ?_⟩
  have h1 := h v hv
  have e : wd (List.replicate 8 0) (v : Int) = 0 := Tm14.wd_zeros 8 _
  rw [e]
  exact wok_zero (by omega) (by omega)
theorem wq_bound {q : List Qu} : ∀ k ws, wqTo q k = some ws → ∀ v : Nat, v < 8 → 0 ≤ wd ws (v : Int) ∧ wd ws (v : Int) ≤ 8 := by
  intro k
  induction k with
  | zero => intro ws h v hv; cases h; rw [Tm14.wd_zeros]; omega
  | succ k ih =>
    intro ws h v hv
    cases hq : wqTo q k with
    | none => rw [wq_none hq (k + 1) (by omega)] at h; cases h
    | some us =>
      have h8 := wq_len us hq
      rw [wq_succ hq] at h
      unfold wqStep at h
      split at h
      · rename_i hc
        cases h
        by_cases e : (qth q k).vr.toNat = v
        · unfold wd
          rw [Int.toNat_natCast, ← e]
          simp [List.getD, h8, show (qth q k).vr.toNat < 8 by omega]
          omega
        · have := ih us hq v hv
          unfold wd at this ⊢
          rw [Int.toNat_natCast] at this ⊢
          rw [show (us.set (qth q k).vr.toNat (qth q k).bits).getD v 0 = us.getD v 0 by simp [List.getD, List.getElem?_set_ne e]]
          exact this
      · cases h
theorem rest_ty {q : List Qu} {l : List Nd} {ws : List Int} (hT : termOk l = true) (hg : ∀ i, i < l.length → badF l ws i = false) : ∀ i, i < l.length → flag (reachL l) i = true → Ty ws (tr l i) := by
  have hD := Tm8.down_of hT
  intro i
  induction i using Nat.strongRecOn with
  | ind i ih =>
    intro hi hf
    have hp : ∀ p ∈ parts (nth l i), Ty ws (tr l p.toNat) := fun p hp => by
      have h1 := hD i hi p hp
      exact ih _ (by omega) (by omega) (Tm8.reach_closed hD hi hf hp)
    have hb := hg i hi
    unfold badF at hb
    rw [hf, Bool.true_and, Bool.or_eq_false_iff] at hb
    rw [tr_at hD hi]
    by_cases h1 : (nth l i).op = 2 ∨ (nth l i).op = 17 ∨ (nth l i).op = 19 ∨ (nth l i).op = 20
    · rw [parts_one h1] at hp
      rw [mk_one h1]
      exact ⟨hp _ (by simp), fun h => by rw [hb.1] at h; cases h⟩
    · by_cases h2 : 3 ≤ (nth l i).op ∧ (nth l i).op ≤ 16
      · rw [parts_two h2] at hp
        rw [mk_two h2]
        exact ⟨hp _ (by simp), hp _ (by simp)⟩
      · by_cases h3 : (nth l i).op = 18
        · rw [parts_three h3] at hp
          rw [mk_three h3]
          exact ⟨hp _ (by simp), hp _ (by simp), hp _ (by simp)⟩
        · rw [mk_leaf h1 h2 h3]
          intro h4
          have h5 := hb.2
          rw [h4] at h5
          simp at h5
          exact h5.symm

end Go.Proofs.YtejoeahehljhnaaGreat.Fr4

/- The environment of each place of a table: plain facts. -/
namespace Go.Proofs.YtejoeahehljhnaaGreat.To0
open Nd0 Qa0 Pl1 Tm0 Tm1 Tm6 Tm8 Tr0 Vl1 Vl2 Fr0 Fr1 Fr4
set_option linter.unusedVariables false

def bitL : List Qu → Nat
  | [] => 0
  | x :: q => x.bits.toNat + bitL q
theorem drop_qth {q : List Qu} {i : Nat} (h : i < q.length) : q.drop i = qth q i :: q.drop (i + 1) := by
  rw [← qth_get h]; exact List.drop_eq_getElem_cons h
theorem bit_drop {q : List Qu} {i : Nat} (h : i < q.length) : bitL (q.drop i) = (qth q i).bits.toNat + bitL (q.drop (i + 1)) := by rw [drop_qth h]; rfl
theorem bit_bq {q : List Qu} : ∀ k n, k ≤ q.length → bqTo q k = some n → bitL q = n + bitL (q.drop k) := by
  intro k
  induction k with
  | zero => intro n _ h; cases h; simp
  | succ k ih =>
    intro n hk h
    cases hb : bqTo q k with
    | none => rw [bq_none hb (k + 1) (by omega)] at h; cases h
    | some m =>
      by_cases hc : 1 ≤ (qth q k).bits ∧ (qth q k).bits ≤ 8
      · rw [bq_succ hb hc] at h
        cases h
        rw [ih m (by omega) hb, bit_drop (by omega)]
        omega
      · rw [bq_bad hc] at h; cases h
theorem bit_all {q : List Qu} {n : Nat} (h : bqTo q q.length = some n) : bitL q = n := by
  rw [bit_bq q.length n (Nat.le_refl _) h, List.drop_length]; rfl
def Ap (q : List Qu) : Prop := ∀ i k, i < k → k < q.length → (qth q i).vr.toNat ≠ (qth q k).vr.toNat
theorem ap_of {q : List Qu} {ws : List Int} (h : wqTo q q.length = some ws) : Ap q := by
  intro i k hi hk
  cases hw : wqTo q k with
  | none => rw [wq_none hw _ (by omega)] at h; cases h
  | some us =>
    have h1 := wq_ty k us (by omega) hw i hi
    cases hw1 : wqTo q (k + 1) with
    | none => rw [wq_none hw1 _ (by omega)] at h; cases h
    | some vs =>
      rw [wq_succ hw] at hw1
      unfold wqStep at hw1
      split at hw1
      · rename_i hc
        obtain ⟨c1, c2, c3, c4, c5⟩ := hc
        obtain ⟨t1, t2, t3, t4, t5⟩ := h1
        intro e
        have : (qth q i).vr = (qth q k).vr := by omega
        rw [this, c5] at t5
        omega
      · cases hw1
structure Fo (q : List Qu) (l : List Nd) (ws : List Int) : Prop where
  term : termOk l = true
  rt : Rt (root l)
  wid : (root l).wid = 1
  ty : Ty ws (root l)
  env : EnvOk ws (List.replicate 8 0)
  tq : ∀ x ∈ q, TyQ ws x
  ap : Ap q
theorem fo_all {q : List Qu} {l : List Nd} (h : frontOkB q l = true) : ∃ ws, Fo q l ws := by
  obtain ⟨hT, hr, ws, hw, hg⟩ := fo_of h
  have h1 := term_len hT
  have hrt := rt_all (down_of hT) (fun k hk => term_node hT hk) (l.length - 1) (by omega)
  refine ⟨ws, hT, hrt.1, hrt.2.trans hr, rest_ty (q := q) hT hg (l.length - 1) (by omega) (reach_root h1.1), env_zero ws (wq_bound _ _ hw), fun x hx => ?_, ap_of hw⟩
  obtain ⟨i, hi, rfl⟩ := List.mem_iff_getElem.1 hx
  rw [qth_get hi]
  exact wq_ty _ _ (Nat.le_refl _) hw i hi
end Go.Proofs.YtejoeahehljhnaaGreat.To0

/- Bits in words of 64, and how many are set: plain facts. -/
namespace Go.Proofs.YtejoeahehljhnaaGreat.Ta0
set_option linter.unusedVariables false

end Go.Proofs.YtejoeahehljhnaaGreat.Ta0

/- Right tables as plain data: signs 48 and 49 at their places; words of 64 bits as Go reckons them. -/
namespace Go.Proofs.YtejoeahehljhnaaGreat.Ta1
open Go.RowKit
open Ta0
set_option linter.unusedVariables false

end Go.Proofs.YtejoeahehljhnaaGreat.Ta1

/- Strings as lists of bytes; the walk of the model's number in decimal digits. -/
namespace Go.Proofs.YtejoeahehljhnaaGreat.Ss0
open Go.RowKit
open Nd0 Tx0
set_option linter.unusedVariables false

end Go.Proofs.YtejoeahehljhnaaGreat.Ss0

/- The walks of the model's readers of numbers and words. -/
namespace Go.Proofs.YtejoeahehljhnaaGreat.Ss1
open Go.RowKit
open Nd0 Tx0 Ss0
open Ws1 (sIn ret_int)
set_option linter.unusedVariables false

end Go.Proofs.YtejoeahehljhnaaGreat.Ss1

/- Plain facts of tables: halves, places, needs. -/
namespace Go.Proofs.YtejoeahehljhnaaGreat.Ta2
open Go.RowKit
open Ta0 Ta1

set_option linter.unusedVariables false

end Go.Proofs.YtejoeahehljhnaaGreat.Ta2

/- TableOk of both sides; small functions of the laws over tables. -/
namespace Go.Proofs.YtejoeahehljhnaaGreat.Tc2
open Go.RowKit
open Ta0 Ta1


set_option linter.unusedVariables false

end Go.Proofs.YtejoeahehljhnaaGreat.Tc2

/- Small functions of the laws over tables; the exact law of TableOk. -/
namespace Go.Proofs.YtejoeahehljhnaaGreat.Tc3
open Go.RowKit
open Ta0 Ta1 Tc2


set_option linter.unusedVariables false

end Go.Proofs.YtejoeahehljhnaaGreat.Tc3

/- Packed tables in memory: a new one, its size, a bit read, a bit put. -/
namespace Go.Proofs.YtejoeahehljhnaaGreat.Tc4
open Go.RowKit
open Ta0 Ta1 Tc2
open Nd0 (Kept set_other set_same lt_of_cell)
set_option linter.unusedVariables false

end Go.Proofs.YtejoeahehljhnaaGreat.Tc4

/- Packed tables: one made of a table. -/
namespace Go.Proofs.YtejoeahehljhnaaGreat.Tc5
open Go.RowKit
open Ta0 Ta1 Tc2 Tc4
open Nd0 (Kept set_other set_same lt_of_cell)


set_option linter.unusedVariables false

end Go.Proofs.YtejoeahehljhnaaGreat.Tc5

/- Lists of bytes that are appended to and written: the law at the walk, and how they are read. -/
namespace Go.Proofs.YtejoeahehljhnaaGreat.Ap9
open Go.RowKit
open Nd0
set_option linter.unusedVariables false

end Go.Proofs.YtejoeahehljhnaaGreat.Ap9

/- The model's functions over tables: count, known, not. -/
namespace Go.Proofs.YtejoeahehljhnaaGreat.Td1
open Go.RowKit
open Ta0 Ta1 Tc2 Tc5 Ap9
open Nd0 (Kept set_other set_same lt_of_cell)


set_option linter.unusedVariables false

end Go.Proofs.YtejoeahehljhnaaGreat.Td1

/- Plain facts of a table and its two halves. -/
namespace Go.Proofs.YtejoeahehljhnaaGreat.Ta3
open Go.RowKit
open Ta0 Ta1 Ta2 Td1

set_option linter.unusedVariables false

end Go.Proofs.YtejoeahehljhnaaGreat.Ta3

/- The verdict of a row and a table: plain facts. -/
namespace Go.Proofs.YtejoeahehljhnaaGreat.De0
open Go.RowKit
open Ta1 Ta3
set_option linter.unusedVariables false

end Go.Proofs.YtejoeahehljhnaaGreat.De0

/- The verdict of the quantifiers' row and the table of the rest is what they are worth: plain facts. -/
namespace Go.Proofs.YtejoeahehljhnaaGreat.Dh0
open Nd0 Qa0 Tm6 Tr0 Vl1 Fr0 Fr1 To0 De0

set_option linter.unusedVariables false

def rowL : List Qu → List Bool
  | [] => []
  | x :: q => List.replicate x.bits.toNat x.all ++ rowL q
theorem rowL_len (q : List Qu) : (rowL q).length = bitL q := by
  induction q with
  | nil => rfl
  | cons x q ih => simp only [rowL, bitL, List.length_append, List.length_replicate, ih]
theorem rowL_app (p q : List Qu) : rowL (p ++ q) = rowL p ++ rowL q := by
  induction p with
  | nil => rfl
  | cons x p ih => simp only [List.cons_append, rowL, ih, List.append_assoc]
theorem rowTo_L (q : List Qu) : ∀ k, k ≤ q.length → rowTo q k = rowL (q.take k) := by
  intro k
  induction k with
  | zero => intro _; simp [rowTo, rowL]
  | succ k ih =>
    intro hk
    have e : q.take (k + 1) = q.take k ++ [qth q k] := by rw [List.take_succ_eq_append_getElem (by omega), qth_get (by omega)]
    rw [e, rowL_app, ← ih (by omega)]
    simp [rowTo, rowL]
theorem rows_L {q : List Qu} (h : fewB q = true) : rowsL q = rowL q := by
  unfold rowsL
  rw [h, if_pos rfl, rowTo_L q q.length (Nat.le_refl _), List.take_length]
end Go.Proofs.YtejoeahehljhnaaGreat.Dh0

/- The bits of a sentence are no more than those of its quantifiers at the front: plain facts. -/
namespace Go.Proofs.YtejoeahehljhnaaGreat.Dh1
open Nd0 Qa0 Pl1 Tm0 Tm1 Tm5 Tm6 Tm8 Tm10 Tm11 Tr0 Vl1 Vl2 Fr0 Fr1 Fr2 Fr3 Fr5 To0
set_option linter.unusedVariables false

theorem rch_head {l : List Nd} {i z : Nat} (h : Rch l i z) : z = i ∨ ∃ p ∈ parts (nth l i), Rch l p.toNat z := by
  induction h with
  | refl => exact .inl rfl
  | down h hp ih =>
    rcases ih with rfl | ⟨p', hp', h'⟩
    · exact .inr ⟨_, hp, .refl⟩
    · exact .inr ⟨p', hp', .down h' hp⟩
theorem rch_root {l : List Nd} (hD : Down l) : ∀ d z, z + d + 1 = l.length → flag (reachL l) z = true → Rch l (l.length - 1) z := by
  intro d
  induction d using Nat.strongRecOn with
  | _ d ih =>
    intro z hz hf
    rcases reach_why hD (by omega) hf with h | ⟨j, h1, h2, h3, h4⟩
    · have : z = l.length - 1 := by omega
      rw [← this]
      exact .refl
    · have := ih (l.length - 1 - j) (by omega) j (by omega) h3
      have h5 := Rch.down this h4
      rw [Int.toNat_natCast] at h5
      exact h5
theorem in_wk {l : List Nd} (hS : sentB l = true) (hT : termOk l = true) : ∀ i, i < l.length → flag (reachL l) i = true → ∀ z, Rch l i z → quant (nth l z).op = true → ∀ u, ∃ x ∈ wk (tr l i) u, x.vr = (nth l z).k ∧ x.bits = (nth l z).b := by
  intro i
  induction i using Nat.strongRecOn with
  | _ i ih =>
    intro hi hf z hz hq u
    have hD := down_of hT
    have hzl : z < l.length := Nat.lt_of_le_of_lt (hz.le hD hi) hi
    rcases rch_head hz with rfl | ⟨p, hp, hz'⟩
    · rw [wk_q hT hi hq]
      exact ⟨_, List.mem_cons_self, rfl, rfl⟩
    · have hpi := hD i hi p hp
      have hp0 : p.toNat < i := by omega
      have hfp := reach_closed hD hi hf hp
      have hh : flag (holdTo l l.length) i = true := hz.hold hD hi (quant_hold hD hzl hq)
      have go : ∀ u, ∃ x ∈ wk (tr l p.toNat) u, x.vr = (nth l z).k ∧ x.bits = (nth l z).b := fun u => ih p.toNat hp0 (by omega) hfp z hz' hq u
      rcases hold_outer hS hi hf hh with h | h | h | h
      · rw [wk_not hT hi h]
        have : p = (nth l i).a := by rw [parts_one (.inl h)] at hp; simpa using hp
        rw [← this]
        exact go _
      · rw [wk_two hT hi (.inl h)]
        have : p = (nth l i).a ∨ p = (nth l i).b := by rw [parts_two (by omega)] at hp; simpa using hp
        rcases this with e | e
        · obtain ⟨x, hx, h9⟩ := go u
          exact ⟨x, List.mem_append.2 (.inl (e ▸ hx)), h9⟩
        · obtain ⟨x, hx, h9⟩ := go u
          exact ⟨x, List.mem_append.2 (.inr (e ▸ hx)), h9⟩
      · rw [wk_two hT hi (.inr h)]
        have : p = (nth l i).a ∨ p = (nth l i).b := by rw [parts_two (by omega)] at hp; simpa using hp
        rcases this with e | e
        · obtain ⟨x, hx, h9⟩ := go u
          exact ⟨x, List.mem_append.2 (.inl (e ▸ hx)), h9⟩
        · obtain ⟨x, hx, h9⟩ := go u
          exact ⟨x, List.mem_append.2 (.inr (e ▸ hx)), h9⟩
      · rw [wk_q hT hi h]
        have h2 : (nth l i).op = 19 ∨ (nth l i).op = 20 := by simpa [quant] using h
        have : p = (nth l i).a := by rw [parts_one (by omega)] at hp; simpa using hp
        obtain ⟨x, hx, h9⟩ := go u
        exact ⟨x, List.mem_cons_of_mem _ (this ▸ hx), h9⟩
def sumP (P : Qu → Bool) : List Qu → Nat
  | [] => 0
  | x :: q => (if P x then x.bits.toNat else 0) + sumP P q
theorem sum_le (P : Qu → Bool) (q : List Qu) : sumP P q ≤ bitL q := by
  induction q with
  | nil => exact Nat.le_refl _
  | cons x q ih =>
    unfold sumP bitL
    split <;> omega
theorem sum_mono {P P' : Qu → Bool} (h : ∀ x, P x = true → P' x = true) (q : List Qu) : sumP P q ≤ sumP P' q := by
  induction q with
  | nil => exact Nat.le_refl _
  | cons x q ih =>
    unfold sumP
    by_cases hx : P x = true
    · rw [if_pos hx, if_pos (h x hx)]; omega
    · rw [if_neg hx]
      omega
theorem sum_more {P P' : Qu → Bool} (h : ∀ x, P x = true → P' x = true) : ∀ (q : List Qu) (y : Qu), y ∈ q → P y = false → P' y = true → sumP P q + y.bits.toNat ≤ sumP P' q := by
  intro q
  induction q with
  | nil => intro y hy; cases hy
  | cons x q ih =>
    intro y hy h0 h1
    have hm := sum_mono h q
    unfold sumP
    rcases List.mem_cons.1 hy with rfl | hy
    · rw [h0, h1]
      simp
      omega
    · have := ih y hy h0 h1
      by_cases hx : P x = true
      · rw [if_pos hx, if_pos (h x hx)]; omega
      · rw [if_neg hx]
        omega
open Classical in
noncomputable def Pk (l : List Nd) (k : Nat) (x : Qu) : Bool := decide (∃ i, i < k ∧ RQ l i ∧ (nth l i).k = x.vr)
theorem pk_iff {l : List Nd} {k : Nat} {x : Qu} : Pk l k x = true ↔ ∃ i, i < k ∧ RQ l i ∧ (nth l i).k = x.vr := by unfold Pk; simp
theorem bits_front {l : List Nd} (hS : sentB l = true) : bitsTo l l.length ≤ (bitL (wk (root l) false) : Int) := by
  obtain ⟨ws, hq, hr, hw, hty, hsc⟩ := sent_tree hS
  have hT := sent_ok hS
  have h1 := term_len hT
  have hqw := (quants_widths hT l.length (Nat.le_refl _) ws hq).2
  have key : ∀ k, k ≤ l.length → bitsTo l k ≤ (sumP (Pk l k) (wk (root l) false) : Int) := by
    intro k
    induction k with
    | zero => intro _; exact Int.natCast_nonneg _
    | succ k ih =>
      intro hk
      have hmono : ∀ x, Pk l k x = true → Pk l (k + 1) x = true := fun x hx => by
        obtain ⟨i, hi, h9⟩ := pk_iff.1 hx
        exact pk_iff.2 ⟨i, by omega, h9⟩
      show (if flag (reachL l) k && quant (nth l k).op then bitsTo l k + (nth l k).b else bitsTo l k) ≤ _
      by_cases hc : (flag (reachL l) k && quant (nth l k).op) = true
      · rw [if_pos hc]
        obtain ⟨hf, hqk⟩ := Bool.and_eq_true_iff.1 hc
        obtain ⟨x, hx, hv, hb⟩ := in_wk hS hT (l.length - 1) (by omega) (reach_root h1.1) k (rch_root (down_of hT) (l.length - 1 - k) k (by omega) hf) hqk false
        have hno : Pk l k x = false := by
          refine Bool.eq_false_iff.2 fun hp => ?_
          obtain ⟨i, hi, hRQ, he⟩ := pk_iff.1 hp
          exact hqw i k hi (by omega) hRQ ⟨hf, hqk⟩ (he.trans hv)
        have hyes : Pk l (k + 1) x = true := pk_iff.2 ⟨k, by omega, ⟨hf, hqk⟩, hv.symm⟩
        have h2 := sum_more hmono (wk (root l) false) x hx hno hyes
        have h3 := ih (by omega)
        have h4 : (x.bits.toNat : Int) = (nth l k).b := by
          have := (wk_ty (root l) false hr hty x hx).2.2.1
          rw [← hb]
          omega
        omega
      · rw [if_neg hc]
        have h2 := sum_mono hmono (wk (root l) false)
        have h3 := ih (by omega)
        omega
  have h5 := key l.length (Nat.le_refl _)
  have h6 := sum_le (Pk l l.length) (wk (root l) false)
  omega

end Go.Proofs.YtejoeahehljhnaaGreat.Dh1

/- What TableOf tells. -/
namespace Go.Proofs.YtejoeahehljhnaaGreat.To0t
open Go.RowKit
open Nd0 Qa0 Fr0 To0


set_option linter.unusedVariables false

end Go.Proofs.YtejoeahehljhnaaGreat.To0t

/- A term's text is read as a list with a node of that text; what a text that is cut off is read as. -/
namespace Go.Proofs.YtejoeahehljhnaaGreat.Tx4
open Nd0 Pl1 Tm0 Tm1 Tm3 Tm8 Tx0 Tx1 Tx2 Tx3 Tr0

end Go.Proofs.YtejoeahehljhnaaGreat.Tx4

/- A term's canonical form is worth what it is worth. -/
namespace Go.Proofs.YtejoeahehljhnaaGreat.Vl3
open Nd0 Pl1 Pl2 Tm0 Tm1 Tm3 Tm5 Tm8 Tm11 Tm13 Tm14 Tx0 Tx2 Tx3 Tx4 Tr0 Vl1 Vl2
set_option linter.unusedVariables false

end Go.Proofs.YtejoeahehljhnaaGreat.Vl3

/- A node put on a term; a variable told by a number: what that is worth. -/
namespace Go.Proofs.YtejoeahehljhnaaGreat.Vl4
open Nd0 Pl1 Pl2 Tm0 Tm1 Tm3 Tm5 Tm8 Tm11 Tm12 Tm13 Tm14 Tx2 Tr0 Vl1 Vl2 Vl3
set_option linter.unusedVariables false

section
variable {t : List Nd} {q : Nd} (hT : termOk t = true) (hQ : termOk (t ++ [q]) = true) (hp : parts q = [(t.length : Int) - 1])
include hT hQ hp

end

end Go.Proofs.YtejoeahehljhnaaGreat.Vl4

/- A sentence that is denied: it is a sentence, of the same bits, and worth the other one. -/
namespace Go.Proofs.YtejoeahehljhnaaGreat.Vl5
open Nd0 Pl1 Pl2 Tm0 Tm1 Tm2 Tm3 Tm4 Tm5 Tm6 Tm7 Tm8 Tm9 Tm10 Tm11 Tm12 Tm13 Tm14 Tr0 Vl1 Vl2 Vl3 Vl4
set_option linter.unusedVariables false

section
variable {t : List Nd} {q : Nd} (hT : termOk t = true) (hQ : termOk (t ++ [q]) = true) (hp : parts q = [(t.length : Int) - 1])
include hT hQ hp
end
end Go.Proofs.YtejoeahehljhnaaGreat.Vl5

/- The verdict of a sentence's row and table is what it is worth: plain facts of FnDecide. -/
namespace Go.Proofs.YtejoeahehljhnaaGreat.Dh2
open Nd0 Qa0 Pl1 Tm0 Tm1 Tm5 Tm6 Tm8 Tm10 Tm11 Tr0 Vl1 Vl2 Fr0 Fr1 Fr2 Fr3 Fr4 Fr5 To0 To0t De0 Dh0 Dh1

set_option linter.unusedVariables false

end Go.Proofs.YtejoeahehljhnaaGreat.Dh2
