/- Small texts of mine, one behind the other. -/
import Derived.Test.YtejgcchkhljnjaaGreatPkFO24
import Derived.Test.YtejgcchkhljnjaaGreatPkFO0
import Derived.Test.YtejgcchkhljnjaaGreatPkFO12
/- Which widths each variable wants, node by node: as plain data. -/
namespace Go.Proofs.YtejgcchkhljnjaaGreat.Vm1
open Nd0 Pl1 Pl2 Tm0 Tm1 Tm3 Tm5 Tm6 Tm8 Tm11 Tm13 Tm14 Tr0 Vl1 Vl2 Vm0
set_option linter.unusedVariables false

def rowN (l : List Nd) (j : Nat) : List Nat := (needT (tr l j)).getD []
def preN (l : List Nd) (n : Nd) (v : Nat) : Nat → Nat
  | 0 => if n.op = 1 ∧ n.k = (v : Int) then 2 ^ n.w.toNat else 0
  | d + 1 => preN l n v d ||| (rowN l ((parts n).getD d 0).toNat).getD v 0
def preA (l : List Nd) (n : Nd) (v : Nat) : Nat := preN l n v (parts n).length
def badQ (l : List Nd) (n : Nd) : Bool := quant n.op && decide (preA l n n.k.toNat ≠ 0 ∧ preA l n n.k.toNat ≠ 2 ^ n.b.toNat)

theorem getD_map8 (f : Nat → Nat) {v : Nat} (hv : v < 8) : ((List.range 8).map f).getD v 0 = f v := by
  rw [List.getD_eq_getElem?_getD, List.getElem?_map, List.getElem?_range hv]; rfl

theorem need_row {l : List Nd} {i : Nat} (hp : ∀ p ∈ parts (nth l i), (needT (tr l p.toNat)).isSome = true) : ∀ p ∈ parts (nth l i), needT (tr l p.toNat) = some (rowN l p.toNat) := fun p h => by
  obtain ⟨r, hr⟩ := Option.isSome_iff_exists.1 (hp p h)
  unfold rowN; rw [hr]; rfl
section
variable {l : List Nd} (hD : Down l) {i : Nat} (hi : i < l.length) (hp : ∀ p ∈ parts (nth l i), (needT (tr l p.toNat)).isSome = true)
include hD hi hp
theorem need_none (hb : badQ l (nth l i) = true) : needT (tr l i) = none := by
  have hr := need_row hp
  unfold badQ at hb
  simp only [Bool.and_eq_true] at hb
  obtain ⟨hq, hb⟩ := hb
  have hb := of_decide_eq_true hb
  rw [tr_at hD hi]
  generalize nth l i = n at hr hq hb
  have hq2 : n.op = 19 ∨ n.op = 20 := by simpa [quant] using hq
  have h1 : n.op = 2 ∨ n.op = 17 ∨ n.op = 19 ∨ n.op = 20 := by omega
  rw [mk_one h1]
  have hpp := parts_one h1
  simp only [needT]
  rw [hr n.a (by rw [hpp]; simp)]
  simp only [Option.bind_some, hq, if_true]
  have e : preA l n n.k.toNat = (rowN l n.a.toNat).getD n.k.toNat 0 := by
    unfold preA
    rw [hpp]
    show preN l n n.k.toNat (0 + 1) = _
    unfold preN
    rw [hpp]
    have : ¬ (n.op = 1 ∧ n.k = (n.k.toNat : Int)) := fun h => by omega
    simp only [preN]
    rw [if_neg this]
    simp
  rw [e] at hb
  rw [if_pos hb]
theorem need_some (hb : badQ l (nth l i) = false) (hk : quant (nth l i).op = true → 0 ≤ (nth l i).k) : ∃ r, needT (tr l i) = some r ∧ ∀ v, v < 8 → r.getD v 0 = if quant (nth l i).op ∧ (nth l i).k = (v : Int) then 0 else preA l (nth l i) v := by
  have hr := need_row hp
  unfold badQ at hb
  rw [tr_at hD hi]
  generalize nth l i = n at hr hb hk
  by_cases h1 : n.op = 2 ∨ n.op = 17 ∨ n.op = 19 ∨ n.op = 20
  · rw [mk_one h1]
    have hpp := parts_one h1
    simp only [needT]
    have hra := hr n.a (by rw [hpp]; simp)
    have hrl := need_len _ _ hra
    have e : ∀ v, preA l n v = (rowN l n.a.toNat).getD v 0 := fun v => by
      unfold preA
      rw [hpp]
      show preN l n v (0 + 1) = _
      unfold preN
      rw [hpp]
      have : ¬ (n.op = 1 ∧ n.k = (v : Int)) := fun h => by omega
      simp only [preN]
      rw [if_neg this]
      simp
    rw [hra]
    simp only [Option.bind_some]
    cases hq : quant n.op
    · simp only [Bool.false_eq_true, if_false]
      exact ⟨_, rfl, fun v hv => by rw [if_neg (by simp), e v]⟩
    · simp only [if_true]
      rw [hq] at hb
      simp only [Bool.true_and] at hb
      have hb := of_decide_eq_false hb
      rw [e] at hb
      rw [if_neg hb]
      refine ⟨_, rfl, fun v hv => ?_⟩
      have h0 := hk hq
      by_cases ev : n.k = (v : Int)
      · rw [if_pos ⟨by simp, ev⟩]
        have : n.k.toNat = v := by omega
        rw [this, List.getD_eq_getElem?_getD, List.getElem?_set_self (by rw [hrl]; exact hv)]; rfl
      · rw [if_neg (fun h => ev h.2), e v, List.getD_eq_getElem?_getD, List.getElem?_set_ne (by omega), ← List.getD_eq_getElem?_getD]
  · have hq : quant n.op = false := by
      have : ¬ n.op = 19 ∧ ¬ n.op = 20 := by omega
      simp [quant, this]
    by_cases h2 : 3 ≤ n.op ∧ n.op ≤ 16
    · rw [mk_two h2]
      have hpp := parts_two h2
      simp only [needT]
      rw [hr n.a (by rw [hpp]; simp), hr n.b (by rw [hpp]; simp)]
      simp only [Option.bind_some]
      refine ⟨_, rfl, fun v hv => ?_⟩
      rw [hq, if_neg (by simp), or_at _ _ hv]
      unfold preA
      rw [hpp]
      show _ = preN l n v (0 + 1 + 1)
      have : ¬ (n.op = 1 ∧ n.k = (v : Int)) := fun h => by omega
      simp only [preN, hpp]
      rw [if_neg this]
      simp
    · by_cases h3 : n.op = 18
      · rw [mk_three h3]
        have hpp := parts_three h3
        simp only [needT]
        rw [hr n.a (by rw [hpp]; simp), hr n.b (by rw [hpp]; simp), hr n.c (by rw [hpp]; simp)]
        simp only [Option.bind_some]
        refine ⟨_, rfl, fun v hv => ?_⟩
        rw [hq, if_neg (by simp), or_at _ _ hv, or_at _ _ hv]
        unfold preA
        rw [hpp]
        show _ = preN l n v (0 + 1 + 1 + 1)
        have : ¬ (n.op = 1 ∧ n.k = (v : Int)) := fun h => by omega
        simp only [preN, hpp]
        rw [if_neg this]
        simp
      · rw [mk_leaf h1 h2 h3]
        have hpp := parts_none h1 h2 h3
        simp only [needT]
        refine ⟨_, rfl, fun v hv => ?_⟩
        rw [hq, if_neg (by simp), getD_map8 _ hv]
        unfold preA
        rw [hpp]
        rfl
end
theorem part_none {l : List Nd} (hD : Down l) {i : Nat} (hi : i < l.length) {p : Int} (hp : p ∈ parts (nth l i)) (h : needT (tr l p.toNat) = none) : needT (tr l i) = none := by
  rw [tr_at hD hi]
  generalize nth l i = n at hp
  by_cases h1 : n.op = 2 ∨ n.op = 17 ∨ n.op = 19 ∨ n.op = 20
  · rw [mk_one h1]
    rw [parts_one h1] at hp
    simp only [List.mem_cons, List.not_mem_nil, or_false] at hp
    subst hp
    simp only [needT]
    rw [h]; rfl
  · by_cases h2 : 3 ≤ n.op ∧ n.op ≤ 16
    · rw [mk_two h2]
      rw [parts_two h2] at hp
      simp only [List.mem_cons, List.not_mem_nil, or_false] at hp
      simp only [needT]
      rcases hp with rfl | rfl
      · rw [h]; rfl
      · rw [h]; cases needT (tr l n.a.toNat) <;> rfl
    · by_cases h3 : n.op = 18
      · rw [mk_three h3]
        rw [parts_three h3] at hp
        simp only [List.mem_cons, List.not_mem_nil, or_false] at hp
        simp only [needT]
        rcases hp with rfl | rfl | rfl
        · rw [h]; rfl
        · rw [h]; cases needT (tr l n.a.toNat) <;> rfl
        · rw [h]; cases needT (tr l n.a.toNat) <;> cases needT (tr l n.b.toNat) <;> rfl
      · rw [parts_none h1 h2 h3] at hp
        cases hp
theorem root_none {l : List Nd} (hD : Down l) : ∀ d i, l.length = i + 1 + d → flag (reachL l) i = true → needT (tr l i) = none → needT (root l) = none := by
  intro d
  induction d using Nat.strongRecOn with
  | ind d ih =>
    intro i hi hf hn
    rcases reach_why hD (i := i) (by omega) hf with e | ⟨j, h1, h2, h3, h4⟩
    · unfold root; rw [← e]; exact hn
    · refine ih (l.length - (j + 1)) (by omega) j (by omega) h3 (part_none hD (by omega) h4 ?_)
      rw [Int.toNat_natCast]; exact hn
theorem need_bd : ∀ (x : Tr) (r : List Nat), Rt x → needT x = some r → ∀ v, r.getD v 0 < 2 ^ 9 := by
  have hor : ∀ (r s : List Nat) (v : Nat), (∀ v, r.getD v 0 < 2 ^ 9) → (∀ v, s.getD v 0 < 2 ^ 9) → (orL r s).getD v 0 < 2 ^ 9 := by
    intro r s v hr hs
    by_cases hv : v < 8
    · rw [or_at r s hv]; exact Nat.or_lt_two_pow (hr v) (hs v)
    · rw [List.getD_eq_getElem?_getD, List.getElem?_eq_none (by unfold orL; simp; omega)]; decide
  intro x
  induction x with
  | leaf op w k =>
    intro r hR h v
    simp only [needT] at h
    cases h
    by_cases hv : v < 8
    · rw [getD_map8 _ hv]
      split
      · have h8 : w.toNat ≤ 8 := by have := hR.2.1; omega
        exact Nat.lt_of_le_of_lt (Nat.pow_le_pow_right (by omega) h8) (by decide)
      · decide
    · rw [List.getD_eq_getElem?_getD, List.getElem?_eq_none (by simp; omega)]; decide
  | one op w k b x ih =>
    intro r hR h v
    simp only [needT] at h
    cases hn : needT x with
    | none => rw [hn] at h; cases h
    | some s =>
      rw [hn] at h
      simp only [Option.bind_some] at h
      have hs := ih s hR.2.2.1 hn
      split at h
      · split at h
        · cases h
        · cases h
          rw [List.getD_eq_getElem?_getD]
          by_cases e : k.toNat = v
          · subst e
            by_cases hl : k.toNat < s.length
            · rw [List.getElem?_set_self hl]; decide
            · rw [List.getElem?_eq_none (by rw [List.length_set]; omega)]; decide
          · rw [List.getElem?_set_ne e, ← List.getD_eq_getElem?_getD]; exact hs v
      · cases h; exact hs v
  | two op w x y ihx ihy =>
    intro r hR h v
    simp only [needT] at h
    cases hx : needT x with
    | none => rw [hx] at h; cases h
    | some s =>
      cases hy : needT y with
      | none => rw [hx, hy] at h; cases h
      | some t =>
        rw [hx, hy] at h
        simp only [Option.bind_some] at h
        cases h
        exact hor s t v (ihx s hR.2.2.1 hx) (ihy t hR.2.2.2.1 hy)
  | three op w x y z ihx ihy ihz =>
    intro r hR h v
    simp only [needT] at h
    cases hx : needT x with
    | none => rw [hx] at h; cases h
    | some s =>
      cases hy : needT y with
      | none => rw [hx, hy] at h; cases h
      | some t =>
        cases hz : needT z with
        | none => rw [hx, hy, hz] at h; cases h
        | some u =>
          rw [hx, hy, hz] at h
          simp only [Option.bind_some] at h
          cases h
          exact hor _ u v (fun v => hor s t v (ihx s hR.2.2.1 hx) (ihy t hR.2.2.2.1 hy)) (ihz u hR.2.2.2.2.1 hz)

end Go.Proofs.YtejgcchkhljnjaaGreat.Vm1

/- Values that fit, from a node to its parts: as plain data. -/
namespace Go.Proofs.YtejgcchkhljnjaaGreat.Vm2
open Nd0 Pl1 Pl2 Tm0 Tm1 Tm3 Tm5 Tm6 Tm8 Tm11 Tm13 Tm14 Tr0 Vl1 Vl2 Vm0 Vm1
set_option linter.unusedVariables false

def FitN (l : List Nd) (i : Nat) (e : List Int) : Prop := ∃ r, needT (tr l i) = some r ∧ Fits r e
theorem FitN.part {l : List Nd} (hD : Down l) {i : Nat} (hi : i < l.length) {e : List Int} (h : FitN l i e) (hq : quant (nth l i).op = false) {p : Int} (hp : p ∈ parts (nth l i)) : FitN l p.toNat e := by
  obtain ⟨r, hr, hF⟩ := h
  rw [tr_at hD hi] at hr
  generalize nth l i = n at hp hq hr
  have hq2 : ¬ n.op = 19 ∧ ¬ n.op = 20 := by simpa [quant] using hq
  by_cases h1 : n.op = 2 ∨ n.op = 17 ∨ n.op = 19 ∨ n.op = 20
  · rw [mk_one h1] at hr
    rw [parts_one h1] at hp
    simp only [List.mem_cons, List.not_mem_nil, or_false] at hp
    subst hp
    simp only [needT] at hr
    cases hn : needT (tr l n.a.toNat) with
    | none => rw [hn] at hr; cases hr
    | some s =>
      rw [hn] at hr
      simp only [Option.bind_some, hq, Bool.false_eq_true, if_false] at hr
      cases hr
      exact ⟨_, hn, hF⟩
  · by_cases h2 : 3 ≤ n.op ∧ n.op ≤ 16
    · rw [mk_two h2] at hr
      rw [parts_two h2] at hp
      simp only [List.mem_cons, List.not_mem_nil, or_false] at hp
      simp only [needT] at hr
      cases hx : needT (tr l n.a.toNat) with
      | none => rw [hx] at hr; cases hr
      | some s =>
        cases hy : needT (tr l n.b.toNat) with
        | none => rw [hx, hy] at hr; cases hr
        | some t =>
          rw [hx, hy] at hr
          simp only [Option.bind_some] at hr
          cases hr
          rcases hp with rfl | rfl
          · exact ⟨s, hx, hF.left⟩
          · exact ⟨t, hy, hF.right⟩
    · by_cases h3 : n.op = 18
      · rw [mk_three h3] at hr
        rw [parts_three h3] at hp
        simp only [List.mem_cons, List.not_mem_nil, or_false] at hp
        simp only [needT] at hr
        cases hx : needT (tr l n.a.toNat) with
        | none => rw [hx] at hr; cases hr
        | some s =>
          cases hy : needT (tr l n.b.toNat) with
          | none => rw [hx, hy] at hr; cases hr
          | some t =>
            cases hz : needT (tr l n.c.toNat) with
            | none => rw [hx, hy, hz] at hr; cases hr
            | some u =>
              rw [hx, hy, hz] at hr
              simp only [Option.bind_some] at hr
              cases hr
              rcases hp with rfl | rfl | rfl
              · exact ⟨s, hx, hF.left.left⟩
              · exact ⟨t, hy, hF.left.right⟩
              · exact ⟨u, hz, hF.right⟩
      · rw [parts_none h1 h2 h3] at hp
        cases hp
theorem FitN.below {l : List Nd} (hD : Down l) {i : Nat} (hi : i < l.length) (hN : nodeOk l i = true) {e : List Int} (he : e.length = 8) (h : FitN l i e) (hq : quant (nth l i).op = true) {k : Nat} (hk : k < 2 ^ (nth l i).b.toNat) : FitN l (nth l i).a.toNat (e.set (nth l i).k.toNat (k : Int)) := by
  obtain ⟨r, hr, hF⟩ := h
  have hkk := shape_var hN (.inr hq)
  have hbb := quant_b hN hq
  rw [tr_at hD hi] at hr
  generalize nth l i = n at hq hr hkk hbb hk
  have hq2 : n.op = 19 ∨ n.op = 20 := by simpa [quant] using hq
  rw [mk_one (by omega)] at hr
  simp only [needT] at hr
  cases hn : needT (tr l n.a.toNat) with
  | none => rw [hn] at hr; cases hr
  | some s =>
    rw [hn] at hr
    simp only [Option.bind_some, hq, if_true] at hr
    by_cases hc : s.getD n.k.toNat 0 ≠ 0 ∧ s.getD n.k.toNat 0 ≠ 2 ^ n.b.toNat
    · rw [if_pos hc] at hr; cases hr
    · rw [if_neg hc] at hr
      cases hr
      exact ⟨s, hn, Fits.below (need_len _ _ hn) he hkk hbb hk hc hF⟩
theorem FitN.word {l : List Nd} (hT : termOk l = true) {i : Nat} (hi : i < l.length) {e : List Int} (he : e.length = 8) (h : FitN l i e) : wok (nth l i).w (vT (tr l i) e) = true := by
  obtain ⟨r, hr, hF⟩ := h
  have h2 := rt_all (down_of hT) (fun k hk => term_node hT hk) i hi
  have := value_word _ r e h2.1 hr he hF
  rw [h2.2] at this
  exact this
def hitB (l : List Nd) (e : List Int) (n : Nd) (x : Int) : Bool := (List.range (2 ^ n.b.toNat)).any fun (k : Nat) => vT (tr l n.a.toNat) (e.set n.k.toNat (k : Int)) == x
theorem hit_iff {l : List Nd} {e : List Int} {n : Nd} {x : Int} : hitB l e n x = true ↔ ∃ k : Nat, k < 2 ^ n.b.toNat ∧ vT (tr l n.a.toNat) (e.set n.k.toNat (k : Int)) = x := by
  unfold hitB
  rw [List.any_eq_true]
  constructor
  · rintro ⟨k, h1, h2⟩; exact ⟨k, List.mem_range.1 h1, by simpa using h2⟩
  · rintro ⟨k, h1, h2⟩; exact ⟨k, List.mem_range.2 h1, by simpa using h2⟩
theorem vT_hit {l : List Nd} (hT : termOk l = true) {i : Nat} (hi : i < l.length) {e : List Int} (he : e.length = 8) (h : FitN l i e) (hq : quant (nth l i).op = true) :
    vT (tr l i) e = if (nth l i).op = 19 then (if (!hitB l e (nth l i) 0) then 1 else 0) else (if hitB l e (nth l i) 1 then 1 else 0) := by
  have hD := down_of hT
  have hq2 : (nth l i).op = 19 ∨ (nth l i).op = 20 := by simpa [quant] using hq
  have haa := hD i hi (nth l i).a (by rw [parts_one (by omega)]; simp)
  have hw1 : (nth l (nth l i).a.toNat).w = 1 := by
    have h2 := (rt_all hD (fun k hk => term_node hT hk) i hi).1
    rw [tr_at hD hi, mk_one (by omega)] at h2
    have h3 := h2.2.2.2
    have h4 := (rt_all hD (fun k hk => term_node hT hk) (nth l i).a.toNat (by omega)).2
    rcases h3 with h5 | h5 | h5
    · omega
    · omega
    · rw [← h4]; exact h5.2.1
  have hbit : ∀ k : Nat, k < 2 ^ (nth l i).b.toNat → vT (tr l (nth l i).a.toNat) (e.set (nth l i).k.toNat (k : Int)) = 0 ∨ vT (tr l (nth l i).a.toNat) (e.set (nth l i).k.toNat (k : Int)) = 1 := fun k hk => by
    have h2 := FitN.word hT (by omega) (by rw [List.length_set]; exact he) (h.below hD hi (term_node hT hi) he hq hk)
    rw [hw1] at h2
    have h3 := wok_iff.1 h2
    have h4 : p2 (1 : Int).toNat = 2 := rfl
    rw [h4] at h3
    omega
  rw [vT_quant hD hi e hq]
  by_cases h19 : (nth l i).op = 19
  · rw [if_pos h19, if_pos h19]
    cases hh : hitB l e (nth l i) 0
    · simp only [Bool.not_false, if_true]
      refine allN_one.2 (fun k hk => ?_)
      rcases hbit k hk with h5 | h5
      · rw [hit_iff.2 ⟨k, hk, h5⟩] at hh; cases hh
      · exact h5
    · obtain ⟨k, hk, h5⟩ := hit_iff.1 hh
      simp only [Bool.not_true, Bool.false_eq_true, if_false]
      rcases allN_bit (fun i_1 => vT (tr l (nth l i).a.toNat) (e.set (nth l i).k.toNat (i_1 : Int))) (2 ^ (nth l i).b.toNat) with h6 | h6
      · exact h6
      · have h7 := allN_one.1 h6 k hk
        rw [h5] at h7; cases h7
  · rw [if_neg h19, if_neg h19]
    cases hh : hitB l e (nth l i) 1
    · simp only [Bool.false_eq_true, if_false]
      rcases anyN_bit (fun i_1 => vT (tr l (nth l i).a.toNat) (e.set (nth l i).k.toNat (i_1 : Int))) (2 ^ (nth l i).b.toNat) with h6 | h6
      · exact h6
      · rw [hit_iff.2 (anyN_one.1 h6)] at hh; cases hh
    · simp only [if_true]
      exact anyN_one.2 (hit_iff.1 hh)

end Go.Proofs.YtejgcchkhljnjaaGreat.Vm2

/- What is kept, past blocks that were made since. -/
namespace Go.Proofs.YtejgcchkhljnjaaGreat.Kp1
open Go.RowKit
open Nd0 Rw0 Rw1 Tm6
theorem Kept.past {S T : Nat → Prop} {u v w : World} (h : Kept S u v) (k : Kept T v w) (hT : ∀ b, T b → S b ∨ u.heap.size ≤ b) : Kept S u w :=
  ⟨k.os.trans h.os, k.tape.trans h.tape, k.output.trans h.output, Nat.le_trans h.size k.size, fun i hi hb => (k.block i (Nat.lt_of_lt_of_le hi h.size) (fun t => by
    rcases hT i t with e | e
    · exact hb e
    · omega)).trans (h.block i hi hb)⟩
end Go.Proofs.YtejgcchkhljnjaaGreat.Kp1
