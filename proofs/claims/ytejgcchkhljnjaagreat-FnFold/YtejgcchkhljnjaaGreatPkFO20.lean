/- Small texts of mine, one behind the other. -/
import Derived.Test.YtejgcchkhljnjaaGreatPkFO19
import Derived.Test.YtejgcchkhljnjaaGreatPkFO16
import Derived.Test.YtejgcchkhljnjaaGreatPkFO17
/- A folded tree wants no variable that the tree did not want, nor any with another width. Plain data. -/
namespace Go.Proofs.YtejgcchkhljnjaaGreat.Aq10
open Nd0 Pl1 Tm0 Tm1 Tm3 Tm5 Tm8 Tr0 Vl1 Vl2 Aq0 Aq1 Aq7 Aq9
set_option linter.unusedVariables false

def Less (s r : List Nat) : Prop := ∀ v j : Nat, v < 8 → (s.getD v 0).testBit j = true → (r.getD v 0).testBit j = true
theorem less_zero {s : List Nat} (r : List Nat) (h : ∀ v : Nat, v < 8 → s.getD v 0 = 0) : Less s r := by
  intro v j hv hb
  rw [h v hv, Nat.zero_testBit] at hb
  cases hb
theorem less_or {s s' r r' : List Nat} (h : Less s r) (h' : Less s' r') : Less (orL s s') (orL r r') := by
  intro v j hv hb
  rw [or_at s s' hv, Nat.testBit_or, Bool.or_eq_true] at hb
  rw [or_at r r' hv, Nat.testBit_or, Bool.or_eq_true]
  rcases hb with hb | hb
  · exact .inl (h v j hv hb)
  · exact .inr (h' v j hv hb)
theorem less_fits {s r : List Nat} {e : List Int} (h : Less s r) (hf : Fits r e) : Fits s e := fun v hv j h1 h8 hb => hf v hv j h1 h8 (h v j hv hb)
theorem set_get (r : List Nat) (k v : Nat) : (r.set k 0).getD v 0 = if v = k then 0 else r.getD v 0 := by
  rw [List.getD_eq_getElem?_getD, List.getElem?_set, List.getD_eq_getElem?_getD]
  by_cases h : k = v
  · subst h
    rw [if_pos rfl, if_pos rfl]
    split <;> rfl
  · rw [if_neg h, if_neg (fun e => h e.symm)]
theorem less_set {s r : List Nat} (k : Nat) (h : Less s r) : Less (s.set k 0) (r.set k 0) := by
  intro v j hv hb
  rw [set_get] at hb ⊢
  by_cases e : v = k
  · rw [if_pos e, Nat.zero_testBit] at hb; cases hb
  · rw [if_neg e] at hb ⊢
    exact h v j hv hb
theorem less_pow {s r b : Nat} (h : ∀ j, s.testBit j = true → r.testBit j = true) (hr : ¬ (r ≠ 0 ∧ r ≠ 2 ^ b)) : ¬ (s ≠ 0 ∧ s ≠ 2 ^ b) := by
  rintro ⟨h0, h1⟩
  have hr2 : r = 0 ∨ r = 2 ^ b := by
    by_cases e : r = 0
    · exact .inl e
    · by_cases e2 : r = 2 ^ b
      · exact .inr e2
      · exact absurd ⟨e, e2⟩ hr
  obtain ⟨j, hj⟩ := Nat.exists_testBit_of_ne_zero h0
  have hb := h j hj
  rcases hr2 with rfl | rfl
  · rw [Nat.zero_testBit] at hb; cases hb
  · apply h1
    apply Nat.eq_of_testBit_eq
    intro i
    rw [Nat.testBit_two_pow] at hb ⊢
    have ejb : b = j := of_decide_eq_true hb
    by_cases e : b = i
    · rw [decide_eq_true e, ← e, ejb]; exact hj
    · rw [decide_eq_false e]
      cases hs : s.testBit i
      · rfl
      · have h2 := h i hs
        rw [Nat.testBit_two_pow] at h2
        exact absurd (of_decide_eq_true h2) e

theorem fo_need : ∀ (x : Tr) (r : List Nat), Rt x → needT x = some r → ∃ s, needT (foT x) = some s ∧ Less s r := by
  intro x
  induction x with
  | leaf op w k => intro r _ h; exact ⟨r, h, fun _ _ _ hb => hb⟩
  | one op w k b x ih =>
    intro r hR h
    unfold foT
    by_cases hc : (!quant op && cT (foT x)) = true
    · rw [if_pos hc]
      obtain ⟨s, hs, hz⟩ := need_con (x := .leaf 0 w (applyL op w k (foT x).wid (kT (foT x)) 0 0)) rfl
      exact ⟨s, hs, less_zero r hz⟩
    · rw [if_neg hc]
      have h' : ((needT x).bind fun r => if quant op then (if r.getD k.toNat 0 ≠ 0 ∧ r.getD k.toNat 0 ≠ 2 ^ b.toNat then none else some (r.set k.toNat 0)) else some r) = some r := h
      obtain ⟨r0, hr0, h2⟩ := Option.bind_eq_some_iff.1 h'
      obtain ⟨s0, hs0, hl⟩ := ih r0 hR.2.2.1 hr0
      show ∃ s, ((needT (foT x)).bind fun r => if quant op then (if r.getD k.toNat 0 ≠ 0 ∧ r.getD k.toNat 0 ≠ 2 ^ b.toNat then none else some (r.set k.toNat 0)) else some r) = some s ∧ Less s r
      rw [hs0, Option.bind_some]
      cases hq : quant op
      · rw [hq] at h2
        simp only [Bool.false_eq_true, if_false, Option.some.injEq] at h2 ⊢
        subst h2
        exact ⟨s0, rfl, hl⟩
      · rw [hq] at h2
        simp only [if_true] at h2 ⊢
        have hk : k.toNat < 8 := by
          have hq2 := hq
          unfold quant at hq2
          rw [Bool.or_eq_true, beq_iff_eq, beq_iff_eq] at hq2
          rcases hR.2.2.2 with h3 | h3 | h3
          · omega
          · omega
          · omega
        by_cases hn : r0.getD k.toNat 0 ≠ 0 ∧ r0.getD k.toNat 0 ≠ 2 ^ b.toNat
        · rw [if_pos hn] at h2; cases h2
        · rw [if_neg hn] at h2
          rw [if_neg (less_pow (fun j hj => hl k.toNat j hk hj) hn)]
          cases h2
          exact ⟨_, rfl, less_set _ hl⟩
  | two op w x y ihx ihy =>
    intro r hR h
    unfold foT
    by_cases hc : (cT (foT x) && cT (foT y)) = true
    · rw [if_pos hc]
      obtain ⟨s, hs, hz⟩ := need_con (x := .leaf 0 w (applyL op w 0 (foT x).wid (kT (foT x)) (kT (foT y)) 0)) rfl
      exact ⟨s, hs, less_zero r hz⟩
    · rw [if_neg hc]
      have h' : ((needT x).bind fun r => (needT y).bind fun s => some (orL r s)) = some r := h
      obtain ⟨r0, hr0, h2⟩ := Option.bind_eq_some_iff.1 h'
      obtain ⟨r1, hr1, h3⟩ := Option.bind_eq_some_iff.1 h2
      cases h3
      obtain ⟨s0, hs0, hl⟩ := ihx r0 hR.2.2.1 hr0
      obtain ⟨s1, hs1, hl1⟩ := ihy r1 hR.2.2.2.1 hr1
      refine ⟨orL s0 s1, ?_, less_or hl hl1⟩
      show ((needT (foT x)).bind fun r => (needT (foT y)).bind fun s => some (orL r s)) = _
      rw [hs0, hs1]
      rfl
  | three op w x y z ihx ihy ihz =>
    intro r hR h
    unfold foT
    by_cases hc : (cT (foT x) && cT (foT y) && cT (foT z)) = true
    · rw [if_pos hc]
      obtain ⟨s, hs, hz⟩ := need_con (x := .leaf 0 w (applyL op w 0 (foT x).wid (kT (foT x)) (kT (foT y)) (kT (foT z)))) rfl
      exact ⟨s, hs, less_zero r hz⟩
    · rw [if_neg hc]
      have h' : ((needT x).bind fun r => (needT y).bind fun s => (needT z).bind fun u => some (orL (orL r s) u)) = some r := h
      obtain ⟨r0, hr0, h2⟩ := Option.bind_eq_some_iff.1 h'
      obtain ⟨r1, hr1, h3⟩ := Option.bind_eq_some_iff.1 h2
      obtain ⟨r2, hr2, h4⟩ := Option.bind_eq_some_iff.1 h3
      cases h4
      obtain ⟨s0, hs0, hl⟩ := ihx r0 hR.2.2.1 hr0
      obtain ⟨s1, hs1, hl1⟩ := ihy r1 hR.2.2.2.1 hr1
      obtain ⟨s2, hs2, hl2⟩ := ihz r2 hR.2.2.2.2.1 hr2
      refine ⟨orL (orL s0 s1) s2, ?_, less_or (less_or hl hl1) hl2⟩
      show ((needT (foT x)).bind fun r => (needT (foT y)).bind fun s => (needT (foT z)).bind fun u => some (orL (orL r s) u)) = _
      rw [hs0, hs1, hs2]
      rfl
theorem fo_fit {x : Tr} (hR : Rt x) {e : List Int} (h : fitT x e = true) : fitT (foT x) e = true := by
  unfold fitT at h ⊢
  cases hx : needT x with
  | none => rw [hx] at h; cases h
  | some r =>
    rw [hx] at h
    obtain ⟨s, hs, hl⟩ := fo_need x r hR hx
    rw [hs]
    exact fit_iff.2 (less_fits hl (fit_iff.1 h))

end Go.Proofs.YtejgcchkhljnjaaGreat.Aq10

/- A folded right list is right. Plain data. -/
namespace Go.Proofs.YtejgcchkhljnjaaGreat.Aq11
open Nd0 Pl1 Tm0 Tm1 Tm3 Tm5 Tm8 Tr0 Vl1 Vl2 Aq0 Aq1 Aq7 Aq8 Aq9
set_option linter.unusedVariables false

theorem foldF_w (i : Nat) (n : Nd) (ps : List Nd) : (foldF i n ps).w = n.w := by
  unfold foldF
  split <;> rfl
theorem fold_w {l : List Nd} (hD : Down l) {i : Nat} (hi : i < l.length) : (nth (foldTo l l.length) i).w = (nth l i).w := by
  rw [fold_nth hD hi, foldF_w]
theorem fold_term {l : List Nd} (hT : termOk l = true) : termOk (foldTo l l.length) = true := by
  have hD := down_of hT
  have hF := fold_down hD
  have hl := term_len hT
  refine term_good (by rw [fold_len]; exact hl) fun i hi => ?_
  rw [fold_len] at hi
  have hR := fo_rt _ (rt_all hD (fun k hk => term_node hT hk) i hi).1
  rw [← tr_fold hD i hi, tr_at hF (by rw [fold_len]; exact hi)] at hR
  have hok := term_node hT hi
  have hn := fold_nth hD hi
  by_cases hc : conB (nth l i) ((parts (nth l i)).map fun p => nth (foldTo l l.length) p.toNat) = true
  · have e : nth (foldTo l l.length) i = conN (nth l i) ((parts (nth l i)).map fun p => nth (foldTo l l.length) p.toNat) := hn.trans (if_pos hc)
    have e0 : (nth (foldTo l l.length) i).op = 0 := by rw [e]; rfl
    rw [mk_zero e0] at hR
    have hw : wok (nth (foldTo l l.length) i).w (nth (foldTo l l.length) i).k = true := by
      rcases hR.2.2 with h | h
      · exact h.2
      · exact absurd h.1 (by omega)
    have h1 : 1 ≤ (nth (foldTo l l.length) i).w := hR.1
    have h8 : (nth (foldTo l l.length) i).w ≤ 8 := hR.2.1
    have hp : parts (nth (foldTo l l.length) i) = [] := by rw [e]; rfl
    have ha : (nth (foldTo l l.length) i).a = 0 ∧ (nth (foldTo l l.length) i).b = 0 ∧ (nth (foldTo l l.length) i).c = 0 := by rw [e]; exact ⟨rfl, rfl, rfl⟩
    simp only [nodeOk]
    rw [hp]
    unfold shapeOk
    rw [if_pos e0, hw, decide_eq_true ha, decide_eq_true (And.intro h1 h8)]
    rfl
  · have e : nth (foldTo l l.length) i = nth l i := hn.trans (if_neg hc)
    have ew : (parts (nth l i)).map (width (foldTo l l.length)) = (parts (nth l i)).map (width l) := by
      apply List.map_congr_left
      intro p hp
      have := hD i hi p hp
      exact fold_w hD (by omega)
    simp only [nodeOk] at hok ⊢
    rw [e, ew]
    exact hok

end Go.Proofs.YtejgcchkhljnjaaGreat.Aq11

/- Constants put together: what is left of a term. Plain data. -/
namespace Go.Proofs.YtejgcchkhljnjaaGreat.Aq15
open Nd0 Pl1 Tm0 Tm1 Tm3 Tm5 Tm8 Tm11 Tm13 Tr0 Vl1 Vl2 Vl3 Aq0 Aq1 Aq7 Aq8 Aq9 Aq10 Aq11
set_option linter.unusedVariables false

theorem fold_or {l : List Nd} (hD : Down l) {i : Nat} (hi : i < l.length) : (nth (foldTo l l.length) i = nth l i ∧ conB (nth l i) ((parts (nth l i)).map fun p => nth (foldTo l l.length) p.toNat) = false) ∨ (quant (nth l i).op = false ∧ (nth (foldTo l l.length) i).op = 0 ∧ parts (nth (foldTo l l.length) i) = []) := by
  rw [fold_nth hD hi]
  unfold foldF
  cases hc : conB (nth l i) ((parts (nth l i)).map fun p => nth (foldTo l l.length) p.toNat)
  · exact .inl ⟨if_neg (by simp), rfl⟩
  · refine .inr ⟨?_, ?_, ?_⟩
    · unfold conB at hc
      simp only [Bool.and_eq_true, Bool.not_eq_true'] at hc
      exact hc.1.2
    · rw [if_pos rfl]; rfl
    · rw [if_pos rfl]; rfl
theorem fold_reach {l : List Nd} (hT : termOk l = true) : ∀ d i, l.length = i + 1 + d → flag (reachL (foldTo l l.length)) i = true → flag (reachL l) i = true := by
  have hD := down_of hT
  have hF := fold_down hD
  have hl := fold_len l
  intro d
  induction d using Nat.strongRecOn with
  | ind d ih =>
    intro i hd hf
    rcases reach_why hF (by rw [hl]; omega) hf with h | ⟨j, h1, h2, h3, h4⟩
    · have e : i = l.length - 1 := by omega
      rw [e]
      exact reach_root (term_len hT).1
    · rw [hl] at h2
      have hj := ih (l.length - 1 - j) (by omega) j (by omega) h3
      have h5 : (i : Int) ∈ parts (nth l j) := by
        rcases fold_or hD h2 with ⟨e, _⟩ | ⟨_, _, e⟩
        · rw [e] at h4; exact h4
        · rw [e] at h4; cases h4
      have h6 := reach_closed hD h2 hj h5
      rw [Int.toNat_natCast] at h6
      exact h6
theorem quant_b {l : List Nd} (hT : termOk l = true) {i : Nat} (hi : i < l.length) (hq : quant (nth l i).op = true) : 0 ≤ (nth l i).b := by
  have hD := down_of hT
  have hrt := (rt_all hD (fun k hk => term_node hT hk) i hi).1
  rw [tr_at hD hi] at hrt
  have h1 : (nth l i).op = 19 ∨ (nth l i).op = 20 := by
    unfold quant at hq
    simpa using hq
  rw [mk_one (by rcases h1 with h | h <;> omega)] at hrt
  obtain ⟨_, _, _, hop⟩ := hrt
  rcases hop with h9 | h9 | h9
  · omega
  · omega
  · omega
theorem fold_bits {l : List Nd} (hT : termOk l = true) : ∀ k, k ≤ l.length → bitsTo (foldTo l l.length) k ≤ bitsTo l k := by
  have hD := down_of hT
  intro k
  induction k with
  | zero => intro _; exact Int.le_refl _
  | succ k ih =>
    intro hk
    have h1 := ih (by omega)
    simp only [bitsTo]
    cases hq : quant (nth l k).op
    · have hq2 : quant (nth (foldTo l l.length) k).op = false := by
        rcases fold_or hD (i := k) (by omega) with ⟨e, _⟩ | ⟨_, e, _⟩
        · rw [e]; exact hq
        · rw [e]; rfl
      rw [hq2, Bool.and_false, Bool.and_false]
      exact h1
    · have hb := quant_b hT (i := k) (by omega) hq
      rcases fold_or hD (i := k) (by omega) with ⟨e, _⟩ | ⟨e, _, _⟩
      · rw [e, hq, Bool.and_true, Bool.and_true]
        cases hf : flag (reachL (foldTo l l.length)) k
        · cases hg : flag (reachL l) k
          · exact h1
          · simp only [Bool.false_eq_true, if_false, if_true]; omega
        · rw [fold_reach hT (l.length - 1 - k) k (by omega) hf]
          simp only [if_true]; omega
      · rw [e] at hq; cases hq
theorem root_fold {l : List Nd} (hT : termOk l = true) : root (foldTo l l.length) = foT (root l) := by
  have h1 := (term_len hT).1
  unfold root
  rw [fold_len]
  exact tr_fold (down_of hT) _ (by omega)
theorem fold_value {l : List Nd} {e : List Int} {x : Int} (h : valueL l e = some x) : valueL (foldL l) e = some x := by
  obtain ⟨hT, h8, hb, hf, hx⟩ := value_parts.1 h
  have hD := down_of hT
  have hR := (rt_all hD (fun i hi => term_node hT hi) (l.length - 1) (by have := (term_len hT).1; omega)).1
  have hF := fold_term hT
  have e1 : foldL l = pruneL (foldTo l l.length) := by unfold foldL; rw [hT]; rfl
  rw [e1, value_prune hF]
  refine value_parts.2 ⟨hF, h8, ?_, ?_, ?_⟩
  · rw [fold_len]
    exact Int.le_trans (fold_bits hT _ (Nat.le_refl _)) hb
  · rw [root_fold hT]; exact fo_fit hR hf
  · rw [root_fold hT, fo_val (root l) hR e]; exact hx
def htT : Tr → Int
  | .leaf _ _ _ => most [] + 1
  | .one _ _ _ _ x => most [htT x] + 1
  | .two _ _ x y => most [htT x, htT y] + 1
  | .three _ _ x y z => most [htT x, htT y, htT z] + 1
theorem lev_tr {l : List Nd} (hT : termOk l = true) : ∀ i, i < l.length → (levTo l l.length).getD i 0 = htT (tr l i) := by
  have hD := down_of hT
  intro i
  induction i using Nat.strongRecOn with
  | ind i ih =>
    intro hi
    have e := wk_at 0 levF hD hi hi
    have e : (levTo l l.length).getD i 0 = most ((parts (nth l i)).map fun p => (levTo l l.length).getD p.toNat 0) + 1 := e
    rw [e, tr_at hD hi]
    have hd := hD i hi
    have hp : ∀ p ∈ parts (nth l i), (levTo l l.length).getD p.toNat 0 = htT (tr l p.toNat) := fun p hp => by
      have := hd p hp
      exact ih p.toNat (by omega) (by omega)
    generalize nth l i = n at hp
    by_cases h1 : n.op = 2 ∨ n.op = 17 ∨ n.op = 19 ∨ n.op = 20
    · rw [parts_one h1] at hp ⊢
      rw [mk_one h1]
      simp only [List.map_cons, List.map_nil, htT]
      rw [hp n.a (by simp)]
    · by_cases h2 : 3 ≤ n.op ∧ n.op ≤ 16
      · rw [parts_two h2] at hp ⊢
        rw [mk_two h2]
        simp only [List.map_cons, List.map_nil, htT]
        rw [hp n.a (by simp), hp n.b (by simp)]
      · by_cases h3 : n.op = 18
        · rw [parts_three h3] at hp ⊢
          rw [mk_three h3]
          simp only [List.map_cons, List.map_nil, htT]
          rw [hp n.a (by simp), hp n.b (by simp), hp n.c (by simp)]
        · rw [parts_none h1 h2 h3, mk_leaf h1 h2 h3]
          rfl
theorem mx_mono {a b c d : Int} (h1 : a ≤ c) (h2 : b ≤ d) : mx a b ≤ mx c d := by
  unfold mx; split <;> split <;> omega
theorem mx_left (a b : Int) : a ≤ mx a b := by unfold mx; split <;> omega
theorem ht_pos (x : Tr) : 1 ≤ htT x := by
  cases x with
  | leaf op w k => exact Int.le_refl _
  | one op w k b x => show 1 ≤ mx 0 (htT x) + 1; have := mx_left 0 (htT x); omega
  | two op w x y => show 1 ≤ mx (mx 0 (htT x)) (htT y) + 1; have := mx_left 0 (htT x); have := mx_left (mx 0 (htT x)) (htT y); omega
  | three op w x y z => show 1 ≤ mx (mx (mx 0 (htT x)) (htT y)) (htT z) + 1; have := mx_left 0 (htT x); have := mx_left (mx 0 (htT x)) (htT y); have := mx_left (mx (mx 0 (htT x)) (htT y)) (htT z); omega
theorem fo_ht : ∀ x : Tr, htT (foT x) ≤ htT x := by
  intro x
  induction x with
  | leaf op w k => exact Int.le_refl _
  | one op w k b x ih =>
    unfold foT
    split
    · exact ht_pos _
    · show mx 0 (htT (foT x)) + 1 ≤ mx 0 (htT x) + 1
      have := mx_mono (Int.le_refl 0) ih
      omega
  | two op w x y ihx ihy =>
    unfold foT
    split
    · exact ht_pos _
    · show mx (mx 0 (htT (foT x))) (htT (foT y)) + 1 ≤ mx (mx 0 (htT x)) (htT y) + 1
      have := mx_mono (mx_mono (Int.le_refl 0) ihx) ihy
      omega
  | three op w x y z ihx ihy ihz =>
    unfold foT
    split
    · exact ht_pos _
    · show mx (mx (mx 0 (htT (foT x))) (htT (foT y))) (htT (foT z)) + 1 ≤ mx (mx (mx 0 (htT x)) (htT y)) (htT z) + 1
      have := mx_mono (mx_mono (mx_mono (Int.le_refl 0) ihx) ihy) ihz
      omega
theorem level_tr {l : List Nd} (hT : termOk l = true) : levelL l = htT (root l) := by
  unfold levelL root
  rw [hT, if_pos rfl]
  exact lev_tr hT _ (by have := (term_len hT).1; omega)
theorem fold_level {l : List Nd} (hT : termOk l = true) : levelL (foldL l) ≤ levelL l := by
  have hF := fold_term hT
  have e1 : foldL l = pruneL (foldTo l l.length) := by unfold foldL; rw [hT]; rfl
  rw [e1, level_tr (prune_term hF), root_prune hF, root_fold hT, level_tr hT]
  exact fo_ht _
theorem con_no {l : List Nd} (hT : termOk l = true) {i : Nat} (hi : i < l.length) : conB (nth (foldTo l l.length) i) ((parts (nth (foldTo l l.length) i)).map fun p => nth (foldTo l l.length) p.toNat) = false := by
  rcases fold_or (down_of hT) hi with ⟨e, h⟩ | ⟨_, _, e⟩
  · rw [e]; exact h
  · rw [e]; rfl
theorem con_ops {n m : Nd} {ps qs : List Nd} (h : n.op = m.op) (hp : ps.map (fun p => p.op) = qs.map (fun p => p.op)) : conB n ps = conB m qs := by
  unfold conB
  have e1 : ps.length = qs.length := by
    have := congrArg List.length hp
    rw [List.length_map, List.length_map] at this
    exact this
  have e2 : (ps.all fun p => p.op == 0) = (qs.all fun p => p.op == 0) := by
    have h1 : (ps.all fun p => p.op == 0) = (ps.map (fun p => p.op)).all (fun o => o == 0) := by rw [List.all_map]; rfl
    have h2 : (qs.all fun p => p.op == 0) = (qs.map (fun p => p.op)).all (fun o => o == 0) := by rw [List.all_map]; rfl
    rw [h1, h2, hp]
  rw [h, e1, e2]
theorem fold_id {u : List Nd} (h : ∀ i, i < u.length → conB (nth u i) ((parts (nth u i)).map fun p => nth u p.toNat) = false) (hD : Down u) : foldTo u u.length = u := by
  have key : ∀ i, i < u.length → nth (foldTo u u.length) i = nth u i := by
    intro i
    induction i using Nat.strongRecOn with
    | ind i ih =>
      intro hi
      rw [fold_nth hD hi]
      have e : (parts (nth u i)).map (fun p => nth (foldTo u u.length) p.toNat) = (parts (nth u i)).map fun p => nth u p.toNat := by
        refine List.map_congr_left fun p hp => ?_
        have := hD i hi p hp
        exact ih p.toNat (by omega) (by omega)
      rw [e]
      unfold foldF
      rw [h i hi]
      rfl
  refine List.ext_getElem (fold_len u) fun i h1 h2 => ?_
  have := key i h2
  rw [nth_get h1, nth_get h2]
  exact this
theorem fold_fold {l : List Nd} (hT : termOk l = true) : foldL (foldL l) = foldL l := by
  have hF := fold_term hT
  have e1 : foldL l = pruneL (foldTo l l.length) := by unfold foldL; rw [hT]; rfl
  have hP := prune_term hF
  have hl := fold_len l
  have e2 : foldTo (pruneL (foldTo l l.length)) (pruneL (foldTo l l.length)).length = pruneL (foldTo l l.length) := by
    refine fold_id (fun j hj => ?_) (down_of hP)
    obtain ⟨x, hx, hf, rfl⟩ := pl_all hF hj
    rw [prune_nth hF hx hf]
    have h1 := con_no hT (i := x) (by rw [← hl]; exact hx)
    rw [← h1]
    refine con_ops (remap_op _ _) ?_
    rw [parts_remap, List.map_map, List.map_map, List.map_map]
    refine List.map_congr_left fun p hp => ?_
    have hd := down_of hF x hx p hp
    have hfp := reach_closed (down_of hF) hx hf hp
    show (nth (pruneL (foldTo l l.length)) (plc (foldTo l l.length) p).toNat).op = (nth (foldTo l l.length) p.toNat).op
    have e3 : (plc (foldTo l l.length) p).toNat = pl (foldTo l l.length) p.toNat := by
      have := plc_pl (foldTo l l.length) p.toNat
      rw [show ((p.toNat : Nat) : Int) = p by omega] at this
      rw [this, Int.toNat_natCast]
    rw [e3, prune_nth hF (by omega) hfp]
    rfl
  have e4 : foldL (pruneL (foldTo l l.length)) = pruneL (foldTo (pruneL (foldTo l l.length)) (pruneL (foldTo l l.length)).length) := by
    unfold foldL; rw [hP]; rfl
  rw [e1, e4, e2, prune_prune hF]

end Go.Proofs.YtejgcchkhljnjaaGreat.Aq15

/- Bits of small numbers. -/
namespace Go.Proofs.YtejgcchkhljnjaaGreat.Bt0
open Go.RowKit
open Pl1 Vl1 Vl2
set_option linter.unusedVariables false

theorem nat8 {a : Int} (h : 0 ≤ a ∧ a ≤ 255) : ∃ m : Nat, a = (m : Int) ∧ m < 2 ^ 8 := ⟨a.toNat, by omega, by omega⟩
theorem wrap8 {m : Nat} (h : m < 2 ^ 8) : IntKind.i64.wrap (m : Int) = (m : Int) := by rw [IntKind.wrap_i64]; omega
theorem mod64 {m : Nat} (h : m < 2 ^ 8) : m % 2 ^ 64 = m := Nat.mod_eq_of_lt (by omega)
theorem band {a b : Int} (ha : 0 ≤ a ∧ a ≤ 255) (hb : 0 ≤ b ∧ b ≤ 255) : bits .and .i64 a b = nAnd a b := by
  obtain ⟨m, rfl, hm⟩ := nat8 ha
  obtain ⟨n, rfl, hn⟩ := nat8 hb
  have e : bits .and .i64 (m : Int) (n : Int) = IntKind.i64.wrap ((BitVec.ofInt 64 (m : Int) &&& BitVec.ofInt 64 (n : Int)).toNat : Int) := rfl
  rw [e, BitVec.toNat_and, BitVec.ofInt_natCast, BitVec.ofInt_natCast, BitVec.toNat_ofNat, BitVec.toNat_ofNat, mod64 hm, mod64 hn, wrap8 (Nat.and_lt_two_pow _ hn)]
  rfl
theorem bor {a b : Int} (ha : 0 ≤ a ∧ a ≤ 255) (hb : 0 ≤ b ∧ b ≤ 255) : bits .or .i64 a b = nOr a b := by
  obtain ⟨m, rfl, hm⟩ := nat8 ha
  obtain ⟨n, rfl, hn⟩ := nat8 hb
  have e : bits .or .i64 (m : Int) (n : Int) = IntKind.i64.wrap ((BitVec.ofInt 64 (m : Int) ||| BitVec.ofInt 64 (n : Int)).toNat : Int) := rfl
  rw [e, BitVec.toNat_or, BitVec.ofInt_natCast, BitVec.ofInt_natCast, BitVec.toNat_ofNat, BitVec.toNat_ofNat, mod64 hm, mod64 hn, wrap8 (Nat.or_lt_two_pow hm hn)]
  rfl
theorem bxor {a b : Int} (ha : 0 ≤ a ∧ a ≤ 255) (hb : 0 ≤ b ∧ b ≤ 255) : bits .xor .i64 a b = nXor a b := by
  obtain ⟨m, rfl, hm⟩ := nat8 ha
  obtain ⟨n, rfl, hn⟩ := nat8 hb
  have e : bits .xor .i64 (m : Int) (n : Int) = IntKind.i64.wrap ((BitVec.ofInt 64 (m : Int) ^^^ BitVec.ofInt 64 (n : Int)).toNat : Int) := rfl
  rw [e, BitVec.toNat_xor, BitVec.ofInt_natCast, BitVec.ofInt_natCast, BitVec.toNat_ofNat, BitVec.toNat_ofNat, mod64 hm, mod64 hn, wrap8 (Nat.xor_lt_two_pow hm hn)]
  rfl
end Go.Proofs.YtejgcchkhljnjaaGreat.Bt0
