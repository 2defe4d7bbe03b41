/- Small texts of mine, one behind the other. -/
import Derived.Test.YtejgcchkhljnjaaGreatPkNM15
import Derived.Test.YtejgcchkhljnjaaGreatPkNM17
/- Terms whose variables have other numbers, each its own: right, sentences, of the same bits and worth the same. Plain data. -/
namespace Go.Proofs.YtejgcchkhljnjaaGreat.Aq4
open Nd0 Pl1 Tm0 Tm1 Tm2 Tm3 Tm4 Tm5 Tm6 Tm7 Tm8 Tm9 Tm10 Tm11 Tm12 Tm13 Tm14 Tr0 Vl1 Vl2 Vl4 Vl5 Fr1 Aq0
open Aq1 (nth_map down_map)
set_option linter.unusedVariables false

def rsN (G : Int → Int) (n : Nd) : Nd := if nmd n then { n with k := G n.k } else n
def Inj (G : Int → Int) (l : List Nd) : Prop :=
  (∀ v : Nat, v < 8 → numB l v = true → 0 ≤ G (v : Int) ∧ G (v : Int) ≤ 7) ∧ ∀ v t : Nat, v < 8 → t < 8 → numB l v = true → numB l t = true → G (v : Int) = G (t : Int) → v = t

theorem rs_op (G : Int → Int) (n : Nd) : (rsN G n).op = n.op := by unfold rsN; split <;> rfl
theorem rs_w (G : Int → Int) (n : Nd) : (rsN G n).w = n.w := by unfold rsN; split <;> rfl
theorem rs_a (G : Int → Int) (n : Nd) : (rsN G n).a = n.a := by unfold rsN; split <;> rfl
theorem rs_b (G : Int → Int) (n : Nd) : (rsN G n).b = n.b := by unfold rsN; split <;> rfl
theorem rs_c (G : Int → Int) (n : Nd) : (rsN G n).c = n.c := by unfold rsN; split <;> rfl
theorem rs_parts (G : Int → Int) (n : Nd) : parts (rsN G n) = parts n := Aq1.parts_op (rs_op G n) (rs_a G n) (rs_b G n) (rs_c G n)
theorem rs_k {G : Int → Int} {n : Nd} (h : nmd n = true) : (rsN G n).k = G n.k := by unfold rsN; rw [h]; rfl
theorem rs_not {G : Int → Int} {n : Nd} (h : nmd n = false) : rsN G n = n := by unfold rsN; rw [h]; rfl
theorem rs_len (G : Int → Int) (l : List Nd) : (l.map (rsN G)).length = l.length := List.length_map _

section
variable {G : Int → Int} {l : List Nd}

theorem num_at {i : Nat} (hi : i < l.length) (hn : nmd (nth l i) = true) {v : Nat} (hv : (nth l i).k = (v : Int)) : numB l v = true := by
  unfold numB
  rw [List.any_eq_true]
  exact ⟨l[i], List.getElem_mem hi, by rw [nth_get hi, hn, hv]; simp⟩
theorem k_at (hT : termOk l = true) {i : Nat} (hi : i < l.length) (hn : nmd (nth l i) = true) : ∃ v : Nat, (nth l i).k = (v : Int) ∧ v < 8 ∧ numB l v = true := by
  have h := shape_var (term_node hT hi) (by unfold nmd at hn; simp only [Bool.or_eq_true, beq_iff_eq] at hn; exact hn)
  refine ⟨(nth l i).k.toNat, by omega, by omega, num_at hi hn (by omega)⟩

theorem rs_node (hT : termOk l = true) (hJ : Inj G l) {i : Nat} (hi : i < l.length) : nodeOk (l.map (rsN G)) i = nodeOk l i := by
  have e1 : (parts (nth (l.map (rsN G)) i)).map (width (l.map (rsN G))) = (parts (nth l i)).map (width l) := by
    rw [nth_map _ hi, rs_parts]
    apply List.map_congr_left
    intro p hp
    have := down_of hT i hi p hp
    unfold width
    rw [nth_map _ (by omega), rs_w]
  simp only [nodeOk]
  rw [e1, nth_map _ hi, rs_parts, rs_w]
  congr 1
  cases hn : nmd (nth l i)
  · rw [rs_not hn]
  · obtain ⟨v, hk, hv, hu⟩ := k_at hT hi hn
    have hg := hJ.1 v hv hu
    unfold shapeOk
    rw [rs_op, rs_k hn, rs_a, rs_b, rs_c, rs_w, hk]
    unfold nmd quant at hn
    simp only [Bool.or_eq_true, beq_iff_eq] at hn
    have hv7 : (v : Int) ≤ 7 := by omega
    rcases hn with h | h | h
    · rw [h]; simp [hg.1, hg.2, hv7]
    · rw [h]; simp [hg.1, hg.2, hv7]
    · rw [h]; simp [hg.1, hg.2, hv7]
theorem rs_term (hT : termOk l = true) (hJ : Inj G l) : termOk (l.map (rsN G)) = true := by
  have hl := term_len hT
  exact term_good (by rw [rs_len]; exact hl) fun k hk => by rw [rs_len] at hk; rw [rs_node hT hJ hk]; exact term_node hT hk

theorem rs_reach (G : Int → Int) (l : List Nd) : reachL (l.map (rsN G)) = reachL l := by
  unfold reachL
  rw [rs_len]
  have : ∀ k (bs : List Bool), k ≤ l.length → reachDown (l.map (rsN G)) k bs = reachDown l k bs := by
    intro k
    induction k with
    | zero => intro bs _; rfl
    | succ k ih =>
      intro bs hk
      show reachDown (l.map (rsN G)) k (reachStep (l.map (rsN G)) bs k) = reachDown l k (reachStep l bs k)
      have e : reachStep (l.map (rsN G)) bs k = reachStep l bs k := by
        unfold reachStep
        rw [nth_map _ (by omega), rs_parts]
      rw [e, ih _ (by omega)]
  exact this l.length _ (Nat.le_refl _)
theorem rs_hold (G : Int → Int) (l : List Nd) : ∀ k, k ≤ l.length → holdTo (l.map (rsN G)) k = holdTo l k := by
  intro k
  induction k with
  | zero => intro _; rfl
  | succ k ih =>
    intro hk
    show holdTo (l.map (rsN G)) k ++ [_] = holdTo l k ++ [_]
    rw [ih (by omega), nth_map _ (by omega), rs_op, rs_parts]
theorem rs_uses (G : Int → Int) (l : List Nd) : ∀ k, k ≤ l.length → usesF (l.map (rsN G)) k = usesF l k := by
  intro k
  induction k with
  | zero => intro _; show List.replicate _ _ = List.replicate _ _; rw [rs_len]
  | succ k ih =>
    intro hk
    unfold usesF
    rw [rs_reach, ih (by omega), nth_map _ (by omega), rs_parts]
theorem rs_mov (G : Int → Int) (l : List Nd) (h : Mov l) : Mov (l.map (rsN G)) := by
  have hh := rs_hold G l l.length (Nat.le_refl _)
  have hu := rs_uses G l l.length (Nat.le_refl _)
  constructor
  · intro i hi hf hh'
    rw [rs_len] at hi hh'
    rw [rs_reach] at hf
    rw [hh] at hh'
    rw [nth_map _ hi, rs_op]
    exact h.1 i hi hf hh'
  · intro i hi hf hh'
    rw [rs_len] at hi hh' ⊢
    rw [rs_reach] at hf
    rw [hh] at hh'
    rw [hu]
    exact h.2 i hi hf hh'
theorem rs_bits (G : Int → Int) (l : List Nd) : ∀ k, k ≤ l.length → bitsTo (l.map (rsN G)) k = bitsTo l k := by
  intro k
  induction k with
  | zero => intro _; rfl
  | succ k ih =>
    intro hk
    unfold bitsTo
    rw [rs_reach, ih (by omega), nth_map _ (by omega), rs_op, rs_b]

theorem rs_free (hT : termOk l = true) (hJ : Inj G l) : ∀ i, i < l.length → ∀ t : Nat, t < 8 → flag (row (freeRows (l.map (rsN G)) (l.map (rsN G)).length) (i : Int)) t = true →
    ∃ v : Nat, v < 8 ∧ numB l v = true ∧ G (v : Int) = (t : Int) ∧ flag (row (freeRows l l.length) (i : Int)) v = true := by
  have hT2 := rs_term hT hJ
  intro i
  induction i using Nat.strongRecOn with
  | ind i ih =>
    intro hi t ht hf
    rw [free_at (down_of hT2) (by rw [rs_len]; exact hi) ht, nth_map _ hi] at hf
    unfold freeAt at hf
    rw [rs_op, rs_parts] at hf
    cases hn : nmd (nth l i)
    · rw [rs_not hn] at hf
      have hq : ((nth l i).op == 19 || (nth l i).op == 20) = false := by
        unfold nmd quant at hn
        rw [Bool.or_eq_false_iff] at hn
        exact hn.2
      have h1 : ((nth l i).op == 1) = false := by
        unfold nmd at hn
        rw [Bool.or_eq_false_iff] at hn
        exact hn.1
      rw [hq, h1] at hf
      simp only [Bool.false_and, Bool.false_eq_true, if_false, Bool.false_or] at hf
      unfold inParts at hf
      obtain ⟨p, hp, hpf⟩ := List.any_eq_true.1 hf
      have hd := down_of hT i hi p hp
      have e : ((p.toNat : Nat) : Int) = p := by omega
      rw [← e] at hpf
      obtain ⟨v, h2, h3, h4, h5⟩ := ih p.toNat (by omega) (by omega) t ht hpf
      refine ⟨v, h2, h3, h4, ?_⟩
      rw [free_at (down_of hT) hi h2]
      unfold freeAt
      rw [hq, h1]
      simp only [Bool.false_and, Bool.false_eq_true, if_false, Bool.false_or]
      unfold inParts
      rw [List.any_eq_true]
      exact ⟨p, hp, by rw [← e]; exact h5⟩
    · obtain ⟨x, hk, hx, hu⟩ := k_at hT hi hn
      rw [rs_k hn, hk] at hf
      cases hq : ((nth l i).op == 19 || (nth l i).op == 20)
      · rw [hq] at hf
        have h1 : (nth l i).op = 1 := by
          unfold nmd quant at hn
          rw [hq, Bool.or_false] at hn
          exact beq_iff_eq.1 hn
        have hp0 : parts (nth l i) = [] := parts_none (by omega) (by omega) (by omega)
        rw [hp0, h1] at hf
        simp only [Bool.false_and, Bool.false_eq_true, if_false, inParts, List.any_nil, Bool.or_false, beq_self_eq_true, Bool.true_and, beq_iff_eq] at hf
        refine ⟨x, hx, hu, hf, ?_⟩
        rw [free_at (down_of hT) hi hx]
        unfold freeAt
        rw [hq, h1, hk]
        simp
      · rw [hq] at hf
        have h1 : ((nth l i).op == 1) = false := by
          rw [Bool.or_eq_true] at hq
          rcases hq with h | h
          · rw [beq_iff_eq.1 h]; rfl
          · rw [beq_iff_eq.1 h]; rfl
        rw [h1] at hf
        by_cases hg : G (x : Int) = (t : Int)
        · rw [hg] at hf; simp at hf
        · have hg2 : (G (x : Int) == (t : Int)) = false := beq_eq_false_iff_ne.2 hg
          rw [hg2] at hf
          simp only [Bool.and_false, Bool.false_eq_true, if_false, Bool.false_or] at hf
          unfold inParts at hf
          obtain ⟨p, hp, hpf⟩ := List.any_eq_true.1 hf
          have hd := down_of hT i hi p hp
          have e : ((p.toNat : Nat) : Int) = p := by omega
          rw [← e] at hpf
          obtain ⟨v, h2, h3, h4, h5⟩ := ih p.toNat (by omega) (by omega) t ht hpf
          refine ⟨v, h2, h3, h4, ?_⟩
          have hne : ((x : Int) == (v : Int)) = false := beq_eq_false_iff_ne.2 (fun e9 => hg (by rw [e9]; exact h4))
          rw [free_at (down_of hT) hi h2]
          unfold freeAt
          rw [hq, h1, hk, hne]
          simp only [Bool.and_false, Bool.false_eq_true, if_false, Bool.false_or]
          unfold inParts
          rw [List.any_eq_true]
          exact ⟨p, hp, by rw [← e]; exact h5⟩
theorem rs_closed (hT : termOk l = true) (hJ : Inj G l) (h : (freeL l).length = 0) : (freeL (l.map (rsN G))).length = 0 := by
  have hT2 := rs_term hT hJ
  have hl := term_len hT
  unfold freeL
  rw [hT2, if_pos rfl]
  unfold freeTo
  rw [List.length_map, List.length_eq_zero_iff, List.filter_eq_nil_iff]
  intro t ht hf
  have ht8 := List.mem_range.1 ht
  have e : ((l.map (rsN G)).length : Int) - 1 = ((l.length - 1 : Nat) : Int) := by rw [rs_len]; omega
  unfold freeTop at hf
  rw [e] at hf
  obtain ⟨v, h2, _, _, h5⟩ := rs_free hT hJ (l.length - 1) (by omega) t ht8 hf
  rw [Fr3.free_none hT h v h2] at h5
  cases h5

def Rel (G : Int → Int) (l : List Nd) (ws ws' : List Int) : Prop := ws.length = 8 ∧ ws'.length = 8 ∧ ∀ v : Nat, v < 8 → numB l v = true → wd ws' (G (v : Int)) = wd ws (v : Int)
theorem rel_set (hJ : Inj G l) {ws ws' : List Int} (h : Rel G l ws ws') {v : Nat} (hv : v < 8) (hu : numB l v = true) (x : Int) : Rel G l (ws.set v x) (ws'.set (G (v : Int)).toNat x) := by
  refine ⟨by rw [List.length_set]; exact h.1, by rw [List.length_set]; exact h.2.1, fun t ht hut => ?_⟩
  have hgv := hJ.1 v hv hu
  have hgt := hJ.1 t ht hut
  by_cases e : v = t
  · subst e
    unfold wd
    simp [List.getD, h.1, h.2.1, hv, show (G (v : Int)).toNat < 8 by omega]
  · have ne : (G (v : Int)).toNat ≠ (G (t : Int)).toNat := fun e9 => e (hJ.2 v t hv ht hu hut (by omega))
    have h9 := h.2.2 t ht hut
    unfold wd at h9 ⊢
    simp only [List.getD, List.getElem?_set_ne ne, Int.toNat_natCast, List.getElem?_set_ne e]
    simpa [List.getD] using h9
theorem rs_quants (hT : termOk l = true) (hJ : Inj G l) : ∀ k, k ≤ l.length → ∀ ws, quantsTo l k = some ws → ∃ ws', quantsTo (l.map (rsN G)) k = some ws' ∧ Rel G l ws ws' := by
  intro k
  induction k with
  | zero =>
    intro _ ws h
    have h' : some (List.replicate 8 (0 : Int)) = some ws := h
    cases h'
    refine ⟨_, rfl, by simp, by simp, fun v hv hu => ?_⟩
    have hg := hJ.1 v hv hu
    unfold wd
    rw [List.getD_eq_getElem?_getD, List.getD_eq_getElem?_getD, List.getElem?_replicate, List.getElem?_replicate, if_pos (by omega), if_pos (by omega)]
  | succ k ih =>
    intro hk ws h
    cases h0 : quantsTo l k with
    | none =>
      have h9 : (quantsTo l k).bind (fun ws => qStep l ws k) = some ws := h
      rw [h0] at h9; cases h9
    | some w0 =>
      obtain ⟨w1, hw1, hr⟩ := ih (by omega) w0 h0
      rw [quants_succ h0] at h
      rw [quants_succ hw1]
      unfold qStep at h ⊢
      rw [rs_reach, nth_map _ (by omega), rs_op, rs_b]
      cases hq : (flag (reachL l) k && quant (nth l k).op)
      · rw [hq] at h
        simp only [Bool.false_eq_true, if_false, Option.some.injEq] at h ⊢
        subst h
        exact ⟨w1, rfl, hr⟩
      · rw [hq] at h
        simp only [if_true] at h ⊢
        simp only [Bool.and_eq_true] at hq
        have hn : nmd (nth l k) = true := by unfold nmd; rw [hq.2]; simp
        obtain ⟨v, hkv, hv, hu⟩ := k_at hT (by omega) hn
        rw [hkv] at h
        rw [rs_k hn, hkv]
        by_cases hz : wd w0 (v : Int) = 0
        · rw [if_pos hz] at h
          rw [if_pos (by rw [hr.2.2 v hv hu]; exact hz)]
          cases h
          exact ⟨_, rfl, by rw [Int.toNat_natCast]; exact rel_set hJ hr hv hu _⟩
        · rw [if_neg hz] at h; cases h
theorem rs_sent (hJ : Inj G l) (hS : sentB l = true) : sentB (l.map (rsN G)) = true := by
  obtain ⟨hT, hw, hf, ws, hq, hwid, hm⟩ := (sent_iff l).1 hS
  have hl := term_len hT
  obtain ⟨ws', hq', hr⟩ := rs_quants hT hJ l.length (Nat.le_refl _) ws hq
  refine (sent_iff _).2 ⟨rs_term hT hJ, ?_, rs_closed hT hJ hf, ws', by rw [rs_len]; exact hq', ?_, rs_mov G l hm⟩
  · rw [rs_len, nth_map _ (by omega), rs_w]; exact hw
  · intro i hi hfl ho
    rw [rs_len] at hi
    rw [rs_reach] at hfl
    rw [nth_map _ hi, rs_op] at ho
    have hn : nmd (nth l i) = true := by unfold nmd; rw [ho]; rfl
    obtain ⟨v, hkv, hv, hu⟩ := k_at hT hi hn
    rw [nth_map _ hi, rs_w, rs_k hn, hwid i hi hfl ho, hkv, hr.2.2 v hv hu]
theorem rs_bitsL (hJ : Inj G l) (hS : sentB l = true) : bitsL (l.map (rsN G)) = bitsL l := by
  unfold bitsL
  rw [hS, rs_sent hJ hS, if_pos rfl, if_pos rfl, rs_len, rs_bits _ _ _ (Nat.le_refl _)]
end

end Go.Proofs.YtejgcchkhljnjaaGreat.Aq4

/- Terms whose variables have other numbers, each its own: what they are worth, their levels and variables. Plain data. -/
namespace Go.Proofs.YtejgcchkhljnjaaGreat.Aq5
open Nd0 Pl1 Tm0 Tm1 Tm2 Tm3 Tm4 Tm5 Tm6 Tm7 Tm8 Tm11 Tm12 Tm13 Tm14 Tr0 Vl1 Vl2 Vl4 Vl5 Fr1 Aq0 Aq4
open Aq1 (nth_map down_map)
set_option linter.unusedVariables false

def rsT (G : Int → Int) : Tr → Tr
  | .leaf op w k => .leaf op w (if op = 1 then G k else k)
  | .one op w k b x => .one op w (if quant op then G k else k) b (rsT G x)
  | .two op w x y => .two op w (rsT G x) (rsT G y)
  | .three op w x y z => .three op w (rsT G x) (rsT G y) (rsT G z)
theorem rsT_wid (G : Int → Int) (x : Tr) : (rsT G x).wid = x.wid := by cases x <;> rfl
def TU (U : Nat → Bool) : Tr → Prop
  | .leaf op _ k => op = 1 → ∃ v : Nat, k = (v : Int) ∧ v < 8 ∧ U v = true
  | .one op _ k _ x => TU U x ∧ (quant op = true → ∃ v : Nat, k = (v : Int) ∧ v < 8 ∧ U v = true)
  | .two _ _ x y => TU U x ∧ TU U y
  | .three _ _ x y z => TU U x ∧ TU U y ∧ TU U z

section
variable {G : Int → Int} {l : List Nd}

theorem tr_rs (hT : termOk l = true) (hJ : Inj G l) : ∀ i, i < l.length → tr (l.map (rsN G)) i = rsT G (tr l i) := by
  have hD := down_of hT
  intro i
  induction i using Nat.strongRecOn with
  | ind i ih =>
    intro hi
    rw [tr_at (down_map hD (rsN G) (rs_parts G)) (by rw [rs_len]; exact hi), tr_at hD hi, nth_map _ hi]
    have hp : ∀ p ∈ parts (nth l i), tr (l.map (rsN G)) p.toNat = rsT G (tr l p.toNat) := fun p hp => by
      have := hD i hi p hp
      exact ih p.toNat (by omega) (by omega)
    generalize nth l i = n at hp
    have eo := rs_op G n
    by_cases h1 : n.op = 2 ∨ n.op = 17 ∨ n.op = 19 ∨ n.op = 20
    · rw [parts_one h1] at hp
      rw [mk_one h1, mk_one (n := rsN G n) (by rw [eo]; exact h1), eo, rs_w, rs_b, rs_a, hp n.a (by simp)]
      have hk : (rsN G n).k = if quant n.op then G n.k else n.k := by
        unfold rsN nmd
        have h9 : (n.op == 1) = false := beq_eq_false_iff_ne.2 (by omega)
        rw [h9, Bool.false_or]
        split <;> rfl
      rw [hk]; rfl
    · by_cases h2 : 3 ≤ n.op ∧ n.op ≤ 16
      · rw [parts_two h2] at hp
        rw [mk_two h2, mk_two (n := rsN G n) (by rw [eo]; exact h2), eo, rs_w, rs_a, rs_b, hp n.a (by simp), hp n.b (by simp)]
        rfl
      · by_cases h3 : n.op = 18
        · rw [parts_three h3] at hp
          rw [mk_three h3, mk_three (n := rsN G n) (by rw [eo]; exact h3), eo, rs_w, rs_a, rs_b, rs_c, hp n.a (by simp), hp n.b (by simp), hp n.c (by simp)]
          rfl
        · rw [mk_leaf (n := n) h1 h2 h3, mk_leaf (n := rsN G n) (by rw [eo]; exact h1) (by rw [eo]; exact h2) (by rw [eo]; exact h3), eo, rs_w]
          have hk : (rsN G n).k = if n.op = 1 then G n.k else n.k := by
            unfold rsN nmd quant
            have h9 : (n.op == 19) = false := beq_eq_false_iff_ne.2 (by omega)
            have h8 : (n.op == 20) = false := beq_eq_false_iff_ne.2 (by omega)
            rw [h9, h8, Bool.or_false, Bool.or_false]
            by_cases h : n.op = 1
            · rw [if_pos (beq_iff_eq.2 h), if_pos h]
            · rw [if_neg (fun e => h (beq_iff_eq.1 e)), if_neg h]
          rw [hk]; rfl
theorem tu_all (hT : termOk l = true) : ∀ i, i < l.length → TU (numB l) (tr l i) := by
  have hD := down_of hT
  intro i
  induction i using Nat.strongRecOn with
  | ind i ih =>
    intro hi
    rw [tr_at hD hi]
    have hp : ∀ p ∈ parts (nth l i), TU (numB l) (tr l p.toNat) := fun p hp => by
      have := hD i hi p hp
      exact ih p.toNat (by omega) (by omega)
    have hk : nmd (nth l i) = true → ∃ v : Nat, (nth l i).k = (v : Int) ∧ v < 8 ∧ numB l v = true := fun h => k_at hT hi h
    generalize nth l i = n at hp hk
    by_cases h1 : n.op = 2 ∨ n.op = 17 ∨ n.op = 19 ∨ n.op = 20
    · rw [parts_one h1] at hp
      rw [mk_one h1]
      exact ⟨hp n.a (by simp), fun hq => hk (by unfold nmd; rw [hq]; simp)⟩
    · by_cases h2 : 3 ≤ n.op ∧ n.op ≤ 16
      · rw [parts_two h2] at hp
        rw [mk_two h2]
        exact ⟨hp n.a (by simp), hp n.b (by simp)⟩
      · by_cases h3 : n.op = 18
        · rw [parts_three h3] at hp
          rw [mk_three h3]
          exact ⟨hp n.a (by simp), hp n.b (by simp), hp n.c (by simp)⟩
        · rw [mk_leaf (n := n) h1 h2 h3]
          exact fun h => hk (by unfold nmd; rw [h]; rfl)

theorem rel_at {e e' : List Int} (hJ : Inj G l) (h : Rel G l e e') {v : Nat} (hv : v < 8) (hu : numB l v = true) : e'.getD (G (v : Int)).toNat 0 = e.getD v 0 := by
  have := h.2.2 v hv hu
  unfold wd at this
  rw [Int.toNat_natCast] at this
  exact this
theorem v_rs (hJ : Inj G l) : ∀ (x : Tr) (e e' : List Int), TU (numB l) x → Rel G l e e' → vT (rsT G x) e' = vT x e := by
  intro x
  induction x with
  | leaf op w k =>
    intro e e' hU hR
    show (if op = 1 then e'.getD (if op = 1 then G k else k).toNat 0 else applyL op w (if op = 1 then G k else k) 1 0 0 0) = if op = 1 then e.getD k.toNat 0 else applyL op w k 1 0 0 0
    by_cases h : op = 1
    · rw [if_pos h, if_pos h, if_pos h]
      obtain ⟨v, rfl, hv, hu⟩ := hU h
      rw [Int.toNat_natCast]
      exact rel_at hJ hR hv hu
    · rw [if_neg h, if_neg h, if_neg h]
  | one op w k b x ih =>
    intro e e' hU hR
    show (if op = 19 then _ else if op = 20 then _ else _) = if op = 19 then _ else if op = 20 then _ else _
    cases hq : quant op
    · have h1 : ¬ op = 19 := fun h => by rw [h] at hq; cases hq
      have h2 : ¬ op = 20 := fun h => by rw [h] at hq; cases hq
      rw [if_neg h1, if_neg h1, if_neg h2, if_neg h2]
      rw [rsT_wid, ih e e' hU.1 hR]; rfl
    · obtain ⟨v, rfl, hv, hu⟩ := hU.2 hq
      have hf : ∀ i : Int, vT (rsT G x) (e'.set (G (v : Int)).toNat i) = vT x (e.set (v : Int).toNat i) := fun i => by
        rw [Int.toNat_natCast]
        exact ih _ _ hU.1 (rel_set hJ hR hv hu i)
      have hall : (List.range (2 ^ b.toNat)).all (fun i => vT (rsT G x) (e'.set (G (v : Int)).toNat (i : Int)) == 1) = (List.range (2 ^ b.toNat)).all (fun i => vT x (e.set (v : Int).toNat (i : Int)) == 1) := by
        congr 1; funext i; rw [hf]
      have hany : (List.range (2 ^ b.toNat)).any (fun i => vT (rsT G x) (e'.set (G (v : Int)).toNat (i : Int)) == 1) = (List.range (2 ^ b.toNat)).any (fun i => vT x (e.set (v : Int).toNat (i : Int)) == 1) := by
        congr 1; funext i; rw [hf]
      have ho : op = 19 ∨ op = 20 := by simpa [quant] using hq
      rcases ho with rfl | rfl
      · show (if (List.range (2 ^ b.toNat)).all (fun i => vT (rsT G x) (e'.set (G (v : Int)).toNat (i : Int)) == 1) = true then (1 : Int) else 0) = (if (List.range (2 ^ b.toNat)).all (fun i => vT x (e.set (v : Int).toNat (i : Int)) == 1) = true then 1 else 0)
        rw [hall]
      · show (if (List.range (2 ^ b.toNat)).any (fun i => vT (rsT G x) (e'.set (G (v : Int)).toNat (i : Int)) == 1) = true then (1 : Int) else 0) = (if (List.range (2 ^ b.toNat)).any (fun i => vT x (e.set (v : Int).toNat (i : Int)) == 1) = true then 1 else 0)
        rw [hany]
  | two op w x y ihx ihy =>
    intro e e' hU hR
    show applyL op w 0 (rsT G x).wid (vT (rsT G x) e') (vT (rsT G y) e') 0 = applyL op w 0 x.wid (vT x e) (vT y e) 0
    rw [rsT_wid, ihx e e' hU.1 hR, ihy e e' hU.2 hR]
  | three op w x y z ihx ihy ihz =>
    intro e e' hU hR
    show applyL op w 0 (rsT G x).wid (vT (rsT G x) e') (vT (rsT G y) e') (vT (rsT G z) e') = applyL op w 0 x.wid (vT x e) (vT y e) (vT z e)
    rw [rsT_wid, ihx e e' hU.1 hR, ihy e e' hU.2.1 hR, ihz e e' hU.2.2 hR]

theorem holds_some {t : List Nd} (hS : sentB t = true) (hb : bitsL t ≤ 12) : holdsL t = some (vT (root t) (List.replicate 8 0)) := by
  obtain ⟨ws, _, hR, _, hTy, _⟩ := Fr3.sent_tree hS
  obtain ⟨r, hr, _⟩ := need_ty (root t) hR hTy
  have hfit : fitT (root t) (List.replicate 8 0) = true := by
    unfold fitT
    rw [hr]
    refine fit_iff.2 (fun v hv j h1 h8 _ => ?_)
    refine wok_iff.2 ⟨by omega, by omega, ?_, ?_⟩
    · rw [List.getD_eq_getElem?_getD, List.getElem?_replicate, if_pos hv]; exact Int.le_refl _
    · rw [List.getD_eq_getElem?_getD, List.getElem?_replicate, if_pos hv]; exact p2_pos _
  have hbt : bitsTo t t.length ≤ 12 := by
    unfold bitsL at hb
    rw [hS, if_pos rfl] at hb
    exact hb
  unfold holdsL valueL
  rw [hS, if_pos rfl, sent_ok hS, hfit, decide_eq_true hbt]
  rfl
theorem rs_holds (hJ : Inj G l) (hS : sentB l = true) (hb : bitsL l ≤ 12) : holdsL (l.map (rsN G)) = holdsL l := by
  have hT := sent_ok hS
  have hl := term_len hT
  rw [holds_some hS hb, holds_some (rs_sent hJ hS) (by rw [rs_bitsL hJ hS]; exact hb)]
  congr 1
  unfold root
  rw [rs_len, tr_rs hT hJ _ (by omega)]
  refine v_rs hJ _ _ _ (tu_all hT _ (by omega)) ⟨by simp, by simp, fun v hv hu => ?_⟩
  have hg := hJ.1 v hv hu
  unfold wd
  rw [List.getD_eq_getElem?_getD, List.getD_eq_getElem?_getD, List.getElem?_replicate, List.getElem?_replicate, if_pos (by omega), if_pos (by omega)]

theorem rs_lev (G : Int → Int) (l : List Nd) : ∀ k, k ≤ l.length → levTo (l.map (rsN G)) k = levTo l k := by
  intro k
  induction k with
  | zero => intro _; rfl
  | succ k ih =>
    intro hk
    have h9 := ih (by omega)
    show levTo (l.map (rsN G)) k ++ [most _ + 1] = levTo l k ++ [most _ + 1]
    unfold levTo at h9 ⊢
    rw [h9, nth_map _ (by omega), rs_parts]
theorem rs_level (hT : termOk l = true) (hJ : Inj G l) : levelL (l.map (rsN G)) = levelL l := by
  unfold levelL
  rw [hT, rs_term hT hJ, rs_len, rs_lev G l _ (Nat.le_refl _)]
theorem rs_prune (hT : termOk l = true) (hJ : Inj G l) : pruneL (l.map (rsN G)) = (pruneL l).map (rsN G) := by
  unfold pruneL
  rw [hT, rs_term hT hJ, if_pos rfl, if_pos rfl, rs_len]
  unfold pruneTo
  rw [rs_reach, List.map_map]
  apply List.map_congr_left
  intro i hi
  have hi8 := List.mem_range.1 (List.mem_filter.1 hi).1
  have hplc : ∀ p, plc (l.map (rsN G)) p = plc l p := fun p => by
    unfold plc reachTo
    rw [rs_reach]
  show remap (l.map (rsN G)) (nth (l.map (rsN G)) i) = rsN G (remap l (nth l i))
  rw [nth_map _ hi8]
  generalize nth l i = n
  have key : ∀ a b c : Int, rsN G ⟨n.op, n.w, n.k, a, b, c⟩ = ⟨n.op, n.w, (rsN G n).k, a, b, c⟩ := fun a b c => by
    unfold rsN
    have hn : nmd (⟨n.op, n.w, n.k, a, b, c⟩ : Nd) = nmd n := rfl
    rw [hn]
    split <;> rfl
  unfold remap
  rw [rs_parts, rs_op, rs_w, rs_a, rs_b, rs_c, hplc, hplc, hplc]
  exact (key _ _ _).symm
end

end Go.Proofs.YtejgcchkhljnjaaGreat.Aq5

/- A variable renamed: what the renamed term is worth, its variables, its level, and the way back. Plain data. -/
namespace Go.Proofs.YtejgcchkhljnjaaGreat.Aq6
open Nd0 Pl1 Tm0 Tm1 Tm2 Tm3 Tm4 Tm5 Tm6 Tm7 Tm8 Tm11 Tm12 Tm13 Tm14 Tr0 Vl1 Vl2 Vl4 Vl5 Fr1 Aq0 Aq4 Aq5
set_option linter.unusedVariables false

def sw (v u : Int) (x : Int) : Int := if x = v then u else x
theorem ren_rs (v u : Int) (n : Nd) : renN v u n = rsN (sw v u) n := by
  obtain ⟨op, w, k, a, b, c⟩ := n
  unfold renN rsN sw
  cases hn : nmd ⟨op, w, k, a, b, c⟩
  · rfl
  · by_cases hk : k = v
    · subst hk; simp
    · simp [hk]
theorem renL_rs (l : List Nd) (v u : Int) : renL l v u = l.map (rsN (sw v u)) := by
  unfold renL
  exact List.map_congr_left fun n _ => ren_rs v u n
theorem ok_parts {l : List Nd} {v u : Int} (h : renOk l v u = true) : termOk l = true ∧ 0 ≤ u ∧ u ≤ 7 ∧ (u ≠ v → numB l u.toNat = false) := by
  unfold renOk at h
  rw [Bool.and_eq_true, Bool.and_eq_true, decide_eq_true_eq] at h
  refine ⟨h.1.1, h.1.2.1, h.1.2.2, fun hn => ?_⟩
  have h2 := h.2
  have e : (u != v) = true := by simp [hn]
  rw [e] at h2
  cases hq : numB l u.toNat
  · rfl
  · rw [hq] at h2; cases h2
theorem ren_inj {l : List Nd} {v u : Int} (h : renOk l v u = true) : Inj (sw v u) l := by
  obtain ⟨hT, h0, h7, hn⟩ := ok_parts h
  constructor
  · intro x hx hu
    unfold sw; split <;> omega
  · intro x t hx ht hux hut he
    unfold sw at he
    by_cases e1 : (x : Int) = v
    · by_cases e2 : (t : Int) = v
      · omega
      · rw [if_pos e1, if_neg e2] at he
        have h3 := hn (by omega)
        have e : u.toNat = t := by omega
        rw [e, hut] at h3; cases h3
    · by_cases e2 : (t : Int) = v
      · rw [if_neg e1, if_pos e2] at he
        have h3 := hn (by omega)
        have e : u.toNat = x := by omega
        rw [e, hux] at h3; cases h3
      · rw [if_neg e1, if_neg e2] at he
        omega

theorem num_iff (p : List Nd) (t : Nat) : numB p t = true ↔ ∃ n, n ∈ p ∧ nmd n = true ∧ n.k = (t : Int) := by
  unfold numB
  rw [List.any_eq_true]
  constructor
  · rintro ⟨n, hm, h⟩
    rw [Bool.and_eq_true, beq_iff_eq] at h
    exact ⟨n, hm, h.1, h.2⟩
  · rintro ⟨n, hm, h1, h2⟩
    exact ⟨n, hm, by rw [Bool.and_eq_true, beq_iff_eq]; exact ⟨h1, h2⟩⟩
theorem num_map (G : Int → Int) (p : List Nd) (t : Nat) : numB (p.map (rsN G)) t = true ↔ ∃ n, n ∈ p ∧ nmd n = true ∧ G n.k = (t : Int) := by
  rw [num_iff]
  have hq : ∀ n, nmd (rsN G n) = nmd n := fun n => by unfold nmd; rw [rs_op]
  constructor
  · rintro ⟨m, hm, h1, h2⟩
    obtain ⟨n, hn, rfl⟩ := List.mem_map.1 hm
    rw [hq] at h1
    rw [rs_k h1] at h2
    exact ⟨n, hn, h1, h2⟩
  · rintro ⟨n, hn, h1, h2⟩
    exact ⟨rsN G n, List.mem_map.2 ⟨n, hn, rfl⟩, by rw [hq]; exact h1, by rw [rs_k h1]; exact h2⟩
theorem num_prune {l : List Nd} (hT : termOk l = true) (t : Nat) (h : numB (pruneL l) t = true) : numB l t = true := by
  obtain ⟨n, hm, h1, h2⟩ := (num_iff _ _).1 h
  unfold pruneL at hm
  rw [hT, if_pos rfl] at hm
  obtain ⟨i, hi, rfl⟩ := List.mem_map.1 hm
  have hl := List.mem_range.1 (List.mem_filter.1 hi).1
  refine (num_iff _ _).2 ⟨nth l i, ?_, h1, h2⟩
  rw [← nth_get hl]
  exact List.getElem_mem hl

theorem cnt_swap (f g : Nat → Nat) (v u : Nat) (hv : v < 8) (hu : u < 8) (hne : u ≠ v) (h1 : g v = 0) (h2 : g u = f v) (h3 : f u = 0) (h4 : ∀ t, t ≠ u → t ≠ v → g t = f t) :
    g 0 + g 1 + g 2 + g 3 + g 4 + g 5 + g 6 + g 7 = f 0 + f 1 + f 2 + f 3 + f 4 + f 5 + f 6 + f 7 := by
  have c0 := h4 0
  have c1 := h4 1
  have c2 := h4 2
  have c3 := h4 3
  have c4 := h4 4
  have c5 := h4 5
  have c6 := h4 6
  have c7 := h4 7
  clear h4
  rcases (by omega : v = 0 ∨ v = 1 ∨ v = 2 ∨ v = 3 ∨ v = 4 ∨ v = 5 ∨ v = 6 ∨ v = 7) with rfl | rfl | rfl | rfl | rfl | rfl | rfl | rfl <;>
    rcases (by omega : u = 0 ∨ u = 1 ∨ u = 2 ∨ u = 3 ∨ u = 4 ∨ u = 5 ∨ u = 6 ∨ u = 7) with rfl | rfl | rfl | rfl | rfl | rfl | rfl | rfl <;> omega
theorem vars_step (p : List Nd) (k : Nat) : (varsTo p (k + 1)).length = (varsTo p k).length + (numB p k).toNat := by
  rw [varsTo_succ]
  cases numB p k <;> simp
theorem vars_len (p : List Nd) : (varsTo p 8).length = (numB p 0).toNat + (numB p 1).toNat + (numB p 2).toNat + (numB p 3).toNat + (numB p 4).toNat + (numB p 5).toNat + (numB p 6).toNat + (numB p 7).toNat := by
  have h0 := vars_step p 0
  have h1 := vars_step p 1
  have h2 := vars_step p 2
  have h3 := vars_step p 3
  have h4 := vars_step p 4
  have h5 := vars_step p 5
  have h6 := vars_step p 6
  have h7 := vars_step p 7
  have hz : (varsTo p 0).length = 0 := rfl
  simp only [Nat.reduceAdd] at h0 h1 h2 h3 h4 h5 h6 h7
  omega

theorem ren_same (l : List Nd) (v : Int) : renL l v v = l := by
  have : ∀ n, renN v v n = n := by
    intro n
    obtain ⟨op, w, k, a, b, c⟩ := n
    unfold renN
    by_cases h : (nmd ⟨op, w, k, a, b, c⟩ && k == v) = true
    · rw [if_pos h]
      rw [Bool.and_eq_true, beq_iff_eq] at h
      rw [h.2]
    · rw [if_neg h]
  unfold renL
  rw [List.map_congr_left (g := id) fun n _ => this n, List.map_id]
theorem ren_vars {l : List Nd} {v u : Int} (h : renOk l v u = true) (hv : 0 ≤ v ∧ v ≤ 7) : (varsL (renL l v u)).length = (varsL l).length := by
  by_cases e : u = v
  · rw [e, ren_same]
  obtain ⟨hT, h0, h7, hn⟩ := ok_parts h
  have hnu := hn e
  obtain ⟨a, rfl⟩ := Int.eq_ofNat_of_zero_le hv.1
  obtain ⟨b, rfl⟩ := Int.eq_ofNat_of_zero_le h0
  have hnp : numB (pruneL l) b = false := by
    cases hq : numB (pruneL l) b
    · rfl
    · have := num_prune hT b hq
      have e2 : ((b : Nat) : Int).toNat = b := by omega
      rw [e2, this] at hnu
      cases hnu
  unfold varsL
  rw [renL_rs, rs_prune hT (ren_inj h), vars_len, vars_len]
  generalize pruneL l = p at hnp ⊢
  refine cnt_swap (fun t => (numB p t).toNat) (fun t => (numB (p.map (rsN (sw (a : Int) (b : Int)))) t).toNat) a b (by omega) (by omega) (by omega) ?_ ?_ ?_ ?_
  · have : numB (p.map (rsN (sw (a : Int) (b : Int)))) a = false := by
      cases hq : numB (p.map (rsN (sw (a : Int) (b : Int)))) a
      · rfl
      · obtain ⟨n, hm, h1, h2⟩ := (num_map _ _ _).1 hq
        unfold sw at h2
        split at h2 <;> omega
    show (numB _ a).toNat = 0
    rw [this]; rfl
  · have : numB (p.map (rsN (sw (a : Int) (b : Int)))) b = numB p a := by
      rw [Bool.eq_iff_iff, num_map, num_iff]
      constructor
      · rintro ⟨n, hm, h1, h2⟩
        refine ⟨n, hm, h1, ?_⟩
        unfold sw at h2
        split at h2
        · next hk => exact hk
        · have := (num_iff p b).2 ⟨n, hm, h1, h2⟩
          rw [hnp] at this; cases this
      · rintro ⟨n, hm, h1, h2⟩
        refine ⟨n, hm, h1, ?_⟩
        unfold sw
        rw [if_pos h2]
    show (numB _ b).toNat = _
    rw [this]
  · show (numB p b).toNat = 0
    rw [hnp]; rfl
  · intro t ht1 ht2
    have : numB (p.map (rsN (sw (a : Int) (b : Int)))) t = numB p t := by
      rw [Bool.eq_iff_iff, num_map, num_iff]
      constructor
      · rintro ⟨n, hm, h1, h2⟩
        refine ⟨n, hm, h1, ?_⟩
        unfold sw at h2
        split at h2 <;> omega
      · rintro ⟨n, hm, h1, h2⟩
        refine ⟨n, hm, h1, ?_⟩
        unfold sw
        rw [if_neg (by omega)]; exact h2
    show (numB _ t).toNat = (numB p t).toNat
    rw [this]
theorem ren_back {l : List Nd} {v u : Int} (h : renOk l v u = true) (hv : 0 ≤ v ∧ v ≤ 7) (hne : u ≠ v) : renOk (renL l v u) u v = true ∧ renL (renL l v u) u v = l := by
  obtain ⟨hT, h0, h7, hn⟩ := ok_parts h
  have hnu := hn hne
  constructor
  · have hT2 : termOk (renL l v u) = true := by rw [renL_rs]; exact rs_term hT (ren_inj h)
    have hq : numB (renL l v u) v.toNat = false := by
      rw [renL_rs]
      cases hq : numB (l.map (rsN (sw v u))) v.toNat
      · rfl
      · obtain ⟨n, hm, h1, h2⟩ := (num_map _ _ _).1 hq
        unfold sw at h2
        split at h2 <;> omega
    unfold renOk
    rw [hT2, hq, decide_eq_true hv]
    simp
  · have hid : ∀ n ∈ l, renN u v (renN v u n) = n := by
      intro n hm
      cases hn : nmd n
      · have e : renN v u n = n := by unfold renN; rw [hn]; rfl
        rw [e]; unfold renN; rw [hn]; rfl
      · have hk : n.k ≠ u := by
          intro e
          have := (num_iff l u.toNat).2 ⟨n, hm, hn, by omega⟩
          rw [hnu] at this; cases this
        obtain ⟨op, w, k, a, b, c⟩ := n
        have hn' : ∀ y : Int, nmd ⟨op, w, y, a, b, c⟩ = true := fun y => hn
        have hk' : ¬ k = u := hk
        by_cases e : k = v
        · subst e; simp [renN, hn']
        · simp [renN, hn', e, hk']
    unfold renL
    rw [List.map_map]
    conv => rhs; rw [← List.map_id l]
    exact List.map_congr_left hid
theorem names {l : List Nd} {v u : Int} (hS : sentB l = true) (hb : bitsL l ≤ 8) (h : renOk l v u = true) (hv : 0 ≤ v ∧ v ≤ 7) :
    (∃ x, holdsL l = some x) ∧ holdsL (renL l v u) = holdsL l ∧ (varsL (renL l v u)).length = (varsL l).length ∧ levelL (renL l v u) = levelL l ∧ (u ≠ v → renOk (renL l v u) u v = true ∧ renL (renL l v u) u v = l) := by
  refine ⟨⟨_, holds_some hS (by omega)⟩, ?_, ren_vars h hv, ?_, ren_back h hv⟩
  · rw [renL_rs]; exact rs_holds (ren_inj h) hS (by omega)
  · rw [renL_rs]; exact rs_level (sent_ok hS) (ren_inj h)

end Go.Proofs.YtejgcchkhljnjaaGreat.Aq6
