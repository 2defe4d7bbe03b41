/- Quantifiers to the front, over trees: a formula is worth the same with its quantifiers ahead of what is left without them. -/
import Derived.Test.YtejoeahehljhnaaGreatPkIQ1
import Derived.Test.YtejoeahehljhnaaGreatPkIQ4
namespace Go.Proofs.YtejoeahehljhnaaGreat.Fr1
open Nd0 Qa0 Pl1 Pl2 Tm0 Tm5 Tm6 Tr0 Vl1 Vl2 Vm0 Fr0
set_option linter.unusedVariables false

def turnQ (x : Qu) : Qu := ⟨!x.all, x.vr, x.bits⟩
def wk : Tr → Bool → List Qu
  | .leaf _ _ _, _ => []
  | .one op _ k b x, u => if op = 2 then wk x (!u) else if quant op then ⟨(op == 19) != u, k, b⟩ :: wk x u else []
  | .two op _ x y, u => if op = 3 ∨ op = 4 then wk x u ++ wk y u else []
  | .three _ _ _ _ _, _ => []
theorem wk_turn : ∀ (t : Tr) (u : Bool), wk t (!u) = (wk t u).map turnQ := by
  intro t
  induction t with
  | leaf op w k => intro u; rfl
  | one op w k b x ih =>
    intro u
    simp only [wk]
    by_cases h : op = 2
    · rw [if_pos h, if_pos h]; exact ih _
    · rw [if_neg h, if_neg h]
      by_cases hq : quant op = true
      · rw [if_pos hq, if_pos hq, List.map_cons, ih]
        refine congrArg (fun z => z :: _) ?_
        cases u <;> cases (op == 19) <;> rfl
      · rw [if_neg hq, if_neg hq]; rfl
  | two op w x y ih1 ih2 =>
    intro u
    simp only [wk]
    split
    · rw [ih1, ih2, List.map_append]
    · rfl
  | three op w x y z ih1 ih2 ih3 => intro u; rfl
def str : Tr → Tr
  | .leaf op w k => .leaf op w k
  | .one op w k b x => if quant op then str x else .one op w k b (str x)
  | .two op w x y => .two op w (str x) (str y)
  | .three op w x y z => .three op w (str x) (str y) (str z)
def HF : List Qu → (List Int → Prop) → List Int → Prop
  | [], P, e => P e
  | x :: q, P, e => if x.all then ∀ i : Nat, i < 2 ^ x.bits.toNat → HF q P (e.set x.vr.toNat (i : Int)) else ∃ i : Nat, i < 2 ^ x.bits.toNat ∧ HF q P (e.set x.vr.toNat (i : Int))
def hf : List Qu → Tr → List Int → Int
  | [], t, e => vT t e
  | x :: q, t, e => if x.all then allN (fun i => hf q t (e.set x.vr.toNat (i : Int))) (2 ^ x.bits.toNat) else anyN (fun i => hf q t (e.set x.vr.toNat (i : Int))) (2 ^ x.bits.toNat)
theorem hf_HF : ∀ (q : List Qu) (t : Tr) (e : List Int), hf q t e = 1 ↔ HF q (fun e => vT t e = 1) e := by
  intro q t
  induction q with
  | nil => intro e; exact Iff.rfl
  | cons x q ih =>
    intro e
    simp only [hf, HF]
    cases x.all with
    | true =>
      simp only [if_true]
      rw [allN_one]
      exact ⟨fun h i hi => (ih _).1 (h i hi), fun h i hi => (ih _).2 (h i hi)⟩
    | false =>
      simp only [Bool.false_eq_true, if_false]
      rw [anyN_one]
      exact ⟨fun ⟨i, hi, h⟩ => ⟨i, hi, (ih _).1 h⟩, fun ⟨i, hi, h⟩ => ⟨i, hi, (ih _).2 h⟩⟩
theorem hf_bit (x : Qu) (q : List Qu) (t : Tr) (e : List Int) : hf (x :: q) t e = 0 ∨ hf (x :: q) t e = 1 := by
  simp only [hf]
  split
  · exact allN_bit _ _
  · exact anyN_bit _ _
theorem HF_append : ∀ (p q : List Qu) (P : List Int → Prop) (e : List Int), HF (p ++ q) P e ↔ HF p (HF q P) e := by
  intro p q P
  induction p with
  | nil => intro e; exact Iff.rfl
  | cons x p ih =>
    intro e
    simp only [List.cons_append, HF]
    split
    · exact ⟨fun h i hi => (ih _).1 (h i hi), fun h i hi => (ih _).2 (h i hi)⟩
    · exact ⟨fun ⟨i, hi, h⟩ => ⟨i, hi, (ih _).1 h⟩, fun ⟨i, hi, h⟩ => ⟨i, hi, (ih _).2 h⟩⟩
def EnvOk (ws e : List Int) : Prop := e.length = 8 ∧ ∀ v : Nat, v < 8 → wd ws (v : Int) ≠ 0 → wok (wd ws (v : Int)) (wd e (v : Int)) = true
def TyQ (ws : List Int) (x : Qu) : Prop := 0 ≤ x.vr ∧ x.vr ≤ 7 ∧ 1 ≤ x.bits ∧ x.bits ≤ 8 ∧ x.bits = wd ws x.vr
theorem EnvOk.set {ws e : List Int} {x : Qu} (hx : TyQ ws x) (h : EnvOk ws e) {i : Nat} (hi : i < 2 ^ x.bits.toNat) : EnvOk ws (e.set x.vr.toNat (i : Int)) := by
  refine ⟨by rw [List.length_set]; exact h.1, fun v hv h0 => ?_⟩
  obtain ⟨h1, h2, h3, h4, h5⟩ := hx
  have hl := h.1
  by_cases hc : x.vr.toNat = v
  · have e1 : wd (e.set x.vr.toNat (i : Int)) (v : Int) = (i : Int) := by
      unfold wd
      rw [Int.toNat_natCast, ← hc]
      simp [List.getD, show x.vr.toNat < e.length by omega]
    have e2 : wd ws (v : Int) = x.bits := by rw [h5, ← hc]; unfold wd; rw [Int.toNat_natCast]
    rw [e1, e2]
    exact wok_of_nat h3 h4 hi
  · have e1 : wd (e.set x.vr.toNat (i : Int)) (v : Int) = wd e (v : Int) := by
      unfold wd
      rw [Int.toNat_natCast]
      simp [List.getD, List.getElem?_set_ne hc]
    rw [e1]
    exact h.2 v hv h0
theorem HF_congr {ws : List Int} {P P' : List Int → Prop} (hP : ∀ e, EnvOk ws e → (P e ↔ P' e)) : ∀ (q : List Qu), (∀ x ∈ q, TyQ ws x) → ∀ e, EnvOk ws e → (HF q P e ↔ HF q P' e) := by
  intro q
  induction q with
  | nil => intro _ e he; exact hP e he
  | cons x q ih =>
    intro hq e he
    have ih' := ih (fun y hy => hq y (List.mem_cons_of_mem _ hy))
    have hx := hq x List.mem_cons_self
    simp only [HF]
    split
    · exact ⟨fun h i hi => (ih' _ (he.set hx hi)).1 (h i hi), fun h i hi => (ih' _ (he.set hx hi)).2 (h i hi)⟩
    · exact ⟨fun ⟨i, hi, h⟩ => ⟨i, hi, (ih' _ (he.set hx hi)).1 h⟩, fun ⟨i, hi, h⟩ => ⟨i, hi, (ih' _ (he.set hx hi)).2 h⟩⟩
def Ind (v : Int) (P : List Int → Prop) : Prop := ∀ (e : List Int) (i : Int), P (e.set v.toNat i) ↔ P e
theorem HF_ind {P : List Int → Prop} {v : Int} (hv : Ind v P) : ∀ (q : List Qu), (∀ x ∈ q, x.vr.toNat ≠ v.toNat) → Ind v (HF q P) := by
  intro q
  induction q with
  | nil => intro _; exact hv
  | cons x q ih =>
    intro hq e i
    have ih' := ih (fun y hy => hq y (List.mem_cons_of_mem _ hy))
    have hx := hq x List.mem_cons_self
    simp only [HF]
    split
    · constructor
      · intro h j hj
        have := h j hj
        rw [List.set_comm _ _ (fun h => hx h.symm)] at this
        exact (ih' _ _).1 this
      · intro h j hj
        rw [List.set_comm _ _ (fun h => hx h.symm)]
        exact (ih' _ _).2 (h j hj)
    · constructor
      · rintro ⟨j, hj, h⟩
        rw [List.set_comm _ _ (fun h => hx h.symm)] at h
        exact ⟨j, hj, (ih' _ _).1 h⟩
      · rintro ⟨j, hj, h⟩
        refine ⟨j, hj, ?_⟩
        rw [List.set_comm _ _ (fun h => hx h.symm)]
        exact (ih' _ _).2 h
theorem HF_idle {P : List Int → Prop} {x : Qu} (hx : Ind x.vr P) (p q : List Qu) (hq : ∀ y ∈ q, y.vr.toNat ≠ x.vr.toNat) (e : List Int) : HF (p ++ x :: q) P e ↔ HF (p ++ q) P e := by
  rw [HF_append, HF_append]
  have h := HF_ind hx q hq
  have e1 : HF (x :: q) P = HF q P := by
    funext d
    refine propext ?_
    simp only [HF]
    split
    · exact ⟨fun h2 => (h _ _).1 (h2 0 (Nat.two_pow_pos _)), fun h2 i hi => (h _ _).2 h2⟩
    · exact ⟨fun ⟨i, hi, h2⟩ => (h _ _).1 h2, fun h2 => ⟨0, Nat.two_pow_pos _, (h _ _).2 h2⟩⟩
  rw [e1]

def Ty (ws : List Int) : Tr → Prop
  | .leaf op w k => op = 1 → w = wd ws k
  | .one op _ k b x => Ty ws x ∧ (quant op = true → b = wd ws k)
  | .two _ _ x y => Ty ws x ∧ Ty ws y
  | .three _ _ x y z => Ty ws x ∧ Ty ws y ∧ Ty ws z
theorem wd_nat (ws : List Int) {k : Int} (hk : 0 ≤ k) : wd ws ((k.toNat : Nat) : Int) = wd ws k := by rw [Int.toNat_of_nonneg hk]
theorem or_same {a b c : Nat} (ha : a = 0 ∨ a = c) (hb : b = 0 ∨ b = c) : a ||| b = 0 ∨ a ||| b = c := by
  rcases ha with rfl | rfl <;> rcases hb with rfl | rfl <;> simp
theorem need_ty {ws : List Int} : ∀ (t : Tr), Rt t → Ty ws t → ∃ r, needT t = some r ∧ ∀ v : Nat, v < 8 → r.getD v 0 = 0 ∨ r.getD v 0 = 2 ^ (wd ws (v : Int)).toNat := by
  intro t
  induction t with
  | leaf op w k =>
    intro hR hT
    refine ⟨_, rfl, fun v hv => ?_⟩
    rw [show ((List.range 8).map fun (v : Nat) => if op = 1 ∧ k = (v : Int) then 2 ^ w.toNat else 0).getD v 0 = (if op = 1 ∧ k = (v : Int) then 2 ^ w.toNat else 0) by simp [List.getD, hv]]
    split
    · rename_i h
      rw [hT h.1, h.2]; exact .inr rfl
    · exact .inl rfl
  | one op w k b x ih =>
    intro hR hT
    obtain ⟨r, h1, h2⟩ := ih hR.2.2.1 hT.1
    have hl := need_len _ _ h1
    simp only [needT]
    rw [h1]
    simp only [Option.bind_some]
    by_cases hq : quant op = true
    · rw [if_pos hq]
      have hk : 0 ≤ k ∧ k ≤ 7 := by
        have hq2 : op = 19 ∨ op = 20 := by simpa [quant] using hq
        rcases hR.2.2.2 with h | h | h
        · omega
        · omega
        · exact ⟨h.2.2.2.1, h.2.2.2.2.1⟩
      have h3 := h2 k.toNat (by omega)
      rw [wd_nat ws hk.1, ← hT.2 hq] at h3
      rw [if_neg (fun hc => h3.elim (fun h => hc.1 h) (fun h => hc.2 h))]
      refine ⟨_, rfl, fun v hv => ?_⟩
      by_cases hc : k.toNat = v
      · left
        rw [← hc]; simp [List.getD, hl, show k.toNat < 8 by omega]
      · have : (r.set k.toNat 0).getD v 0 = r.getD v 0 := by simp [List.getD, List.getElem?_set_ne hc]
        rw [this]; exact h2 v hv
    · rw [if_neg hq]
      exact ⟨r, rfl, h2⟩
  | two op w x y ih1 ih2 =>
    intro hR hT
    obtain ⟨r, h1, h2⟩ := ih1 hR.2.2.1 hT.1
    obtain ⟨s, h3, h4⟩ := ih2 hR.2.2.2.1 hT.2
    simp only [needT]
    rw [h1, h3]
    exact ⟨_, rfl, fun v hv => by rw [or_at r s hv]; exact or_same (h2 v hv) (h4 v hv)⟩
  | three op w x y z ih1 ih2 ih3 =>
    intro hR hT
    obtain ⟨r, h1, h2⟩ := ih1 hR.2.2.1 hT.1
    obtain ⟨s, h3, h4⟩ := ih2 hR.2.2.2.1 hT.2.1
    obtain ⟨u, h5, h6⟩ := ih3 hR.2.2.2.2.1 hT.2.2
    simp only [needT]
    rw [h1, h3, h5]
    exact ⟨_, rfl, fun v hv => by rw [or_at _ u hv, or_at r s hv]; exact or_same (or_same (h2 v hv) (h4 v hv)) (h6 v hv)⟩
theorem fits_ty {ws e : List Int} {r : List Nat} (h : ∀ v : Nat, v < 8 → r.getD v 0 = 0 ∨ r.getD v 0 = 2 ^ (wd ws (v : Int)).toNat) (he : EnvOk ws e) : Fits r e := by
  intro v hv j h1 h8 hb
  rcases h v hv with h0 | h0
  · rw [h0, Nat.zero_testBit] at hb; cases hb
  · rw [h0, Nat.testBit_two_pow] at hb
    have hj : (wd ws (v : Int)).toNat = j := of_decide_eq_true hb
    have hw : wd ws (v : Int) = (j : Int) := by omega
    have := he.2 v hv (by omega)
    rw [hw] at this
    have e1 : wd e (v : Int) = e.getD v 0 := by unfold wd; rw [Int.toNat_natCast]
    rw [← e1]; exact this
theorem ty_word {ws e : List Int} {t : Tr} (hR : Rt t) (hT : Ty ws t) (he : EnvOk ws e) : wok t.wid (vT t e) = true := by
  obtain ⟨r, h1, h2⟩ := need_ty t hR hT
  exact value_word t r e hR h1 he.1 (fits_ty h2 he)
theorem ty_bit {ws e : List Int} {t : Tr} (hR : Rt t) (hT : Ty ws t) (he : EnvOk ws e) (hw : t.wid = 1) : vT t e = 0 ∨ vT t e = 1 := by
  have h := ty_word hR hT he
  rw [hw] at h
  have h3 := wok_iff.1 h
  have h4 : p2 (1 : Int).toNat = 2 := rfl
  rw [h4] at h3
  omega

def Qf : Tr → Prop
  | .leaf _ _ _ => True
  | .one op _ _ _ x => quant op = false ∧ Qf x
  | .two _ _ x y => Qf x ∧ Qf y
  | .three _ _ x y z => Qf x ∧ Qf y ∧ Qf z
theorem qf_wk : ∀ (t : Tr) (u : Bool), Qf t → wk t u = [] := by
  intro t
  induction t with
  | leaf op w k => intro u _; rfl
  | one op w k b x ih =>
    intro u h
    simp only [wk]
    split
    · exact ih _ h.2
    · rw [h.1]; rfl
  | two op w x y ih1 ih2 =>
    intro u h
    simp only [wk]
    split
    · rw [ih1 _ h.1, ih2 _ h.2]; rfl
    · rfl
  | three op w x y z ih1 ih2 ih3 => intro u _; rfl
def bv (t : Tr) : List Int := (wk t false).map (·.vr)
theorem bv_turn (t : Tr) (u : Bool) : (wk t u).map (·.vr) = bv t := by
  cases u with
  | false => rfl
  | true =>
    have := wk_turn t false
    simp only [Bool.not_false] at this
    rw [this, List.map_map]
    rfl
def Sc : List Int → Tr → Prop
  | S, .leaf op _ k => op = 1 → k ∈ S
  | S, .one op _ k _ x => if op = 2 then Sc S x else if quant op then k ∉ S ∧ Sc (k :: S) x else Qf x ∧ Sc S x
  | S, .two op _ x y => Sc S x ∧ Sc S y ∧ (if op = 3 ∨ op = 4 then (∀ v ∈ bv x, v ∉ bv y) else Qf x ∧ Qf y)
  | S, .three _ _ x y z => Sc S x ∧ Sc S y ∧ Sc S z ∧ Qf x ∧ Qf y ∧ Qf z
theorem bv_quant {op w k b : Int} {x : Tr} (h : quant op = true) : bv (.one op w k b x) = k :: bv x := by
  have h2 : ¬ op = 2 := by
    have hq2 : op = 19 ∨ op = 20 := by simpa [quant] using h
    omega
  unfold bv
  simp only [wk]
  rw [if_neg h2, if_pos h]
  rfl
theorem bv_not {w k b : Int} {x : Tr} : bv (.one 2 w k b x) = bv x := by
  unfold bv
  simp only [wk, if_true]
  exact bv_turn x _
theorem bv_one {op w k b : Int} {x : Tr} (h2 : ¬ op = 2) (h : ¬ quant op = true) : bv (.one op w k b x) = [] := by
  unfold bv; simp only [wk]; rw [if_neg h2, if_neg h]; rfl
theorem bv_two {op w : Int} {x y : Tr} (h : op = 3 ∨ op = 4) : bv (.two op w x y) = bv x ++ bv y := by
  unfold bv; simp only [wk]; rw [if_pos h, List.map_append]
theorem bv_two' {op w : Int} {x y : Tr} (h : ¬ (op = 3 ∨ op = 4)) : bv (.two op w x y) = [] := by
  unfold bv; simp only [wk]; rw [if_neg h]; rfl
theorem bv_qf {t : Tr} (h : Qf t) : bv t = [] := by unfold bv; rw [qf_wk t false h]; rfl
theorem getD_set_ne (e : List Int) {a b : Nat} (h : a ≠ b) (i : Int) : (e.set a i).getD b 0 = e.getD b 0 := by
  simp [List.getD, List.getElem?_set_ne h]
theorem str_ind : ∀ (t : Tr) (S : List Int), Rt t → Sc S t → (∀ s ∈ S, 0 ≤ s) → ∀ v : Int, 0 ≤ v → v ∉ S → v ∉ bv t → ∀ (e : List Int) (i : Int), vT (str t) (e.set v.toNat i) = vT (str t) e := by
  intro t
  induction t with
  | leaf op w k =>
    intro S hR h hS v hv hs hb e i
    simp only [str, vT]
    by_cases h1 : op = 1
    · rw [if_pos h1, if_pos h1]
      have hk := h h1
      have h0 := hS k hk
      refine getD_set_ne e (fun hc => hs ?_) i
      have : v = k := by omega
      rw [this]; exact hk
    · rw [if_neg h1, if_neg h1]
  | one op w k b x ih =>
    intro S hR h hS v hv hs hb e i
    simp only [Sc] at h
    have hq19 : quant op = false → ¬ op = 19 ∧ ¬ op = 20 := fun h => by simpa [quant] using h
    by_cases h2 : op = 2
    · subst h2
      rw [if_pos rfl] at h
      rw [bv_not] at hb
      have := ih S hR.2.2.1 h hS v hv hs hb e i
      simp only [str, vT, show quant 2 = false from rfl, Bool.false_eq_true, show ¬ (2 : Int) = 19 by decide, show ¬ (2 : Int) = 20 by decide, if_false]
      rw [this]
    · rw [if_neg h2] at h
      by_cases hq : quant op = true
      · rw [if_pos hq] at h
        rw [bv_quant hq] at hb
        have hk : 0 ≤ k := by
          have hq2 : op = 19 ∨ op = 20 := by simpa [quant] using hq
          rcases hR.2.2.2 with h5 | h5 | h5
          · omega
          · omega
          · exact h5.2.2.2.1
        have := ih (k :: S) hR.2.2.1 h.2 (fun s hs => by rcases List.mem_cons.1 hs with rfl | hs; exact hk; exact hS s hs) v hv (fun hm => by rcases List.mem_cons.1 hm with rfl | hm; exact hb List.mem_cons_self; exact hs hm) (fun hm => hb (List.mem_cons_of_mem _ hm)) e i
        simp only [str]
        rw [if_pos hq]
        exact this
      · rw [if_neg hq] at h
        have hqf : quant op = false := by simpa using hq
        have := ih S hR.2.2.1 h.2 hS v hv hs (by rw [bv_qf h.1]; simp) e i
        simp only [str]
        rw [if_neg hq]
        simp only [vT]
        rw [if_neg (hq19 hqf).1, if_neg (hq19 hqf).1, if_neg (hq19 hqf).2, if_neg (hq19 hqf).2, this]
  | two op w x y ih1 ih2 =>
    intro S hR h hS v hv hs hb e i
    have hb1 : v ∉ bv x := by
      by_cases hc : op = 3 ∨ op = 4
      · rw [bv_two hc] at hb; exact fun hm => hb (List.mem_append_left _ hm)
      · have := h.2.2
        rw [if_neg hc] at this
        rw [bv_qf this.1]; simp
    have hb2 : v ∉ bv y := by
      by_cases hc : op = 3 ∨ op = 4
      · rw [bv_two hc] at hb; exact fun hm => hb (List.mem_append_right _ hm)
      · have := h.2.2
        rw [if_neg hc] at this
        rw [bv_qf this.2]; simp
    simp only [str, vT]
    rw [ih1 S hR.2.2.1 h.1 hS v hv hs hb1 e i, ih2 S hR.2.2.2.1 h.2.1 hS v hv hs hb2 e i]
  | three op w x y z ih1 ih2 ih3 =>
    intro S hR h hS v hv hs hb e i
    obtain ⟨s1, s2, s3, q1, q2, q3⟩ := h
    simp only [str, vT]
    rw [ih1 S hR.2.2.1 s1 hS v hv hs (by rw [bv_qf q1]; simp) e i, ih2 S hR.2.2.2.1 s2 hS v hv hs (by rw [bv_qf q2]; simp) e i, ih3 S hR.2.2.2.2.1 s3 hS v hv hs (by rw [bv_qf q3]; simp) e i]
theorem str_wid : ∀ (t : Tr), Rt t → (str t).wid = t.wid := by
  intro t
  induction t with
  | leaf op w k => intro _; rfl
  | one op w k b x ih =>
    intro hR
    simp only [str]
    by_cases hq : quant op = true
    · rw [if_pos hq, ih hR.2.2.1]
      have hq2 : op = 19 ∨ op = 20 := by simpa [quant] using hq
      rcases hR.2.2.2 with h | h | h
      · omega
      · omega
      · show x.wid = w; rw [h.2.1, h.2.2.1]
    · rw [if_neg hq]; rfl
  | two op w x y ih1 ih2 => intro _; rfl
  | three op w x y z ih1 ih2 ih3 => intro _; rfl
theorem wk_ty {ws : List Int} : ∀ (t : Tr) (u : Bool), Rt t → Ty ws t → ∀ x ∈ wk t u, TyQ ws x := by
  intro t
  induction t with
  | leaf op w k => intro u _ _ x hx; cases hx
  | one op w k b y ih =>
    intro u hR hT x hx
    simp only [wk] at hx
    by_cases h2 : op = 2
    · rw [if_pos h2] at hx; exact ih _ hR.2.2.1 hT.1 x hx
    · rw [if_neg h2] at hx
      by_cases hq : quant op = true
      · rw [if_pos hq] at hx
        rcases List.mem_cons.1 hx with rfl | hx
        · have hq2 : op = 19 ∨ op = 20 := by simpa [quant] using hq
          rcases hR.2.2.2 with h | h | h
          · omega
          · omega
          · exact ⟨h.2.2.2.1, h.2.2.2.2.1, h.2.2.2.2.2.1, h.2.2.2.2.2.2, hT.2 hq⟩
        · exact ih _ hR.2.2.1 hT.1 x hx
      · rw [if_neg hq] at hx; cases hx
  | two op w y z ih1 ih2 =>
    intro u hR hT x hx
    simp only [wk] at hx
    split at hx
    · rcases List.mem_append.1 hx with hx | hx
      · exact ih1 _ hR.2.2.1 hT.1 x hx
      · exact ih2 _ hR.2.2.2.1 hT.2 x hx
    · cases hx
  | three op w y z z2 ih1 ih2 ih3 => intro u _ _ x hx; cases hx
end Go.Proofs.YtejoeahehljhnaaGreat.Fr1
