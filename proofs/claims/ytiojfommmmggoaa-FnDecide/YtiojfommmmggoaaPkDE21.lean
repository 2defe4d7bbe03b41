/- Small texts of mine, one behind the other. -/
import Derived.Test.YtiojfommmmggoaaFr1
/- What is worth below quantifiers does not hang on what their own variables were; quantifiers that are right have the widths that they tell. -/
namespace Go.Proofs.Ytiojfommmmggoaa.Fr4
open Nd0 Qa0 Pl1 Pl2 Tm0 Tm1 Tm5 Tm6 Tr0 Vl1 Vl2 Vm0 Fr0 Fr1
set_option linter.unusedVariables false

theorem wq_ty {q : List Qu} : ∀ k ws, k ≤ q.length → wqTo q k = some ws → ∀ i, i < k → TyQ ws (qth q i) := by
  intro k
  induction k with
  | zero => intro ws _ _ i hi; exact absurd hi (Nat.not_lt_zero _)
  | succ k ih =>
    intro ws hk h i hi
    cases hq : wqTo q k with
    | none => rw [wq_none hq (k + 1) (by omega)] at h; cases h
    | some us =>
      have h8 := wq_len us hq
      rw [wq_succ hq] at h
      unfold wqStep at h
      split at h
      · rename_i hc
        cases h
        by_cases e : i = k
        · subst e
          refine ⟨hc.1, hc.2.1, hc.2.2.1, hc.2.2.2.1, ?_⟩
          unfold wd
          simp [List.getD, h8, show (qth q i).vr.toNat < 8 by omega]
        · obtain ⟨h1, h2, h3, h4, h5⟩ := ih us (by omega) hq i (by omega)
          refine ⟨h1, h2, h3, h4, ?_⟩
          have hne : (qth q k).vr.toNat ≠ (qth q i).vr.toNat := fun he => by
            have h6 : (qth q k).vr = (qth q i).vr := by omega
            have h7 := hc.2.2.2.2
            rw [h6, ← h5] at h7
            omega
          unfold wd
          rw [show (us.set (qth q k).vr.toNat (qth q k).bits).getD (qth q i).vr.toNat 0 = us.getD (qth q i).vr.toNat 0 by simp [List.getD, List.getElem?_set_ne hne]]
          exact h5
      · cases h
theorem env_zero (ws : List Int) (h : ∀ v : Nat, v < 8 → 0 ≤ wd ws (v : Int) ∧ wd ws (v : Int) ≤ 8) : EnvOk ws (List.replicate 8 0) := by
  refine ⟨by simp, fun v hv h0 => ?_⟩
  have h1 := h v hv
  have e : wd (List.replicate 8 0) (v : Int) = 0 := Tm14.wd_zeros 8 _
  rw [e]
  exact wok_zero (by omega) (by omega)
theorem wq_bound {q : List Qu} : ∀ k ws, wqTo q k = some ws → ∀ v : Nat, v < 8 → 0 ≤ wd ws (v : Int) ∧ wd ws (v : Int) ≤ 8 := by
  intro k
  induction k with
  | zero => intro ws h v hv; cases h; rw [Tm14.wd_zeros]; omega
  | succ k ih =>
    intro ws h v hv
    cases hq : wqTo q k with
    | none => rw [wq_none hq (k + 1) (by omega)] at h; cases h
    | some us =>
      have h8 := wq_len us hq
      rw [wq_succ hq] at h
      unfold wqStep at h
      split at h
      · rename_i hc
        cases h
        by_cases e : (qth q k).vr.toNat = v
        · unfold wd
          rw [Int.toNat_natCast, ← e]
          simp [List.getD, h8, show (qth q k).vr.toNat < 8 by omega]
          omega
        · have := ih us hq v hv
          unfold wd at this ⊢
          rw [Int.toNat_natCast] at this ⊢
          rw [show (us.set (qth q k).vr.toNat (qth q k).bits).getD v 0 = us.getD v 0 by simp [List.getD, List.getElem?_set_ne e]]
          exact this
      · cases h
theorem rest_ty {q : List Qu} {l : List Nd} {ws : List Int} (hT : termOk l = true) (hg : ∀ i, i < l.length → badF l ws i = false) : ∀ i, i < l.length → flag (reachL l) i = true → Ty ws (tr l i) := by
  have hD := Tm8.down_of hT
  intro i
  induction i using Nat.strongRecOn with
  | ind i ih =>
    intro hi hf
    have hp : ∀ p ∈ parts (nth l i), Ty ws (tr l p.toNat) := fun p hp => by
      have h1 := hD i hi p hp
      exact ih _ (by omega) (by omega) (Tm8.reach_closed hD hi hf hp)
    have hb := hg i hi
    unfold badF at hb
    rw [hf, Bool.true_and, Bool.or_eq_false_iff] at hb
    rw [tr_at hD hi]
    by_cases h1 : (nth l i).op = 2 ∨ (nth l i).op = 17 ∨ (nth l i).op = 19 ∨ (nth l i).op = 20
    · rw [parts_one h1] at hp
      rw [mk_one h1]
      exact ⟨hp _ (by simp), fun h => by rw [hb.1] at h; cases h⟩
    · by_cases h2 : 3 ≤ (nth l i).op ∧ (nth l i).op ≤ 16
      · rw [parts_two h2] at hp
        rw [mk_two h2]
        exact ⟨hp _ (by simp), hp _ (by simp)⟩
      · by_cases h3 : (nth l i).op = 18
        · rw [parts_three h3] at hp
          rw [mk_three h3]
          exact ⟨hp _ (by simp), hp _ (by simp), hp _ (by simp)⟩
        · rw [mk_leaf h1 h2 h3]
          intro h4
          have h5 := hb.2
          rw [h4] at h5
          simp at h5
          exact h5.symm

end Go.Proofs.Ytiojfommmmggoaa.Fr4

/- The environment of each place of a table: plain facts. -/
namespace Go.Proofs.Ytiojfommmmggoaa.To0
open Nd0 Qa0 Pl1 Tm0 Tm1 Tm6 Tm8 Tr0 Vl1 Vl2 Fr0 Fr1 Fr4
set_option linter.unusedVariables false

def bitL : List Qu → Nat
  | [] => 0
  | x :: q => x.bits.toNat + bitL q
def envL : List Qu → Nat → List Int
  | [], _ => List.replicate 8 0
  | x :: q, p => (envL q p).set x.vr.toNat ((p / 2 ^ bitL q % 2 ^ x.bits.toNat : Nat) : Int)
theorem env_len (q : List Qu) (p : Nat) : (envL q p).length = 8 := by
  induction q with
  | nil => simp [envL]
  | cons x q ih => simp only [envL, List.length_set]; exact ih
theorem env_ok {ws : List Int} (hz : EnvOk ws (List.replicate 8 0)) (p : Nat) : ∀ q : List Qu, (∀ x ∈ q, TyQ ws x) → EnvOk ws (envL q p) := by
  intro q
  induction q with
  | nil => intro _; exact hz
  | cons x q ih =>
    intro h
    exact EnvOk.set (h x (by simp)) (ih fun y hy => h y (by simp [hy])) (Nat.mod_lt _ (Nat.two_pow_pos _))
theorem drop_qth {q : List Qu} {i : Nat} (h : i < q.length) : q.drop i = qth q i :: q.drop (i + 1) := by
  rw [← qth_get h]; exact List.drop_eq_getElem_cons h
theorem bit_drop {q : List Qu} {i : Nat} (h : i < q.length) : bitL (q.drop i) = (qth q i).bits.toNat + bitL (q.drop (i + 1)) := by rw [drop_qth h]; rfl
theorem env_drop {q : List Qu} {i : Nat} (h : i < q.length) (p : Nat) : envL (q.drop i) p = (envL (q.drop (i + 1)) p).set (qth q i).vr.toNat ((p / 2 ^ bitL (q.drop (i + 1)) % 2 ^ (qth q i).bits.toNat : Nat) : Int) := by rw [drop_qth h]; rfl
theorem bit_bq {q : List Qu} : ∀ k n, k ≤ q.length → bqTo q k = some n → bitL q = n + bitL (q.drop k) := by
  intro k
  induction k with
  | zero => intro n _ h; cases h; simp
  | succ k ih =>
    intro n hk h
    cases hb : bqTo q k with
    | none => rw [bq_none hb (k + 1) (by omega)] at h; cases h
    | some m =>
      by_cases hc : 1 ≤ (qth q k).bits ∧ (qth q k).bits ≤ 8
      · rw [bq_succ hb hc] at h
        cases h
        rw [ih m (by omega) hb, bit_drop (by omega)]
        omega
      · rw [bq_bad hc] at h; cases h
theorem bit_all {q : List Qu} {n : Nat} (h : bqTo q q.length = some n) : bitL q = n := by
  rw [bit_bq q.length n (Nat.le_refl _) h, List.drop_length]; rfl
def Ap (q : List Qu) : Prop := ∀ i k, i < k → k < q.length → (qth q i).vr.toNat ≠ (qth q k).vr.toNat
theorem ap_of {q : List Qu} {ws : List Int} (h : wqTo q q.length = some ws) : Ap q := by
  intro i k hi hk
  cases hw : wqTo q k with
  | none => rw [wq_none hw _ (by omega)] at h; cases h
  | some us =>
    have h1 := wq_ty k us (by omega) hw i hi
    cases hw1 : wqTo q (k + 1) with
    | none => rw [wq_none hw1 _ (by omega)] at h; cases h
    | some vs =>
      rw [wq_succ hw] at hw1
      unfold wqStep at hw1
      split at hw1
      · rename_i hc
        obtain ⟨c1, c2, c3, c4, c5⟩ := hc
        obtain ⟨t1, t2, t3, t4, t5⟩ := h1
        intro e
        have : (qth q i).vr = (qth q k).vr := by omega
        rw [this, c5] at t5
        omega
      · cases hw1
theorem wd_same {e : List Int} {k : Int} {x : Int} (h : k.toNat < e.length) : wd (e.set k.toNat x) k = x := by
  unfold wd; simp [List.getD, h]
theorem wd_ne {e : List Int} {k j : Int} {x : Int} (h : k.toNat ≠ j.toNat) : wd (e.set k.toNat x) j = wd e j := by
  unfold wd; simp [List.getD, List.getElem?_set_ne h]
theorem env_at {q : List Qu} (hA : Ap q) (p : Nat) {i : Nat} (hi : i < q.length) (hv : (qth q i).vr.toNat < 8) : ∀ d k, k + d = i → wd (envL (q.drop k) p) (qth q i).vr = ((p / 2 ^ bitL (q.drop (i + 1)) % 2 ^ (qth q i).bits.toNat : Nat) : Int) := by
  intro d
  induction d with
  | zero =>
    intro k hk
    have : k = i := by omega
    subst this
    rw [env_drop hi]
    exact wd_same (by rw [env_len]; exact hv)
  | succ d ih =>
    intro k hk
    rw [env_drop (by omega), wd_ne (hA k i (by omega) hi)]
    exact ih (k + 1) (by omega)
theorem wdz (v : Nat) : wd (List.replicate 8 0) (v : Int) = 0 := by
  unfold wd
  rw [List.getD_eq_getElem?_getD, List.getElem?_replicate]
  split <;> rfl
theorem env_off {q : List Qu} (p : Nat) {v : Nat} : (∀ j, j < q.length → (qth q j).vr.toNat ≠ v) → ∀ d k, k + d = q.length → wd (envL (q.drop k) p) (v : Int) = 0 := by
  intro hv d
  induction d with
  | zero =>
    intro k hk
    have : k = q.length := by omega
    subst this
    rw [List.drop_length]
    exact wdz v
  | succ d ih =>
    intro k hk
    rw [env_drop (by omega), wd_ne (by rw [Int.toNat_natCast]; exact hv k (by omega))]
    exact ih (k + 1) (by omega)
def MI (q : List Qu) (p i : Nat) (M : List Int) : Prop :=
  M.length = 8 ∧ (∀ j, j < i → wd M (qth q j).vr = wd (envL q p) (qth q j).vr) ∧ ∀ v : Nat, (∀ j, j < q.length → (qth q j).vr.toNat ≠ v) → wd M (v : Int) = 0
theorem MI.zero (q : List Qu) (p : Nat) : MI q p 0 (List.replicate 8 0) :=
  ⟨by simp, fun j hj => absurd hj (by omega), fun v _ => wdz v⟩
theorem MI.again (q : List Qu) (p p' : Nat) : MI q p' 0 (envL q p) :=
  ⟨env_len _ _, fun j hj => absurd hj (by omega), fun v hv => by have := env_off (q := q) p hv q.length 0 (by omega); simpa using this⟩
theorem MI.next {q : List Qu} {p i : Nat} {M : List Int} (h : MI q p i M) (hA : Ap q) (hi : i < q.length) (hv : (qth q i).vr.toNat < 8) : MI q p (i + 1) (M.set (qth q i).vr.toNat ((p / 2 ^ bitL (q.drop (i + 1)) % 2 ^ (qth q i).bits.toNat : Nat) : Int)) := by
  obtain ⟨h1, h2, h3⟩ := h
  refine ⟨by rw [List.length_set]; exact h1, fun j hj => ?_, fun v hv' => ?_⟩
  · by_cases e : j = i
    · subst e
      rw [wd_same (by omega)]
      have := env_at hA p hi hv j 0 (by omega)
      simpa using this.symm
    · rw [wd_ne (fun e' => hA j i (by omega) hi e'.symm)]
      exact h2 j (by omega)
  · rw [wd_ne (by rw [Int.toNat_natCast]; exact hv' i hi)]
    exact h3 v hv'
theorem MI.end_ {q : List Qu} {p : Nat} {M : List Int} (h : MI q p q.length M) (hv : ∀ j, j < q.length → 0 ≤ (qth q j).vr) : M = envL q p := by
  obtain ⟨h1, h2, h3⟩ := h
  refine List.ext_getElem (by rw [h1, env_len]) fun v hv1 hv2 => ?_
  have key : wd M (v : Int) = wd (envL q p) (v : Int) := by
    by_cases hc : ∃ j, j < q.length ∧ (qth q j).vr.toNat = v
    · obtain ⟨j, hj, rfl⟩ := hc
      have := h2 j hj
      have e : (((qth q j).vr.toNat : Nat) : Int) = (qth q j).vr := by have := hv j hj; omega
      rw [e]
      exact this
    · have hn : ∀ j, j < q.length → (qth q j).vr.toNat ≠ v := fun j hj e => hc ⟨j, hj, e⟩
      rw [h3 v hn]
      have := env_off (q := q) p hn q.length 0 (by omega)
      simpa using this.symm
  unfold wd at key
  simpa [List.getD, hv1, hv2] using key
structure Fo (q : List Qu) (l : List Nd) (ws : List Int) : Prop where
  term : termOk l = true
  rt : Rt (root l)
  wid : (root l).wid = 1
  ty : Ty ws (root l)
  env : EnvOk ws (List.replicate 8 0)
  tq : ∀ x ∈ q, TyQ ws x
  ap : Ap q
theorem fo_all {q : List Qu} {l : List Nd} (h : frontOkB q l = true) : ∃ ws, Fo q l ws := by
  obtain ⟨hT, hr, ws, hw, hg⟩ := fo_of h
  have h1 := term_len hT
  have hrt := rt_all (down_of hT) (fun k hk => term_node hT hk) (l.length - 1) (by omega)
  refine ⟨ws, hT, hrt.1, hrt.2.trans hr, rest_ty (q := q) hT hg (l.length - 1) (by omega) (reach_root h1.1), env_zero ws (wq_bound _ _ hw), fun x hx => ?_, ap_of hw⟩
  obtain ⟨i, hi, rfl⟩ := List.mem_iff_getElem.1 hx
  rw [qth_get hi]
  exact wq_ty _ _ (Nat.le_refl _) hw i hi
theorem Fo.q {q : List Qu} {l : List Nd} {ws : List Int} (h : Fo q l ws) {i : Nat} (hi : i < q.length) : TyQ ws (qth q i) := by
  rw [← qth_get hi]; exact h.tq _ (List.getElem_mem hi)
def atL (q : List Qu) (l : List Nd) (p : Nat) : Bool := decide (vT (root l) (envL q p) = 1)
theorem Fo.bit {q : List Qu} {l : List Nd} {ws : List Int} (h : Fo q l ws) (p : Nat) : vT (root l) (envL q p) = if atL q l p then 1 else 0 := by
  unfold atL
  rcases ty_bit h.rt h.ty (env_ok h.env p q h.tq) h.wid with e | e <;> rw [e] <;> simp

end Go.Proofs.Ytiojfommmmggoaa.To0

/- Bits in words of 64, and how many are set: plain facts. -/
namespace Go.Proofs.Ytiojfommmmggoaa.Ta0
set_option linter.unusedVariables false

def wdN (F : Nat → Bool) : Nat → Nat
  | 0 => 0
  | k + 1 => wdN F k + (if F k then 2 ^ k else 0)
theorem wdN_lt (F : Nat → Bool) (k : Nat) : wdN F k < 2 ^ k := by
  induction k with
  | zero => simp [wdN]
  | succ k ih => unfold wdN; rw [Nat.pow_succ]; split <;> omega
theorem wdN_bit (F : Nat → Bool) (k j : Nat) : (wdN F k).testBit j = (decide (j < k) && F j) := by
  induction k with
  | zero => simp [wdN]
  | succ k ih =>
    unfold wdN
    have hl := wdN_lt F k
    split
    · rename_i h
      rw [Nat.add_comm]
      by_cases e : j = k
      · subst e; rw [Nat.testBit_two_pow_add_eq, ih]; simp [h]
      · by_cases hj : j < k
        · rw [Nat.testBit_two_pow_add_gt hj, ih]; simp [hj]; intro; omega
        · rw [Nat.testBit_lt_two_pow (Nat.lt_of_lt_of_le (by rw [Nat.pow_succ]; omega : 2 ^ k + wdN F k < 2 ^ (k + 1)) (Nat.pow_le_pow_right (by omega) (by omega)))]
          simp; intro; omega
    · rename_i h
      rw [Nat.add_zero, ih]
      by_cases e : j = k
      · subst e; simp [h]
      · have : (j < k) ↔ (j < k + 1) := by omega
        simp [this]
theorem wdN_of (x k : Nat) (F : Nat → Bool) (hx : ∀ j, x.testBit j = (decide (j < k) && F j)) : x = wdN F k :=
  Nat.eq_of_testBit_eq fun j => by rw [hx, wdN_bit]
def wd (F : Nat → Bool) (i : Nat) : Nat := wdN (fun j => F (64 * i + j)) 64
theorem wd_bit (F : Nat → Bool) (i j : Nat) : (wd F i).testBit j = (decide (j < 64) && F (64 * i + j)) := wdN_bit _ _ _
theorem wd_lt (F : Nat → Bool) (i : Nat) : wd F i < 18446744073709551616 := wdN_lt _ 64
theorem wd_of {x : Nat} {F : Nat → Bool} {i : Nat} (hx : ∀ j, x.testBit j = (decide (j < 64) && F (64 * i + j))) : x = wd F i := wdN_of _ _ _ hx
theorem wd_congr {F G : Nat → Bool} {i : Nat} (h : ∀ j, j < 64 → F (64 * i + j) = G (64 * i + j)) : wd F i = wd G i :=
  wd_of fun j => by rw [wd_bit]; by_cases hj : j < 64 <;> simp [hj, h]
theorem wd_zero {F : Nat → Bool} {i : Nat} (h : ∀ j, j < 64 → F (64 * i + j) = false) : wd F i = 0 := by
  refine (wd_of fun j => ?_).symm
  by_cases hj : j < 64 <;> simp [hj, h]
def upto (m : Nat) (F : Nat → Bool) (p : Nat) : Bool := decide (p < m) && F p
theorem upto_zero (F : Nat → Bool) (i : Nat) : wd (upto 0 F) i = 0 := wd_zero fun j _ => by simp [upto]
theorem wd_next_other (F : Nat → Bool) (k i : Nat) (h : i ≠ k / 64) : wd (upto (k + 1) F) i = wd (upto k F) i := by
  refine wd_congr fun j hj => ?_
  have e : (64 * i + j < k + 1) ↔ (64 * i + j < k) := by
    have : 64 * i + j ≠ k := by omega
    omega
  simp [upto, e]
theorem wd_next_no (F : Nat → Bool) (k i : Nat) (h : F k = false) : wd (upto (k + 1) F) i = wd (upto k F) i := by
  refine wd_congr fun j hj => ?_
  by_cases e : 64 * i + j = k
  · simp [upto, e, h]
  · have e : (64 * i + j < k + 1) ↔ (64 * i + j < k) := by omega
    simp [upto, e]
theorem wd_next_yes (F : Nat → Bool) (k : Nat) (h : F k = true) : wd (upto (k + 1) F) (k / 64) = wd (upto k F) (k / 64) ||| 2 ^ (k % 64) := by
  refine (wd_of fun j => ?_).symm
  rw [Nat.testBit_or, wd_bit, Nat.testBit_two_pow]
  by_cases hj : j < 64
  · by_cases e : k % 64 = j
    · have : 64 * (k / 64) + j = k := by omega
      simp [upto, this, h, e, hj]
    · have : (64 * (k / 64) + j < k + 1) ↔ (64 * (k / 64) + j < k) := by omega
      simp [upto, this, e, hj]
  · have : ¬ k % 64 = j := by omega
    simp [hj, this]
theorem wd_at (F : Nat → Bool) (p : Nat) : wd F (p / 64) / 2 ^ (p % 64) % 2 = (F p).toNat := by
  have h := wd_bit F (p / 64) (p % 64)
  rw [show 64 * (p / 64) + p % 64 = p by omega, decide_eq_true (by omega : p % 64 < 64), Bool.true_and] at h
  have e := Nat.testBit_eq_decide_div_mod_eq (x := wd F (p / 64)) (i := p % 64)
  rw [h] at e
  cases hF : F p
  · rw [hF] at e; have := of_decide_eq_false e.symm; simp; omega
  · rw [hF] at e; have := of_decide_eq_true e.symm; simp; omega
def use (m : Nat) : Nat := if m < 64 then 2 ^ m - 1 else 2 ^ 64 - 1
theorem use_bit (m j : Nat) : (use m).testBit j = (decide (j < 64) && decide (j < m)) := by
  unfold use
  split
  · rw [Nat.testBit_two_pow_sub_one]
    have : (j < m) ↔ (j < 64 ∧ j < m) := by omega
    by_cases h : j < m <;> simp [h] <;> omega
  · rw [Nat.testBit_two_pow_sub_one]
    by_cases h : j < 64 <;> simp [h]; omega
theorem wd_not (F : Nat → Bool) (n i : Nat) (hi : i < (2 ^ n + 63) / 64) : (18446744073709551615 - wd (upto (2 ^ n) F) i) &&& use (2 ^ n) = wd (upto (2 ^ n) fun p => !F p) i := by
  refine wd_of fun j => ?_
  rw [Nat.testBit_and, use_bit]
  have h := Nat.testBit_two_pow_sub_succ (n := 64) (x := wd (upto (2 ^ n) F) i) (wd_lt _ _) j
  rw [show 18446744073709551615 - wd (upto (2 ^ n) F) i = 2 ^ 64 - (wd (upto (2 ^ n) F) i + 1) by have := wd_lt (upto (2 ^ n) F) i; omega, h, wd_bit]
  by_cases hj : j < 64
  · by_cases hn : n < 6
    · have h6 : 2 ^ n ≤ 2 ^ 5 := Nat.pow_le_pow_right (by omega) (by omega)
      have hi0 : i = 0 := by omega
      subst hi0
      by_cases hm : j < 2 ^ n <;> simp [upto, hj, hm]
    · have hd : 2 ^ n = 64 * 2 ^ (n - 6) := by rw [show (64 : Nat) = 2 ^ 6 from rfl, ← Nat.pow_add]; congr 1; omega
      have hm : j < 2 ^ n := by have := Nat.one_le_two_pow (n := n - 6); omega
      have hp : 64 * i + j < 2 ^ n := by omega
      simp [upto, hj, hm, hp]
  · simp [hj]
end Go.Proofs.Ytiojfommmmggoaa.Ta0
