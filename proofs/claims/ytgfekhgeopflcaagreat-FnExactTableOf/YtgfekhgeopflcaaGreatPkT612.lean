/- Small texts of mine, one behind the other. -/
import Derived.Test.YtgfekhgeopflcaaGreatRows
import Derived.Deep.AppendLies
import Derived.OwnWalk
import Derived.WalkKit
import Derived.WalkSpells
import Derived.WalkLawsBesides
import Derived.Deep.QuietTactic
import Derived.BigQuiet
import Derived.Test.YtgfekhgeopflcaaGreatFr1
import Derived.Test.YtgfekhgeopflcaaGreatPkT60
import Derived.Test.YtgfekhgeopflcaaGreatPkT61
/- What is worth below quantifiers does not hang on what their own variables were; quantifiers that are right have the widths that they tell. -/
namespace Go.Proofs.YtgfekhgeopflcaaGreat.Fr4
open Nd0 Qa0 Pl1 Pl2 Tm0 Tm1 Tm5 Tm6 Tr0 Vl1 Vl2 Vm0 Fr0 Fr1
set_option linter.unusedVariables false

/-- The two agree but for the variables of q. -/
def Off (q : List Qu) (e e' : List Int) : Prop := e.length = e'.length ∧ ∀ j : Nat, (∀ x ∈ q, x.vr.toNat ≠ j) → e[j]? = e'[j]?
theorem Off.refl (q : List Qu) (e : List Int) : Off q e e := ⟨rfl, fun _ _ => rfl⟩
theorem Off.trans {q : List Qu} {e e' e'' : List Int} (h : Off q e e') (k : Off q e' e'') : Off q e e'' := ⟨h.1.trans k.1, fun j hj => (h.2 j hj).trans (k.2 j hj)⟩
theorem Off.mono {p q : List Qu} {e e' : List Int} (h : Off p e e') (hs : ∀ x ∈ p, x ∈ q) : Off q e e' := ⟨h.1, fun j hj => h.2 j (fun x hx => hj x (hs x hx))⟩
theorem Off.set {x : Qu} {q : List Qu} {e e' : List Int} (h : Off (x :: q) e e') (i : Int) : Off q (e.set x.vr.toNat i) (e'.set x.vr.toNat i) := by
  refine ⟨by rw [List.length_set, List.length_set]; exact h.1, fun j hj => ?_⟩
  by_cases hc : x.vr.toNat = j
  · subst hc
    rw [List.getElem?_set_self', List.getElem?_set_self']
    have hl := h.1
    by_cases hlt : x.vr.toNat < e.length
    · simp [hlt, show x.vr.toNat < e'.length by omega]
    · simp [show ¬ x.vr.toNat < e.length by omega, show ¬ x.vr.toNat < e'.length by omega]
  · rw [List.getElem?_set_ne hc, List.getElem?_set_ne hc]
    exact h.2 j (fun y hy => by
      rcases List.mem_cons.1 hy with rfl | hy
      · exact hc
      · exact hj y hy)
theorem Off.one {x : Qu} {q : List Qu} (e : List Int) (i : Int) : Off (x :: q) e (e.set x.vr.toNat i) :=
  ⟨by rw [List.length_set], fun j hj => by rw [List.getElem?_set_ne (hj x List.mem_cons_self)]⟩
theorem hf_off : ∀ (q : List Qu) (t : Tr) (e e' : List Int), Off q e e' → hf q t e = hf q t e' := by
  intro q t
  induction q with
  | nil =>
    intro e e' h
    have : e = e' := List.ext_getElem? (fun j => h.2 j (fun x hx => by cases hx))
    rw [this]
  | cons x q ih =>
    intro e e' h
    simp only [hf]
    have hfn : (fun i : Nat => hf q t (e.set x.vr.toNat (i : Int))) = fun i : Nat => hf q t (e'.set x.vr.toNat (i : Int)) := funext (fun i => ih _ _ (h.set _))
    rw [hfn]
/-- Right quantifiers have the widths that they tell. -/
theorem wq_ty {q : List Qu} : ∀ k ws, k ≤ q.length → wqTo q k = some ws → ∀ i, i < k → TyQ ws (qth q i) := by
  intro k
  induction k with
  | zero => intro ws _ _ i hi; exact absurd hi (Nat.not_lt_zero _)
  | succ k ih =>
    intro ws hk h i hi
    cases hq : wqTo q k with
    | none => rw [wq_none hq (k + 1) (by omega)] at h; cases h
    | some us =>
      have h8 := wq_len us hq
      rw [wq_succ hq] at h
      unfold wqStep at h
      split at h
      · rename_i hc
        cases h
        by_cases e : i = k
        · subst e
          refine ⟨hc.1, hc.2.1, hc.2.2.1, hc.2.2.2.1, ?_⟩
          unfold wd
          simp [List.getD, h8, show (qth q i).vr.toNat < 8 by omega]
        · obtain ⟨h1, h2, h3, h4, h5⟩ := ih us (by omega) hq i (by omega)
          refine ⟨h1, h2, h3, h4, ?_⟩
          have hne : (qth q k).vr.toNat ≠ (qth q i).vr.toNat := fun he => by
            have h6 : (qth q k).vr = (qth q i).vr := by omega
            have h7 := hc.2.2.2.2
            rw [h6, ← h5] at h7
            omega
          unfold wd
          rw [show (us.set (qth q k).vr.toNat (qth q k).bits).getD (qth q i).vr.toNat 0 = us.getD (qth q i).vr.toNat 0 by simp [List.getD, List.getElem?_set_ne hne]]
          exact h5
      · cases h
theorem env_zero (ws : List Int) (h : ∀ v : Nat, v < 8 → 0 ≤ wd ws (v : Int) ∧ wd ws (v : Int) ≤ 8) : EnvOk ws (List.replicate 8 0) := by
  refine ⟨by simp, fun v hv h0 => ?_⟩
  have h1 := h v hv
  have e : wd (List.replicate 8 0) (v : Int) = 0 := Tm14.wd_zeros 8 _
  rw [e]
  exact wok_zero (by omega) (by omega)
theorem wq_bound {q : List Qu} : ∀ k ws, wqTo q k = some ws → ∀ v : Nat, v < 8 → 0 ≤ wd ws (v : Int) ∧ wd ws (v : Int) ≤ 8 := by
  intro k
  induction k with
  | zero => intro ws h v hv; cases h; rw [Tm14.wd_zeros]; omega
  | succ k ih =>
    intro ws h v hv
    cases hq : wqTo q k with
    | none => rw [wq_none hq (k + 1) (by omega)] at h; cases h
    | some us =>
      have h8 := wq_len us hq
      rw [wq_succ hq] at h
      unfold wqStep at h
      split at h
      · rename_i hc
        cases h
        by_cases e : (qth q k).vr.toNat = v
        · unfold wd
          rw [Int.toNat_natCast, ← e]
          simp [List.getD, h8, show (qth q k).vr.toNat < 8 by omega]
          omega
        · have := ih us hq v hv
          unfold wd at this ⊢
          rw [Int.toNat_natCast] at this ⊢
          rw [show (us.set (qth q k).vr.toNat (qth q k).bits).getD v 0 = us.getD v 0 by simp [List.getD, List.getElem?_set_ne e]]
          exact this
      · cases h
/-- Of a right rest: its tree is of these widths. -/
theorem rest_ty {q : List Qu} {l : List Nd} {ws : List Int} (hT : termOk l = true) (hg : ∀ i, i < l.length → badF l ws i = false) : ∀ i, i < l.length → flag (reachL l) i = true → Ty ws (tr l i) := by
  have hD := Tm8.down_of hT
  intro i
  induction i using Nat.strongRecOn with
  | ind i ih =>
    intro hi hf
    have hp : ∀ p ∈ parts (nth l i), Ty ws (tr l p.toNat) := fun p hp => by
      have h1 := hD i hi p hp
      exact ih _ (by omega) (by omega) (Tm8.reach_closed hD hi hf hp)
    have hb := hg i hi
    unfold badF at hb
    rw [hf, Bool.true_and, Bool.or_eq_false_iff] at hb
    rw [tr_at hD hi]
    by_cases h1 : (nth l i).op = 2 ∨ (nth l i).op = 17 ∨ (nth l i).op = 19 ∨ (nth l i).op = 20
    · rw [parts_one h1] at hp
      rw [mk_one h1]
      exact ⟨hp _ (by simp), fun h => by rw [hb.1] at h; cases h⟩
    · by_cases h2 : 3 ≤ (nth l i).op ∧ (nth l i).op ≤ 16
      · rw [parts_two h2] at hp
        rw [mk_two h2]
        exact ⟨hp _ (by simp), hp _ (by simp)⟩
      · by_cases h3 : (nth l i).op = 18
        · rw [parts_three h3] at hp
          rw [mk_three h3]
          exact ⟨hp _ (by simp), hp _ (by simp), hp _ (by simp)⟩
        · rw [mk_leaf h1 h2 h3]
          intro h4
          have h5 := hb.2
          rw [h4] at h5
          simp at h5
          exact h5.symm

end Go.Proofs.YtgfekhgeopflcaaGreat.Fr4

/- The environment of each place of a table: plain facts. -/
namespace Go.Proofs.YtgfekhgeopflcaaGreat.To0
open Nd0 Qa0 Pl1 Tm0 Tm1 Tm6 Tm8 Tr0 Vl1 Vl2 Fr0 Fr1 Fr4
set_option linter.unusedVariables false

/-- All their bits. -/
def bitL : List Qu → Nat
  | [] => 0
  | x :: q => x.bits.toNat + bitL q
/-- What the variables are at place p. -/
def envL : List Qu → Nat → List Int
  | [], _ => List.replicate 8 0
  | x :: q, p => (envL q p).set x.vr.toNat ((p / 2 ^ bitL q % 2 ^ x.bits.toNat : Nat) : Int)
theorem env_len (q : List Qu) (p : Nat) : (envL q p).length = 8 := by
  induction q with
  | nil => simp [envL]
  | cons x q ih => simp only [envL, List.length_set]; exact ih
theorem env_ok {ws : List Int} (hz : EnvOk ws (List.replicate 8 0)) (p : Nat) : ∀ q : List Qu, (∀ x ∈ q, TyQ ws x) → EnvOk ws (envL q p) := by
  intro q
  induction q with
  | nil => intro _; exact hz
  | cons x q ih =>
    intro h
    exact EnvOk.set (h x (by simp)) (ih fun y hy => h y (by simp [hy])) (Nat.mod_lt _ (Nat.two_pow_pos _))
theorem drop_qth {q : List Qu} {i : Nat} (h : i < q.length) : q.drop i = qth q i :: q.drop (i + 1) := by
  rw [← qth_get h]; exact List.drop_eq_getElem_cons h
theorem bit_drop {q : List Qu} {i : Nat} (h : i < q.length) : bitL (q.drop i) = (qth q i).bits.toNat + bitL (q.drop (i + 1)) := by rw [drop_qth h]; rfl
theorem env_drop {q : List Qu} {i : Nat} (h : i < q.length) (p : Nat) : envL (q.drop i) p = (envL (q.drop (i + 1)) p).set (qth q i).vr.toNat ((p / 2 ^ bitL (q.drop (i + 1)) % 2 ^ (qth q i).bits.toNat : Nat) : Int) := by rw [drop_qth h]; rfl
theorem bit_bq {q : List Qu} : ∀ k n, k ≤ q.length → bqTo q k = some n → bitL q = n + bitL (q.drop k) := by
  intro k
  induction k with
  | zero => intro n _ h; cases h; simp
  | succ k ih =>
    intro n hk h
    cases hb : bqTo q k with
    | none => rw [bq_none hb (k + 1) (by omega)] at h; cases h
    | some m =>
      by_cases hc : 1 ≤ (qth q k).bits ∧ (qth q k).bits ≤ 8
      · rw [bq_succ hb hc] at h
        cases h
        rw [ih m (by omega) hb, bit_drop (by omega)]
        omega
      · rw [bq_bad hc] at h; cases h
theorem bit_all {q : List Qu} {n : Nat} (h : bqTo q q.length = some n) : bitL q = n := by
  rw [bit_bq q.length n (Nat.le_refl _) h, List.drop_length]; rfl
/-- No variable is there twice. -/
def Ap (q : List Qu) : Prop := ∀ i k, i < k → k < q.length → (qth q i).vr.toNat ≠ (qth q k).vr.toNat
theorem ap_of {q : List Qu} {ws : List Int} (h : wqTo q q.length = some ws) : Ap q := by
  intro i k hi hk
  cases hw : wqTo q k with
  | none => rw [wq_none hw _ (by omega)] at h; cases h
  | some us =>
    have h1 := wq_ty k us (by omega) hw i hi
    cases hw1 : wqTo q (k + 1) with
    | none => rw [wq_none hw1 _ (by omega)] at h; cases h
    | some vs =>
      rw [wq_succ hw] at hw1
      unfold wqStep at hw1
      split at hw1
      · rename_i hc
        obtain ⟨c1, c2, c3, c4, c5⟩ := hc
        obtain ⟨t1, t2, t3, t4, t5⟩ := h1
        intro e
        have : (qth q i).vr = (qth q k).vr := by omega
        rw [this, c5] at t5
        omega
      · cases hw1
theorem wd_same {e : List Int} {k : Int} {x : Int} (h : k.toNat < e.length) : wd (e.set k.toNat x) k = x := by
  unfold wd; simp [List.getD, h]
theorem wd_ne {e : List Int} {k j : Int} {x : Int} (h : k.toNat ≠ j.toNat) : wd (e.set k.toNat x) j = wd e j := by
  unfold wd; simp [List.getD, List.getElem?_set_ne h]
theorem env_at {q : List Qu} (hA : Ap q) (p : Nat) {i : Nat} (hi : i < q.length) (hv : (qth q i).vr.toNat < 8) : ∀ d k, k + d = i → wd (envL (q.drop k) p) (qth q i).vr = ((p / 2 ^ bitL (q.drop (i + 1)) % 2 ^ (qth q i).bits.toNat : Nat) : Int) := by
  intro d
  induction d with
  | zero =>
    intro k hk
    have : k = i := by omega
    subst this
    rw [env_drop hi]
    exact wd_same (by rw [env_len]; exact hv)
  | succ d ih =>
    intro k hk
    rw [env_drop (by omega), wd_ne (hA k i (by omega) hi)]
    exact ih (k + 1) (by omega)
theorem wdz (v : Nat) : wd (List.replicate 8 0) (v : Int) = 0 := by
  unfold wd
  rw [List.getD_eq_getElem?_getD, List.getElem?_replicate]
  split <;> rfl
theorem env_off {q : List Qu} (p : Nat) {v : Nat} : (∀ j, j < q.length → (qth q j).vr.toNat ≠ v) → ∀ d k, k + d = q.length → wd (envL (q.drop k) p) (v : Int) = 0 := by
  intro hv d
  induction d with
  | zero =>
    intro k hk
    have : k = q.length := by omega
    subst this
    rw [List.drop_length]
    exact wdz v
  | succ d ih =>
    intro k hk
    rw [env_drop (by omega), wd_ne (by rw [Int.toNat_natCast]; exact hv k (by omega))]
    exact ih (k + 1) (by omega)
/-- The model's variables while those of place p are laid: i are done. -/
def MI (q : List Qu) (p i : Nat) (M : List Int) : Prop :=
  M.length = 8 ∧ (∀ j, j < i → wd M (qth q j).vr = wd (envL q p) (qth q j).vr) ∧ ∀ v : Nat, (∀ j, j < q.length → (qth q j).vr.toNat ≠ v) → wd M (v : Int) = 0
theorem MI.zero (q : List Qu) (p : Nat) : MI q p 0 (List.replicate 8 0) :=
  ⟨by simp, fun j hj => absurd hj (by omega), fun v _ => wdz v⟩
theorem MI.again (q : List Qu) (p p' : Nat) : MI q p' 0 (envL q p) :=
  ⟨env_len _ _, fun j hj => absurd hj (by omega), fun v hv => by have := env_off (q := q) p hv q.length 0 (by omega); simpa using this⟩
theorem MI.next {q : List Qu} {p i : Nat} {M : List Int} (h : MI q p i M) (hA : Ap q) (hi : i < q.length) (hv : (qth q i).vr.toNat < 8) : MI q p (i + 1) (M.set (qth q i).vr.toNat ((p / 2 ^ bitL (q.drop (i + 1)) % 2 ^ (qth q i).bits.toNat : Nat) : Int)) := by
  obtain ⟨h1, h2, h3⟩ := h
  refine ⟨by rw [List.length_set]; exact h1, fun j hj => ?_, fun v hv' => ?_⟩
  · by_cases e : j = i
    · subst e
      rw [wd_same (by omega)]
      have := env_at hA p hi hv j 0 (by omega)
      simpa using this.symm
    · rw [wd_ne (fun e' => hA j i (by omega) hi e'.symm)]
      exact h2 j (by omega)
  · rw [wd_ne (by rw [Int.toNat_natCast]; exact hv' i hi)]
    exact h3 v hv'
theorem MI.end_ {q : List Qu} {p : Nat} {M : List Int} (h : MI q p q.length M) (hv : ∀ j, j < q.length → 0 ≤ (qth q j).vr) : M = envL q p := by
  obtain ⟨h1, h2, h3⟩ := h
  refine List.ext_getElem (by rw [h1, env_len]) fun v hv1 hv2 => ?_
  have key : wd M (v : Int) = wd (envL q p) (v : Int) := by
    by_cases hc : ∃ j, j < q.length ∧ (qth q j).vr.toNat = v
    · obtain ⟨j, hj, rfl⟩ := hc
      have := h2 j hj
      have e : (((qth q j).vr.toNat : Nat) : Int) = (qth q j).vr := by have := hv j hj; omega
      rw [e]
      exact this
    · have hn : ∀ j, j < q.length → (qth q j).vr.toNat ≠ v := fun j hj e => hc ⟨j, hj, e⟩
      rw [h3 v hn]
      have := env_off (q := q) p hn q.length 0 (by omega)
      simpa using this.symm
  unfold wd at key
  simpa [List.getD, hv1, hv2] using key
/-- What stands of a right front. -/
structure Fo (q : List Qu) (l : List Nd) (ws : List Int) : Prop where
  term : termOk l = true
  rt : Rt (root l)
  wid : (root l).wid = 1
  ty : Ty ws (root l)
  env : EnvOk ws (List.replicate 8 0)
  tq : ∀ x ∈ q, TyQ ws x
  ap : Ap q
theorem fo_all {q : List Qu} {l : List Nd} (h : frontOkB q l = true) : ∃ ws, Fo q l ws := by
  obtain ⟨hT, hr, ws, hw, hg⟩ := fo_of h
  have h1 := term_len hT
  have hrt := rt_all (down_of hT) (fun k hk => term_node hT hk) (l.length - 1) (by omega)
  refine ⟨ws, hT, hrt.1, hrt.2.trans hr, rest_ty (q := q) hT hg (l.length - 1) (by omega) (reach_root h1.1), env_zero ws (wq_bound _ _ hw), fun x hx => ?_, ap_of hw⟩
  obtain ⟨i, hi, rfl⟩ := List.mem_iff_getElem.1 hx
  rw [qth_get hi]
  exact wq_ty _ _ (Nat.le_refl _) hw i hi
theorem Fo.q {q : List Qu} {l : List Nd} {ws : List Int} (h : Fo q l ws) {i : Nat} (hi : i < q.length) : TyQ ws (qth q i) := by
  rw [← qth_get hi]; exact h.tq _ (List.getElem_mem hi)
/-- What the rest is worth at place p. -/
def atL (q : List Qu) (l : List Nd) (p : Nat) : Bool := decide (vT (root l) (envL q p) = 1)
theorem Fo.bit {q : List Qu} {l : List Nd} {ws : List Int} (h : Fo q l ws) (p : Nat) : vT (root l) (envL q p) = if atL q l p then 1 else 0 := by
  unfold atL
  rcases ty_bit h.rt h.ty (env_ok h.env p q h.tq) h.wid with e | e <;> rw [e] <;> simp

end Go.Proofs.YtgfekhgeopflcaaGreat.To0

/- Lists of Quants that are appended to: the law at the walk, and how they are read. Written by tools/mkflat.py. -/
namespace Go.Proofs.YtgfekhgeopflcaaGreat.Qa2
open Go.RowKit
open Nd0 Qa0
set_option linter.unusedVariables false

theorem infoAQu : (Tryz.prog.info? 45).map (fun i => (i.zero, i.size, i.bytes)) = some (some (.agg #[.bool false, .int .i64 0, .int .i64 0]), 3, 24) := by kernel_rfl
def flatQu (l : List Qu) : List Value := l.flatMap Qu.cells
theorem cellsQu_length (n : Qu) : n.cells.length = 3 := rfl
theorem flatQu_get (l : List Qu) : ∀ (i : Nat) (h : i < l.length) (j : Nat), j < 3 → (flatQu l)[i * 3 + j]? = (l[i].cells)[j]? := by
  induction l with
  | nil => intro i h; exact absurd h (Nat.not_lt_zero _)
  | cons n l ih =>
    intro i h j hj
    show (n.cells ++ flatQu l)[i * 3 + j]? = _
    cases i with
    | zero => rw [Nat.zero_mul, Nat.zero_add, List.getElem?_append_left (by rw [cellsQu_length]; exact hj)]; rfl
    | succ i =>
      rw [List.getElem?_append_right (by rw [cellsQu_length]; omega), cellsQu_length, show (i + 1) * 3 + j - 3 = i * 3 + j by omega]
      exact ih i (by simpa using h) j hj
theorem flatQu_snoc (l : List Qu) (n : Qu) : flatQu (l ++ [n]) = flatQu l ++ n.cells := by simp [flatQu]
def OwQu (w : World) (B : Nat) (v : Value) (l : List Qu) : Prop := w.ownsRow B 45 3 v l.length (flatQu l)
theorem OwQu.form {w : World} {B : Nat} {v : Value} {l : List Qu} (h : OwQu w B v l) : ∃ a c, v = .slice a l.length c ∧ WQus w B a l ∧ l.length ≤ c := by
  obtain ⟨h1, h2⟩ := h
  rcases h2 with ⟨rfl, h0⟩ | ⟨g, cap, cur, rfl, hb, hg, hn, hm, hs, ht⟩
  · have : l = [] := List.eq_nil_of_length_eq_zero h0
    subst this
    exact ⟨none, 0, rfl, ⟨Nat.zero_le _, .inl rfl⟩, Nat.zero_le _⟩
  · have hcell : ∀ j, j < l.length * 3 → w.cell? ⟨g, j, none⟩ = (flatQu l)[j]? := by
      intro j hj
      rw [cell_of_row w g j cur _ _ hg, ← ht, List.getElem?_take_of_lt hj]
      simp
    refine ⟨_, _, rfl, ⟨by omega, .inr ⟨g, 0, rfl, hb, fun i hi => ?_, fun j hj => ?_⟩⟩, by omega⟩
    · have hf := flatQu_get l i hi
      rw [Nat.zero_add]
      exact ⟨by rw [hcell _ (by omega)]; exact hf 0 (by omega), by rw [hcell _ (by omega)]; exact hf 1 (by omega), by rw [hcell _ (by omega)]; exact hf 2 (by omega)⟩
    · rw [Nat.zero_add]
      simp [World.frozen?, hg]
theorem OwQu.lit (w : World) (B : Nat) (hB : B ≤ w.heap.size) : OwQu (w.alloc (.cells #[] 45)) B (.slice (some ⟨w.heap.size, 0, none⟩) 0 0) [] :=
  World.ownsRow_lit w #[] 0 hB (Nat.zero_le _) rfl
theorem OwQu.lt {w : World} {B : Nat} {v : Value} {l : List Qu} (h : OwQu w B v l) : ∀ k, v.ownBlock = some k → B ≤ k ∧ k < w.heap.size := World.ownsRow.lt h
theorem OwQu.kept {w w' : World} {B : Nat} {v : Value} {l : List Qu} (h : OwQu w B v l) {S : Nat → Prop} (k : Kept S w w') (hs : ∀ i, v.ownBlock = some i → ¬ S i) : OwQu w' B v l := by
  refine ⟨h.1, ?_⟩
  rcases h.2 with hn | ⟨g, cap, cur, rfl, hb, hgg, rest⟩
  · exact .inl hn
  · refine .inr ⟨g, cap, cur, rfl, hb, ?_, rest⟩
    rw [k.block g (Array.getElem?_eq_some_iff.1 hgg).1 (hs g rfl)]
    exact hgg
/-- One more. -/
theorem appQu {ops : Array Oper} {rest : List Oper} {o : Oper} {a : Act} {Q : Exit → Act → World → Prop} (W : World) (hgd : o.guard = none) (s x : Operand)
    (ho : o.op = .call { callee := .builtin .append, args := #[s, x], argTypes := #[30, 30] })
    (B : Nat) (v : Value) (l : List Qu) (y : Qu) (hs : a.eval s = v) (G : Nat) (hx : a.eval x = .slice (some ⟨G, 0, none⟩) 1 1) (hG : G = W.heap.size)
    (hown : OwQu W B v l) (hB : B ≤ W.heap.size) (hlen : l.length ≤ 1048576)
    (h : ∀ g cap w', OwQu w' B (.slice (some ⟨g, 0, none⟩) (l.length + 1) cap) (l ++ [y]) → Kept (fun k => v.ownBlock = some k) W w' → (v.ownBlock = some g ∨ W.heap.size ≤ g) → wpList Tryz.prog ops Q rest (a.put o.dst (.slice (some ⟨g, 0, none⟩) (l.length + 1) cap)) w') :
    wpList Tryz.prog ops Q (o :: rest) a (W.alloc (.cells #[.bool y.all, .int .i64 y.vr, .int .i64 y.bits] 45)) := by
  subst hG
  obtain ⟨i, hi, hzz⟩ := Option.map_eq_some_iff.1 infoAQu
  simp only [Prod.mk.injEq] at hzz
  obtain ⟨hz, hsz, hb⟩ := hzz
  refine wpList_append_lies (W.alloc (.cells #[.bool y.all, .int .i64 y.vr, .int .i64 y.bits] 45)) hgd s x 30 ho B 45 i _ 3 24 Tryz.underlying30 hi hz hsz hb rfl (by omega) v l.length (flatQu l) hs (World.ownsRow.alloc hown _)
    ⟨W.heap.size, 0, none⟩ 1 1 y.cells hx rfl ?_ ?_ (by omega) (by unfold maxLen; omega) (by omega) (by simp; omega) _ rfl ?_
  · intro j u hu
    exact World.news_of_block (heap_alloc_new W _) j u hu
  · intro u hu
    simp [Qu.cells] at hu
    rcases hu with rfl | rfl | rfl <;> rfl
  · intro g cap w' h1 h2 h3 h4
    refine h g cap w' ?_ ?_ ?_
    · unfold OwQu
      rw [flatQu_snoc, List.length_append]
      exact h1
    · have k1 : Kept (fun k => v.ownBlock = some k) W (W.alloc (.cells #[.bool y.all, .int .i64 y.vr, .int .i64 y.bits] 45)) := (Kept.refl _ W).alloc _
      exact k1.trans ⟨h2.os, h2.tape, h2.output, h2.size, fun k hk hn => h2.block k hk (fun e => hn e.symm)⟩
    · rcases h3 with h3 | h3
      · exact .inl h3
      · exact .inr (by rw [h3]; simp)

end Go.Proofs.YtgfekhgeopflcaaGreat.Qa2

/- Walks of the model's powers of two and of its test of words. -/
namespace Go.Proofs.YtgfekhgeopflcaaGreat.Ws1
open Go.RowKit
open Pl1
set_option linter.unusedVariables false

theorem ret_int {k : IntKind} {a b : Int} (h : a = b) : Ending.returned (.int k a) = .returned (.int k b) := by rw [h]
theorem ret_bool {a b : Bool} (h : a = b) : Ending.returned (.bool a) = .returned (.bool b) := by rw [h]

set_option maxHeartbeats 400000 in
theorem spow (m : Int) (w : World) (h0 : 0 ≤ m) (h1 : m ≤ 8) :
    Calls Tryz.prog 16 #[.int .i64 m] w fun e w' => e = .returned (.int .i64 (p2 m.toNat)) ∧ w' = w := by
  obtain ⟨n, rfl⟩ := Int.eq_ofNat_of_zero_le h0
  rw [Int.toNat_natCast]
  go_enter Tryz.func16, Tryz.ntmps16
  go_wp2
  go_loop [3, 4] (fun x i => ∃ k : Nat, k ≤ n ∧ i = .int .i64 k ∧ x = .int .i64 (p2 k)) (fun _ i => n - (intOf i).toNat)
  case atStart => exact ⟨0, Nat.zero_le _, rfl, rfl⟩
  case round =>
    obtain ⟨k, hk, rfl, rfl⟩ := hrel
    have hp := p2_pos k
    have hl := p2_le k (by omega)
    by_cases hlt : k < n
    · go_wp2
      go_round
      case rel => exact ⟨k + 1, by omega, by go_num, by rw [p2_succ]⟩
      case measure => simp [intOf]; omega
    · go_wp2
      go_ret
      have : k = n := by omega
      subst this
      exact ⟨rfl, rfl⟩

set_option maxHeartbeats 400000 in
theorem sIn (x a b : Int) (w : World) :
    Calls Tryz.prog 30 #[.int .i64 x, .int .i64 a, .int .i64 b] w fun e w' => e = .returned (.bool (decide (a ≤ x ∧ x ≤ b))) ∧ w' = w := by
  by_cases h1 : a ≤ x <;> by_cases h2 : x ≤ b
  all_goals
    go_enter Tryz.func30, Tryz.ntmps30
    go_wp2
    go_ret
    exact ⟨ret_bool (by simp <;> omega), rfl⟩

set_option maxHeartbeats 400000 in
theorem sWordOk (m a : Int) (w : World) :
    Calls Tryz.prog 55 #[.int .i64 m, .int .i64 a] w fun e w' => e = .returned (.bool (wok m a)) ∧ w' = w := by
  by_cases h : 1 ≤ m ∧ m ≤ 8
  · have hp := p2_pos m.toNat
    have hl := p2_le m.toNat (by omega)
    have hd : decide (1 ≤ m ∧ m ≤ 8) = true := by simpa using h
    go_enter Tryz.func55, Tryz.ntmps55
    go_wp2_with (first | (go_at_call 30; refine (sIn _ _ _ _).mono ?_; rintro e w' ⟨rfl, rfl⟩) | (go_at_call 16; refine (spow m _ (by omega) (by omega)).mono ?_; rintro e w' ⟨rfl, rfl⟩))
    go_ret
    exact ⟨ret_bool (by rw [Bool.eq_iff_iff]; simp [wok]; omega), rfl⟩
  · have hd : decide (1 ≤ m ∧ m ≤ 8) = false := by simpa using h
    go_enter Tryz.func55, Tryz.ntmps55
    go_wp2_with (go_at_call 30; refine (sIn _ _ _ _).mono ?_; rintro e w' ⟨rfl, rfl⟩)
    go_ret
    exact ⟨ret_bool (by unfold wok; symm; rw [decide_eq_false_iff_not]; omega), rfl⟩

end Go.Proofs.YtgfekhgeopflcaaGreat.Ws1

/- Walks of the exact laws' helpers on single nodes. -/
namespace Go.Proofs.YtgfekhgeopflcaaGreat.Nd1
open Go.RowKit
set_option linter.unusedVariables false

theorem ret_bool {a b : Bool} (h : a = b) : Ending.returned (.bool a) = .returned (.bool b) := by rw [h]

set_option maxHeartbeats 1000000 in
theorem toNode (o m k a b c : Int) (w : World) :
    Calls Tryz.prog 19 #[.agg #[.int .i64 o, .int .i64 m, .int .i64 k, .int .i64 a, .int .i64 b, .int .i64 c]] w fun e w' => e = .returned (.agg #[.int .i64 o, .int .i64 m, .int .i64 k, .int .i64 a, .int .i64 b, .int .i64 c]) ∧ Below w.heap.size w w' := by
  go_enter Tryz.func19, Tryz.ntmps19
  go_wp2
  refine bodyPost_ret (v := .agg #[.int .i64 o, .int .i64 m, .int .i64 k, .int .i64 a, .int .i64 b, .int .i64 c]) (by simp [results, Tryz.results19, go_sem]) rfl ⟨rfl, ?_⟩
  exact (((Below.refl _ _).alloc (Nat.le_refl _) _).alloc (by simp) _).alloc (by simp; omega) _

set_option maxHeartbeats 1000000 in
theorem eqNode (o m k a b c o' m' k' a' b' c' : Int) (r : Bool) (hr : r = decide (o = o' ∧ m = m' ∧ k = k' ∧ a = a' ∧ b = b' ∧ c = c')) (w : World) :
    Calls Tryz.prog 29 #[.agg #[.int .i64 o, .int .i64 m, .int .i64 k, .int .i64 a, .int .i64 b, .int .i64 c], .agg #[.int .i64 o', .int .i64 m', .int .i64 k', .int .i64 a', .int .i64 b', .int .i64 c']] w fun e w' => e = .returned (.bool r) ∧ Below w.heap.size w w' := by
  have HR : Hid (r = decide (o = o' ∧ m = m' ∧ k = k' ∧ a = a' ∧ b = b' ∧ c = c')) := hr
  clear hr
  go_enter Tryz.func29, Tryz.ntmps29
  go_wp2
  all_goals
    go_ret
    refine ⟨ret_bool ?_, ((Below.refl _ _).alloc (Nat.le_refl _) _).alloc (by simp) _⟩
    rw [HR.out]
    simp_all

end Go.Proofs.YtgfekhgeopflcaaGreat.Nd1
