/- Small texts of mine, one behind the other. -/
import Derived.Deep.Upon
import Derived.Test.YtbnjndloeflgiaaGreatRows
import Derived.WalkKit
import Derived.WalkSpells
import Derived.WalkLawsBesides
import Derived.Test.YtbnjndloeflgiaaGreatPkTA4
import Derived.Test.YtbnjndloeflgiaaGreatPkTA0
import Derived.Test.YtbnjndloeflgiaaGreatPkTA6
import Derived.Test.YtbnjndloeflgiaaGreatPkTA2
/- What is worth below quantifiers does not hang on what their own variables were; quantifiers that are right have the widths that they tell. -/
namespace Go.Proofs.YtbnjndloeflgiaaGreat.Fr4
open Nd0 Qa0 Pl1 Pl2 Tm0 Tm1 Tm5 Tm6 Tr0 Vl1 Vl2 Vm0 Fr0 Fr1
set_option linter.unusedVariables false

theorem wq_ty {q : List Qu} : ∀ k ws, k ≤ q.length → wqTo q k = some ws → ∀ i, i < k → TyQ ws (qth q i) := by
  intro k
  induction k with
  | zero => intro ws _ _ i hi; exact absurd hi (Nat.not_lt_zero _)
  | succ k ih =>
    intro ws hk h i hi
    cases hq : wqTo q k with
    | none => rw [wq_none hq (k + 1) (by omega)] at h; cases h
    | some us =>
      have h8 := wq_len us hq
      rw [wq_succ hq] at h
      unfold wqStep at h
      split at h
      · rename_i hc
        cases h
        by_cases e : i = k
        · subst e
          refine ⟨hc.1, hc.2.1, hc.2.2.1, hc.2.2.2.1, ?_⟩
          unfold wd
          simp [List.getD, h8, show (qth q i).vr.toNat < 8 by omega]
        · obtain ⟨h1, h2, h3, h4, h5⟩ := ih us (by omega) hq i (by omega)
          refine ⟨h1, h2, h3, h4, ?_⟩
          have hne : (qth q k).vr.toNat ≠ (qth q i).vr.toNat := fun he => by
            have h6 : (qth q k).vr = (qth q i).vr := by omega
            have h7 := hc.2.2.2.2
            rw [h6, ← h5] at h7
            omega
          unfold wd
          rw [show (us.set (qth q k).vr.toNat (qth q k).bits).getD (qth q i).vr.toNat 0 = us.getD (qth q i).vr.toNat 0 by simp [List.getD, List.getElem?_set_ne hne]]
          exact h5
      · cases h
theorem env_zero (ws : List Int) (h : ∀ v : Nat, v < 8 → 0 ≤ wd ws (v : Int) ∧ wd ws (v : Int) ≤ 8) : EnvOk ws (List.replicate 8 0) := by
  refine ⟨by simp, fun v hv h0 => ?_⟩
  have h1 := h v hv
  have e : wd (List.replicate 8 0) (v : Int) = 0 := Tm14.wd_zeros 8 _
  rw [e]
  exact wok_zero (by omega) (by omega)
theorem wq_bound {q : List Qu} : ∀ k ws, wqTo q k = some ws → ∀ v : Nat, v < 8 → 0 ≤ wd ws (v : Int) ∧ wd ws (v : Int) ≤ 8 := by
  intro k
  induction k with
  | zero => intro ws h v hv; cases h; rw [Tm14.wd_zeros]; omega
  | succ k ih =>
    intro ws h v hv
    cases hq : wqTo q k with
    | none => rw [wq_none hq (k + 1) (by omega)] at h; cases h
    | some us =>
      have h8 := wq_len us hq
      rw [wq_succ hq] at h
      unfold wqStep at h
      split at h
      · rename_i hc
        cases h
        by_cases e : (qth q k).vr.toNat = v
        · unfold wd
          rw [Int.toNat_natCast, ← e]
          simp [List.getD, h8, show (qth q k).vr.toNat < 8 by omega]
          omega
        · have := ih us hq v hv
          unfold wd at this ⊢
          rw [Int.toNat_natCast] at this ⊢
          rw [show (us.set (qth q k).vr.toNat (qth q k).bits).getD v 0 = us.getD v 0 by simp [List.getD, List.getElem?_set_ne e]]
          exact this
      · cases h
theorem rest_ty {q : List Qu} {l : List Nd} {ws : List Int} (hT : termOk l = true) (hg : ∀ i, i < l.length → badF l ws i = false) : ∀ i, i < l.length → flag (reachL l) i = true → Ty ws (tr l i) := by
  have hD := Tm8.down_of hT
  intro i
  induction i using Nat.strongRecOn with
  | ind i ih =>
    intro hi hf
    have hp : ∀ p ∈ parts (nth l i), Ty ws (tr l p.toNat) := fun p hp => by
      have h1 := hD i hi p hp
      exact ih _ (by omega) (by omega) (Tm8.reach_closed hD hi hf hp)
    have hb := hg i hi
    unfold badF at hb
    rw [hf, Bool.true_and, Bool.or_eq_false_iff] at hb
    rw [tr_at hD hi]
    by_cases h1 : (nth l i).op = 2 ∨ (nth l i).op = 17 ∨ (nth l i).op = 19 ∨ (nth l i).op = 20
    · rw [parts_one h1] at hp
      rw [mk_one h1]
      exact ⟨hp _ (by simp), fun h => by rw [hb.1] at h; cases h⟩
    · by_cases h2 : 3 ≤ (nth l i).op ∧ (nth l i).op ≤ 16
      · rw [parts_two h2] at hp
        rw [mk_two h2]
        exact ⟨hp _ (by simp), hp _ (by simp)⟩
      · by_cases h3 : (nth l i).op = 18
        · rw [parts_three h3] at hp
          rw [mk_three h3]
          exact ⟨hp _ (by simp), hp _ (by simp), hp _ (by simp)⟩
        · rw [mk_leaf h1 h2 h3]
          intro h4
          have h5 := hb.2
          rw [h4] at h5
          simp at h5
          exact h5.symm

end Go.Proofs.YtbnjndloeflgiaaGreat.Fr4

/- The environment of each place of a table: plain facts. -/
namespace Go.Proofs.YtbnjndloeflgiaaGreat.To0
open Nd0 Qa0 Pl1 Tm0 Tm1 Tm6 Tm8 Tr0 Vl1 Vl2 Fr0 Fr1 Fr4
set_option linter.unusedVariables false

def bitL : List Qu → Nat
  | [] => 0
  | x :: q => x.bits.toNat + bitL q
def envL : List Qu → Nat → List Int
  | [], _ => List.replicate 8 0
  | x :: q, p => (envL q p).set x.vr.toNat ((p / 2 ^ bitL q % 2 ^ x.bits.toNat : Nat) : Int)
theorem env_len (q : List Qu) (p : Nat) : (envL q p).length = 8 := by
  induction q with
  | nil => simp [envL]
  | cons x q ih => simp only [envL, List.length_set]; exact ih
theorem env_ok {ws : List Int} (hz : EnvOk ws (List.replicate 8 0)) (p : Nat) : ∀ q : List Qu, (∀ x ∈ q, TyQ ws x) → EnvOk ws (envL q p) := by
  intro q
  induction q with
  | nil => intro _; exact hz
  | cons x q ih =>
    intro h
    exact EnvOk.set (h x (by simp)) (ih fun y hy => h y (by simp [hy])) (Nat.mod_lt _ (Nat.two_pow_pos _))
theorem drop_qth {q : List Qu} {i : Nat} (h : i < q.length) : q.drop i = qth q i :: q.drop (i + 1) := by
  rw [← qth_get h]; exact List.drop_eq_getElem_cons h
theorem bit_drop {q : List Qu} {i : Nat} (h : i < q.length) : bitL (q.drop i) = (qth q i).bits.toNat + bitL (q.drop (i + 1)) := by rw [drop_qth h]; rfl
theorem env_drop {q : List Qu} {i : Nat} (h : i < q.length) (p : Nat) : envL (q.drop i) p = (envL (q.drop (i + 1)) p).set (qth q i).vr.toNat ((p / 2 ^ bitL (q.drop (i + 1)) % 2 ^ (qth q i).bits.toNat : Nat) : Int) := by rw [drop_qth h]; rfl
theorem bit_bq {q : List Qu} : ∀ k n, k ≤ q.length → bqTo q k = some n → bitL q = n + bitL (q.drop k) := by
  intro k
  induction k with
  | zero => intro n _ h; cases h; simp
  | succ k ih =>
    intro n hk h
    cases hb : bqTo q k with
    | none => rw [bq_none hb (k + 1) (by omega)] at h; cases h
    | some m =>
      by_cases hc : 1 ≤ (qth q k).bits ∧ (qth q k).bits ≤ 8
      · rw [bq_succ hb hc] at h
        cases h
        rw [ih m (by omega) hb, bit_drop (by omega)]
        omega
      · rw [bq_bad hc] at h; cases h
theorem bit_all {q : List Qu} {n : Nat} (h : bqTo q q.length = some n) : bitL q = n := by
  rw [bit_bq q.length n (Nat.le_refl _) h, List.drop_length]; rfl
def Ap (q : List Qu) : Prop := ∀ i k, i < k → k < q.length → (qth q i).vr.toNat ≠ (qth q k).vr.toNat
theorem ap_of {q : List Qu} {ws : List Int} (h : wqTo q q.length = some ws) : Ap q := by
  intro i k hi hk
  cases hw : wqTo q k with
  | none => rw [wq_none hw _ (by omega)] at h; cases h
  | some us =>
    have h1 := wq_ty k us (by omega) hw i hi
    cases hw1 : wqTo q (k + 1) with
    | none => rw [wq_none hw1 _ (by omega)] at h; cases h
    | some vs =>
      rw [wq_succ hw] at hw1
      unfold wqStep at hw1
      split at hw1
      · rename_i hc
        obtain ⟨c1, c2, c3, c4, c5⟩ := hc
        obtain ⟨t1, t2, t3, t4, t5⟩ := h1
        intro e
        have : (qth q i).vr = (qth q k).vr := by omega
        rw [this, c5] at t5
        omega
      · cases hw1
theorem wd_same {e : List Int} {k : Int} {x : Int} (h : k.toNat < e.length) : wd (e.set k.toNat x) k = x := by
  unfold wd; simp [List.getD, h]
theorem wd_ne {e : List Int} {k j : Int} {x : Int} (h : k.toNat ≠ j.toNat) : wd (e.set k.toNat x) j = wd e j := by
  unfold wd; simp [List.getD, List.getElem?_set_ne h]
theorem env_at {q : List Qu} (hA : Ap q) (p : Nat) {i : Nat} (hi : i < q.length) (hv : (qth q i).vr.toNat < 8) : ∀ d k, k + d = i → wd (envL (q.drop k) p) (qth q i).vr = ((p / 2 ^ bitL (q.drop (i + 1)) % 2 ^ (qth q i).bits.toNat : Nat) : Int) := by
  intro d
  induction d with
  | zero =>
    intro k hk
    have : k = i := by omega
    subst this
    rw [env_drop hi]
    exact wd_same (by rw [env_len]; exact hv)
  | succ d ih =>
    intro k hk
    rw [env_drop (by omega), wd_ne (hA k i (by omega) hi)]
    exact ih (k + 1) (by omega)
theorem wdz (v : Nat) : wd (List.replicate 8 0) (v : Int) = 0 := by
  unfold wd
  rw [List.getD_eq_getElem?_getD, List.getElem?_replicate]
  split <;> rfl
theorem env_off {q : List Qu} (p : Nat) {v : Nat} : (∀ j, j < q.length → (qth q j).vr.toNat ≠ v) → ∀ d k, k + d = q.length → wd (envL (q.drop k) p) (v : Int) = 0 := by
  intro hv d
  induction d with
  | zero =>
    intro k hk
    have : k = q.length := by omega
    subst this
    rw [List.drop_length]
    exact wdz v
  | succ d ih =>
    intro k hk
    rw [env_drop (by omega), wd_ne (by rw [Int.toNat_natCast]; exact hv k (by omega))]
    exact ih (k + 1) (by omega)
def MI (q : List Qu) (p i : Nat) (M : List Int) : Prop :=
  M.length = 8 ∧ (∀ j, j < i → wd M (qth q j).vr = wd (envL q p) (qth q j).vr) ∧ ∀ v : Nat, (∀ j, j < q.length → (qth q j).vr.toNat ≠ v) → wd M (v : Int) = 0
theorem MI.zero (q : List Qu) (p : Nat) : MI q p 0 (List.replicate 8 0) :=
  ⟨by simp, fun j hj => absurd hj (by omega), fun v _ => wdz v⟩
theorem MI.again (q : List Qu) (p p' : Nat) : MI q p' 0 (envL q p) :=
  ⟨env_len _ _, fun j hj => absurd hj (by omega), fun v hv => by have := env_off (q := q) p hv q.length 0 (by omega); simpa using this⟩
theorem MI.next {q : List Qu} {p i : Nat} {M : List Int} (h : MI q p i M) (hA : Ap q) (hi : i < q.length) (hv : (qth q i).vr.toNat < 8) : MI q p (i + 1) (M.set (qth q i).vr.toNat ((p / 2 ^ bitL (q.drop (i + 1)) % 2 ^ (qth q i).bits.toNat : Nat) : Int)) := by
  obtain ⟨h1, h2, h3⟩ := h
  refine ⟨by rw [List.length_set]; exact h1, fun j hj => ?_, fun v hv' => ?_⟩
  · by_cases e : j = i
    · subst e
      rw [wd_same (by omega)]
      have := env_at hA p hi hv j 0 (by omega)
      simpa using this.symm
    · rw [wd_ne (fun e' => hA j i (by omega) hi e'.symm)]
      exact h2 j (by omega)
  · rw [wd_ne (by rw [Int.toNat_natCast]; exact hv' i hi)]
    exact h3 v hv'
theorem MI.end_ {q : List Qu} {p : Nat} {M : List Int} (h : MI q p q.length M) (hv : ∀ j, j < q.length → 0 ≤ (qth q j).vr) : M = envL q p := by
  obtain ⟨h1, h2, h3⟩ := h
  refine List.ext_getElem (by rw [h1, env_len]) fun v hv1 hv2 => ?_
  have key : wd M (v : Int) = wd (envL q p) (v : Int) := by
    by_cases hc : ∃ j, j < q.length ∧ (qth q j).vr.toNat = v
    · obtain ⟨j, hj, rfl⟩ := hc
      have := h2 j hj
      have e : (((qth q j).vr.toNat : Nat) : Int) = (qth q j).vr := by have := hv j hj; omega
      rw [e]
      exact this
    · have hn : ∀ j, j < q.length → (qth q j).vr.toNat ≠ v := fun j hj e => hc ⟨j, hj, e⟩
      rw [h3 v hn]
      have := env_off (q := q) p hn q.length 0 (by omega)
      simpa using this.symm
  unfold wd at key
  simpa [List.getD, hv1, hv2] using key
structure Fo (q : List Qu) (l : List Nd) (ws : List Int) : Prop where
  term : termOk l = true
  rt : Rt (root l)
  wid : (root l).wid = 1
  ty : Ty ws (root l)
  env : EnvOk ws (List.replicate 8 0)
  tq : ∀ x ∈ q, TyQ ws x
  ap : Ap q
theorem fo_all {q : List Qu} {l : List Nd} (h : frontOkB q l = true) : ∃ ws, Fo q l ws := by
  obtain ⟨hT, hr, ws, hw, hg⟩ := fo_of h
  have h1 := term_len hT
  have hrt := rt_all (down_of hT) (fun k hk => term_node hT hk) (l.length - 1) (by omega)
  refine ⟨ws, hT, hrt.1, hrt.2.trans hr, rest_ty (q := q) hT hg (l.length - 1) (by omega) (reach_root h1.1), env_zero ws (wq_bound _ _ hw), fun x hx => ?_, ap_of hw⟩
  obtain ⟨i, hi, rfl⟩ := List.mem_iff_getElem.1 hx
  rw [qth_get hi]
  exact wq_ty _ _ (Nat.le_refl _) hw i hi
theorem Fo.q {q : List Qu} {l : List Nd} {ws : List Int} (h : Fo q l ws) {i : Nat} (hi : i < q.length) : TyQ ws (qth q i) := by
  rw [← qth_get hi]; exact h.tq _ (List.getElem_mem hi)
def atL (q : List Qu) (l : List Nd) (p : Nat) : Bool := decide (vT (root l) (envL q p) = 1)
theorem Fo.bit {q : List Qu} {l : List Nd} {ws : List Int} (h : Fo q l ws) (p : Nat) : vT (root l) (envL q p) = if atL q l p then 1 else 0 := by
  unfold atL
  rcases ty_bit h.rt h.ty (env_ok h.env p q h.tq) h.wid with e | e <;> rw [e] <;> simp

end Go.Proofs.YtbnjndloeflgiaaGreat.To0

/- Walks of the program's small tests of operators, of words, and of its Parts. -/
namespace Go.Proofs.YtbnjndloeflgiaaGreat.Pg1
open Go.RowKit
open Nd0 Tm0 Tm5 Pl1 Ap0
open Ws1 (ret_int ret_bool)
set_option linter.unusedVariables false

def cnt (op : Int) : Nat := if op = 2 ∨ op = 17 ∨ op = 19 ∨ op = 20 then 1 else if 3 ≤ op ∧ op ≤ 16 then 2 else if op = 18 then 3 else 0
theorem cnt_parts (n : Nd) : (parts n).length = cnt n.op := by
  unfold parts cnt; split
  · rfl
  · split
    · rfl
    · split <;> rfl
theorem cnt_le (op : Int) : cnt op ≤ 3 := by unfold cnt; split; omega; split; omega; split <;> omega
def numbered (op : Int) : Bool := op == 0 || op == 1 || op == 17 || quant op

set_option maxHeartbeats 400000 in
theorem iWidthOk (m : Int) (w : World) :
    Calls Tryz.prog 48 #[.int .i64 m] w fun e w' => e = .returned (.bool (decide (1 ≤ m ∧ m ≤ 8))) ∧ w' = w := by
  by_cases h1 : 1 ≤ m <;> by_cases h2 : m ≤ 8
  all_goals
    go_enter Tryz.func48, Tryz.ntmps48
    go_wp2
    go_ret
    exact ⟨ret_bool (by simp <;> omega), rfl⟩

set_option maxHeartbeats 400000 in
theorem iWordOk (m a : Int) (w : World) :
    Calls Tryz.prog 94 #[.int .i64 m, .int .i64 a] w fun e w' => e = .returned (.bool (wok m a)) ∧ w' = w := by
  by_cases h : 1 ≤ m ∧ m ≤ 8
  · have hd : decide (1 ≤ m ∧ m ≤ 8) = true := by simpa using h
    by_cases ha : 0 ≤ a
    all_goals
      go_enter Tryz.func94, Tryz.ntmps94
      go_wp2_with (go_at_call 48; refine (iWidthOk _ _).mono ?_; rintro e w' ⟨rfl, rfl⟩)
      go_ret
      exact ⟨ret_bool (by rw [Bool.eq_iff_iff]; try rw [wrap_p2 _ (by omega)]
                          simp [wok]; omega), rfl⟩
  · have hd : decide (1 ≤ m ∧ m ≤ 8) = false := by simpa using h
    go_enter Tryz.func94, Tryz.ntmps94
    go_wp2_with (go_at_call 48; refine (iWidthOk _ _).mono ?_; rintro e w' ⟨rfl, rfl⟩)
    go_ret
    exact ⟨ret_bool (by unfold wok; symm; rw [decide_eq_false_iff_not]; omega), rfl⟩

set_option maxHeartbeats 400000 in
theorem iVarOk (m : Int) (w : World) :
    Calls Tryz.prog 64 #[.int .i64 m] w fun e w' => e = .returned (.bool (decide (0 ≤ m ∧ m ≤ 7))) ∧ w' = w := by
  by_cases h1 : 0 ≤ m <;> by_cases h2 : m < 8
  all_goals
    go_enter Tryz.func64, Tryz.ntmps64
    go_wp2
    go_ret
    exact ⟨ret_bool (by simp <;> omega), rfl⟩

set_option maxHeartbeats 400000 in
theorem iQuant (op : Int) (w : World) :
    Calls Tryz.prog 66 #[.int .i64 op] w fun e w' => e = .returned (.bool (quant op)) ∧ w' = w := by
  cases h1 : (op == 19) <;> cases h2 : (op == 20)
  all_goals
    go_enter Tryz.func66, Tryz.ntmps66
    go_wp2
    go_ret
    exact ⟨ret_bool (by unfold quant; rw [h1, h2]; rfl), rfl⟩

set_option maxHeartbeats 400000 in
theorem iNumbered (op : Int) (w : World) :
    Calls Tryz.prog 93 #[.int .i64 op] w fun e w' => e = .returned (.bool (numbered op)) ∧ w' = w := by
  cases h1 : (op == 0) <;> cases h2 : (op == 1) <;> cases h3 : (op == 17)
  all_goals
    go_enter Tryz.func93, Tryz.ntmps93
    go_wp2_with (go_at_call 66; refine (iQuant _ _).mono ?_; rintro e w' ⟨rfl, rfl⟩)
    go_ret
    exact ⟨ret_bool (by unfold numbered; rw [h1, h2, h3]; rfl), rfl⟩

set_option maxHeartbeats 1000000 in
theorem iCount (op : Int) (w : World) :
    Calls Tryz.prog 71 #[.int .i64 op] w fun e w' => e = .returned (.int .i64 (cnt op : Int)) ∧ w' = w := by
  have HC : Hid (∀ k : Nat, cnt op = k → (k : Int) = (cnt op : Int)) := fun k h => by rw [h]
  have q1 : (op == 2) = false → (op == 17) = false → quant op = false → ¬ (op = 2 ∨ op = 17 ∨ op = 19 ∨ op = 20) := by
    intro a b c; simp [quant] at a b c; omega
  have HQ : Hid ((op == 2) = false → (op == 17) = false → quant op = false → ¬ (op = 2 ∨ op = 17 ∨ op = 19 ∨ op = 20)) := q1
  have HR : Hid ((op == 2) = true ∨ (op == 17) = true ∨ quant op = true → (op = 2 ∨ op = 17 ∨ op = 19 ∨ op = 20)) := by
    show _ → _
    rintro (a | a | a)
    · simp at a; omega
    · simp at a; omega
    · simp [quant] at a; omega
  clear q1
  cases h1 : (op == 2)
  · cases h2 : (op == 17)
    · cases h3 : quant op
      · have HN := HQ.out h1 h2 h3
        have HN' : Hid (¬ (op = 2 ∨ op = 17 ∨ op = 19 ∨ op = 20)) := HN
        clear HN
        by_cases h4 : 3 ≤ op
        · by_cases h5 : op ≤ 16
          · have HE : Hid (cnt op = 2) := by
              show cnt op = 2
              unfold cnt; rw [if_neg HN'.out, if_pos ⟨h4, h5⟩]
            go_enter Tryz.func71, Tryz.ntmps71
            go_wp2_with (go_at_call 66; refine (iQuant _ _).mono ?_; rintro e w' ⟨rfl, rfl⟩)
            go_ret
            exact ⟨ret_int (HC.out 2 HE.out), rfl⟩
          · cases h6 : (op == 18)
            · have HE : Hid (cnt op = 0) := by
                show cnt op = 0
                unfold cnt; rw [if_neg HN'.out, if_neg (by omega), if_neg (by simpa using h6)]
              go_enter Tryz.func71, Tryz.ntmps71
              go_wp2_with (go_at_call 66; refine (iQuant _ _).mono ?_; rintro e w' ⟨rfl, rfl⟩)
              go_ret
              exact ⟨ret_int (HC.out 0 HE.out), rfl⟩
            · have HE : Hid (cnt op = 3) := by
                show cnt op = 3
                unfold cnt; rw [if_neg HN'.out, if_neg (by omega), if_pos (by simpa using h6)]
              go_enter Tryz.func71, Tryz.ntmps71
              go_wp2_with (go_at_call 66; refine (iQuant _ _).mono ?_; rintro e w' ⟨rfl, rfl⟩)
              go_ret
              exact ⟨ret_int (HC.out 3 HE.out), rfl⟩
        · have h6 : (op == 18) = false := by simp; omega
          have HE : Hid (cnt op = 0) := by
            show cnt op = 0
            unfold cnt; rw [if_neg HN'.out, if_neg (by omega), if_neg (by omega)]
          go_enter Tryz.func71, Tryz.ntmps71
          go_wp2_with (go_at_call 66; refine (iQuant _ _).mono ?_; rintro e w' ⟨rfl, rfl⟩)
          go_ret
          exact ⟨ret_int (HC.out 0 HE.out), rfl⟩
      · have HE : Hid (cnt op = 1) := by
          show cnt op = 1
          unfold cnt; rw [if_pos (HR.out (.inr (.inr h3)))]
        go_enter Tryz.func71, Tryz.ntmps71
        go_wp2_with (go_at_call 66; refine (iQuant _ _).mono ?_; rintro e w' ⟨rfl, rfl⟩)
        go_ret
        exact ⟨ret_int (HC.out 1 HE.out), rfl⟩
    · have HE : Hid (cnt op = 1) := by
        show cnt op = 1
        unfold cnt; rw [if_pos (HR.out (.inr (.inl h2)))]
      go_enter Tryz.func71, Tryz.ntmps71
      go_wp2_with (go_at_call 66; refine (iQuant _ _).mono ?_; rintro e w' ⟨rfl, rfl⟩)
      go_ret
      exact ⟨ret_int (HC.out 1 HE.out), rfl⟩
  · have HE : Hid (cnt op = 1) := by
      show cnt op = 1
      unfold cnt; rw [if_pos (HR.out (.inl h1))]
    go_enter Tryz.func71, Tryz.ntmps71
    go_wp2_with (go_at_call 66; refine (iQuant _ _).mono ?_; rintro e w' ⟨rfl, rfl⟩)
    go_ret
    exact ⟨ret_int (HC.out 1 HE.out), rfl⟩

end Go.Proofs.YtbnjndloeflgiaaGreat.Pg1

/- Walks of chapter 1: the small functions on words, in the program and in its model. -/
namespace Go.Proofs.YtbnjndloeflgiaaGreat.Wd1
open Go.RowKit
open Pl1
set_option linter.unusedVariables false

theorem ret_int {k : IntKind} {a b : Int} (h : a = b) : Ending.returned (.int k a) = .returned (.int k b) := by rw [h]
theorem ret_bool {a b : Bool} (h : a = b) : Ending.returned (.bool a) = .returned (.bool b) := by rw [h]

set_option maxHeartbeats 400000 in
theorem spow (m : Int) (w : World) (h0 : 0 ≤ m) (h1 : m ≤ 8) :
    Calls Tryz.prog 34 #[.int .i64 m] w fun e w' => e = .returned (.int .i64 (p2 m.toNat)) ∧ w' = w := by
  obtain ⟨n, rfl⟩ := Int.eq_ofNat_of_zero_le h0
  rw [Int.toNat_natCast]
  go_enter Tryz.func34, Tryz.ntmps34
  go_wp2
  go_loop [3, 4] (fun x i => ∃ k : Nat, k ≤ n ∧ i = .int .i64 k ∧ x = .int .i64 (p2 k)) (fun _ i => n - (intOf i).toNat)
  case atStart => exact ⟨0, Nat.zero_le _, rfl, rfl⟩
  case round =>
    obtain ⟨k, hk, rfl, rfl⟩ := hrel
    have hp := p2_pos k
    have hl := p2_le k (by omega)
    by_cases hlt : k < n
    · go_wp2
      go_round
      case rel => exact ⟨k + 1, by omega, by go_num, by rw [p2_succ]⟩
      case measure => simp [intOf]; omega
    · go_wp2
      go_ret
      have : k = n := by omega
      subst this
      exact ⟨rfl, rfl⟩

set_option maxHeartbeats 400000 in
theorem mask (m : Int) (w : World) (h0 : 1 ≤ m) (h1 : m ≤ 8) :
    Calls Tryz.prog 68 #[.int .i64 m] w fun e w' => e = .returned (.int .u8 (p2 m.toNat - 1)) ∧ w' = w := by
  rcases eight h0 h1 with rfl | rfl | rfl | rfl | rfl | rfl | rfl | rfl
  all_goals
    go_enter Tryz.func68, Tryz.ntmps68
    go_wp2
    go_ret
    exact ⟨rfl, rfl⟩

set_option maxHeartbeats 400000 in
theorem cut (a m : Int) (w : World) (ha : 0 ≤ a) (hb : a ≤ 255) (h0 : 1 ≤ m) (h1 : m ≤ 8) :
    Calls Tryz.prog 53 #[.int .u8 a, .int .i64 m] w fun e w' => e = .returned (.int .u8 (a % p2 m.toNat)) ∧ w' = w := by
  have hm := and_mask a m.toNat ha hb (by omega)
  go_enter Tryz.func53, Tryz.ntmps53
  go_wp2_with (go_at_call 68; refine (mask m _ h0 h1).mono ?_; rintro e w' ⟨rfl, rfl⟩)
  go_ret
  exact ⟨rfl, rfl⟩

set_option maxHeartbeats 400000 in
theorem sIn (x a b : Int) (w : World) :
    Calls Tryz.prog 44 #[.int .i64 x, .int .i64 a, .int .i64 b] w fun e w' => e = .returned (.bool (decide (a ≤ x ∧ x ≤ b))) ∧ w' = w := by
  by_cases h1 : a ≤ x <;> by_cases h2 : x ≤ b
  all_goals
    go_enter Tryz.func44, Tryz.ntmps44
    go_wp2
    go_ret
    exact ⟨ret_bool (by simp <;> omega), rfl⟩

set_option maxHeartbeats 400000 in
theorem sWordOk (m a : Int) (w : World) :
    Calls Tryz.prog 57 #[.int .i64 m, .int .i64 a] w fun e w' => e = .returned (.bool (wok m a)) ∧ w' = w := by
  by_cases h : 1 ≤ m ∧ m ≤ 8
  · have hp := p2_pos m.toNat
    have hl := p2_le m.toNat (by omega)
    have hd : decide (1 ≤ m ∧ m ≤ 8) = true := by simpa using h
    go_enter Tryz.func57, Tryz.ntmps57
    go_wp2_with (first | (go_at_call 44; refine (sIn _ _ _ _).mono ?_; rintro e w' ⟨rfl, rfl⟩) | (go_at_call 34; refine (spow m _ (by omega) (by omega)).mono ?_; rintro e w' ⟨rfl, rfl⟩))
    go_ret
    exact ⟨ret_bool (by rw [Bool.eq_iff_iff]; simp [wok]; omega), rfl⟩
  · have hd : decide (1 ≤ m ∧ m ≤ 8) = false := by simpa using h
    go_enter Tryz.func57, Tryz.ntmps57
    go_wp2_with (go_at_call 44; refine (sIn _ _ _ _).mono ?_; rintro e w' ⟨rfl, rfl⟩)
    go_ret
    exact ⟨ret_bool (by unfold wok; symm; rw [decide_eq_false_iff_not]; omega), rfl⟩

set_option maxHeartbeats 400000 in
theorem sTwo (m a b : Int) (w : World) :
    Calls Tryz.prog 125 #[.int .i64 m, .int .i64 a, .int .i64 b] w fun e w' => e = .returned (.bool (wok m a && wok m b)) ∧ w' = w := by
  cases hA : wok m a
  all_goals
    go_enter Tryz.func125, Tryz.ntmps125
    go_wp2_with (go_at_call 57; refine (sWordOk _ _ _).mono ?_; rintro e w' ⟨rfl, rfl⟩)
    go_ret
    exact ⟨ret_bool (by simp), rfl⟩

set_option maxHeartbeats 400000 in
theorem iWidthOk (m : Int) (w : World) :
    Calls Tryz.prog 48 #[.int .i64 m] w fun e w' => e = .returned (.bool (decide (1 ≤ m ∧ m ≤ 8))) ∧ w' = w := by
  by_cases h1 : 1 ≤ m <;> by_cases h2 : m ≤ 8
  all_goals
    go_enter Tryz.func48, Tryz.ntmps48
    go_wp2
    go_ret
    exact ⟨ret_bool (by simp <;> omega), rfl⟩

set_option maxHeartbeats 400000 in
theorem iWordOk (m a : Int) (w : World) :
    Calls Tryz.prog 94 #[.int .i64 m, .int .i64 a] w fun e w' => e = .returned (.bool (wok m a)) ∧ w' = w := by
  by_cases h : 1 ≤ m ∧ m ≤ 8
  · have hd : decide (1 ≤ m ∧ m ≤ 8) = true := by simpa using h
    by_cases ha : 0 ≤ a
    all_goals
      go_enter Tryz.func94, Tryz.ntmps94
      go_wp2_with (go_at_call 48; refine (iWidthOk _ _).mono ?_; rintro e w' ⟨rfl, rfl⟩)
      go_ret
      exact ⟨ret_bool (by rw [Bool.eq_iff_iff]; try rw [wrap_p2 _ (by omega)]
                          simp [wok]; omega), rfl⟩
  · have hd : decide (1 ≤ m ∧ m ≤ 8) = false := by simpa using h
    go_enter Tryz.func94, Tryz.ntmps94
    go_wp2_with (go_at_call 48; refine (iWidthOk _ _).mono ?_; rintro e w' ⟨rfl, rfl⟩)
    go_ret
    exact ⟨ret_bool (by unfold wok; symm; rw [decide_eq_false_iff_not]; omega), rfl⟩

set_option maxHeartbeats 400000 in
theorem iTwo (m a b : Int) (w : World) :
    Calls Tryz.prog 128 #[.int .i64 m, .int .i64 a, .int .i64 b] w fun e w' => e = .returned (.bool (wok m a && wok m b)) ∧ w' = w := by
  cases hA : wok m a
  all_goals
    go_enter Tryz.func128, Tryz.ntmps128
    go_wp2_with (go_at_call 94; refine (iWordOk _ _ _).mono ?_; rintro e w' ⟨rfl, rfl⟩)
    go_ret
    exact ⟨ret_bool (by simp), rfl⟩

set_option maxHeartbeats 400000 in
theorem plus (a b m : Int) (w : World) (ha : 0 ≤ a) (ha' : a ≤ 255) (hb : 0 ≤ b) (hb' : b ≤ 255) (h0 : 1 ≤ m) (h1 : m ≤ 8) :
    Calls Tryz.prog 129 #[.int .u8 a, .int .i64 m, .int .u8 b] w fun e w' => e = .returned (.int .u8 ((a + b) % p2 m.toNat)) ∧ w' = w := by
  go_enter Tryz.func129, Tryz.ntmps129
  go_wp2_with (go_at_call 53; refine (cut _ m _ (by omega) (by omega) h0 h1).mono ?_; rintro e w' ⟨rfl, rfl⟩)
  go_ret
  exact ⟨ret_int (mod256 _ _ (by omega)), rfl⟩

set_option maxHeartbeats 400000 in
theorem minus (a b m : Int) (w : World) (ha : 0 ≤ a) (ha' : a ≤ 255) (hb : 0 ≤ b) (hb' : b ≤ 255) (h0 : 1 ≤ m) (h1 : m ≤ 8) :
    Calls Tryz.prog 130 #[.int .u8 a, .int .i64 m, .int .u8 b] w fun e w' => e = .returned (.int .u8 ((a - b) % p2 m.toNat)) ∧ w' = w := by
  go_enter Tryz.func130, Tryz.ntmps130
  go_wp2_with (go_at_call 53; refine (cut _ m _ (by omega) (by omega) h0 h1).mono ?_; rintro e w' ⟨rfl, rfl⟩)
  go_ret
  exact ⟨ret_int (mod256 _ _ (by omega)), rfl⟩

set_option maxHeartbeats 400000 in
theorem times (a b m : Int) (w : World) (ha : 0 ≤ a) (ha' : a ≤ 255) (hb : 0 ≤ b) (hb' : b ≤ 255) (h0 : 1 ≤ m) (h1 : m ≤ 8) :
    Calls Tryz.prog 131 #[.int .u8 a, .int .i64 m, .int .u8 b] w fun e w' => e = .returned (.int .u8 (a * b % p2 m.toNat)) ∧ w' = w := by
  go_enter Tryz.func131, Tryz.ntmps131
  go_wp2_with (go_at_call 53; refine (cut _ m _ (by omega) (by omega) h0 h1).mono ?_; rintro e w' ⟨rfl, rfl⟩)
  go_ret
  exact ⟨ret_int (mod256 _ _ (by omega)), rfl⟩

set_option maxHeartbeats 400000 in
theorem over (a b m : Int) (w : World) (ha : 0 ≤ a) (ha' : a ≤ 255) (hb : 0 ≤ b) (hb' : b ≤ 255) (h0 : 1 ≤ m) (h1 : m ≤ 8) :
    Calls Tryz.prog 132 #[.int .u8 a, .int .i64 m, .int .u8 b] w fun e w' => e = .returned (.int .u8 (if b = 0 then p2 m.toNat - 1 else a / b)) ∧ w' = w := by
  by_cases hz : b = 0
  · subst hz
    go_enter Tryz.func132, Tryz.ntmps132
    go_wp2_with (go_at_call 68; refine (mask m _ h0 h1).mono ?_; rintro e w' ⟨rfl, rfl⟩)
    go_ret
    exact ⟨rfl, rfl⟩
  · have hz' : (b == 0) = false := by simpa using hz
    go_enter Tryz.func132, Tryz.ntmps132
    go_wp2
    go_ret
    exact ⟨rfl, rfl⟩

set_option maxHeartbeats 400000 in
theorem rest (a b : Int) (w : World) (ha : 0 ≤ a) (ha' : a ≤ 255) (hb : 0 ≤ b) (hb' : b ≤ 255) :
    Calls Tryz.prog 133 #[.int .u8 a, .int .u8 b] w fun e w' => e = .returned (.int .u8 (if b = 0 then a else a % b)) ∧ w' = w := by
  by_cases hz : b = 0
  · subst hz
    go_enter Tryz.func133, Tryz.ntmps133
    go_wp2
    go_ret
    exact ⟨rfl, rfl⟩
  · have hz' : (b == 0) = false := by simpa using hz
    go_enter Tryz.func133, Tryz.ntmps133
    go_wp2
    go_ret
    exact ⟨rfl, rfl⟩

set_option maxHeartbeats 400000 in
theorem up (a b m : Int) (w : World) (ha : 0 ≤ a) (ha' : a ≤ 255) (hb : 0 ≤ b) (hb' : b ≤ 7) (h0 : 1 ≤ m) (h1 : m ≤ 8) :
    Calls Tryz.prog 134 #[.int .u8 a, .int .i64 m, .int .u8 b] w fun e w' => e = .returned (.int .u8 (a * p2 b.toNat % p2 m.toNat)) ∧ w' = w := by
  go_enter Tryz.func134, Tryz.ntmps134
  go_wp2_with (go_at_call 53; refine (cut _ m _ (by omega) (by omega) h0 h1).mono ?_; rintro e w' ⟨rfl, rfl⟩)
  go_ret
  exact ⟨ret_int (mod256 _ _ (by omega)), rfl⟩

set_option maxHeartbeats 400000 in
theorem upFar (a b m : Int) (w : World) (ha : 0 ≤ a) (ha' : a ≤ 255) (hb : 8 ≤ b) (h0 : 1 ≤ m) (h1 : m ≤ 8) :
    Calls Tryz.prog 134 #[.int .u8 a, .int .i64 m, .int .u8 b] w fun e w' => e = .returned (.int .u8 0) ∧ w' = w := by
  have hs := shl8 a b .u8 hb
  go_enter Tryz.func134, Tryz.ntmps134
  go_wp2_with (go_at_call 53; refine (cut _ m _ (by omega) (by omega) h0 h1).mono ?_; rintro e w' ⟨rfl, rfl⟩)
  go_ret
  exact ⟨ret_int (by simp), rfl⟩

set_option maxHeartbeats 400000 in
theorem down (a b : Int) (w : World) (ha : 0 ≤ a) (ha' : a ≤ 255) (hb : 0 ≤ b) (hb' : b ≤ 7) :
    Calls Tryz.prog 135 #[.int .u8 a, .int .u8 b] w fun e w' => e = .returned (.int .u8 (a / p2 b.toNat)) ∧ w' = w := by
  go_enter Tryz.func135, Tryz.ntmps135
  go_wp2
  go_ret
  exact ⟨rfl, rfl⟩

set_option maxHeartbeats 400000 in
theorem downFar (a b : Int) (w : World) (ha : 0 ≤ a) (ha' : a ≤ 255) (hb : 8 ≤ b) :
    Calls Tryz.prog 135 #[.int .u8 a, .int .u8 b] w fun e w' => e = .returned (.int .u8 0) ∧ w' = w := by
  have hs := shr8 a b .u8 hb ha ha'
  go_enter Tryz.func135, Tryz.ntmps135
  go_wp2
  go_ret
  exact ⟨rfl, rfl⟩

set_option maxHeartbeats 400000 in
theorem flip (a m : Int) (w : World) (ha : 0 ≤ a) (ha' : a < p2 m.toNat) (h0 : 1 ≤ m) (h1 : m ≤ 8) :
    Calls Tryz.prog 127 #[.int .u8 a, .int .i64 m] w fun e w' => e = .returned (.int .u8 (p2 m.toNat - 1 - a)) ∧ w' = w := by
  have hl := p2_le m.toNat (by omega)
  have hx := xor255 a ha (by omega)
  have HF : Hid ((255 - a) % p2 m.toNat = p2 m.toNat - 1 - a) := flip_spec a _ (by omega) ha ha'
  go_enter Tryz.func127, Tryz.ntmps127
  go_wp2_with (go_at_call 53; refine (cut _ m _ (by omega) (by omega) h0 h1).mono ?_; rintro e w' ⟨rfl, rfl⟩)
  go_ret
  exact ⟨ret_int HF.out, rfl⟩

set_option maxHeartbeats 400000 in
theorem signed (a m : Int) (w : World) (ha : 0 ≤ a) (ha' : a < p2 m.toNat) (h0 : 1 ≤ m) (h1 : m ≤ 8) :
    Calls Tryz.prog 136 #[.int .u8 a, .int .i64 m] w fun e w' => e = .returned (.int .i64 (sgn m a)) ∧ w' = w := by
  have hp := p2_le m.toNat (by omega)
  have hq := p2_pos m.toNat
  have HW : Hid (wrap64 (2 ^ m.toNat) = p2 m.toNat) := wrap_p2 _ (by omega)
  by_cases hs : p2 (m - 1).toNat ≤ a
  · have hd : (a / 2 ^ (m.toNat - 1) == 0) = false := sgn_hi h0 hs
    have HS : Hid (sgn m a = a - p2 m.toNat) := sgn_pos hs
    clear hs
    go_enter Tryz.func136, Tryz.ntmps136
    go_wp2
    go_ret
    exact ⟨ret_int (by rw [HS.out, HW.out]; unfold wrap64; omega), rfl⟩
  · have hd : (a / 2 ^ (m.toNat - 1) == 0) = true := sgn_lo h0 ha hs
    have HS : Hid (sgn m a = a) := sgn_neg hs
    clear hs
    go_enter Tryz.func136, Tryz.ntmps136
    go_wp2
    go_ret
    exact ⟨ret_int (by rw [HS.out]), rfl⟩

end Go.Proofs.YtbnjndloeflgiaaGreat.Wd1
