/- Small texts of mine, one behind the other. -/
import Derived.Test.YtjfikpfdhjbheaaGreatPkCL7
import Derived.Test.YtjfikpfdhjbheaaGreatPkCL13
import Derived.Test.YtjfikpfdhjbheaaGreatPkCL9
import Derived.Test.YtjfikpfdhjbheaaGreatPkCL1
/- What the root reaches: the root, the parts of what it reaches, and nothing else. -/
namespace Go.Proofs.YtjfikpfdhjbheaaGreat.Tm8
open Nd0 Pl1 Tm0 Tm1 Tm2 Tm3

theorem markAll_flag (ps : List Int) : ∀ (bs : List Bool) (i : Nat), i < bs.length → flag (markAll bs ps) i = (flag bs i || ps.any fun p => p.toNat == i) := by
  induction ps with
  | nil => intro bs i _; simp [markAll]
  | cons p ps ih =>
    intro bs i hi
    show flag (markAll (bs.set p.toNat true) ps) i = _
    rw [ih _ _ (by rw [List.length_set]; exact hi)]
    by_cases hp : p.toNat < bs.length
    · rw [flag_set hp]
      by_cases e : p.toNat = i
      · simp [e]
      · have e' : (p.toNat == i) = false := by simpa using e
        rw [if_neg e, List.any_cons, e', Bool.false_or]
    · have : bs.set p.toNat true = bs := List.set_eq_of_length_le (by omega)
      rw [this]
      have e' : (p.toNat == i) = false := by simp; omega
      rw [List.any_cons, e', Bool.false_or]
def Down (l : List Nd) : Prop := ∀ i, i < l.length → ∀ p ∈ parts (nth l i), 0 ≤ p ∧ p < (i : Int)
theorem down_of {l : List Nd} (h : termOk l = true) : Down l := by
  intro i hi p hp
  obtain ⟨j, hj, rfl⟩ := List.getElem_of_mem hp
  exact parts_ok (term_node h hi) j hj
theorem step_flag {l : List Nd} (bs : List Bool) (k i : Nat) (hi : i < bs.length) : flag (reachStep l bs k) i = (flag bs i || (flag bs k && (parts (nth l k)).any fun p => p.toNat == i)) := by
  unfold reachStep
  cases h : flag bs k
  · simp
  · rw [if_pos rfl, markAll_flag _ _ _ hi]; simp
theorem down_high {l : List Nd} (hD : Down l) : ∀ (k : Nat) (bs : List Bool), bs.length = l.length → k ≤ l.length → ∀ i, k ≤ i + 1 → i < l.length → flag (reachDown l k bs) i = flag bs i := by
  intro k
  induction k with
  | zero => intro bs _ _ i _ _; rfl
  | succ k ih =>
    intro bs hb hk i hi hl
    show flag (reachDown l k (reachStep l bs k)) i = _
    rw [ih _ (by rw [reachStep_length]; exact hb) (by omega) i (by omega) hl, step_flag _ _ _ (by omega)]
    have : ((parts (nth l k)).any fun p => p.toNat == i) = false := by
      rw [List.any_eq_false]
      intro p hp
      have := hD k (by omega) p hp
      simp; omega
    rw [this]; simp
theorem down_closed {l : List Nd} (hD : Down l) : ∀ (k : Nat) (bs : List Bool), bs.length = l.length → k ≤ l.length → (∀ i, k ≤ i → i < l.length → flag bs i = true → ∀ p ∈ parts (nth l i), flag bs p.toNat = true) →
    ∀ i, i < l.length → flag (reachDown l k bs) i = true → ∀ p ∈ parts (nth l i), flag (reachDown l k bs) p.toNat = true := by
  intro k
  induction k with
  | zero => intro bs _ _ h i hi hf p hp; exact h i (by omega) hi hf p hp
  | succ k ih =>
    intro bs hb hk h
    refine ih (reachStep l bs k) (by rw [reachStep_length]; exact hb) (by omega) ?_
    intro i hki hi hf p hp
    have hpd := hD i hi p hp
    rw [step_flag _ _ _ (by omega)] at hf
    rw [step_flag _ _ _ (by omega)]
    have hna : ((parts (nth l k)).any fun q => q.toNat == i) = false := by
      rw [List.any_eq_false]
      intro q hq
      have := hD k (by omega) q hq
      simp; omega
    rw [hna, Bool.and_false, Bool.or_false] at hf
    by_cases e : i = k
    · subst e
      rw [hf]
      have : ((parts (nth l i)).any fun q => q.toNat == p.toNat) = true := List.any_eq_true.2 ⟨p, hp, by simp⟩
      rw [this]; simp
    · rw [h i (by omega) hi hf p hp]; simp
theorem init_flag (n i : Nat) (h : i < n) : flag (reachInit n) i = (i + 1 == n) := by simp [flag, reachInit, List.getD, h]
theorem reach_closed {l : List Nd} (hD : Down l) {i : Nat} (hi : i < l.length) (hf : flag (reachL l) i = true) {p : Int} (hp : p ∈ parts (nth l i)) : flag (reachL l) p.toNat = true :=
  down_closed hD l.length _ (reachInit_length _) (Nat.le_refl _) (fun i h1 h2 => by omega) i hi hf p hp
theorem down_more {l : List Nd} : ∀ (k : Nat) (bs : List Bool), bs.length = l.length → ∀ i, i < l.length → flag bs i = true → flag (reachDown l k bs) i = true := by
  intro k
  induction k with
  | zero => intro bs _ i _ h; exact h
  | succ k ih =>
    intro bs hb i hi h
    refine ih (reachStep l bs k) (by rw [reachStep_length]; exact hb) i hi ?_
    rw [step_flag _ _ _ (by omega), h]; rfl
theorem reach_root {l : List Nd} (h : 1 ≤ l.length) : flag (reachL l) (l.length - 1) = true :=
  down_more l.length _ (reachInit_length _) _ (by omega) (by rw [init_flag _ _ (by omega)]; simp; omega)
theorem down_why {l : List Nd} (hD : Down l) : ∀ (k : Nat) (bs : List Bool), bs.length = l.length → k ≤ l.length → ∀ i, i < l.length → flag (reachDown l k bs) i = true → flag bs i = true ∨ ∃ j, i < j ∧ j < l.length ∧ flag (reachDown l k bs) j = true ∧ (i : Int) ∈ parts (nth l j) := by
  intro k
  induction k with
  | zero => intro bs _ _ i _ h; exact .inl h
  | succ k ih =>
    intro bs hb hk i hi h
    rcases ih (reachStep l bs k) (by rw [reachStep_length]; exact hb) (by omega) i hi h with h1 | h1
    · rw [step_flag _ _ _ (by omega)] at h1
      simp only [Bool.or_eq_true, Bool.and_eq_true] at h1
      rcases h1 with h1 | ⟨h1, h2⟩
      · exact .inl h1
      · obtain ⟨p, hp, hpe⟩ := List.any_eq_true.1 h2
        have hd := hD k (by omega) p hp
        simp at hpe
        have hpi : p = (i : Int) := by omega
        subst hpi
        refine .inr ⟨k, by omega, by omega, ?_, hp⟩
        exact down_more k _ (by rw [reachStep_length]; exact hb) k (by omega) (by rw [step_flag _ _ _ (by omega), h1]; rfl)
    · exact .inr h1
theorem reach_why {l : List Nd} (hD : Down l) {i : Nat} (hi : i < l.length) (hf : flag (reachL l) i = true) : i + 1 = l.length ∨ ∃ j, i < j ∧ j < l.length ∧ flag (reachL l) j = true ∧ (i : Int) ∈ parts (nth l j) := by
  rcases down_why hD l.length _ (reachInit_length _) (Nat.le_refl _) i hi hf with h | h
  · rw [init_flag _ _ hi] at h; exact .inl (by simpa using h)
  · exact .inr h

theorem reach_at (l : List Nd) : ∀ (k j : Nat) (h : j < (reachTo l k).length), ∃ x : Nat, (reachTo l k)[j] = (x : Int) ∧ x < k ∧ flag (reachL l) x = true ∧ (reachTo l x).length = j := by
  intro k
  induction k with
  | zero => intro j h; simp [reachTo] at h
  | succ k ih =>
    intro j h
    have e := reachTo_succ l k
    cases hf : flag (reachL l) k
    · rw [hf] at e
      simp only [Bool.false_eq_true, if_false] at e
      have h' : j < (reachTo l k).length := by rw [← e]; exact h
      obtain ⟨x, h1, h2, h3, h4⟩ := ih j h'
      exact ⟨x, by simp only [e]; exact h1, by omega, h3, h4⟩
    · rw [hf, if_pos rfl] at e
      have hlen : (reachTo l (k + 1)).length = (reachTo l k).length + 1 := by rw [e]; simp
      by_cases hj : j < (reachTo l k).length
      · obtain ⟨x, h1, h2, h3, h4⟩ := ih j hj
        refine ⟨x, ?_, by omega, h3, h4⟩
        simp only [e]
        rw [List.getElem_append_left hj]; exact h1
      · have hje : j = (reachTo l k).length := by omega
        refine ⟨k, ?_, by omega, hf, hje.symm⟩
        simp only [e, hje]
        rw [List.getElem_append_right (Nat.le_refl _)]
        simp
theorem reachTo_mono (l : List Nd) {a b : Nat} (h : a ≤ b) : (reachTo l a).length ≤ (reachTo l b).length := by
  induction b with
  | zero => have : a = 0 := by omega
            subst this; exact Nat.le_refl _
  | succ b ih =>
    by_cases e : a = b + 1
    · subst e; exact Nat.le_refl _
    · refine Nat.le_trans (ih (by omega)) ?_
      rw [reachTo_succ]; split
      · simp
      · exact Nat.le_refl _
theorem reachTo_lt (l : List Nd) {a b : Nat} (h : a < b) (hf : flag (reachL l) a = true) : (reachTo l a).length < (reachTo l b).length := by
  have h1 := reachTo_mono l (a := a + 1) (b := b) (by omega)
  rw [reachTo_succ, hf, if_pos rfl, List.length_append] at h1
  simp at h1; omega
theorem reachTo_inj (l : List Nd) {a b : Nat} (ha : flag (reachL l) a = true) (hb : flag (reachL l) b = true) (h : (reachTo l a).length = (reachTo l b).length) : a = b := by
  rcases Nat.lt_trichotomy a b with h1 | h1 | h1
  · have := reachTo_lt l h1 ha; omega
  · exact h1
  · have := reachTo_lt l h1 hb; omega
end Go.Proofs.YtjfikpfdhjbheaaGreat.Tm8

/- The text of a node is read as that node, when its parts are. -/
namespace Go.Proofs.YtjfikpfdhjbheaaGreat.Tx2
open Nd0 Pl1 Tm0 Tm1 Tm3 Tm8 Tx0 Tx1

theorem nth_app {t m : List Nd} {j : Nat} (h : j < t.length) : nth (t ++ m) j = nth t j := by
  unfold nth
  rw [List.getD_eq_getElem?_getD, List.getElem?_append_left h, ← List.getD_eq_getElem?_getD]
end Go.Proofs.YtjfikpfdhjbheaaGreat.Tx2

/- Sets of variables as words of bits, as plain data. -/
namespace Go.Proofs.YtjfikpfdhjbheaaGreat.Tm7
open Nd0 Pl1 Tm0 Tm1 Tm4
open Go.RowKit

theorem bits_andNot_u8_nat (a b : Nat) (ha : a < 256) (hb : b < 256) : bits .andNot .u8 (a : Int) (b : Int) = ((a &&& (255 - b) : Nat) : Int) := by
  have hx : a &&& (255 - b) < 2 ^ 8 := Nat.and_lt_two_pow _ (by omega)
  have h1 : (BitVec.ofInt 8 (a : Int)).toNat = a := by
    rw [BitVec.ofInt_natCast, BitVec.toNat_ofNat]; exact Nat.mod_eq_of_lt (by omega)
  have h2 : (BitVec.ofInt 8 (b : Int)).toNat = b := by
    rw [BitVec.ofInt_natCast, BitVec.toNat_ofNat]; exact Nat.mod_eq_of_lt (by omega)
  show IntKind.u8.wrap ((BitVec.ofInt 8 (a : Int) &&& ~~~ BitVec.ofInt 8 (b : Int)).toNat : Int) = _
  rw [BitVec.toNat_and, BitVec.toNat_not, h1, h2]
  simp only [IntKind.wrap, IntKind.signed, IntKind.bits]
  simp
  omega

theorem bit_not (b v : Nat) (hb : b < 256) (hv : v < 8) : (255 - b).testBit v = !b.testBit v := by
  have h := Nat.testBit_two_pow_sub_succ (x := b) (n := 8) (by omega) v
  have e : 2 ^ 8 - (b + 1) = 255 - b := by omega
  rw [e] at h
  rw [h, decide_eq_true hv, Bool.true_and]

def numsTo (s k : Nat) : List Int := ((List.range k).filter fun v => s.testBit v).map fun (i : Nat) => (i : Int)
theorem numsTo_succ (s k : Nat) : numsTo s (k + 1) = if s.testBit k then numsTo s k ++ [(k : Int)] else numsTo s k := by
  unfold numsTo
  rw [List.range_succ, List.filter_append, List.map_append]
  cases h : s.testBit k <;> simp [h]
theorem numsTo_length (s k : Nat) : (numsTo s k).length ≤ k := by
  unfold numsTo
  rw [List.length_map]
  exact Nat.le_trans (List.length_filter_le _ _) (by simp)
theorem bits_over (s k : Nat) (h : s / 2 ^ k = 0) (v : Nat) (hv : k ≤ v) : s.testBit v = false := by
  have h2 : s < 2 ^ k := by
    rcases Nat.div_eq_zero_iff.1 h with h0 | h0
    · have := Nat.two_pow_pos k; omega
    · exact h0
  exact Nat.testBit_lt_two_pow (Nat.lt_of_lt_of_le h2 (Nat.pow_le_pow_right (by omega) hv))
theorem nums_end (s k : Nat) (h : s / 2 ^ k = 0) (hk : k ≤ 8) : numsTo s k = numsTo s 8 := by
  have : ∀ d, k + d ≤ 8 → numsTo s (k + d) = numsTo s k := by
    intro d
    induction d with
    | zero => intro _; rfl
    | succ d ih =>
      intro hd
      rw [← Nat.add_assoc, numsTo_succ, bits_over s k h _ (by omega)]
      exact ih (by omega)
  have h8 := this (8 - k) (by omega)
  rw [← h8]; congr 1; omega
theorem low_bit (s k : Nat) : (s / 2 ^ k) % 2 = 1 ↔ s.testBit k = true := by
  rw [Nat.testBit_eq_decide_div_mod_eq, decide_eq_true_eq]

def Has (s : Nat) (r : List Bool) : Prop := s < 256 ∧ ∀ v, v < 8 → s.testBit v = flag r v

theorem bit_one (k v : Nat) : (2 ^ k).testBit v = decide (k = v) := Nat.testBit_two_pow

def Some_ (s : Nat) (rows : List (List Bool)) (n : Nd) (j : Nat) : Prop := s < 256 ∧ ∀ v, v < 8 → s.testBit v = ((n.op == 1 && n.k == (v : Int)) || inParts rows ((parts n).take j) v)

theorem some_start_var {rows : List (List Bool)} {n : Nd} {kk : Nat} (h1 : n.op = 1) (hk : n.k = (kk : Int)) (h7 : kk ≤ 7) : Some_ (2 ^ kk) rows n 0 := by
  have e := Nat.pow_le_pow_right (n := 2) (by omega) h7
  refine ⟨by omega, fun v hv => ?_⟩
  rw [bit_one, h1, hk]
  simp only [List.take_zero, inParts, List.any_nil, Bool.or_false]
  rw [Bool.eq_iff_iff]; simp
  omega
theorem some_start {rows : List (List Bool)} {n : Nd} (h1 : (n.op == 1) = false) : Some_ 0 rows n 0 := by
  refine ⟨by omega, fun v hv => ?_⟩
  rw [h1]; simp [inParts]
theorem some_next {s t : Nat} {rows : List (List Bool)} {n : Nd} {j : Nat} (h : Some_ s rows n j) (hj : j < (parts n).length) (ht : Has t (row rows (parts n)[j])) : Some_ (s ||| t) rows n (j + 1) := by
  refine ⟨Nat.or_lt_two_pow (n := 8) h.1 ht.1, fun v hv => ?_⟩
  rw [Nat.testBit_or, h.2 v hv, ht.2 v hv, inParts_take _ _ _ _ hj, Bool.or_assoc]
theorem flag_freeRow (rows : List (List Bool)) (n : Nd) (v : Nat) (hv : v < 8) : flag (freeRow rows n) v = freeAt rows n v := by
  simp [flag, freeRow, List.getD, hv]
theorem some_end {s : Nat} {rows : List (List Bool)} {n : Nd} {j : Nat} (h : Some_ s rows n j) (hj : (parts n).length ≤ j) (hq : (n.op == 19 || n.op == 20) = false) : Has s (freeRow rows n) := by
  refine ⟨h.1, fun v hv => ?_⟩
  rw [h.2 v hv, flag_freeRow _ _ _ hv, List.take_of_length_le hj]
  unfold freeAt
  rw [hq]; simp
theorem some_end_quant {s : Nat} {rows : List (List Bool)} {n : Nd} {j kk : Nat} (h : Some_ s rows n j) (hj : (parts n).length ≤ j) (hq : (n.op == 19 || n.op == 20) = true) (hk : n.k = (kk : Int)) (h7 : kk ≤ 7) : Has (s &&& (255 - 2 ^ kk)) (freeRow rows n) := by
  have e := Nat.pow_le_pow_right (n := 2) (by omega) h7
  refine ⟨Nat.and_lt_two_pow _ (n := 8) (Nat.lt_of_le_of_lt (Nat.sub_le _ _) (by decide)), fun v hv => ?_⟩
  rw [Nat.testBit_and, h.2 v hv, flag_freeRow _ _ _ hv, List.take_of_length_le hj, bit_not _ _ (by omega) hv, bit_one]
  unfold freeAt
  rw [hq, hk]
  by_cases ev : kk = v
  · subst ev; simp
  · have e1 : ((kk : Int) == (v : Int)) = false := by simp; omega
    rw [e1]; simp [ev]
theorem row_old (l : List Nd) (k : Nat) (p : Int) (h0 : 0 ≤ p) (hp : p < k) : row (freeRows l (k + 1)) p = row (freeRows l k) p := by
  unfold row
  show (freeRows l k ++ [_]).getD p.toNat [] = _
  rw [List.getD_eq_getElem?_getD, List.getElem?_append_left (by rw [freeRows_length]; omega), ← List.getD_eq_getElem?_getD]
theorem row_new (l : List Nd) (k : Nat) : row (freeRows l (k + 1)) (k : Int) = freeRow (freeRows l k) (nth l k) := by
  unfold row
  show (freeRows l k ++ [_]).getD k [] = _
  rw [List.getD_eq_getElem?_getD, List.getElem?_append_right (by rw [freeRows_length]; exact Nat.le_refl _), freeRows_length]
  simp

theorem nums_free {l : List Nd} {s : Nat} (h : Has s (freeTop l)) : numsTo s 8 = freeTo l 8 := by
  unfold numsTo freeTo
  congr 1
  apply List.filter_congr
  intro v hv
  exact h.2 v (List.mem_range.1 hv)
theorem set_zero {l : List Nd} {s : Nat} (hT : termOk l = true) (h : Has s (freeTop l)) : s = 0 ↔ (freeL l).length = 0 := by
  have e : freeL l = numsTo s 8 := by unfold freeL; rw [hT, nums_free h]; rfl
  rw [e]
  constructor
  · intro h0; subst h0; simp [numsTo]
  · intro h0
    apply Nat.eq_of_testBit_eq
    intro v
    rw [Nat.zero_testBit]
    by_cases hv : v < 8
    · cases hb : s.testBit v
      · rfl
      · have : (v : Int) ∈ numsTo s 8 := by
          unfold numsTo
          exact List.mem_map.2 ⟨v, List.mem_filter.2 ⟨List.mem_range.2 hv, hb⟩, rfl⟩
        rw [List.eq_nil_of_length_eq_zero h0] at this
        cases this
    · exact Nat.testBit_lt_two_pow (Nat.lt_of_lt_of_le h.1 (Nat.pow_le_pow_right (n := 2) (by omega) (by omega : 8 ≤ v)))

end Go.Proofs.YtjfikpfdhjbheaaGreat.Tm7

/- A quantifier put on a formula: what is free in it, as plain data. -/
namespace Go.Proofs.YtjfikpfdhjbheaaGreat.Tm12
open Nd0 Pl1 Tm0 Tm1 Tm4 Tm7

theorem nth_app_left {l : List Nd} {n : Nd} {i : Nat} (h : i < l.length) : nth (l ++ [n]) i = nth l i := by
  unfold nth
  rw [List.getD_eq_getElem?_getD, List.getElem?_append_left h, ← List.getD_eq_getElem?_getD]
theorem nth_app_last (l : List Nd) (n : Nd) : nth (l ++ [n]) l.length = n := by
  unfold nth
  rw [List.getD_eq_getElem?_getD, List.getElem?_append_right (Nat.le_refl _)]
  simp
theorem nodeOk_app {l : List Nd} {n : Nd} {i : Nat} (hi : i < l.length) (h : nodeOk l i = true) : nodeOk (l ++ [n]) i = true := by
  have hp := parts_ok h
  have e : (parts (nth (l ++ [n]) i)).map (width (l ++ [n])) = (parts (nth l i)).map (width l) := by
    rw [nth_app_left hi]
    apply List.map_congr_left
    intro p hpm
    obtain ⟨j, hj, rfl⟩ := List.getElem_of_mem hpm
    have := hp j hj
    unfold width
    rw [nth_app_left (by omega)]
  simp only [nodeOk] at h ⊢
  rw [e, nth_app_left hi]
  exact h
theorem termOk_quant {l : List Nd} (hT : termOk l = true) (hw : (nth l (l.length - 1)).w = 1) (hl : l.length < 80) {op k b : Int} (hop : op = 19 ∨ op = 20) (hk : 0 ≤ k ∧ k ≤ 7) (hb : 1 ≤ b ∧ b ≤ 8) :
    termOk (l ++ [⟨op, 1, k, (l.length : Int) - 1, b, 0⟩]) = true := by
  obtain ⟨hl1, hl2⟩ := term_len hT
  refine term_good (by simp; omega) (fun i hi => ?_)
  simp at hi
  by_cases e : i < l.length
  · exact nodeOk_app e (term_node hT e)
  · have e2 : i = l.length := by omega
    subst e2
    have hp : parts (nth (l ++ [⟨op, 1, k, (l.length : Int) - 1, b, 0⟩]) l.length) = [(l.length : Int) - 1] := by
      rw [nth_app_last]; exact parts_one (by simp only; omega)
    refine (node_kind (fun j hj => ?_) ?_).trans ?_
    · simp only [hp] at hj ⊢
      simp at hj
      subst hj
      simp; omega
    · rw [nth_app_last]; simp
    · rw [hp]
      have ew : width (l ++ [⟨op, 1, k, (l.length : Int) - 1, b, 0⟩]) ((l.length : Int) - 1) = 1 := by
        unfold width
        have : ((l.length : Int) - 1).toNat = l.length - 1 := by omega
        rw [this, nth_app_left (by omega)]; exact hw
      rw [nth_app_last]
      simp only [List.map_cons, List.map_nil, ew]
      unfold shapeOk
      dsimp only
      rw [if_neg (by omega), if_neg (by omega), if_neg (by omega), if_neg (by omega), if_neg (by omega), if_neg (by omega), if_neg (by omega), if_neg (by omega), if_pos hop]
      simp; omega
end Go.Proofs.YtjfikpfdhjbheaaGreat.Tm12

/- What is written of a term is read: as its canonical form, of which the same is written. -/
namespace Go.Proofs.YtjfikpfdhjbheaaGreat.Tx3
open Nd0 Pl1 Tm0 Tm1 Tm3 Tm8 Tx0 Tx1 Tx2

end Go.Proofs.YtjfikpfdhjbheaaGreat.Tx3

/- Terms as trees: what a node is with all that lies below it. -/
namespace Go.Proofs.YtjfikpfdhjbheaaGreat.Tr0
open Nd0 Pl1 Tm0 Tm1 Tm3 Tm8 Tx0 Tx1 Tx2 Tx3

inductive Tr where
  | leaf (op w k : Int)
  | one (op w k b : Int) (x : Tr)
  | two (op w : Int) (x y : Tr)
  | three (op w : Int) (x y z : Tr)
def Tr.nil : Tr := .leaf 0 0 0
def Tr.op : Tr → Int
  | .leaf o _ _ => o
  | .one o _ _ _ _ => o
  | .two o _ _ _ => o
  | .three o _ _ _ _ => o
def Tr.wid : Tr → Int
  | .leaf _ w _ => w
  | .one _ w _ _ _ => w
  | .two _ w _ _ => w
  | .three _ w _ _ _ => w
def mkF (n : Nd) (f : Nat → Tr) : Tr :=
  if n.op = 2 ∨ n.op = 17 ∨ n.op = 19 ∨ n.op = 20 then .one n.op n.w n.k n.b (f n.a.toNat)
  else if 3 ≤ n.op ∧ n.op ≤ 16 then .two n.op n.w (f n.a.toNat) (f n.b.toNat)
  else if n.op = 18 then .three n.op n.w (f n.a.toNat) (f n.b.toNat) (f n.c.toNat)
  else .leaf n.op n.w n.k
def trTo (l : List Nd) : Nat → List Tr
  | 0 => []
  | k + 1 => trTo l k ++ [mkF (nth l k) fun i => (trTo l k).getD i Tr.nil]
def tr (l : List Nd) (i : Nat) : Tr := (trTo l l.length).getD i Tr.nil

theorem mk_one {n : Nd} (h : n.op = 2 ∨ n.op = 17 ∨ n.op = 19 ∨ n.op = 20) (f : Nat → Tr) : mkF n f = .one n.op n.w n.k n.b (f n.a.toNat) := if_pos h
theorem mk_two {n : Nd} (h : 3 ≤ n.op ∧ n.op ≤ 16) (f : Nat → Tr) : mkF n f = .two n.op n.w (f n.a.toNat) (f n.b.toNat) := by unfold mkF; rw [if_neg (by omega), if_pos h]
theorem mk_three {n : Nd} (h : n.op = 18) (f : Nat → Tr) : mkF n f = .three n.op n.w (f n.a.toNat) (f n.b.toNat) (f n.c.toNat) := by unfold mkF; rw [if_neg (by omega), if_neg (by omega), if_pos h]
theorem mk_leaf {n : Nd} (h : ¬ (n.op = 2 ∨ n.op = 17 ∨ n.op = 19 ∨ n.op = 20)) (h2 : ¬ (3 ≤ n.op ∧ n.op ≤ 16)) (h3 : ¬ n.op = 18) (f : Nat → Tr) : mkF n f = .leaf n.op n.w n.k := by unfold mkF; rw [if_neg h, if_neg h2, if_neg h3]
theorem mk_wid (n : Nd) (f : Nat → Tr) : (mkF n f).wid = n.w := by
  unfold mkF
  split
  · rfl
  · split
    · rfl
    · split <;> rfl
theorem mk_congr {n : Nd} {f g : Nat → Tr} (h : ∀ p ∈ parts n, f p.toNat = g p.toNat) : mkF n f = mkF n g := by
  by_cases h1 : n.op = 2 ∨ n.op = 17 ∨ n.op = 19 ∨ n.op = 20
  · rw [parts_one h1] at h
    rw [mk_one h1, mk_one h1, h n.a (by simp)]
  · by_cases h2 : 3 ≤ n.op ∧ n.op ≤ 16
    · rw [parts_two h2] at h
      rw [mk_two h2, mk_two h2, h n.a (by simp), h n.b (by simp)]
    · by_cases h3 : n.op = 18
      · rw [parts_three h3] at h
        rw [mk_three h3, mk_three h3, h n.a (by simp), h n.b (by simp), h n.c (by simp)]
      · rw [mk_leaf h1 h2 h3, mk_leaf h1 h2 h3]
theorem trTo_length (l : List Nd) (k : Nat) : (trTo l k).length = k := by
  induction k with
  | zero => rfl
  | succ k ih => show (trTo l k ++ [_]).length = _; rw [List.length_append, ih]; rfl
theorem tr_prefix (l : List Nd) {i k : Nat} (hi : i < k) : ∀ n, k ≤ n → (trTo l n).getD i Tr.nil = (trTo l k).getD i Tr.nil := by
  intro n hn
  obtain ⟨d, rfl⟩ : ∃ d, n = k + d := ⟨n - k, by omega⟩
  clear hn
  induction d with
  | zero => rfl
  | succ d ih =>
    rw [← ih]
    show (trTo l (k + d) ++ [_]).getD i Tr.nil = _
    rw [List.getD_eq_getElem?_getD, List.getElem?_append_left (by rw [trTo_length]; omega), ← List.getD_eq_getElem?_getD]
theorem tr_at {l : List Nd} (hD : Down l) {i : Nat} (hi : i < l.length) : tr l i = mkF (nth l i) (tr l) := by
  unfold tr
  rw [tr_prefix l (k := i + 1) (by omega) l.length (by omega)]
  show (trTo l i ++ [mkF (nth l i) fun j => (trTo l i).getD j Tr.nil]).getD i Tr.nil = _
  rw [List.getD_eq_getElem?_getD, List.getElem?_append_right (by rw [trTo_length]; exact Nat.le_refl _), trTo_length, Nat.sub_self]
  show mkF (nth l i) (fun j => (trTo l i).getD j Tr.nil) = _
  refine mk_congr (fun p hp => ?_)
  have := hD i hi p hp
  exact (tr_prefix l (i := p.toNat) (k := i) (by omega) l.length (by omega)).symm
theorem trTo_app (t m : List Nd) : ∀ k, k ≤ t.length → trTo (t ++ m) k = trTo t k := by
  intro k
  induction k with
  | zero => intro _; rfl
  | succ k ih =>
    intro hk
    show trTo (t ++ m) k ++ [_] = trTo t k ++ [_]
    rw [ih (by omega), nth_app (by omega)]
theorem tr_app (t m : List Nd) {j : Nat} (h : j < t.length) : tr (t ++ m) j = tr t j := by
  unfold tr
  rw [tr_prefix (t ++ m) (k := t.length) h (t ++ m).length (by simp), trTo_app t m _ (Nat.le_refl _)]
end Go.Proofs.YtjfikpfdhjbheaaGreat.Tr0

/- Plain laws of words: what the laws of chapter 1 ask of the numbers. -/
namespace Go.Proofs.YtjfikpfdhjbheaaGreat.Pl2
open Go.RowKit
open Pl1

theorem wok_mod {m : Int} (x : Int) (h1 : 1 ≤ m) (h2 : m ≤ 8) : wok m (x % p2 m.toNat) = true :=
  wok_iff.2 ⟨h1, h2, emod_le _⟩
theorem add_eq {m a b : Int} (ha : wok m a = true) (hb : wok m b = true) : vAdd m a b = (a + b) % p2 m.toNat := by simp [vAdd, ha, hb]
theorem sub_eq {m a b : Int} (ha : wok m a = true) (hb : wok m b = true) : vSub m a b = (a - b) % p2 m.toNat := by simp [vSub, ha, hb]
theorem mul_eq {m a b : Int} (ha : wok m a = true) (hb : wok m b = true) : vMul m a b = a * b % p2 m.toNat := by simp [vMul, ha, hb]
theorem flip_eq {m a : Int} (ha : wok m a = true) : vFlip m a = p2 m.toNat - 1 - a := by simp [vFlip, ha]
theorem wok_add {m a b : Int} (ha : wok m a = true) (hb : wok m b = true) : wok m (vAdd m a b) = true := by
  obtain ⟨h1, h2, _⟩ := wok_iff.1 ha
  rw [add_eq ha hb]; exact wok_mod _ h1 h2
theorem wok_sub {m a b : Int} (ha : wok m a = true) (hb : wok m b = true) : wok m (vSub m a b) = true := by
  obtain ⟨h1, h2, _⟩ := wok_iff.1 ha
  rw [sub_eq ha hb]; exact wok_mod _ h1 h2
theorem wok_mul {m a b : Int} (ha : wok m a = true) (hb : wok m b = true) : wok m (vMul m a b) = true := by
  obtain ⟨h1, h2, _⟩ := wok_iff.1 ha
  rw [mul_eq ha hb]; exact wok_mod _ h1 h2
theorem wok_flip {m a : Int} (ha : wok m a = true) : wok m (vFlip m a) = true := by
  obtain ⟨h1, h2, h3, h4⟩ := wok_iff.1 ha
  rw [flip_eq ha]; exact wok_iff.2 ⟨h1, h2, by omega, by omega⟩

theorem wok_zero {m : Int} (h1 : 1 ≤ m) (h2 : m ≤ 8) : wok m 0 = true := wok_iff.2 ⟨h1, h2, by omega, by have := p2_pos m.toNat; omega⟩
end Go.Proofs.YtjfikpfdhjbheaaGreat.Pl2
