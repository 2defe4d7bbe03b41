/- Small texts of mine, one behind the other. -/
import Derived.Test.YtebejleeadofcaaPkXF2
/- Sets of variables as words of bits, as plain data. -/
namespace Go.Proofs.Ytebejleeadofcaa.Tm7
open Nd0 Pl1 Tm0 Tm1 Tm4
open Go.RowKit

theorem bits_andNot_u8_nat (a b : Nat) (ha : a < 256) (hb : b < 256) : bits .andNot .u8 (a : Int) (b : Int) = ((a &&& (255 - b) : Nat) : Int) := by
  have hx : a &&& (255 - b) < 2 ^ 8 := Nat.and_lt_two_pow _ (by omega)
  have h1 : (BitVec.ofInt 8 (a : Int)).toNat = a := by
    rw [BitVec.ofInt_natCast, BitVec.toNat_ofNat]; exact Nat.mod_eq_of_lt (by omega)
  have h2 : (BitVec.ofInt 8 (b : Int)).toNat = b := by
    rw [BitVec.ofInt_natCast, BitVec.toNat_ofNat]; exact Nat.mod_eq_of_lt (by omega)
  show IntKind.u8.wrap ((BitVec.ofInt 8 (a : Int) &&& ~~~ BitVec.ofInt 8 (b : Int)).toNat : Int) = _
  rw [BitVec.toNat_and, BitVec.toNat_not, h1, h2]
  simp only [IntKind.wrap, IntKind.signed, IntKind.bits]
  simp
  omega

theorem bit_not (b v : Nat) (hb : b < 256) (hv : v < 8) : (255 - b).testBit v = !b.testBit v := by
  have h := Nat.testBit_two_pow_sub_succ (x := b) (n := 8) (by omega) v
  have e : 2 ^ 8 - (b + 1) = 255 - b := by omega
  rw [e] at h
  rw [h, decide_eq_true hv, Bool.true_and]

/-- The numbers of the variables in a set. -/
def numsTo (s k : Nat) : List Int := ((List.range k).filter fun v => s.testBit v).map fun (i : Nat) => (i : Int)
theorem numsTo_succ (s k : Nat) : numsTo s (k + 1) = if s.testBit k then numsTo s k ++ [(k : Int)] else numsTo s k := by
  unfold numsTo
  rw [List.range_succ, List.filter_append, List.map_append]
  cases h : s.testBit k <;> simp [h]
theorem numsTo_length (s k : Nat) : (numsTo s k).length ≤ k := by
  unfold numsTo
  rw [List.length_map]
  exact Nat.le_trans (List.length_filter_le _ _) (by simp)
theorem bits_over (s k : Nat) (h : s / 2 ^ k = 0) (v : Nat) (hv : k ≤ v) : s.testBit v = false := by
  have h2 : s < 2 ^ k := by
    rcases Nat.div_eq_zero_iff.1 h with h0 | h0
    · have := Nat.two_pow_pos k; omega
    · exact h0
  exact Nat.testBit_lt_two_pow (Nat.lt_of_lt_of_le h2 (Nat.pow_le_pow_right (by omega) hv))
theorem nums_end (s k : Nat) (h : s / 2 ^ k = 0) (hk : k ≤ 8) : numsTo s k = numsTo s 8 := by
  have : ∀ d, k + d ≤ 8 → numsTo s (k + d) = numsTo s k := by
    intro d
    induction d with
    | zero => intro _; rfl
    | succ d ih =>
      intro hd
      rw [← Nat.add_assoc, numsTo_succ, bits_over s k h _ (by omega)]
      exact ih (by omega)
  have h8 := this (8 - k) (by omega)
  rw [← h8]; congr 1; omega
theorem low_bit (s k : Nat) : (s / 2 ^ k) % 2 = 1 ↔ s.testBit k = true := by
  rw [Nat.testBit_eq_decide_div_mod_eq, decide_eq_true_eq]

/-- The word s is the set of the variables that the row tells. -/
def Has (s : Nat) (r : List Bool) : Prop := s < 256 ∧ ∀ v, v < 8 → s.testBit v = flag r v

theorem bit_one (k v : Nat) : (2 ^ k).testBit v = decide (k = v) := Nat.testBit_two_pow

/-- The set of node n, whose parts' first j are joined so far. -/
def Some_ (s : Nat) (rows : List (List Bool)) (n : Nd) (j : Nat) : Prop := s < 256 ∧ ∀ v, v < 8 → s.testBit v = ((n.op == 1 && n.k == (v : Int)) || inParts rows ((parts n).take j) v)

theorem some_start_var {rows : List (List Bool)} {n : Nd} {kk : Nat} (h1 : n.op = 1) (hk : n.k = (kk : Int)) (h7 : kk ≤ 7) : Some_ (2 ^ kk) rows n 0 := by
  have e := Nat.pow_le_pow_right (n := 2) (by omega) h7
  refine ⟨by omega, fun v hv => ?_⟩
  rw [bit_one, h1, hk]
  simp only [List.take_zero, inParts, List.any_nil, Bool.or_false]
  rw [Bool.eq_iff_iff]; simp
  omega
theorem some_start {rows : List (List Bool)} {n : Nd} (h1 : (n.op == 1) = false) : Some_ 0 rows n 0 := by
  refine ⟨by omega, fun v hv => ?_⟩
  rw [h1]; simp [inParts]
theorem some_next {s t : Nat} {rows : List (List Bool)} {n : Nd} {j : Nat} (h : Some_ s rows n j) (hj : j < (parts n).length) (ht : Has t (row rows (parts n)[j])) : Some_ (s ||| t) rows n (j + 1) := by
  refine ⟨Nat.or_lt_two_pow (n := 8) h.1 ht.1, fun v hv => ?_⟩
  rw [Nat.testBit_or, h.2 v hv, ht.2 v hv, inParts_take _ _ _ _ hj, Bool.or_assoc]
theorem flag_freeRow (rows : List (List Bool)) (n : Nd) (v : Nat) (hv : v < 8) : flag (freeRow rows n) v = freeAt rows n v := by
  simp [flag, freeRow, List.getD, hv]
theorem some_end {s : Nat} {rows : List (List Bool)} {n : Nd} {j : Nat} (h : Some_ s rows n j) (hj : (parts n).length ≤ j) (hq : (n.op == 19 || n.op == 20) = false) : Has s (freeRow rows n) := by
  refine ⟨h.1, fun v hv => ?_⟩
  rw [h.2 v hv, flag_freeRow _ _ _ hv, List.take_of_length_le hj]
  unfold freeAt
  rw [hq]; simp
theorem some_end_quant {s : Nat} {rows : List (List Bool)} {n : Nd} {j kk : Nat} (h : Some_ s rows n j) (hj : (parts n).length ≤ j) (hq : (n.op == 19 || n.op == 20) = true) (hk : n.k = (kk : Int)) (h7 : kk ≤ 7) : Has (s &&& (255 - 2 ^ kk)) (freeRow rows n) := by
  have e := Nat.pow_le_pow_right (n := 2) (by omega) h7
  refine ⟨Nat.and_lt_two_pow _ (n := 8) (Nat.lt_of_le_of_lt (Nat.sub_le _ _) (by decide)), fun v hv => ?_⟩
  rw [Nat.testBit_and, h.2 v hv, flag_freeRow _ _ _ hv, List.take_of_length_le hj, bit_not _ _ (by omega) hv, bit_one]
  unfold freeAt
  rw [hq, hk]
  by_cases ev : kk = v
  · subst ev; simp
  · have e1 : ((kk : Int) == (v : Int)) = false := by simp; omega
    rw [e1]; simp [ev]
theorem row_old (l : List Nd) (k : Nat) (p : Int) (h0 : 0 ≤ p) (hp : p < k) : row (freeRows l (k + 1)) p = row (freeRows l k) p := by
  unfold row
  show (freeRows l k ++ [_]).getD p.toNat [] = _
  rw [List.getD_eq_getElem?_getD, List.getElem?_append_left (by rw [freeRows_length]; omega), ← List.getD_eq_getElem?_getD]
theorem row_new (l : List Nd) (k : Nat) : row (freeRows l (k + 1)) (k : Int) = freeRow (freeRows l k) (nth l k) := by
  unfold row
  show (freeRows l k ++ [_]).getD k [] = _
  rw [List.getD_eq_getElem?_getD, List.getElem?_append_right (by rw [freeRows_length]; exact Nat.le_refl _), freeRows_length]
  simp

theorem nums_free {l : List Nd} {s : Nat} (h : Has s (freeTop l)) : numsTo s 8 = freeTo l 8 := by
  unfold numsTo freeTo
  congr 1
  apply List.filter_congr
  intro v hv
  exact h.2 v (List.mem_range.1 hv)
theorem set_zero {l : List Nd} {s : Nat} (hT : termOk l = true) (h : Has s (freeTop l)) : s = 0 ↔ (freeL l).length = 0 := by
  have e : freeL l = numsTo s 8 := by unfold freeL; rw [hT, nums_free h]; rfl
  rw [e]
  constructor
  · intro h0; subst h0; simp [numsTo]
  · intro h0
    apply Nat.eq_of_testBit_eq
    intro v
    rw [Nat.zero_testBit]
    by_cases hv : v < 8
    · cases hb : s.testBit v
      · rfl
      · have : (v : Int) ∈ numsTo s 8 := by
          unfold numsTo
          exact List.mem_map.2 ⟨v, List.mem_filter.2 ⟨List.mem_range.2 hv, hb⟩, rfl⟩
        rw [List.eq_nil_of_length_eq_zero h0] at this
        cases this
    · exact Nat.testBit_lt_two_pow (Nat.lt_of_lt_of_le h.1 (Nat.pow_le_pow_right (n := 2) (by omega) (by omega : 8 ≤ v)))

end Go.Proofs.Ytebejleeadofcaa.Tm7

/- A quantifier put on a formula: what is free in it, as plain data. -/
namespace Go.Proofs.Ytebejleeadofcaa.Tm12
open Nd0 Pl1 Tm0 Tm1 Tm4 Tm7

theorem nth_app_left {l : List Nd} {n : Nd} {i : Nat} (h : i < l.length) : nth (l ++ [n]) i = nth l i := by
  unfold nth
  rw [List.getD_eq_getElem?_getD, List.getElem?_append_left h, ← List.getD_eq_getElem?_getD]
theorem nth_app_last (l : List Nd) (n : Nd) : nth (l ++ [n]) l.length = n := by
  unfold nth
  rw [List.getD_eq_getElem?_getD, List.getElem?_append_right (Nat.le_refl _)]
  simp
theorem nodeOk_app {l : List Nd} {n : Nd} {i : Nat} (hi : i < l.length) (h : nodeOk l i = true) : nodeOk (l ++ [n]) i = true := by
  have hp := parts_ok h
  have e : (parts (nth (l ++ [n]) i)).map (width (l ++ [n])) = (parts (nth l i)).map (width l) := by
    rw [nth_app_left hi]
    apply List.map_congr_left
    intro p hpm
    obtain ⟨j, hj, rfl⟩ := List.getElem_of_mem hpm
    have := hp j hj
    unfold width
    rw [nth_app_left (by omega)]
  simp only [nodeOk] at h ⊢
  rw [e, nth_app_left hi]
  exact h
/-- A right term with a quantifier on its root is right. -/
theorem termOk_quant {l : List Nd} (hT : termOk l = true) (hw : (nth l (l.length - 1)).w = 1) (hl : l.length < 80) {op k b : Int} (hop : op = 19 ∨ op = 20) (hk : 0 ≤ k ∧ k ≤ 7) (hb : 1 ≤ b ∧ b ≤ 8) :
    termOk (l ++ [⟨op, 1, k, (l.length : Int) - 1, b, 0⟩]) = true := by
  obtain ⟨hl1, hl2⟩ := term_len hT
  refine term_good (by simp; omega) (fun i hi => ?_)
  simp at hi
  by_cases e : i < l.length
  · exact nodeOk_app e (term_node hT e)
  · have e2 : i = l.length := by omega
    subst e2
    have hp : parts (nth (l ++ [⟨op, 1, k, (l.length : Int) - 1, b, 0⟩]) l.length) = [(l.length : Int) - 1] := by
      rw [nth_app_last]; exact parts_one (by simp only; omega)
    refine (node_kind (fun j hj => ?_) ?_).trans ?_
    · simp only [hp] at hj ⊢
      simp at hj
      subst hj
      simp; omega
    · rw [nth_app_last]; simp
    · rw [hp]
      have ew : width (l ++ [⟨op, 1, k, (l.length : Int) - 1, b, 0⟩]) ((l.length : Int) - 1) = 1 := by
        unfold width
        have : ((l.length : Int) - 1).toNat = l.length - 1 := by omega
        rw [this, nth_app_left (by omega)]; exact hw
      rw [nth_app_last]
      simp only [List.map_cons, List.map_nil, ew]
      unfold shapeOk
      dsimp only
      rw [if_neg (by omega), if_neg (by omega), if_neg (by omega), if_neg (by omega), if_neg (by omega), if_neg (by omega), if_neg (by omega), if_neg (by omega), if_pos hop]
      simp; omega
theorem freeRows_app (l : List Nd) (n : Nd) : ∀ k, k ≤ l.length → freeRows (l ++ [n]) k = freeRows l k := by
  intro k
  induction k with
  | zero => intro _; rfl
  | succ k ih =>
    intro hk
    show freeRows (l ++ [n]) k ++ [_] = freeRows l k ++ [_]
    rw [ih (by omega), nth_app_left (by omega)]
/-- What is free under the quantifier: all that was, but its own variable. -/
theorem free_quant {l : List Nd} (hT : termOk l = true) (hw : (nth l (l.length - 1)).w = 1) (hl : l.length < 80) {op k b : Int} (hop : op = 19 ∨ op = 20) (hk : 0 ≤ k ∧ k ≤ 7) (hb : 1 ≤ b ∧ b ≤ 8) :
    freeL (l ++ [⟨op, 1, k, (l.length : Int) - 1, b, 0⟩]) = (freeL l).filter (fun x => x != k) := by
  obtain ⟨hl1, hl2⟩ := term_len hT
  have hT2 := termOk_quant hT hw hl hop hk hb
  have et : freeTop (l ++ [⟨op, 1, k, (l.length : Int) - 1, b, 0⟩]) = freeRow (freeRows l l.length) ⟨op, 1, k, (l.length : Int) - 1, b, 0⟩ := by
    unfold freeTop
    have e1 : ((l ++ [(⟨op, 1, k, (l.length : Int) - 1, b, 0⟩ : Nd)]).length : Int) - 1 = (l.length : Int) := by simp
    have e2 : (l ++ [(⟨op, 1, k, (l.length : Int) - 1, b, 0⟩ : Nd)]).length = l.length + 1 := by simp
    rw [e1, e2, row_new, nth_app_last, freeRows_app l _ _ (Nat.le_refl _)]
  have ef : ∀ v, v < 8 → flag (freeTop (l ++ [⟨op, 1, k, (l.length : Int) - 1, b, 0⟩])) v = (flag (freeTop l) v && !(k == (v : Int))) := by
    intro v hv
    rw [et, flag_freeRow _ _ _ hv]
    unfold freeAt
    have hq : ((op == 19) || (op == 20)) = true := by simp; omega
    have h1 : (op == 1) = false := by simp; omega
    have hp : parts (⟨op, 1, k, (l.length : Int) - 1, b, 0⟩ : Nd) = [(l.length : Int) - 1] := parts_one (by simp only; omega)
    dsimp only
    rw [hq, h1, hp]
    have hin : inParts (freeRows l l.length) [(l.length : Int) - 1] v = flag (freeTop l) v := by simp [inParts, freeTop]
    rw [hin]
    cases hkv : (k == (v : Int)) <;> simp
  unfold freeL
  rw [hT, hT2]
  simp only [if_true]
  unfold freeTo
  rw [List.filter_map]
  congr 1
  rw [List.filter_filter]
  apply List.filter_congr
  intro v hv
  rw [ef v (List.mem_range.1 hv)]
  simp only [Function.comp]
  rw [Bool.and_comm]
  congr 1
  cases hkv : (k == (v : Int))
  · have : ¬ k = (v : Int) := by simpa using hkv
    simp; exact fun e => this e.symm
  · have : k = (v : Int) := by simpa using hkv
    simp [this]

end Go.Proofs.Ytebejleeadofcaa.Tm12
