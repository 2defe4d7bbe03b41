/- What wires are worth: plain facts, one choice of the inputs or 64 at once. -/
import Derived.Test.YtnpfegfjejfaaaaGr1
import Derived.Test.YtnpfegfjejfaaaaTa1
namespace Go.Proofs.Ytnpfegfjejfaaaa.Wv0
open Go.RowKit
open Nd0 Qb0 Gr0 Gr1 Ta0 Ta1
set_option linter.unusedVariables false

/-- A wire's value, the nodes' values known. -/
def wv (vs : List Bool) (w : Int) : Bool := (vs.getD (w / 2).toNat false) ^^ decide (w % 2 = 1)
/-- The values of the nodes up to and number m. -/
def vl (I : Nat → Bool) (n : Nat) (l : List An) : Nat → List Bool
  | 0 => false :: (List.range n).map I
  | m + 1 => vl I n l m ++ [wv (vl I n l m) (nth l m).a && wv (vl I n l m) (nth l m).b]
theorem vl_len (I : Nat → Bool) (n : Nat) (l : List An) (m : Nat) : (vl I n l m).length = n + 1 + m := by
  induction m with
  | zero => simp [vl]
  | succ m ih => simp [vl, ih]; omega
theorem vl_old {I : Nat → Bool} {n : Nat} {l : List An} {m j : Nat} (h : j < n + 1 + m) : (vl I n l (m + 1)).getD j false = (vl I n l m).getD j false := by
  simp only [vl, List.getD]
  rw [List.getElem?_append_left (by rw [vl_len]; exact h)]
theorem vl_new {I : Nat → Bool} {n : Nat} {l : List An} {m : Nat} : (vl I n l (m + 1)).getD (n + 1 + m) false = (wv (vl I n l m) (nth l m).a && wv (vl I n l m) (nth l m).b) := by
  simp only [vl, List.getD]
  rw [List.getElem?_append_right (by rw [vl_len]; exact Nat.le_refl _), vl_len]
  simp
/-- What a wire of a graph is at a choice of the inputs. -/
def gval (I : Nat → Bool) (n : Nat) (l : List An) (w : Int) : Bool := wv (vl I n l l.length) w

/-- The word of node j behind m ands. -/
def nW (U : Nat → Nat → Bool) (n : Nat) (l : List An) (m j : Nat) : Nat := wdN (fun k => (vl (fun i => U i k) n l m).getD j false) 64
def wW (U : Nat → Nat → Bool) (n : Nat) (l : List An) (m : Nat) (w : Int) : Nat := wdN (fun k => wv (vl (fun i => U i k) n l m) w) 64
theorem nW_old {U : Nat → Nat → Bool} {n : Nat} {l : List An} {m j : Nat} (h : j < n + 1 + m) : nW U n l (m + 1) j = nW U n l m j := by
  unfold nW
  congr 1
  funext k
  exact vl_old h
theorem nW_new {U : Nat → Nat → Bool} {n : Nat} {l : List An} {m : Nat} : nW U n l (m + 1) (n + 1 + m) = wW U n l m (nth l m).a &&& wW U n l m (nth l m).b := by
  refine Eq.symm (wdN_of _ _ _ fun j => ?_)
  rw [Nat.testBit_and, wW, wW, wdN_bit, wdN_bit]
  by_cases h : j < 64
  · rw [decide_eq_true h, Bool.true_and, Bool.true_and, Bool.true_and, vl_new]
  · rw [decide_eq_false h, Bool.false_and, Bool.false_and, Bool.false_and]
theorem wW_even {U : Nat → Nat → Bool} {n : Nat} {l : List An} {m : Nat} {w : Int} (h : w % 2 = 0) : wW U n l m w = nW U n l m (w / 2).toNat := by
  unfold wW nW wv
  congr 1
  funext k
  rw [decide_eq_false (by omega), Bool.xor_false]
theorem wW_odd {U : Nat → Nat → Bool} {n : Nat} {l : List An} {m : Nat} {w : Int} (h : w % 2 = 1) : wW U n l m w = nW U n l m (w / 2).toNat ^^^ 18446744073709551615 := by
  refine Eq.symm (wdN_of _ _ _ fun j => ?_)
  have e : (18446744073709551615 : Nat) = 2 ^ 64 - 1 := by decide
  rw [Nat.testBit_xor, nW, wdN_bit, e, Nat.testBit_two_pow_sub_one]
  by_cases hj : j < 64
  · simp only [hj, decide_true, Bool.true_and, wv, h, Bool.xor_true]
  · simp [hj]
theorem nW_lt (U : Nat → Nat → Bool) (n : Nat) (l : List An) (m j : Nat) : nW U n l m j < 18446744073709551616 := wdN_lt _ 64
theorem wW_lt (U : Nat → Nat → Bool) (n : Nat) (l : List An) (m : Nat) (w : Int) : wW U n l m w < 18446744073709551616 := wdN_lt _ 64
theorem bxoru {x y : Nat} (hx : x < 18446744073709551616) (hy : y < 18446744073709551616) : bits .xor .u64 (x : Int) (y : Int) = ((x ^^^ y : Nat) : Int) := by
  have e : bits .xor .u64 (x : Int) (y : Int) = IntKind.u64.wrap ((BitVec.ofInt 64 (x : Int) ^^^ BitVec.ofInt 64 (y : Int)).toNat : Int) := rfl
  have h := Nat.xor_lt_two_pow (n := 64) hx hy
  rw [e, BitVec.toNat_xor, BitVec.toNat_ofInt, BitVec.toNat_ofInt]
  have e2 : ((2 ^ 64 : Nat) : Int) = 18446744073709551616 := by decide
  rw [e2, show ((x : Int) % 18446744073709551616).toNat = x by omega, show ((y : Int) % 18446744073709551616).toNat = y by omega, IntKind.wrap_u64]
  have e3 : (2 : Nat) ^ 64 = 18446744073709551616 := by decide
  rw [e3] at h
  omega
theorem bandu {x y : Nat} (hx : x < 18446744073709551616) (hy : y < 18446744073709551616) : bits .and .u64 (x : Int) (y : Int) = ((x &&& y : Nat) : Int) := by
  have e : bits .and .u64 (x : Int) (y : Int) = IntKind.u64.wrap ((BitVec.ofInt 64 (x : Int) &&& BitVec.ofInt 64 (y : Int)).toNat : Int) := rfl
  have h := Nat.and_lt_two_pow (n := 64) x hy
  rw [e, BitVec.toNat_and, BitVec.toNat_ofInt, BitVec.toNat_ofInt]
  have e2 : ((2 ^ 64 : Nat) : Int) = 18446744073709551616 := by decide
  rw [e2, show ((x : Int) % 18446744073709551616).toNat = x by omega, show ((y : Int) % 18446744073709551616).toNat = y by omega, IntKind.wrap_u64]
  have e3 : (2 : Nat) ^ 64 = 18446744073709551616 := by decide
  rw [e3] at h
  omega
/-- The words of all nodes behind m ands. -/
def vW (U : Nat → Nat → Bool) (n : Nat) (l : List An) (m : Nat) : List Nat := (List.range (n + 1 + m)).map (nW U n l m)
theorem vW_len (U : Nat → Nat → Bool) (n : Nat) (l : List An) (m : Nat) : (vW U n l m).length = n + 1 + m := by simp [vW]
theorem vW_get (U : Nat → Nat → Bool) (n : Nat) (l : List An) (m j : Nat) (h : j < (vW U n l m).length) : (vW U n l m)[j] = nW U n l m j := by simp [vW]
theorem vW_next (U : Nat → Nat → Bool) (n : Nat) (l : List An) (m : Nat) : vW U n l (m + 1) = vW U n l m ++ [wW U n l m (nth l m).a &&& wW U n l m (nth l m).b] := by
  unfold vW
  rw [show n + 1 + (m + 1) = (n + 1 + m) + 1 by omega, List.range_succ, List.map_append, List.map_singleton, nW_new]
  congr 1
  refine List.map_congr_left fun j hj => ?_
  exact nW_old (List.mem_range.1 hj)
theorem vW_zero (U : Nat → Nat → Bool) (n : Nat) (l : List An) : vW U n l 0 = 0 :: (List.range n).map fun i => wdN (U i) 64 := by
  unfold vW
  rw [show n + 1 + 0 = n + 1 by omega, List.range_succ_eq_map, List.map_cons, List.map_map]
  have h0 : nW U n l 0 0 = 0 := Eq.symm (wdN_of _ _ _ fun j => by simp [vl])
  rw [h0]
  refine congrArg (List.cons 0) (List.map_congr_left fun i hi => ?_)
  have hi' := List.mem_range.1 hi
  simp [nW, vl, hi']

end Go.Proofs.Ytnpfegfjejfaaaa.Wv0
