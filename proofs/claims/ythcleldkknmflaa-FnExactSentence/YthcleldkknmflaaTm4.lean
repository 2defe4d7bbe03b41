/- Which variables stand free, as plain data. -/
import Derived.Test.YthcleldkknmflaaTm1
namespace Go.Proofs.Ythcleldkknmflaa.Tm4
open Nd0 Pl1 Tm0 Tm1

def row (rows : List (List Bool)) (p : Int) : List Bool := rows.getD p.toNat []
def inParts (rows : List (List Bool)) (ps : List Int) (v : Nat) : Bool := ps.any fun p => flag (row rows p) v
def freeAt (rows : List (List Bool)) (n : Nd) (v : Nat) : Bool :=
  if (n.op == 19 || n.op == 20) && n.k == (v : Int) then false else (n.op == 1 && n.k == (v : Int)) || inParts rows (parts n) v
def freeRow (rows : List (List Bool)) (n : Nd) : List Bool := (List.range 8).map (freeAt rows n)
/-- For each of the first k nodes which variables are free in it. -/
def freeRows (l : List Nd) : Nat → List (List Bool)
  | 0 => []
  | k + 1 => freeRows l k ++ [freeRow (freeRows l k) (nth l k)]
theorem freeRows_length (l : List Nd) (k : Nat) : (freeRows l k).length = k := by
  induction k with
  | zero => rfl
  | succ k ih => show (freeRows l k ++ [_]).length = _; rw [List.length_append, ih]; rfl
theorem freeRow_length (rows : List (List Bool)) (n : Nd) : (freeRow rows n).length = 8 := by simp [freeRow]
theorem freeRow_take (rows : List (List Bool)) (n : Nd) (v : Nat) (h : v < 8) : (freeRow rows n).take (v + 1) = (freeRow rows n).take v ++ [freeAt rows n v] := by
  rw [List.take_succ_eq_append_getElem (by rw [freeRow_length]; exact h)]
  simp [freeRow]
def freeTop (l : List Nd) : List Bool := row (freeRows l l.length) ((l.length : Int) - 1)
def freeTo (l : List Nd) (k : Nat) : List Int := ((List.range k).filter (flag (freeTop l))).map fun (i : Nat) => (i : Int)
/-- The variables that are free in the root. -/
def freeL (l : List Nd) : List Int := if termOk l then freeTo l 8 else []
theorem freeTo_succ (l : List Nd) (k : Nat) : freeTo l (k + 1) = if flag (freeTop l) k then freeTo l k ++ [(k : Int)] else freeTo l k := by
  unfold freeTo
  rw [List.range_succ, List.filter_append, List.map_append]
  cases h : flag (freeTop l) k <;> simp [h]
theorem freeTo_length (l : List Nd) (k : Nat) : (freeTo l k).length ≤ k := by
  unfold freeTo
  rw [List.length_map]
  exact Nat.le_trans (List.length_filter_le _ _) (by simp)
theorem inParts_take (rows : List (List Bool)) (ps : List Int) (v k : Nat) (h : k < ps.length) : inParts rows (ps.take (k + 1)) v = (inParts rows (ps.take k) v || flag (row rows ps[k]) v) := by
  unfold inParts
  rw [List.take_succ_eq_append_getElem h, List.any_append]
  simp

end Go.Proofs.Ythcleldkknmflaa.Tm4
