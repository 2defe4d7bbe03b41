/- From which nodes a quantifier is reached, as plain data. -/
import Derived.Test.YthcleldkknmflaaTm4
namespace Go.Proofs.Ythcleldkknmflaa.Tm5
open Nd0 Pl1 Tm0 Tm1

def quant (op : Int) : Bool := op == 19 || op == 20
def outer (op : Int) : Bool := op == 2 || op == 3 || op == 4 || quant op
def below (bs : List Bool) (ps : List Int) : Bool := ps.any fun p => flag bs p.toNat
/-- For each of the first k nodes whether a quantifier is reached from it. -/
def holdTo (l : List Nd) : Nat → List Bool
  | 0 => []
  | k + 1 => holdTo l k ++ [quant (nth l k).op || below (holdTo l k) (parts (nth l k))]
theorem holdTo_length (l : List Nd) (k : Nat) : (holdTo l k).length = k := by
  induction k with
  | zero => rfl
  | succ k ih => show (holdTo l k ++ [_]).length = _; rw [List.length_append, ih]; rfl
theorem below_take (bs : List Bool) (ps : List Int) (k : Nat) (h : k < ps.length) : below bs (ps.take (k + 1)) = (below bs (ps.take k) || flag bs (ps[k]).toNat) := by
  unfold below
  rw [List.take_succ_eq_append_getElem h, List.any_append]
  simp

end Go.Proofs.Ythcleldkknmflaa.Tm5
