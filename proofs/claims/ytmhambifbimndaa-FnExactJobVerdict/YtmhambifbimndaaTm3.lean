/- A term without what its root does not reach, as plain data. -/
import Derived.Test.YtmhambifbimndaaPkJ9
namespace Go.Proofs.Ytmhambifbimndaa.Tm3
open Nd0 Pl1 Tm0 Tm1 Tm2

/-- The new place of a node. -/
def plc (l : List Nd) (p : Int) : Int := ((reachTo l p.toNat).length : Int)
def places (l : List Nd) (k : Nat) : List Int := (List.range k).map fun i => ((reachTo l i).length : Int)
theorem places_length (l : List Nd) (k : Nat) : (places l k).length = k := by simp [places]
theorem places_get (l : List Nd) (k i : Nat) (h : i < (places l k).length) : (places l k)[i] = plc l (i : Int) := by simp [places, plc]
theorem places_succ (l : List Nd) (k : Nat) : places l (k + 1) = places l k ++ [((reachTo l k).length : Int)] := by
  unfold places; rw [List.range_succ, List.map_append]; rfl
/-- A node with its parts told by their new places. -/
def remap (l : List Nd) (n : Nd) : Nd :=
  ⟨n.op, n.w, n.k, if 0 < (parts n).length then plc l n.a else n.a, if 1 < (parts n).length then plc l n.b else n.b, if 2 < (parts n).length then plc l n.c else n.c⟩
def pruneTo (l : List Nd) (k : Nat) : List Nd := ((List.range k).filter (flag (reachL l))).map fun i => remap l (nth l i)
def pruneL (l : List Nd) : List Nd := if termOk l then pruneTo l l.length else []
theorem pruneTo_succ (l : List Nd) (k : Nat) : pruneTo l (k + 1) = if flag (reachL l) k then pruneTo l k ++ [remap l (nth l k)] else pruneTo l k := by
  unfold pruneTo
  rw [List.range_succ, List.filter_append, List.map_append]
  cases h : flag (reachL l) k <;> simp [h]
theorem pruneTo_length (l : List Nd) (k : Nat) : (pruneTo l k).length = (reachTo l k).length := by simp [pruneTo, reachTo]
theorem pruneL_le (l : List Nd) : (pruneL l).length ≤ l.length := by
  unfold pruneL; split
  · rw [pruneTo_length]; exact reachTo_length l _
  · exact Nat.zero_le _
theorem parts_cases (n : Nd) : parts n = [] ∨ parts n = [n.a] ∨ parts n = [n.a, n.b] ∨ parts n = [n.a, n.b, n.c] := by
  unfold parts
  split
  · exact .inr (.inl rfl)
  · split
    · exact .inr (.inr (.inl rfl))
    · split
      · exact .inr (.inr (.inr rfl))
      · exact .inl rfl

end Go.Proofs.Ytmhambifbimndaa.Tm3
