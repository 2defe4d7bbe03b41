/- The places of the reached nodes, as plain data. -/
import Derived.Test.YtficonkpbohpeaaDoorTm1
namespace Go.Proofs.YtficonkpbohpeaaDoor.Tm2
open Nd0 Pl1 Tm0 Tm1

def reachTo (l : List Nd) (k : Nat) : List Int := ((List.range k).filter (flag (reachL l))).map fun (i : Nat) => (i : Int)
/-- The places that the root reaches, ascending. -/
def reachedL (l : List Nd) : List Int := if termOk l then reachTo l l.length else []
theorem reachTo_succ (l : List Nd) (k : Nat) : reachTo l (k + 1) = if flag (reachL l) k then reachTo l k ++ [(k : Int)] else reachTo l k := by
  unfold reachTo
  rw [List.range_succ, List.filter_append, List.map_append]
  cases h : flag (reachL l) k <;> simp [h]
theorem reachTo_length (l : List Nd) (k : Nat) : (reachTo l k).length ≤ k := by
  unfold reachTo
  rw [List.length_map]
  exact Nat.le_trans (List.length_filter_le _ _) (by simp)

theorem reachedL_le (l : List Nd) : (reachedL l).length ≤ l.length := by
  unfold reachedL; split
  · exact reachTo_length l _
  · exact Nat.zero_le _

end Go.Proofs.YtficonkpbohpeaaDoor.Tm2
