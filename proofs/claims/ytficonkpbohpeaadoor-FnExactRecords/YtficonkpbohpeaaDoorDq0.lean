/- Rows of flags: copied, turned, owned. -/
import Derived.Test.YtficonkpbohpeaaDoorNd6
import Derived.Test.YtficonkpbohpeaaDoorTa2
import Derived.Test.YtficonkpbohpeaaDoorTc2
namespace Go.Proofs.YtficonkpbohpeaaDoor.Dq0
open Go.RowKit
open Nd0 Nd1 Nd2 Nd3 Ap1 Nd6
open Ta2 (bitB)
set_option linter.unusedVariables false

theorem infoBool0 : (Tryd.prog.info? 4).map (fun i => (i.zero, i.size, i.bytes)) = some (some (.bool false), 1, 1) := by kernel_rfl
def noughtsB (n : Nat) : Array Value := madeCells #[.bool false] (n * 1)
theorem noughtsB_get (n j : Nat) (h : j < n) : (noughtsB n)[j]? = some (.bool false) := by
  simp only [noughtsB, madeCells, Array.getElem?_map, Array.getElem?_range]
  rw [if_pos (by omega)]
  simp only [Option.map_some]
  have e : j % 1 = 0 := Nat.mod_one j
  exact congrArg (fun m => some ((#[.bool false] : Array Value)[m]!)) e
/-- The first k flags, each changed by f. -/
def mapTo (f : Bool → Bool) (l : List Bool) (k : Nat) : List Bool := (l.take k).map f
theorem mapTo_next {f : Bool → Bool} {l : List Bool} {k : Nat} (h : k < l.length) : mapTo f l (k + 1) = mapTo f l k ++ [f l[k]] := by
  unfold mapTo
  rw [List.take_succ_eq_append_getElem h, List.map_append]
  rfl
theorem mapTo_len {f : Bool → Bool} {l : List Bool} {k : Nat} (h : k ≤ l.length) : (mapTo f l k).length = k := by
  unfold mapTo
  rw [List.length_map, List.length_take]
  omega
/-- Every flag turned. -/
def turnL (l : List Bool) : List Bool := l.map not
theorem turnL_length (l : List Bool) : (turnL l).length = l.length := List.length_map ..
theorem mapTo_all {f : Bool → Bool} {l : List Bool} {k : Nat} (h : ¬ k < l.length) : mapTo f l k = l.map f := by
  unfold mapTo
  rw [List.take_of_length_le (by omega)]

end Go.Proofs.YtficonkpbohpeaaDoor.Dq0
