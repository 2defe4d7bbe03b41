/- Walks of the exact laws' helpers on Seens. Written by tools/gen_qc1.py. -/
import Derived.Test.YtficonkpbohpeaaDoorRows
import Derived.Deep.RegionWith
import Derived.Laws.MakeOwn
import Derived.Test.YtficonkpbohpeaaDoorNd1
import Derived.Test.YtficonkpbohpeaaDoorQc0
namespace Go.Proofs.YtficonkpbohpeaaDoor.Qc1
open Go.RowKit
open Nd0 Nd1 Qc0
set_option linter.unusedVariables false

def zerosSn (n : Nat) : Array Value := madeCells #[.string ByteArray.empty, .int .i64 0] (n * 2)
theorem zerosSn_get (n i j : Nat) (h : i < n) (hj : j < 2) : (zerosSn n)[i * 2 + j]? = some (#[.string ByteArray.empty, .int .i64 0] : Array Value)[j]! := by
  simp only [zerosSn, madeCells, Array.getElem?_map, Array.getElem?_range]
  rw [if_pos (by omega)]
  simp only [Option.map_some]
  have e : (i * 2 + j) % 2 = j := by omega
  exact congrArg (fun m => some ((#[.string ByteArray.empty, .int .i64 0] : Array Value)[m]!)) e
theorem zerosSn_at (w : World) (n : Nat) (T : Nat) (j : Nat) (hj : j < n) : SnAt (w.alloc (.cells (zerosSn n) T)) w.heap.size (j * 2) Sn.zero := by
  refine ⟨by rw [World.cell?_alloc_new]; exact zerosSn_get n j 0 hj (by omega), by rw [World.cell?_alloc_new]; exact zerosSn_get n j 1 hj (by omega)⟩

end Go.Proofs.YtficonkpbohpeaaDoor.Qc1
