/- What the world's shape says of a variable of the library's. -/
import Derived.Test.YtlpbfbghgacjiaaRows
import Derived.Shelf.Vars
import Derived.WalkKit
namespace Go.Proofs.Ytlpbfbghgacjiaa.Sh0
theorem max_of_shaped {w : World} (h : w.ShapedOpen Try.prog) : ∃ m, w.cell? ⟨0, 0, none⟩ = some (.int .i64 m) :=
  cell_of_shapedOpen_int (t := 3) (zero := #[.int .i64 0]) h (of_decide_eq_true (by kernel_rfl)) (by kernel_rfl) rfl (by kernel_rfl) (by kernel_rfl) Try.underlying3
end Go.Proofs.Ytlpbfbghgacjiaa.Sh0
