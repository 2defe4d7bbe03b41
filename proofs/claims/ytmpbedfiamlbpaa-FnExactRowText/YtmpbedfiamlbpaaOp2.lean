/- Arguments that are tables or lists of whole numbers, opened. -/
import Derived.Test.YtmpbedfiamlbpaaRows
import Derived.ProofKit
import Derived.Deep.Slices
import Derived.ChangeSlices
import Derived.Test.YtmpbedfiamlbpaaNd0
namespace Go.Proofs.Ytmpbedfiamlbpaa.Op2
open Go.RowKit Go.ChangeShapes Go.WideShapes
open Nd0
set_option linter.unusedVariables false

theorem cellsInt : Try.prog.cellsOf 3 = 1 := by kernel_rfl
theorem cellsStr : Try.prog.cellsOf 9 = 1 := by kernel_rfl
theorem pair {α : Type} (l : List α) (h : l.length = 2) : ∃ a b, l = [a, b] := by
  match l, h with
  | [a, b], _ => exact ⟨a, b, rfl⟩
end Go.Proofs.Ytmpbedfiamlbpaa.Op2
