/- Walks of the model's powers of two and of its test of words. -/
import Derived.Test.YtficonkpbohpeaaRows
import Derived.WalkKit
import Derived.WalkSpells
import Derived.WalkLawsBesides
import Derived.Test.YtficonkpbohpeaaPl1
namespace Go.Proofs.Ytficonkpbohpeaa.Ws1
open Go.RowKit
open Pl1
set_option linter.unusedVariables false

theorem ret_int {k : IntKind} {a b : Int} (h : a = b) : Ending.returned (.int k a) = .returned (.int k b) := by rw [h]
theorem ret_bool {a b : Bool} (h : a = b) : Ending.returned (.bool a) = .returned (.bool b) := by rw [h]

end Go.Proofs.Ytficonkpbohpeaa.Ws1
