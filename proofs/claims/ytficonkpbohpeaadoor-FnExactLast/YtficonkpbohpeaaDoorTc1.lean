/- bits.OnesCount64: how many bits of a word are set. -/
import Derived.Test.YtficonkpbohpeaaDoorRows
import Derived.WalkKit
import Derived.Test.YtficonkpbohpeaaDoorTa1
namespace Go.Proofs.YtficonkpbohpeaaDoor.Tc1
open Go.RowKit
open Ta0 Ta1
set_option linter.unusedVariables false

theorem ret_int {k : IntKind} {a b : Int} (h : a = b) : Ending.returned (.int k a) = .returned (.int k b) := by rw [h]
theorem msk85 : msk 85 8 = 6148914691236517205 := by decide
theorem msk51 : msk 51 8 = 3689348814741910323 := by decide
theorem msk15 : msk 15 8 = 1085102592571150095 := by decide
theorem and_le_sum (x m : Nat) : x &&& m ≤ m := Nat.and_le_right

end Go.Proofs.YtficonkpbohpeaaDoor.Tc1
