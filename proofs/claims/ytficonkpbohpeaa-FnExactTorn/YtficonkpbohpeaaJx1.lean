/- The exact law of Torn. -/
import Derived.Test.YtficonkpbohpeaaJn1
namespace Go.Proofs.Ytficonkpbohpeaa.Jx1
open Go.RowKit
open Jn1
set_option linter.unusedVariables false

set_option maxRecDepth 100000 in
set_option maxHeartbeats 1000000 in
theorem exTorn (w : World) (S : ByteArray) (n : Int) (hS : S.size ≤ maxLen) :
    Calls Try.prog 3 #[.string S, .int .i64 n] w fun e w' => e = .returned (.bool true) ∧ Below w.heap.size w w' := by
  by_cases hs : (1048576 : Int) < (S.size : Int)
  · go_enter Try.func3, Try.ntmps3
    go_wp2
    go_ret
    exact ⟨rfl, Below.refl _ _⟩
  have HSP : Hid _ := sTorn S n w hS
  have HIM : Hid _ := iTorn S n w hS
  obtain ⟨T, hT⟩ : ∃ T, T = trn S n := ⟨_, rfl⟩
  rw [← hT] at HSP HIM
  clear hT
  go_enter Try.func3, Try.ntmps3
  go_wp2_with fail
  refine Calls.mono HSP.out ?_
  rintro e w1 ⟨rfl, rfl⟩
  go_wp2_with fail
  refine Calls.mono HIM.out ?_
  rintro e w1 ⟨rfl, rfl⟩
  go_wp2
  go_ret
  exact ⟨rfl, Below.refl _ _⟩
end Go.Proofs.Ytficonkpbohpeaa.Jx1
