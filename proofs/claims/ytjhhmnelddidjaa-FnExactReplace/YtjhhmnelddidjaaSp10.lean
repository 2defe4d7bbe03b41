/- The walks of the model's tests of operators, and of its search for nodes that hold quantifiers. -/
import Derived.Test.YtjhhmnelddidjaaSp7
import Derived.Test.YtjhhmnelddidjaaPkB
import Derived.Test.YtjhhmnelddidjaaPkA
namespace Go.Proofs.Ytjhhmnelddidjaa.Sp10
open Go.RowKit
open Nd0 Nd1 Tm0 Tm1 Tm5 Ap1 Sp2
open Sp7 (nodeAt_of)
set_option linter.unusedVariables false

set_option maxHeartbeats 400000 in
theorem sQuant (op : Int) (w : World) :
    Calls Try.prog 33 #[.int .i64 op] w fun e w' => e = .returned (.bool (quant op)) ∧ w' = w := by
  cases h1 : (op == 19) <;> cases h2 : (op == 20)
  all_goals
    go_enter Try.func33, Try.ntmps33
    go_wp2
    go_ret
    exact ⟨ret_bool (by unfold quant; rw [h1, h2]; rfl), rfl⟩

end Go.Proofs.Ytjhhmnelddidjaa.Sp10
