/- The walk of the model's search for what the root reaches. -/
import Derived.WalkSpells
import Derived.Deep.Light
import Derived.Test.YtjhhmnelddidjaaSp2
import Derived.Test.YtjhhmnelddidjaaPkB
import Derived.Test.YtjhhmnelddidjaaPkA
namespace Go.Proofs.Ytjhhmnelddidjaa.Sp5
open Go.RowKit
open Nd0 Nd1 Tm0 Tm1 Ap1 Sp2
set_option linter.unusedVariables false

end Go.Proofs.Ytjhhmnelddidjaa.Sp5
