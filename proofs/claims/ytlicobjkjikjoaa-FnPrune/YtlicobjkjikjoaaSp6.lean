/- The walk of the model's list of reached nodes. -/
import Derived.Test.YtlicobjkjikjoaaSp4
import Derived.Test.YtlicobjkjikjoaaSp5
import Derived.Test.YtlicobjkjikjoaaPkA
namespace Go.Proofs.Ytlicobjkjikjoaa.Sp6
open Go.RowKit
open Nd0 Nd1 Tm0 Tm1 Tm2 Ap0 Ap1 Sp2 Sp4 Sp5
set_option linter.unusedVariables false

end Go.Proofs.Ytlicobjkjikjoaa.Sp6
