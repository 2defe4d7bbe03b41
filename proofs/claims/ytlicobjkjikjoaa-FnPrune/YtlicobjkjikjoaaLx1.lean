/- The walk of the exact law of TermOk, out of a contract of the program's TermOk. -/
import Derived.Test.YtlicobjkjikjoaaSp4
import Derived.Test.YtlicobjkjikjoaaIc2
import Derived.Test.YtlicobjkjikjoaaPkB
namespace Go.Proofs.Ytlicobjkjikjoaa.Lx1
open Go.RowKit
open Nd0 Nd1 Nd2 Nd3 Nd4 Tm0 Sp4
set_option linter.unusedVariables false

end Go.Proofs.Ytlicobjkjikjoaa.Lx1
