/- The walk of the model's list of reached nodes. -/
import Derived.Test.YtfkobceajohldaaDoorSp4
import Derived.Test.YtfkobceajohldaaDoorSp5
import Derived.Test.YtfkobceajohldaaDoorPkA
namespace Go.Proofs.YtfkobceajohldaaDoor.Sp6
open Go.RowKit
open Nd0 Nd1 Tm0 Tm1 Tm2 Ap0 Ap1 Sp2 Sp4 Sp5
set_option linter.unusedVariables false

end Go.Proofs.YtfkobceajohldaaDoor.Sp6
