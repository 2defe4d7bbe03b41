/- The walk of the model's search for what the root reaches. -/
import Derived.WalkSpells
import Derived.Deep.Light
import Derived.Test.YtmghkeahlhlclaaDoorSp2
import Derived.Test.YtmghkeahlhlclaaDoorPkB
import Derived.Test.YtmghkeahlhlclaaDoorPkA
namespace Go.Proofs.YtmghkeahlhlclaaDoor.Sp5
open Go.RowKit
open Nd0 Nd1 Tm0 Tm1 Ap1 Sp2
set_option linter.unusedVariables false

end Go.Proofs.YtmghkeahlhlclaaDoor.Sp5
