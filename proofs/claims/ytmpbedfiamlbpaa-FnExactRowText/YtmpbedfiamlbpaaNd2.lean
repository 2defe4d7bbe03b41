/- Walks of the exact laws' helpers on slices of nodes. -/
import Derived.Deep.RegionWith
import Derived.Test.YtmpbedfiamlbpaaNd0
import Derived.Test.YtmpbedfiamlbpaaNd1
namespace Go.Proofs.Ytmpbedfiamlbpaa.Nd2
open Go.RowKit
open Nd0 Nd1
set_option linter.unusedVariables false

end Go.Proofs.Ytmpbedfiamlbpaa.Nd2
