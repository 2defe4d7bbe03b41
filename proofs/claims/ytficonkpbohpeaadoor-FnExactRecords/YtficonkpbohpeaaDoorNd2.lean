/- Walks of the exact laws' helpers on slices of nodes. -/
import Derived.Deep.RegionWith
import Derived.Test.YtficonkpbohpeaaDoorNd0
import Derived.Test.YtficonkpbohpeaaDoorNd1
namespace Go.Proofs.YtficonkpbohpeaaDoor.Nd2
open Go.RowKit
open Nd0 Nd1
set_option linter.unusedVariables false

end Go.Proofs.YtficonkpbohpeaaDoor.Nd2
