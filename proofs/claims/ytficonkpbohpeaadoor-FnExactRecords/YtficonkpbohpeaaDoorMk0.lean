/- Marks on a machine without values and memo. Written by tools/gen_mk0.py. -/
import Derived.Test.YtficonkpbohpeaaDoorMx0
namespace Go.Proofs.YtficonkpbohpeaaDoor.Mk0
open Go.RowKit
open Nd0 (Kept Ints WInts Ats marks)
open Nd6 (Bools markB BoolsIn)
open Ap1 (WBools)
open Mm0 Mx0
set_option linter.unusedVariables false

end Go.Proofs.YtficonkpbohpeaaDoor.Mk0
