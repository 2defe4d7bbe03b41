/- The model's functions over tables: half, at. -/
import Derived.Test.YtkcbonocbdfbcaaDoorTd3
import Derived.Test.YtkcbonocbdfbcaaDoorTa2
namespace Go.Proofs.YtkcbonocbdfbcaaDoor.Td4
open Go.RowKit
open Ta0 Ta1 Ta2 Tc2 Tc5 Ap9 Td1 Td2
open Nd0 (Kept Ints set_other set_same lt_of_cell)
open Ss0 (bs bs_size ret_str bs_ext)
open Ss1 (tl tl_length tl_get tl_take bs_tl tl_bs tl_inj eqb)
set_option linter.unusedVariables false

end Go.Proofs.YtkcbonocbdfbcaaDoor.Td4
