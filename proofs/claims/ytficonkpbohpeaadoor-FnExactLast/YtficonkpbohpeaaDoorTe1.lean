/- The program's functions over tables: count, known, not. -/
import Derived.Test.YtficonkpbohpeaaDoorTc10
import Derived.Test.YtficonkpbohpeaaDoorTd2
import Derived.Test.YtficonkpbohpeaaDoorTa2
namespace Go.Proofs.YtficonkpbohpeaaDoor.Te1
open Go.RowKit
open Ta0 Ta1 Ta2 Tc2 Tc4 Tc5 Tc6 Tc7 Tc8 Td1 Td2
open Nd0 (Kept Ints set_other set_same lt_of_cell)
open Ss0 (bs bs_size ret_str bs_ext)
open Ss1 (tl tl_length tl_get tl_take bs_tl tl_bs tl_inj eqb)
set_option linter.unusedVariables false

/-- A table packed: what comes of it, with the frame. -/
theorem count_tab (n : Nat) (F : Nat → Bool) : cnt (upto (2 ^ n) F) (64 * nw n) = cnt F (2 ^ n) := cnt_past F _ _ (by unfold nw; omega)
theorem tab_upto (n : Nat) (F : Nat → Bool) : tab n (upto (2 ^ n) F) = tab n F := tab_ext fun i hi => by simp [upto, hi]

end Go.Proofs.YtficonkpbohpeaaDoor.Te1
