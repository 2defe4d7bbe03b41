/- The program's functions over tables: count, known, not. -/
import Derived.Test.YtmpbedfiamlbpaaDoorTc10
import Derived.Test.YtmpbedfiamlbpaaDoorTd2
import Derived.Test.YtmpbedfiamlbpaaDoorTa2
namespace Go.Proofs.YtmpbedfiamlbpaaDoor.Te1
open Go.RowKit
open Ta0 Ta1 Ta2 Tc2 Tc4 Tc5 Tc6 Tc7 Tc8 Td1 Td2
open Nd0 (Kept Ints set_other set_same lt_of_cell)
open Ss0 (bs bs_size ret_str bs_ext)
open Ss1 (tl tl_length tl_get tl_take bs_tl tl_bs tl_inj eqb)
set_option linter.unusedVariables false

theorem iOk1 (n : Nat) (F : Nat → Bool) (w : World) (hn : n ≤ 12) :
    Calls Tryd.prog 12 #[tv (n : Int) (bs (tab n F))] w fun e w' => e = .returned (.bool true) ∧ Below w.heap.size w w' := by
  have := iTableOk (n : Int) (bs (tab n F)) w (by rw [bs_size, tab_length]; have := p12 hn; omega)
  rwa [tl_bs, tab_tok F hn] at this
theorem iOk0 {N : Int} {S : ByteArray} (w : World) (hS : S.size ≤ 1048576) (h : tokB N (tl S) = false) :
    Calls Tryd.prog 12 #[tv N S] w fun e w' => e = .returned (.bool false) ∧ Below w.heap.size w w' := by
  have := iTableOk N S w hS
  rwa [h] at this
/-- A table packed: what comes of it, with the frame. -/
theorem count_tab (n : Nat) (F : Nat → Bool) : cnt (upto (2 ^ n) F) (64 * nw n) = cnt F (2 ^ n) := cnt_past F _ _ (by unfold nw; omega)
theorem tab_upto (n : Nat) (F : Nat → Bool) : tab n (upto (2 ^ n) F) = tab n F := tab_ext fun i hi => by simp [upto, hi]

end Go.Proofs.YtmpbedfiamlbpaaDoor.Te1
