/- The program's functions over tables: count, known, not. -/
import Derived.Test.YtldeakifeifgdaaTc10
import Derived.Test.YtldeakifeifgdaaTd2
import Derived.Test.YtldeakifeifgdaaTa2
namespace Go.Proofs.Ytldeakifeifgdaa.Te1
open Go.RowKit
open Ta0 Ta1 Ta2 Tc2 Tc4 Tc5 Tc6 Tc7 Tc8 Td1 Td2
open Nd0 (Kept Ints set_other set_same lt_of_cell)
open Ss0 (bs bs_size ret_str bs_ext)
open Ss1 (tl tl_length tl_get tl_take bs_tl tl_bs tl_inj eqb)
set_option linter.unusedVariables false

theorem iOk1 (n : Nat) (F : Nat → Bool) (w : World) (hn : n ≤ 12) :
    Calls Try.prog 33 #[tv (n : Int) (bs (tab n F))] w fun e w' => e = .returned (.bool true) ∧ Below w.heap.size w w' := by
  have := iTableOk (n : Int) (bs (tab n F)) w (by rw [bs_size, tab_length]; have := p12 hn; omega)
  rwa [tl_bs, tab_tok F hn] at this
theorem iOk0 {N : Int} {S : ByteArray} (w : World) (hS : S.size ≤ 1048576) (h : tokB N (tl S) = false) :
    Calls Try.prog 33 #[tv N S] w fun e w' => e = .returned (.bool false) ∧ Below w.heap.size w w' := by
  have := iTableOk N S w hS
  rwa [h] at this
/-- A table packed: what comes of it, with the frame. -/
theorem count_tab (n : Nat) (F : Nat → Bool) : cnt (upto (2 ^ n) F) (64 * nw n) = cnt F (2 ^ n) := cnt_past F _ _ (by unfold nw; omega)
theorem tab_upto (n : Nat) (F : Nat → Bool) : tab n (upto (2 ^ n) F) = tab n F := tab_ext fun i hi => by simp [upto, hi]

set_option maxHeartbeats 400000 in
theorem iBitOk (x : Int) (w : World) : Calls Try.prog 51 #[.int .i64 x] w fun e w' => e = .returned (.bool (bitB x)) ∧ w' = w := by
  by_cases h0 : x = 0
  · have hb : (x == 0) = true := by rw [h0]; rfl
    have HB : Hid (bitB x = true) := decide_eq_true (.inl h0)
    clear h0
    go_enter Try.func51, Try.ntmps51
    go_wp2
    go_ret
    exact ⟨ret_bool HB.out.symm, rfl⟩
  · have hb : (x == 0) = false := beq_eq_false_iff_ne.2 h0
    by_cases h1 : x = 1
    · have hb1 : (x == 1) = true := by rw [h1]; rfl
      have HB : Hid (bitB x = true) := decide_eq_true (.inr h1)
      clear h0 h1
      go_enter Try.func51, Try.ntmps51
      go_wp2
      go_ret
      exact ⟨ret_bool HB.out.symm, rfl⟩
    · have hb1 : (x == 1) = false := beq_eq_false_iff_ne.2 h1
      have HB : Hid (bitB x = false) := decide_eq_false (by omega)
      clear h0 h1
      go_enter Try.func51, Try.ntmps51
      go_wp2
      go_ret
      exact ⟨ret_bool HB.out.symm, rfl⟩

end Go.Proofs.Ytldeakifeifgdaa.Te1
