/- Small functions of the laws over tables; the exact law of TableOk. -/
import Derived.Test.YtammepilfimlcaaTc2
namespace Go.Proofs.Ytammepilfimlcaa.Tc3
open Go.RowKit
open Ta0 Ta1 Tc2
open Ss0 (bs bs_size ret_str)
open Ss1 (tl tl_length tl_get tl_take bs_tl tl_bs tl_inj eqb)
set_option linter.unusedVariables false

set_option maxHeartbeats 400000 in
theorem szTable (N : Int) (S : ByteArray) (left : Int) (w : World) (h0 : 0 ≤ left) (h1 : left ≤ 1048576) (hS : S.size ≤ maxLen) :
    Calls Try.prog 12 #[tv N S, .int .i64 left] w fun e w' => e = .returned (.int .i64 (if (S.size : Int) ≤ left then left - S.size else -1)) ∧ Below w.heap.size w w' := by
  unfold maxLen at hS
  have HB : Hid (Below w.heap.size w (w.alloc (.cells #[.int .i64 N, .string S] 23))) := (Below.refl _ _).alloc (Nat.le_refl _) _
  by_cases h : (S.size : Int) ≤ left
  · have hn : ¬ left - (S.size : Int) < 0 := by omega
    rw [if_pos h]
    go_enter Try.func12, Try.ntmps12
    go_wp2
    go_ret
    exact ⟨rfl, HB.out⟩
  · have hn : left - (S.size : Int) < 0 := by omega
    rw [if_neg h]
    go_enter Try.func12, Try.ntmps12
    go_wp2
    go_ret
    exact ⟨rfl, HB.out⟩

set_option maxHeartbeats 400000 in
theorem toTable (N : Int) (S : ByteArray) (w : World) :
    Calls Try.prog 14 #[tv N S] w fun e w' => e = .returned (tv N S) ∧ Below w.heap.size w w' := by
  go_enter Try.func14, Try.ntmps14
  go_wp2
  exact bodyPost_ret (v := tv N S) (by simp [results, Try.results14, go_sem]) rfl ⟨rfl, by
    repeat (first | exact Below.refl _ _ | refine Below.setCell ?_ (by simp <;> omega) _ | refine Below.alloc ?_ (by simp <;> omega) _)⟩

set_option maxHeartbeats 400000 in
theorem eqTable (N M : Int) (S T : ByteArray) (w : World) :
    Calls Try.prog 22 #[tv N S, tv M T] w fun e w' => e = .returned (.bool (decide (N = M ∧ S = T))) ∧ Below w.heap.size w w' := by
  have HB : Hid (Below w.heap.size w ((w.alloc (.cells #[.int .i64 N, .string S] 26)).alloc (.cells #[.int .i64 M, .string T] 26))) := ((Below.refl _ _).alloc (Nat.le_refl _) _).alloc (by simp) _
  by_cases h : N = M
  · have hb : (N != M) = false := by rw [h]; simp
    by_cases h2 : S = T
    · have hb2 : (S.toList == T.toList) = true := by rw [h2]; simp
      have HD : Hid (decide (N = M ∧ S = T) = true) := decide_eq_true ⟨h, h2⟩
      clear h h2
      go_enter Try.func22, Try.ntmps22
      go_wp2
      go_ret
      exact ⟨ret_bool HD.out.symm, HB.out⟩
    · have hb2 : (S.toList == T.toList) = false := by rw [eqb]; exact decide_eq_false fun k => h2 (tl_inj k)
      have HD : Hid (decide (N = M ∧ S = T) = false) := decide_eq_false fun k => h2 k.2
      clear h h2
      go_enter Try.func22, Try.ntmps22
      go_wp2
      go_ret
      exact ⟨ret_bool HD.out.symm, HB.out⟩
  · have hb : (N != M) = true := bne_iff_ne.2 h
    have HD : Hid (decide (N = M ∧ S = T) = false) := decide_eq_false fun k => h k.1
    clear h
    go_enter Try.func22, Try.ntmps22
    go_wp2
    go_ret
    exact ⟨ret_bool HD.out.symm, HB.out⟩

/-- A table lies in the block g. -/
structure Tbx (W : World) (g : Nat) (N : Int) (S : ByteArray) : Prop where
  c0 : W.cell? ⟨g, 0, none⟩ = some (.int .i64 N)
  c1 : W.cell? ⟨g, 1, none⟩ = some (.string S)
theorem Tbx.below {W W' : World} {g : Nat} {N : Int} {S : ByteArray} (h : Tbx W g N S) (k : Below W.heap.size W W') : Tbx W' g N S := by
  have hg : g < W.heap.size := World.block_lt_of_cell? _ _ h.c0
  exact ⟨by rw [k.cell (p := ⟨g, 0, none⟩) hg]; exact h.c0, by rw [k.cell (p := ⟨g, 1, none⟩) hg]; exact h.c1⟩
theorem Tbx.made (w : World) (N : Int) (S : ByteArray) (T : Nat) : Tbx (w.alloc (.cells #[.int .i64 N, .string S] T)) w.heap.size N S :=
  ⟨by simp, by simp⟩
theorem Tbx.alloc {W : World} {g : Nat} {N : Int} {S : ByteArray} (h : Tbx W g N S) (o : Obj) : Tbx (W.alloc o) g N S :=
  h.below ((Below.refl _ _).alloc (Nat.le_refl _) _)

set_option maxHeartbeats 2000000 in
theorem exTableOk (N : Int) (S : ByteArray) (w : World) (hS : S.size ≤ maxLen) :
    Calls Try.prog 3 #[tv N S] w fun e w' => e = .returned (.bool true) ∧ Below w.heap.size w w' := by
  have HB0 : Hid (Below w.heap.size w (w.alloc (.cells #[.int .i64 N, .string S] 23))) := (Below.refl _ _).alloc (Nat.le_refl _) _
  have HX0 : Hid (Tbx (w.alloc (.cells #[.int .i64 N, .string S] 23)) w.heap.size N S) := Tbx.made _ _ _ _
  by_cases hl : S.size ≤ 1048576
  rotate_left
  · have hlz : (-1 : Int) < 0 := by omega
    go_enter Try.func3, Try.ntmps3
    go_wp2_with fail
    refine (szTable N S _ _ (by omega) (by omega) hS).mono ?_
    rw [if_neg (by omega)]
    rintro e x1 ⟨rfl, hb⟩
    have HB1 : Hid (Below w.heap.size w x1) := HB0.out.trans (hb.mono HB0.out.size)
    clear hb
    go_wp2
    go_ret
    exact ⟨rfl, HB1.out⟩
  go_enter Try.func3, Try.ntmps3
  go_wp2_with fail
  refine (szTable N S _ _ (by omega) (by omega) hS).mono ?_
  rw [if_pos (by omega)]
  rintro e x1 ⟨rfl, hb⟩
  have HB1 : Hid (Below w.heap.size w x1) := HB0.out.trans (hb.mono HB0.out.size)
  have HX1 : Hid (Tbx x1 w.heap.size N S) := HX0.out.below hb
  obtain ⟨c0, c1⟩ := HX1.out
  have hp0 : ¬ (1048576 : Int) - (S.size : Int) < 0 := by omega
  clear hb
  go_wp2_with fail
  refine (toTable N S _).mono ?_
  rintro e x2 ⟨rfl, hb⟩
  have HB2 : Hid (Below w.heap.size w x2) := HB1.out.trans (hb.mono HB1.out.size)
  have HX2 : Hid (Tbx x2 w.heap.size N S) := HX1.out.below hb
  clear hb c0 c1
  obtain ⟨c0, c1⟩ := HX2.out
  go_wp2_with fail
  refine (sTableOk N S _ hl).mono ?_
  rintro e x3 ⟨rfl, hb⟩
  have HB3 : Hid (Below w.heap.size w x3) := HB2.out.trans (hb.mono HB2.out.size)
  have HX3 : Hid (Tbx x3 w.heap.size N S) := HX2.out.below hb
  clear hb c0 c1
  obtain ⟨c0, c1⟩ := HX3.out
  go_wp2_with fail
  refine (toTable N S _).mono ?_
  rintro e x4 ⟨rfl, hb⟩
  have HB4 : Hid (Below w.heap.size w x4) := HB3.out.trans (hb.mono HB3.out.size)
  have HX4 : Hid (Tbx x4 w.heap.size N S) := HX3.out.below hb
  clear hb c0 c1
  obtain ⟨c0, c1⟩ := HX4.out
  go_wp2_with fail
  refine (iTableOk N S _ hl).mono ?_
  rintro e x5 ⟨rfl, hb⟩
  have HB5 : Hid (Below w.heap.size w x5) := HB4.out.trans (hb.mono HB4.out.size)
  clear hb c0 c1
  have hne : (tokB N (tl S) != tokB N (tl S)) = false := by simp
  go_wp2
  go_ret
  exact ⟨rfl, HB5.out⟩

end Go.Proofs.Ytammepilfimlcaa.Tc3
