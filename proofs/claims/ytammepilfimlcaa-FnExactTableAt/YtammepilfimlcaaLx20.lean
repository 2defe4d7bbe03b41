/- The exact laws of TableCount, Known and TableNot. -/
import Derived.Test.YtammepilfimlcaaTe1
import Derived.Test.YtammepilfimlcaaTc3
namespace Go.Proofs.Ytammepilfimlcaa.Lx20
open Go.RowKit
open Ta0 Ta1 Tc2 Tc3 Td1 Td2 Te1
open Ss0 (bs bs_size)
open Ss1 (tl bs_tl)
set_option linter.unusedVariables false

theorem tok_str {N : Int} {S : ByteArray} (h : tokB N (tl S) = true) : ∃ (n : Nat) (F : Nat → Bool), n ≤ 12 ∧ N = (n : Int) ∧ S = bs (tab n F) := by
  obtain ⟨n, F, h1, h2, h3⟩ := tok_tab h
  exact ⟨n, F, h1, h2, by rw [← bs_tl S, h3]⟩

theorem bCount (N : Int) (S : ByteArray) (hS : S.size ≤ 1048576) : ∃ r : Int, (∀ W, Calls Try.prog 35 #[tv N S] W fun e w' => e = .returned (.int .i64 r) ∧ Below W.heap.size W w') ∧ ∀ W, Calls Try.prog 36 #[tv N S] W fun e w' => e = .returned (.int .i64 r) ∧ Below W.heap.size W w' := by
  cases h : tokB N (tl S)
  · exact ⟨-1, fun W => sCount0 W hS h, fun W => iCount0 W hS h⟩
  · obtain ⟨n, F, hn, rfl, rfl⟩ := tok_str h
    exact ⟨((cnt F (2 ^ n) : Nat) : Int), fun W => sCount n F W hn, fun W => iCount n F W hn⟩

set_option maxRecDepth 100000 in
set_option maxHeartbeats 4000000 in
theorem exTableCount (N : Int) (S : ByteArray) (w : World) (hS : S.size ≤ maxLen) :
    Calls Try.prog 11 #[tv N S] w fun e w' => e = .returned (.bool true) ∧ Below w.heap.size w w' := by
  have HB0 : Hid (Below w.heap.size w (w.alloc (.cells #[.int .i64 N, .string S] 23))) := (Below.refl _ _).alloc (Nat.le_refl _) _
  have HX0_0 : Hid (Tbx (w.alloc (.cells #[.int .i64 N, .string S] 23)) w.heap.size N S) := Tbx.made _ _ _ _
  by_cases hl0 : S.size ≤ 1048576
  rotate_left
  · have hlz : (-1 : Int) < 0 := by omega
    go_enter Try.func11, Try.ntmps11
    go_wp2_with fail
    refine (szTable N S _ _ (by omega) (by omega) hS).mono ?_
    rw [if_neg (by omega)]
    rintro e y1 ⟨rfl, hb⟩
    have HC1 : Hid (Below w.heap.size w y1) := HB0.out.trans (hb.mono HB0.out.size)
    clear hb
    go_wp2
    go_ret
    exact ⟨rfl, HC1.out⟩
  have hz0 : S.size ≤ 1048576 := by omega
  obtain ⟨r, hsp, him⟩ := bCount N S hz0
  have HSP : Hid _ := hsp
  have HIM : Hid _ := him
  clear hsp him
  go_enter Try.func11, Try.ntmps11
  go_wp2_with fail
  refine (szTable N S _ _ (by omega) (by omega) hS).mono ?_
  rw [if_pos (by omega)]
  rintro e x1 ⟨rfl, hb⟩
  have HB1 : Hid (Below w.heap.size w x1) := HB0.out.trans (hb.mono HB0.out.size)
  have HX0_1 : Hid (Tbx x1 w.heap.size N S) := HX0_0.out.below hb
  clear hb
  have hp0 : ¬ (1048576 : Int) - (S.size : Int) < 0 := by omega
  obtain ⟨c00, c01⟩ := HX0_1.out
  go_wp2_with fail
  refine (toTable N S _).mono ?_
  rintro e x2 ⟨rfl, hb⟩
  have HB2 : Hid (Below w.heap.size w x2) := HB1.out.trans (hb.mono HB1.out.size)
  have HX0_2 : Hid (Tbx x2 w.heap.size N S) := HX0_1.out.below hb
  clear hb c00 c01
  obtain ⟨c00, c01⟩ := HX0_2.out
  go_wp2_with fail
  refine (HSP.out _).mono ?_
  rintro e x3 ⟨rfl, hb⟩
  have HB3 : Hid (Below w.heap.size w x3) := HB2.out.trans (hb.mono HB2.out.size)
  have HX0_3 : Hid (Tbx x3 w.heap.size N S) := HX0_2.out.below hb
  clear hb c00 c01
  obtain ⟨c00, c01⟩ := HX0_3.out
  go_wp2_with fail
  refine (toTable N S _).mono ?_
  rintro e x4 ⟨rfl, hb⟩
  have HB4 : Hid (Below w.heap.size w x4) := HB3.out.trans (hb.mono HB3.out.size)
  have HX0_4 : Hid (Tbx x4 w.heap.size N S) := HX0_3.out.below hb
  clear hb c00 c01
  obtain ⟨c00, c01⟩ := HX0_4.out
  go_wp2_with fail
  refine (HIM.out _).mono ?_
  rintro e x5 ⟨rfl, hb⟩
  have HB5 : Hid (Below w.heap.size w x5) := HB4.out.trans (hb.mono HB4.out.size)
  clear hb c00 c01
  have hne : (r != r) = false := by simp
  go_wp2
  go_ret
  exact ⟨rfl, HB5.out⟩

theorem bKnown (N : Int) (S : ByteArray) (hS : S.size ≤ 1048576) : ∃ r : Int, (∀ W, Calls Try.prog 23 #[tv N S] W fun e w' => e = .returned (.int .i64 r) ∧ Below W.heap.size W w') ∧ ∀ W, Calls Try.prog 24 #[tv N S] W fun e w' => e = .returned (.int .i64 r) ∧ Below W.heap.size W w' := by
  cases h : tokB N (tl S)
  · exact ⟨-1, fun W => sKnown0 W hS h, fun W => iKnown0 W hS h⟩
  · obtain ⟨n, F, hn, rfl, rfl⟩ := tok_str h
    exact ⟨knw n F, fun W => sKnown n F W hn, fun W => iKnown n F W hn⟩

set_option maxRecDepth 100000 in
set_option maxHeartbeats 4000000 in
theorem exKnown (N : Int) (S : ByteArray) (w : World) (hS : S.size ≤ maxLen) :
    Calls Try.prog 6 #[tv N S] w fun e w' => e = .returned (.bool true) ∧ Below w.heap.size w w' := by
  have HB0 : Hid (Below w.heap.size w (w.alloc (.cells #[.int .i64 N, .string S] 23))) := (Below.refl _ _).alloc (Nat.le_refl _) _
  have HX0_0 : Hid (Tbx (w.alloc (.cells #[.int .i64 N, .string S] 23)) w.heap.size N S) := Tbx.made _ _ _ _
  by_cases hl0 : S.size ≤ 1048576
  rotate_left
  · have hlz : (-1 : Int) < 0 := by omega
    go_enter Try.func6, Try.ntmps6
    go_wp2_with fail
    refine (szTable N S _ _ (by omega) (by omega) hS).mono ?_
    rw [if_neg (by omega)]
    rintro e y1 ⟨rfl, hb⟩
    have HC1 : Hid (Below w.heap.size w y1) := HB0.out.trans (hb.mono HB0.out.size)
    clear hb
    go_wp2
    go_ret
    exact ⟨rfl, HC1.out⟩
  have hz0 : S.size ≤ 1048576 := by omega
  obtain ⟨r, hsp, him⟩ := bKnown N S hz0
  have HSP : Hid _ := hsp
  have HIM : Hid _ := him
  clear hsp him
  go_enter Try.func6, Try.ntmps6
  go_wp2_with fail
  refine (szTable N S _ _ (by omega) (by omega) hS).mono ?_
  rw [if_pos (by omega)]
  rintro e x1 ⟨rfl, hb⟩
  have HB1 : Hid (Below w.heap.size w x1) := HB0.out.trans (hb.mono HB0.out.size)
  have HX0_1 : Hid (Tbx x1 w.heap.size N S) := HX0_0.out.below hb
  clear hb
  have hp0 : ¬ (1048576 : Int) - (S.size : Int) < 0 := by omega
  obtain ⟨c00, c01⟩ := HX0_1.out
  go_wp2_with fail
  refine (toTable N S _).mono ?_
  rintro e x2 ⟨rfl, hb⟩
  have HB2 : Hid (Below w.heap.size w x2) := HB1.out.trans (hb.mono HB1.out.size)
  have HX0_2 : Hid (Tbx x2 w.heap.size N S) := HX0_1.out.below hb
  clear hb c00 c01
  obtain ⟨c00, c01⟩ := HX0_2.out
  go_wp2_with fail
  refine (HSP.out _).mono ?_
  rintro e x3 ⟨rfl, hb⟩
  have HB3 : Hid (Below w.heap.size w x3) := HB2.out.trans (hb.mono HB2.out.size)
  have HX0_3 : Hid (Tbx x3 w.heap.size N S) := HX0_2.out.below hb
  clear hb c00 c01
  obtain ⟨c00, c01⟩ := HX0_3.out
  go_wp2_with fail
  refine (toTable N S _).mono ?_
  rintro e x4 ⟨rfl, hb⟩
  have HB4 : Hid (Below w.heap.size w x4) := HB3.out.trans (hb.mono HB3.out.size)
  have HX0_4 : Hid (Tbx x4 w.heap.size N S) := HX0_3.out.below hb
  clear hb c00 c01
  obtain ⟨c00, c01⟩ := HX0_4.out
  go_wp2_with fail
  refine (HIM.out _).mono ?_
  rintro e x5 ⟨rfl, hb⟩
  have HB5 : Hid (Below w.heap.size w x5) := HB4.out.trans (hb.mono HB4.out.size)
  clear hb c00 c01
  have hne : (r != r) = false := by simp
  go_wp2
  go_ret
  exact ⟨rfl, HB5.out⟩

theorem bNot (N : Int) (S : ByteArray) (hS : S.size ≤ 1048576) : ∃ (R : Int) (U : ByteArray), (∀ W, Calls Try.prog 29 #[tv N S] W fun e w' => e = .returned (tv R U) ∧ Below W.heap.size W w') ∧ ∀ W, Calls Try.prog 30 #[tv N S] W fun e w' => e = .returned (tv R U) ∧ Below W.heap.size W w' := by
  cases h : tokB N (tl S)
  · exact ⟨0, ByteArray.empty, fun W => sNot0 W hS h, fun W => iNot0 W hS h⟩
  · obtain ⟨n, F, hn, rfl, rfl⟩ := tok_str h
    exact ⟨_, _, fun W => sNot n F W hn, fun W => iNot n F W hn⟩

set_option maxRecDepth 100000 in
set_option maxHeartbeats 4000000 in
theorem exTableNot (N : Int) (S : ByteArray) (w : World) (hS : S.size ≤ maxLen) :
    Calls Try.prog 8 #[tv N S] w fun e w' => e = .returned (.bool true) ∧ Below w.heap.size w w' := by
  have HB0 : Hid (Below w.heap.size w (w.alloc (.cells #[.int .i64 N, .string S] 23))) := (Below.refl _ _).alloc (Nat.le_refl _) _
  have HX0_0 : Hid (Tbx (w.alloc (.cells #[.int .i64 N, .string S] 23)) w.heap.size N S) := Tbx.made _ _ _ _
  by_cases hl0 : S.size ≤ 1048576
  rotate_left
  · have hlz : (-1 : Int) < 0 := by omega
    go_enter Try.func8, Try.ntmps8
    go_wp2_with fail
    refine (szTable N S _ _ (by omega) (by omega) hS).mono ?_
    rw [if_neg (by omega)]
    rintro e y1 ⟨rfl, hb⟩
    have HC1 : Hid (Below w.heap.size w y1) := HB0.out.trans (hb.mono HB0.out.size)
    clear hb
    go_wp2
    go_ret
    exact ⟨rfl, HC1.out⟩
  have hz0 : S.size ≤ 1048576 := by omega
  obtain ⟨R, U, hsp, him⟩ := bNot N S hz0
  have HSP : Hid _ := hsp
  have HIM : Hid _ := him
  clear hsp him
  go_enter Try.func8, Try.ntmps8
  go_wp2_with fail
  refine (szTable N S _ _ (by omega) (by omega) hS).mono ?_
  rw [if_pos (by omega)]
  rintro e x1 ⟨rfl, hb⟩
  have HB1 : Hid (Below w.heap.size w x1) := HB0.out.trans (hb.mono HB0.out.size)
  have HX0_1 : Hid (Tbx x1 w.heap.size N S) := HX0_0.out.below hb
  clear hb
  have hp0 : ¬ (1048576 : Int) - (S.size : Int) < 0 := by omega
  obtain ⟨c00, c01⟩ := HX0_1.out
  go_wp2_with fail
  refine (toTable N S _).mono ?_
  rintro e x2 ⟨rfl, hb⟩
  have HB2 : Hid (Below w.heap.size w x2) := HB1.out.trans (hb.mono HB1.out.size)
  have HX0_2 : Hid (Tbx x2 w.heap.size N S) := HX0_1.out.below hb
  clear hb c00 c01
  obtain ⟨c00, c01⟩ := HX0_2.out
  go_wp2_with fail
  refine (HSP.out _).mono ?_
  rintro e x3 ⟨rfl, hb⟩
  have HB3 : Hid (Below w.heap.size w x3) := HB2.out.trans (hb.mono HB2.out.size)
  have HX0_3 : Hid (Tbx x3 w.heap.size N S) := HX0_2.out.below hb
  clear hb c00 c01
  have HBa : Hid (Below w.heap.size w (x3.alloc (.cells #[.int .i64 R, .string U] 26))) := HB3.out.alloc HB3.out.size _
  have HXa : Hid (Tbx (x3.alloc (.cells #[.int .i64 R, .string U] 26)) w.heap.size N S) := HX0_3.out.alloc _
  have HTa : Hid (Tbx (x3.alloc (.cells #[.int .i64 R, .string U] 26)) x3.heap.size R U) := Tbx.made _ _ _ _
  obtain ⟨c00, c01⟩ := HXa.out
  go_wp2_with fail
  refine (toTable N S _).mono ?_
  rintro e x4 ⟨rfl, hb⟩
  have HBb : Hid (Below w.heap.size w x4) := HBa.out.trans (hb.mono HBa.out.size)
  have HTb : Hid (Tbx x4 x3.heap.size R U) := HTa.out.below hb
  have HXb : Hid (Tbx x4 w.heap.size N S) := HXa.out.below hb
  clear hb c00 c01
  go_wp2_with fail
  refine (HIM.out _).mono ?_
  rintro e x5 ⟨rfl, hb⟩
  have HBc : Hid (Below w.heap.size w x5) := HBb.out.trans (hb.mono HBb.out.size)
  have HTc : Hid (Tbx x5 x3.heap.size R U) := HTb.out.below hb
  clear hb
  have HBd : Hid (Below w.heap.size w (x5.alloc (.cells #[.int .i64 R, .string U] 26))) := HBc.out.alloc HBc.out.size _
  have HTd : Hid (Tbx (x5.alloc (.cells #[.int .i64 R, .string U] 26)) x3.heap.size R U) := HTc.out.alloc _
  have hlt : x3.heap.size < x5.heap.size := World.block_lt_of_cell? _ _ HTc.out.c0
  obtain ⟨t0, t1⟩ := HTc.out
  go_wp2_with fail
  refine (eqTable R R U U _).mono ?_
  rw [decide_eq_true (⟨rfl, rfl⟩ : R = R ∧ U = U)]
  rintro e x6 ⟨rfl, hb⟩
  have HBe : Hid (Below w.heap.size w x6) := HBd.out.trans (hb.mono HBd.out.size)
  clear hb t0 t1
  go_wp2
  go_ret
  exact ⟨rfl, HBe.out⟩

end Go.Proofs.Ytammepilfimlcaa.Lx20
