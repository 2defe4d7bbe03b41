/- The exact laws of Half and TableAt. -/
import Derived.Test.YtammepilfimlcaaTe3
import Derived.Test.YtammepilfimlcaaTd4
import Derived.Test.YtammepilfimlcaaTc3
import Derived.Test.YtammepilfimlcaaLx20
import Derived.Test.YtammepilfimlcaaNd6
namespace Go.Proofs.Ytammepilfimlcaa.Lx22
open Go.RowKit
open Ta0 Ta1 Ta2 Tc2 Tc3 Td1 Td2 Td4 Te1 Te3 Lx20
open Nd0 (Ints WInts)
open Nd6 (toIntS eqIntB)
open Ss0 (bs bs_size)
open Ss1 (tl bs_tl)
set_option linter.unusedVariables false

theorem bHalf (N b : Int) (S : ByteArray) (hS : S.size ≤ 1048576) : ∃ (R : Int) (U : ByteArray) (ok : Bool), (∀ W, Calls Try.prog 20 #[tv N S, .int .i64 b] W fun e w' => e = .returned (.tuple #[tv R U, .bool ok]) ∧ Below W.heap.size W w') ∧ ∀ W, Calls Try.prog 21 #[tv N S, .int .i64 b] W fun e w' => e = .returned (.tuple #[tv R U, .bool ok]) ∧ Below W.heap.size W w' := by
  by_cases h : tokB N (tl S) = true ∧ N ≠ 0 ∧ bitB b = true
  · obtain ⟨h1, h2, h3⟩ := h
    obtain ⟨n, F, hn, rfl, rfl⟩ := tok_str h1
    obtain ⟨k, rfl⟩ : ∃ k, n = k + 1 := ⟨n - 1, by omega⟩
    have h4 := of_decide_eq_true h3
    obtain ⟨c, rfl, hc⟩ : ∃ c : Nat, b = (c : Int) ∧ c ≤ 1 := ⟨b.toNat, by omega, by omega⟩
    exact ⟨_, _, _, fun W => sHalf k c F W (by omega) hc, fun W => iHalf k c F W (by omega) hc⟩
  · exact ⟨0, ByteArray.empty, false, fun W => sHalf0 W hS h, fun W => iHalf0 W hS h⟩

set_option maxRecDepth 100000 in
set_option maxHeartbeats 4000000 in
theorem exHalf (N : Int) (S : ByteArray) (b : Int) (w : World) (hS : S.size ≤ maxLen) :
    Calls Try.prog 5 #[tv N S, .int .i64 b] w fun e w' => e = .returned (.bool true) ∧ Below w.heap.size w w' := by
  have HB0 : Hid (Below w.heap.size w (w.alloc (.cells #[.int .i64 N, .string S] 23))) := (Below.refl _ _).alloc (Nat.le_refl _) _
  have HX0_0 : Hid (Tbx (w.alloc (.cells #[.int .i64 N, .string S] 23)) w.heap.size N S) := Tbx.made _ _ _ _
  by_cases hl0 : S.size ≤ 1048576
  rotate_left
  · have hlz : (-1 : Int) < 0 := by omega
    go_enter Try.func5, Try.ntmps5
    go_wp2_with fail
    refine (szTable N S _ _ (by omega) (by omega) hS).mono ?_
    rw [if_neg (by omega)]
    rintro e y1 ⟨rfl, hb⟩
    have HC1 : Hid (Below w.heap.size w y1) := HB0.out.trans (hb.mono HB0.out.size)
    clear hb
    go_wp2
    go_ret
    exact ⟨rfl, HC1.out⟩
  have hz0 : S.size ≤ 1048576 := by omega
  obtain ⟨R, U, ok, hsp, him⟩ := bHalf N b S hz0
  have HSP : Hid _ := hsp
  have HIM : Hid _ := him
  clear hsp him
  have hok : (ok != ok) = false := by cases ok <;> rfl
  go_enter Try.func5, Try.ntmps5
  go_wp2_with fail
  refine (szTable N S _ _ (by omega) (by omega) hS).mono ?_
  rw [if_pos (by omega)]
  rintro e x1 ⟨rfl, hb⟩
  have HB1 : Hid (Below w.heap.size w x1) := HB0.out.trans (hb.mono HB0.out.size)
  have HX0_1 : Hid (Tbx x1 w.heap.size N S) := HX0_0.out.below hb
  clear hb
  have hp0 : ¬ (1048576 : Int) - (S.size : Int) < 0 := by omega
  obtain ⟨c00, c01⟩ := HX0_1.out
  go_wp2_with fail
  refine (toTable N S _).mono ?_
  rintro e x2 ⟨rfl, hb⟩
  have HB2 : Hid (Below w.heap.size w x2) := HB1.out.trans (hb.mono HB1.out.size)
  have HX0_2 : Hid (Tbx x2 w.heap.size N S) := HX0_1.out.below hb
  clear hb c00 c01
  obtain ⟨c00, c01⟩ := HX0_2.out
  go_wp2_with fail
  refine (HSP.out _).mono ?_
  rintro e x3 ⟨rfl, hb⟩
  have HB3 : Hid (Below w.heap.size w x3) := HB2.out.trans (hb.mono HB2.out.size)
  have HX0_3 : Hid (Tbx x3 w.heap.size N S) := HX0_2.out.below hb
  clear hb c00 c01
  have HBa : Hid (Below w.heap.size w (x3.alloc (.cells #[.int .i64 R, .string U] 26))) := HB3.out.alloc HB3.out.size _
  have HXa : Hid (Tbx (x3.alloc (.cells #[.int .i64 R, .string U] 26)) w.heap.size N S) := HX0_3.out.alloc _
  have HTa : Hid (Tbx (x3.alloc (.cells #[.int .i64 R, .string U] 26)) x3.heap.size R U) := Tbx.made _ _ _ _
  obtain ⟨c00, c01⟩ := HXa.out
  go_wp2_with fail
  refine (toTable N S _).mono ?_
  rintro e x4 ⟨rfl, hb⟩
  have HBb : Hid (Below w.heap.size w x4) := HBa.out.trans (hb.mono HBa.out.size)
  have HTb : Hid (Tbx x4 x3.heap.size R U) := HTa.out.below hb
  have HXb : Hid (Tbx x4 w.heap.size N S) := HXa.out.below hb
  clear hb c00 c01
  go_wp2_with fail
  refine (HIM.out _).mono ?_
  rintro e x5 ⟨rfl, hb⟩
  have HBc : Hid (Below w.heap.size w x5) := HBb.out.trans (hb.mono HBb.out.size)
  have HTc : Hid (Tbx x5 x3.heap.size R U) := HTb.out.below hb
  clear hb
  have HBd : Hid (Below w.heap.size w (x5.alloc (.cells #[.int .i64 R, .string U] 26))) := HBc.out.alloc HBc.out.size _
  have HTd : Hid (Tbx (x5.alloc (.cells #[.int .i64 R, .string U] 26)) x3.heap.size R U) := HTc.out.alloc _
  have hlt : x3.heap.size < x5.heap.size := World.block_lt_of_cell? _ _ HTc.out.c0
  obtain ⟨t0, t1⟩ := HTc.out
  go_wp2_with fail
  refine (eqTable R R U U _).mono ?_
  rw [decide_eq_true (⟨rfl, rfl⟩ : R = R ∧ U = U)]
  rintro e x6 ⟨rfl, hb⟩
  have HBe : Hid (Below w.heap.size w x6) := HBd.out.trans (hb.mono HBd.out.size)
  clear hb t0 t1
  go_wp2
  go_ret
  exact ⟨rfl, HBe.out⟩

theorem bAt (N : Int) (S : ByteArray) (l : List Int) (hS : S.size ≤ 1048576) : ∃ r : Int, (∀ W a c, Ints W a l → Calls Try.prog 16 #[tv N S, .slice a l.length c] W fun e w' => e = .returned (.int .i64 r) ∧ Below W.heap.size W w') ∧ ∀ W a c, Ints W a l → Calls Try.prog 18 #[tv N S, .slice a l.length c] W fun e w' => e = .returned (.int .i64 r) ∧ Below W.heap.size W w' := by
  cases h : tokB N (tl S)
  · exact ⟨-1, fun W a c _ => sTableAt0 a l c W hS h, fun W a c _ => iTableAt0 a l c W hS h⟩
  · obtain ⟨n, F, hn, rfl, rfl⟩ := tok_str h
    exact ⟨atB n F l, fun W a c hI => sTableAt n F a l c W hn hI, fun W a c hI => iTableAt n F a l c W hn hI⟩

set_option maxRecDepth 100000 in
set_option maxHeartbeats 4000000 in
theorem exTableAt (N : Int) (S : ByteArray) (a : Option Addr) (l : List Int) (c : Nat) (w : World) (hS : S.size ≤ maxLen) (hI : Ints w a l) :
    Calls Try.prog 4 #[tv N S, .slice a l.length c] w fun e w' => e = .returned (.bool true) ∧ Below w.heap.size w w' := by
  have HB0 : Hid (Below w.heap.size w (w.alloc (.cells #[.int .i64 N, .string S] 23))) := (Below.refl _ _).alloc (Nat.le_refl _) _
  have HX0_0 : Hid (Tbx (w.alloc (.cells #[.int .i64 N, .string S] 23)) w.heap.size N S) := Tbx.made _ _ _ _
  have HI : Hid (Ints w a l) := hI
  have hml := hI.1
  unfold maxLen at hml
  clear hI
  by_cases hll : l.length ≤ 1048576
  rotate_left
  · have hlz : (1048576 : Int) < (l.length : Int) := by omega
    go_enter Try.func4, Try.ntmps4
    go_wp2
    go_ret
    exact ⟨rfl, HB0.out⟩
  have hlz : ¬ (1048576 : Int) < (l.length : Int) := by omega
  by_cases hl0 : S.size ≤ 1048576
  rotate_left
  · have hlz : (-1 : Int) < 0 := by omega
    go_enter Try.func4, Try.ntmps4
    go_wp2_with fail
    refine (szTable N S _ _ (by omega) (by omega) hS).mono ?_
    rw [if_neg (by omega)]
    rintro e y1 ⟨rfl, hb⟩
    have HC1 : Hid (Below w.heap.size w y1) := HB0.out.trans (hb.mono HB0.out.size)
    clear hb
    go_wp2
    go_ret
    exact ⟨rfl, HC1.out⟩
  have hz0 : S.size ≤ 1048576 := by omega
  obtain ⟨r, hsp, him⟩ := bAt N S l hz0
  have HSP : Hid _ := hsp
  have HIM : Hid _ := him
  clear hsp him
  go_enter Try.func4, Try.ntmps4
  go_wp2_with fail
  refine (szTable N S _ _ (by omega) (by omega) hS).mono ?_
  rw [if_pos (by omega)]
  rintro e x1 ⟨rfl, hb⟩
  have HB1 : Hid (Below w.heap.size w x1) := HB0.out.trans (hb.mono HB0.out.size)
  have HX0_1 : Hid (Tbx x1 w.heap.size N S) := HX0_0.out.below hb
  clear hb
  have hp0 : ¬ (1048576 : Int) - (S.size : Int) < 0 := by omega
  obtain ⟨c00, c01⟩ := HX0_1.out
  go_wp2_with fail
  refine (toTable N S _).mono ?_
  rintro e x2 ⟨rfl, hb⟩
  have HB2 : Hid (Below w.heap.size w x2) := HB1.out.trans (hb.mono HB1.out.size)
  have HX0_2 : Hid (Tbx x2 w.heap.size N S) := HX0_1.out.below hb
  clear hb c00 c01
  obtain ⟨c00, c01⟩ := HX0_2.out
  go_wp2_with fail
  refine (toIntS _ a l c (HI.out.below HB2.out) hll).mono ?_
  rintro e x3 ⟨rfl, hwi, hb⟩
  have HB3 : Hid (Below w.heap.size w x3) := HB2.out.trans (hb.mono HB2.out.size)
  have HX0_3 : Hid (Tbx x3 w.heap.size N S) := HX0_2.out.below hb
  have HJ_3 : Hid (WInts x3 x2.heap.size (some ⟨x2.heap.size, 0, none⟩) l) := hwi
  clear hb c00 c01
  clear hwi
  obtain ⟨c00, c01⟩ := HX0_3.out
  go_wp2_with fail
  refine (HSP.out _ _ _ HJ_3.out.ints).mono ?_
  rintro e x4 ⟨rfl, hb⟩
  have HB4 : Hid (Below w.heap.size w x4) := HB3.out.trans (hb.mono HB3.out.size)
  have HX0_4 : Hid (Tbx x4 w.heap.size N S) := HX0_3.out.below hb
  clear hb c00 c01
  obtain ⟨c00, c01⟩ := HX0_4.out
  go_wp2_with fail
  refine (toIntS _ a l c (HI.out.below HB4.out) hll).mono ?_
  rintro e x5 ⟨rfl, hwi, hb⟩
  have HB5 : Hid (Below w.heap.size w x5) := HB4.out.trans (hb.mono HB4.out.size)
  have HX0_5 : Hid (Tbx x5 w.heap.size N S) := HX0_4.out.below hb
  have HK_5 : Hid (WInts x5 x4.heap.size (some ⟨x4.heap.size, 0, none⟩) l) := hwi
  clear hb c00 c01
  clear hwi
  obtain ⟨c00, c01⟩ := HX0_5.out
  go_wp2_with fail
  refine (toTable N S _).mono ?_
  rintro e x6 ⟨rfl, hb⟩
  have HB6 : Hid (Below w.heap.size w x6) := HB5.out.trans (hb.mono HB5.out.size)
  have HX0_6 : Hid (Tbx x6 w.heap.size N S) := HX0_5.out.below hb
  have HK_6 : Hid (Ints x6 (some ⟨x4.heap.size, 0, none⟩) l) := HK_5.out.ints.below hb
  clear hb c00 c01
  obtain ⟨c00, c01⟩ := HX0_6.out
  go_wp2_with fail
  refine (HIM.out _ _ _ HK_6.out).mono ?_
  rintro e x7 ⟨rfl, hb⟩
  have HB7 : Hid (Below w.heap.size w x7) := HB6.out.trans (hb.mono HB6.out.size)
  have HK_7 : Hid (Ints x7 (some ⟨x4.heap.size, 0, none⟩) l) := HK_6.out.below hb
  clear hb c00 c01
  have hne : (r != r) = false := by simp
  go_wp2_with fail
  refine (toIntS _ a l c (HI.out.below HB7.out) hll).mono ?_
  rintro e x8 ⟨rfl, hwi, hb⟩
  have HB8 : Hid (Below w.heap.size w x8) := HB7.out.trans (hb.mono HB7.out.size)
  have HK_8 : Hid (Ints x8 (some ⟨x4.heap.size, 0, none⟩) l) := HK_7.out.below hb
  have HL_8 : Hid (Ints x8 (some ⟨x7.heap.size, 0, none⟩) l) := hwi.ints
  clear hb hwi
  go_wp2_with fail
  refine (eqIntB _ _ _ l _ _ HK_8.out HL_8.out).mono ?_
  rintro e x9 ⟨rfl, hb⟩
  have HB9 : Hid (Below w.heap.size w x9) := HB8.out.trans (hb.mono HB8.out.size)
  clear hb
  go_wp2
  go_ret
  exact ⟨rfl, HB9.out⟩

end Go.Proofs.Ytammepilfimlcaa.Lx22
