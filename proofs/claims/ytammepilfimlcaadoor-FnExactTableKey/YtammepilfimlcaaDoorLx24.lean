/- The exact law of TableKey. -/
import Derived.Test.YtammepilfimlcaaDoorTk0
import Derived.Test.YtammepilfimlcaaDoorTc3
namespace Go.Proofs.YtammepilfimlcaaDoor.Lx24
open Go.RowKit
open Ta0 Ta1 Tc2 Tc3 Td1 Te1 Tk0
open Ss0 (bs bs_size)
open Ss1 (tl bs_tl)
set_option linter.unusedVariables false

theorem tok_str {N : Int} {S : ByteArray} (h : tokB N (tl S) = true) : ∃ (n : Nat) (F : Nat → Bool), n ≤ 12 ∧ N = (n : Int) ∧ S = bs (tab n F) := by
  obtain ⟨n, F, h1, h2, h3⟩ := tok_tab h
  exact ⟨n, F, h1, h2, by rw [← bs_tl S, h3]⟩

theorem bKey (N : Int) (S : ByteArray) (hS : S.size ≤ 1048576) : ∃ K : ByteArray, (∀ W, Calls Tryd.prog 19 #[tv N S] W fun e w' => e = .returned (.string K) ∧ Below W.heap.size W w') ∧ ∀ W, TabK W → Calls Tryd.prog 12 #[tv N S] W fun e w' => e = .returned (.string K) ∧ Below W.heap.size W w' := by
  cases h : tokB N (tl S)
  · exact ⟨ByteArray.empty, fun W => sKey0 W hS h, fun W _ => iKey0 W hS h⟩
  · obtain ⟨n, F, hn, rfl, rfl⟩ := tok_str h
    exact ⟨_, fun W => sKey n F W hn, fun W hT => iKey n F W hn hT⟩

set_option maxRecDepth 100000 in
set_option maxHeartbeats 4000000 in
theorem exTableKey (N : Int) (S : ByteArray) (w : World) (hS : S.size ≤ maxLen) (hT : TabK w) :
    Calls Tryd.prog 5 #[tv N S] w fun e w' => e = .returned (.bool true) ∧ Below w.heap.size w w' := by
  have HB0 : Hid (Below w.heap.size w (w.alloc (.cells #[.int .i64 N, .string S] 38))) := (Below.refl _ _).alloc (Nat.le_refl _) _
  have HX0_0 : Hid (Tbx (w.alloc (.cells #[.int .i64 N, .string S] 38)) w.heap.size N S) := Tbx.made _ _ _ _
  have HTK : Hid (TabK w) := hT
  clear hT
  by_cases hl0 : S.size ≤ 1048576
  rotate_left
  · have hlz : (-1 : Int) < 0 := by omega
    go_enter Tryd.func5, Tryd.ntmps5
    go_wp2_with fail
    refine (szTable N S _ _ (by omega) (by omega) hS).mono ?_
    rw [if_neg (by omega)]
    rintro e y1 ⟨rfl, hb⟩
    have HC1 : Hid (Below w.heap.size w y1) := HB0.out.trans (hb.mono HB0.out.size)
    clear hb
    go_wp2
    go_ret
    exact ⟨rfl, HC1.out⟩
  have hz0 : S.size ≤ 1048576 := by omega
  obtain ⟨K, hsp, him⟩ := bKey N S hz0
  have HSP : Hid _ := hsp
  have HIM : Hid _ := him
  clear hsp him
  go_enter Tryd.func5, Tryd.ntmps5
  go_wp2_with fail
  refine (szTable N S _ _ (by omega) (by omega) hS).mono ?_
  rw [if_pos (by omega)]
  rintro e x1 ⟨rfl, hb⟩
  have HB1 : Hid (Below w.heap.size w x1) := HB0.out.trans (hb.mono HB0.out.size)
  have HX0_1 : Hid (Tbx x1 w.heap.size N S) := HX0_0.out.below hb
  clear hb
  have hp0 : ¬ (1048576 : Int) - (S.size : Int) < 0 := by omega
  obtain ⟨c00, c01⟩ := HX0_1.out
  go_wp2_with fail
  refine (toTable N S _).mono ?_
  rintro e x2 ⟨rfl, hb⟩
  have HB2 : Hid (Below w.heap.size w x2) := HB1.out.trans (hb.mono HB1.out.size)
  have HX0_2 : Hid (Tbx x2 w.heap.size N S) := HX0_1.out.below hb
  clear hb c00 c01
  obtain ⟨c00, c01⟩ := HX0_2.out
  go_wp2_with fail
  refine (HSP.out _).mono ?_
  rintro e x3 ⟨rfl, hb⟩
  have HB3 : Hid (Below w.heap.size w x3) := HB2.out.trans (hb.mono HB2.out.size)
  have HX0_3 : Hid (Tbx x3 w.heap.size N S) := HX0_2.out.below hb
  clear hb c00 c01
  obtain ⟨c00, c01⟩ := HX0_3.out
  go_wp2_with fail
  refine (toTable N S _).mono ?_
  rintro e x4 ⟨rfl, hb⟩
  have HB4 : Hid (Below w.heap.size w x4) := HB3.out.trans (hb.mono HB3.out.size)
  have HX0_4 : Hid (Tbx x4 w.heap.size N S) := HX0_3.out.below hb
  clear hb c00 c01
  obtain ⟨c00, c01⟩ := HX0_4.out
  go_wp2_with fail
  refine (HIM.out _ (HTK.out.below HB4.out)).mono ?_
  rintro e x5 ⟨rfl, hb⟩
  have HB5 : Hid (Below w.heap.size w x5) := HB4.out.trans (hb.mono HB4.out.size)
  clear hb c00 c01
  have hne : (K.toList == K.toList) = true := by simp
  go_wp2
  go_ret
  exact ⟨rfl, HB5.out⟩

end Go.Proofs.YtammepilfimlcaaDoor.Lx24
