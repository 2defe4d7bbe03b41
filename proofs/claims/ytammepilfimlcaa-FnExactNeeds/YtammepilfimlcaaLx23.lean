/- The exact law of Needs. -/
import Derived.Test.YtammepilfimlcaaTe4
import Derived.Test.YtammepilfimlcaaTd5
import Derived.Test.YtammepilfimlcaaTc3
import Derived.Test.YtammepilfimlcaaLx20
import Derived.Test.YtammepilfimlcaaNd6
namespace Go.Proofs.Ytammepilfimlcaa.Lx23
open Go.RowKit
open Ta0 Ta1 Ta2 Tc2 Tc3 Td1 Td2 Td5 Te1 Te4 Lx20
open Nd0 (Ints WInts IntsIn marks marks_length)
open Nd6 (toIntS eqIntB markIntB heldIntB)
open Ss0 (bs bs_size)
open Ss1 (tl bs_tl)
set_option linter.unusedVariables false

theorem bNeeds (N : Int) (S : ByteArray) (hS : S.size ≤ 1048576) : ∃ l : List Int, l.length ≤ 12 ∧ (∀ W, Calls Try.prog 25 #[tv N S] W fun e w' => (∃ a' c', e = .returned (.slice a' l.length c') ∧ WInts w' W.heap.size a' l) ∧ Below W.heap.size W w') ∧ ∀ W, Calls Try.prog 26 #[tv N S] W fun e w' => (∃ a' c', e = .returned (.slice a' l.length c') ∧ WInts w' W.heap.size a' l) ∧ Below W.heap.size W w' := by
  cases h : tokB N (tl S)
  · exact ⟨[], Nat.zero_le _, fun W => sNeeds0 W hS h, fun W => iNeeds0 W hS h⟩
  · obtain ⟨n, F, hn, rfl, rfl⟩ := tok_str h
    exact ⟨ndTo n F n, Nat.le_trans (ndTo_le n n F) hn, fun W => sNeeds n F W hn, fun W => iNeeds n F W hn⟩

theorem _root_.Go.Proofs.Ytammepilfimlcaa.Tc3.Tbx.keptT {W W' : World} {g : Nat} {N : Int} {S : ByteArray} (h : Tbx W g N S) {Q : Nat → Prop} (k : Nd0.Kept Q W W') (hq : ¬ Q g) : Tbx W' g N S := by
  have hg : g < W.heap.size := World.block_lt_of_cell? _ _ h.c0
  exact ⟨by rw [k.cell (p := ⟨g, 0, none⟩) hg hq]; exact h.c0, by rw [k.cell (p := ⟨g, 1, none⟩) hg hq]; exact h.c1⟩

set_option maxRecDepth 100000 in
set_option maxHeartbeats 4000000 in
theorem exNeeds (N : Int) (S : ByteArray) (w : World) (hS : S.size ≤ maxLen) :
    Calls Try.prog 7 #[tv N S] w fun e w' => e = .returned (.bool true) ∧ Below w.heap.size w w' := by
  have HB0 : Hid (Below w.heap.size w (w.alloc (.cells #[.int .i64 N, .string S] 23))) := (Below.refl _ _).alloc (Nat.le_refl _) _
  have HX0_0 : Hid (Tbx (w.alloc (.cells #[.int .i64 N, .string S] 23)) w.heap.size N S) := Tbx.made _ _ _ _
  by_cases hl0 : S.size ≤ 1048576
  rotate_left
  · have hlz : (-1 : Int) < 0 := by omega
    go_enter Try.func7, Try.ntmps7
    go_wp2_with fail
    refine (szTable N S _ _ (by omega) (by omega) hS).mono ?_
    rw [if_neg (by omega)]
    rintro e y1 ⟨rfl, hb⟩
    have HC1 : Hid (Below w.heap.size w y1) := HB0.out.trans (hb.mono HB0.out.size)
    clear hb
    go_wp2
    go_ret
    exact ⟨rfl, HC1.out⟩
  have hz0 : S.size ≤ 1048576 := by omega
  obtain ⟨l, hl12, hsp, him⟩ := bNeeds N S hz0
  have HSP : Hid _ := hsp
  have HIM : Hid _ := him
  clear hsp him
  go_enter Try.func7, Try.ntmps7
  go_wp2_with fail
  refine (szTable N S _ _ (by omega) (by omega) hS).mono ?_
  rw [if_pos (by omega)]
  rintro e x1 ⟨rfl, hb⟩
  have HB1 : Hid (Below w.heap.size w x1) := HB0.out.trans (hb.mono HB0.out.size)
  have HX0_1 : Hid (Tbx x1 w.heap.size N S) := HX0_0.out.below hb
  clear hb
  have hp0 : ¬ (1048576 : Int) - (S.size : Int) < 0 := by omega
  obtain ⟨c00, c01⟩ := HX0_1.out
  go_wp2_with fail
  refine (toTable N S _).mono ?_
  rintro e x2 ⟨rfl, hb⟩
  have HB2 : Hid (Below w.heap.size w x2) := HB1.out.trans (hb.mono HB1.out.size)
  have HX0_2 : Hid (Tbx x2 w.heap.size N S) := HX0_1.out.below hb
  have hs2 : x1.heap.size ≤ x2.heap.size := hb.size
  clear hb c00 c01
  obtain ⟨c00, c01⟩ := HX0_2.out
  go_wp2_with fail
  refine (HSP.out _).mono ?_
  rintro e x3 ⟨⟨sa, sc, rfl, hr⟩, hb⟩
  have HB3 : Hid (Below w.heap.size w x3) := HB2.out.trans (hb.mono HB2.out.size)
  have HX0_3 : Hid (Tbx x3 w.heap.size N S) := HX0_2.out.below hb
  have Hs_3 : Hid (IntsIn x3 x2.heap.size x3.heap.size sa l) := WInts.within hr
  clear hr
  have hs3 : x2.heap.size ≤ x3.heap.size := hb.size
  clear hb c00 c01
  obtain ⟨c00, c01⟩ := HX0_3.out
  go_wp2_with fail
  refine (toTable N S _).mono ?_
  rintro e x4 ⟨rfl, hb⟩
  have HB4 : Hid (Below w.heap.size w x4) := HB3.out.trans (hb.mono HB3.out.size)
  have HX0_4 : Hid (Tbx x4 w.heap.size N S) := HX0_3.out.below hb
  have Hs_4 : Hid (IntsIn x4 x2.heap.size x3.heap.size sa l) := Hs_3.out.below hb
  have hs4 : x3.heap.size ≤ x4.heap.size := hb.size
  clear hb c00 c01
  obtain ⟨c00, c01⟩ := HX0_4.out
  go_wp2_with fail
  refine (HIM.out _).mono ?_
  rintro e x5 ⟨⟨ga, gc, rfl, hr⟩, hb⟩
  have HB5 : Hid (Below w.heap.size w x5) := HB4.out.trans (hb.mono HB4.out.size)
  have HX0_5 : Hid (Tbx x5 w.heap.size N S) := HX0_4.out.below hb
  have Hs_5 : Hid (IntsIn x5 x2.heap.size x3.heap.size sa l) := Hs_4.out.below hb
  have Hg_5 : Hid (IntsIn x5 x4.heap.size x5.heap.size ga l) := WInts.within hr
  clear hr
  have hs5 : x4.heap.size ≤ x5.heap.size := hb.size
  clear hb c00 c01
  go_wp2_with fail
  refine (eqIntB _ _ _ l _ _ Hg_5.out.ints Hs_5.out.ints).mono ?_
  rintro e x6 ⟨rfl, hb⟩
  have HB6 : Hid (Below w.heap.size w x6) := HB5.out.trans (hb.mono HB5.out.size)
  have HX0_6 : Hid (Tbx x6 w.heap.size N S) := HX0_5.out.below hb
  have Hs_6 : Hid (IntsIn x6 x2.heap.size x3.heap.size sa l) := Hs_5.out.below hb
  have Hg_6 : Hid (IntsIn x6 x4.heap.size x5.heap.size ga l) := Hg_5.out.below hb
  have hs6 : x5.heap.size ≤ x6.heap.size := hb.size
  clear hb
  go_wp2_with fail
  refine (markIntB _ _ _ l _ Hg_6.out.wints _ (by omega) (by omega) (by omega)).mono ?_
  rintro e x7 ⟨rfl, hw, hk⟩
  have HB7 : Hid (Below w.heap.size w x7) := HB6.out.trans (hk.below (fun b hb => by have := Hg_6.out.ats hb; have := HB0.out.size; have := HB1.out.size; have := HB2.out.size; have := HB3.out.size; have := HB4.out.size; omega) HB6.out.size)
  have hs7 : x6.heap.size ≤ x7.heap.size := hk.size
  have hgs := Hg_6.out
  have Hs_7 : Hid (IntsIn x7 x2.heap.size x3.heap.size sa l) := Hs_6.out.kept hk (fun b h1 h2 h3 => by have := Hg_6.out.ats h3; omega)
  have HX0_7 : Hid (Tbx x7 w.heap.size N S) := HX0_6.out.keptT hk (fun h => by have := Hg_6.out.ats h; have := World.block_lt_of_cell? _ _ HX0_1.out.c0; dsimp only at this; omega)
  have Hg_7 : Hid (IntsIn x7 x4.heap.size x5.heap.size ga (marks l.length 1)) := Hg_6.out.again hw (marks_length _ _)
  clear hw hk hgs
  have hq0 : ¬ ((1 : Int) + (l.length : Int)) < 0 := by omega
  go_wp2_with fail
  refine (heldIntB _ _ l.length _ (1 : Int) Hg_7.out.ints (by omega) (by omega) (by omega)).mono ?_
  rintro e wz ⟨rfl, hz⟩
  have hz' := hz.symm
  clear hz
  subst hz'
  obtain ⟨c00, c01⟩ := HX0_7.out
  go_wp2_with fail
  refine (toTable N S _).mono ?_
  rintro e x8 ⟨rfl, hb⟩
  have HB8 : Hid (Below w.heap.size w x8) := HB7.out.trans (hb.mono HB7.out.size)
  have HX0_8 : Hid (Tbx x8 w.heap.size N S) := HX0_7.out.below hb
  have Hs_8 : Hid (IntsIn x8 x2.heap.size x3.heap.size sa l) := Hs_7.out.below hb
  have Hg_8 : Hid (IntsIn x8 x4.heap.size x5.heap.size ga (marks l.length 1)) := Hg_7.out.below hb
  have hs8 : x7.heap.size ≤ x8.heap.size := hb.size
  clear hb c00 c01
  go_wp2_with fail
  refine (HIM.out _).mono ?_
  rintro e x9 ⟨⟨ha, hc, rfl, hr⟩, hb⟩
  have HB9 : Hid (Below w.heap.size w x9) := HB8.out.trans (hb.mono HB8.out.size)
  have Hs_9 : Hid (IntsIn x9 x2.heap.size x3.heap.size sa l) := Hs_8.out.below hb
  have Hg_9 : Hid (IntsIn x9 x4.heap.size x5.heap.size ga (marks l.length 1)) := Hg_8.out.below hb
  have Hh_9 : Hid (IntsIn x9 x8.heap.size x9.heap.size ha l) := WInts.within hr
  clear hr
  have hs9 : x8.heap.size ≤ x9.heap.size := hb.size
  clear hb
  go_wp2_with fail
  refine (eqIntB _ _ _ l _ _ Hh_9.out.ints Hs_9.out.ints).mono ?_
  rintro e x10 ⟨rfl, hb⟩
  have HB10 : Hid (Below w.heap.size w x10) := HB9.out.trans (hb.mono HB9.out.size)
  have Hs_10 : Hid (IntsIn x10 x2.heap.size x3.heap.size sa l) := Hs_9.out.below hb
  have Hg_10 : Hid (IntsIn x10 x4.heap.size x5.heap.size ga (marks l.length 1)) := Hg_9.out.below hb
  have Hh_10 : Hid (IntsIn x10 x8.heap.size x9.heap.size ha l) := Hh_9.out.below hb
  have hs10 : x9.heap.size ≤ x10.heap.size := hb.size
  clear hb
  go_wp2_with fail
  refine (heldIntB _ _ l.length _ (1 : Int) Hg_10.out.ints (by omega) (by omega) (by omega)).mono ?_
  rintro e wz ⟨rfl, hz⟩
  have hz' := hz.symm
  clear hz
  subst hz'
  go_wp2
  go_ret
  exact ⟨rfl, HB10.out⟩

end Go.Proofs.Ytammepilfimlcaa.Lx23
