/- The exact law of PickText. Written by tools/mkpx.py. -/
import Derived.Deep.RegionHeld3
import Derived.Deep.CutBlock
import Derived.Test.YtlpbfbghgacjiaaWp2
namespace Go.Proofs.Ytlpbfbghgacjiaa.Lx50
open Go.RowKit
open Nd0 (Kept Ints IntsIn lt_of_cell)
open Wp0 Wp1 Wp2
set_option linter.unusedVariables false

set_option maxRecDepth 100000 in
set_option maxHeartbeats 4000000 in
theorem exPickText (w : World) (a : Option Addr) (l : List Int) (c : Nat) (v : Int) (h : Ints w a l) :
    Calls Try.prog 7 #[pv a l.length c v] w fun e w' => e = .returned (.bool true) ∧ Below w.heap.size w w' := by
  have H : Hid (Ints w a l) := h
  have hml := h.1
  clear h
  obtain ⟨y0, hy0⟩ : ∃ y, y = w.alloc (.cells #[.slice a l.length c, .int .i64 v] 57) := ⟨_, rfl⟩
  have HB0 : Hid (Below w.heap.size w y0) := by rw [hy0]; exact (Below.refl _ _).alloc (Nat.le_refl _) _
  have HA0 : Hid (Pb y0 w.heap.size a l.length c v) := by rw [hy0]; exact Pb.made _ _ _ _ _ _
  have hE : w.alloc (.cells #[.slice a l.length c, .int .i64 v] 57) = y0 := hy0.symm
  clear hy0
  go_enter Try.func7, Try.ntmps7
  go_upto_region 2 with fail
  clear hE
  obtain ⟨a0, a1⟩ := HA0.out
  have ha := HA0.out.lt
  go_wp2_with fail
  clear a0 a1 ha
  refine (szPick y0 a l.length c v 1048576 (by omega) (by omega) hml).mono ?_
  rintro e y1 ⟨rfl, hb⟩
  have HB1 : Hid (Below w.heap.size w y1) := HB0.out.trans (hb.mono HB0.out.size)
  have HA1 : Hid (Pb y1 w.heap.size a l.length c v) := HA0.out.below hb
  clear hb HA0 HB0
  by_cases hl : (l.length : Int) ≤ 1048576
  rotate_left
  · rw [if_neg hl]
    go_wp2
    go_ret
    exact ⟨rfl, HB1.out⟩
  rw [if_pos hl]
  have hl2 : l.length ≤ 1048576 := by omega
  have hz : ¬ (1048576 : Int) - (l.length : Int) < 0 := by omega
  obtain ⟨a0, a1⟩ := HA1.out
  have ha := HA1.out.lt
  go_wp2_with fail
  clear a0 a1 ha
  refine (toPick _ a l c v (H.out.below HB1.out) hl2).mono ?_
  rintro e y2 ⟨s0, rfl, hs, hb⟩
  have HB2 : Hid (Below w.heap.size w y2) := HB1.out.trans (hb.mono HB1.out.size)
  have HA2 : Hid (Pb y2 w.heap.size a l.length c v) := HA1.out.below hb
  have HS2 : Hid (Ints y2 (some ⟨s0, 0, none⟩) l) := hs.wints.ints
  clear hb hs HA1 HB1
  go_wp2_with fail
  refine (sPickText _ _ l l.length v HS2.out).mono ?_
  rintro e y3 ⟨rfl, hb⟩
  have HB3 : Hid (Below w.heap.size w y3) := HB2.out.trans (hb.mono HB2.out.size)
  have HA3 : Hid (Pb y3 w.heap.size a l.length c v) := HA2.out.below hb
  clear hb HA2 HB2 HS2
  have HIM : Hid (∀ W a c, Ints W a l → Calls Try.prog 35 #[pv a l.length c v] W fun e w' => e = .returned (.string (pkT l v)) ∧ Below W.heap.size W w') := fun W a c h => iPickText W a l c v h
  generalize pkT l v = R at *
  have hRR : (R.toList == R.toList) = true := by simp
  obtain ⟨a0, a1⟩ := HA3.out
  have ha := HA3.out.lt
  go_wp2_with fail
  clear a0 a1 ha
  refine (toPick _ a l c v (H.out.below HB3.out) hl2).mono ?_
  rintro e y4 ⟨x0, rfl, hs, hb⟩
  have HB4 : Hid (Below w.heap.size w y4) := HB3.out.trans (hb.mono HB3.out.size)
  have HA4 : Hid (Pb y4 w.heap.size a l.length c v) := HA3.out.below hb
  have HX4 : Hid (Ints y4 (some ⟨x0, 0, none⟩) l) := hs.wints.ints
  clear hb hs HA3 HB3
  go_upto_region 7 with fail
  obtain ⟨y5, hy5⟩ : ∃ y, y = y4.alloc (.cells #[.slice (some ⟨x0, 0, none⟩) l.length l.length, .int .i64 v] 60) := ⟨_, rfl⟩
  obtain ⟨qx, hqx⟩ : ∃ qx, qx = y4.heap.size := ⟨_, rfl⟩
  have HQ5 : Hid (Pb y5 qx (some ⟨x0, 0, none⟩) l.length l.length v) := by rw [hy5, hqx]; exact Pb.made _ _ _ _ _ _
  have hb : Below y4.heap.size y4 y5 := by rw [hy5]; exact (Below.refl _ _).alloc (Nat.le_refl _) _
  have HB5 : Hid (Below w.heap.size w y5) := HB4.out.trans (hb.mono HB4.out.size)
  have HA5 : Hid (Pb y5 w.heap.size a l.length c v) := HA4.out.below hb
  have HX5 : Hid (Ints y5 (some ⟨x0, 0, none⟩) l) := HX4.out.below hb
  rw [← hy5, ← hqx]
  clear hy5 hqx hb HA4 HB4 HX4
  obtain ⟨a0, a1⟩ := HQ5.out
  have ha := HQ5.out.lt
  go_wp2_with fail
  clear a0 a1 ha
  refine (HIM.out _ _ _ HX5.out).mono ?_
  rintro e y6 ⟨rfl, hb⟩
  have HB6 : Hid (Below w.heap.size w y6) := HB5.out.trans (hb.mono HB5.out.size)
  have HA6 : Hid (Pb y6 w.heap.size a l.length c v) := HA5.out.below hb
  have HX6 : Hid (Ints y6 (some ⟨x0, 0, none⟩) l) := HX5.out.below hb
  have HQ6 : Hid (Pb y6 qx (some ⟨x0, 0, none⟩) l.length l.length v) := HQ5.out.below hb
  clear hb HA5 HB5 HX5 HQ5
  go_upto_region 10 with fail
  have dd : Below y6.heap.size y6 y6.drew := (Below.refl _ _).drew
  have HBD : Hid (Below w.heap.size w y6.drew) := HB6.out.drew
  have LX := HQ6.out.below dd
  have LA := HA6.out.below dd
  have SX0 : Hid (Ints y6.drew (some ⟨x0, 0, none⟩) l) := HX6.out.below dd
  clear dd
  go_region_held3 (fun w' => w'.cell? ⟨qx, 0, none⟩ = some (.slice (some ⟨x0, 0, none⟩) l.length l.length) ∧ w'.cell? ⟨qx, 1, none⟩ = some (.int .i64 v) ∧ w'.cell? ⟨w.heap.size, 0, none⟩ = some (.slice a l.length c) ∧ w'.cell? ⟨w.heap.size, 1, none⟩ = some (.int .i64 v)) ((first | (with_reducible exact ⟨LX.c0, LX.c1, LA.c0, LA.c1⟩) | (with_reducible exact ⟨KX.c0, KX.c1, KA.c0, KA.c1⟩) | (with_reducible exact ⟨EX.c0, EX.c1, EA.c0, EA.c1⟩))) ((first | (go_at_call 34; (with_reducible refine (toPick _ a l c v (H.out.below HBD.out) hl2).mono ?_); rintro e xT ⟨t0, rfl, hsT, hbT⟩; have KX := LX.below hbT; have KA := LA.below hbT; have SX : Hid (Ints xT (some ⟨x0, 0, none⟩) l) := SX0.out.below hbT; have hWT : Hid (Ints xT (some ⟨t0, 0, none⟩) l) := hsT.wints.ints; have HBT : Hid (Below w.heap.size w xT) := HBD.out.trans (hbT.mono HBD.out.size); clear hsT hbT) | (go_at_call 36; (with_reducible refine (eqPick _ _ _ l _ _ v SX.out hWT.out).mono ?_); rintro e xE ⟨rfl, hbE⟩; have EX := KX.below hbE; have EA := KA.below hbE; have HBE : Hid (Below w.heap.size w xE) := HBT.out.trans (hbE.mono HBT.out.size); clear hbE)))
  go_wp2
  go_ret
  exact ⟨rfl, HBE.out⟩
end Go.Proofs.Ytlpbfbghgacjiaa.Lx50
