/- The exact law of Front. Written by tools/mkex.py. -/
import Derived.Test.YtebejleeadofcaaFm7
import Derived.Test.YtebejleeadofcaaPkXF41
import Derived.Test.YtebejleeadofcaaPkXF42
import Derived.Test.YtebejleeadofcaaPkXF38
import Derived.Test.YtebejleeadofcaaNd6
namespace Go.Proofs.Ytebejleeadofcaa.Lx88
open Go.RowKit
open Nd0 Nd1 Nd2 Nd3 Nd4 Nd5 Nd6 Tm0 Tm6 Qa0 Qa1 Fr0 Fr2
open Fm7 (sFront)
open Fq4 (IFront frontQ_le frontR_short)
set_option linter.unusedVariables false

set_option maxRecDepth 100000 in
set_option maxHeartbeats 8000000 in
theorem exFront (hI : IFront) (w : World) (a0 : Option Addr) (l0 : List Nd) (c0 : Nat) (hN0 : Nodes w a0 l0) :
    Calls Try.prog 3 #[.slice a0 l0.length c0] w fun e w' => e = .returned (.bool true) ∧ Below w.heap.size w w' := by
  have HN0 : Hid (Nodes w a0 l0) := hN0
  have hm0 := hN0.1
  clear hN0
  by_cases hl0s : l0.length ≤ 1048576
  rotate_left
  · skip
    go_enter Try.func3, Try.ntmps3
    go_wp2_with fail
    refine (szNodeS _ a0 l0.length c0 _ (by omega) (by omega) hm0).mono ?_
    rw [if_neg (by omega)]
    rintro e wz ⟨rfl, hz⟩
    have hz' := hz.symm
    clear hz
    subst hz'
    go_wp2
    go_ret
    exact ⟨rfl, Below.refl _ _⟩
  have hl0 : l0.length ≤ 1048576 := by omega
  have hR0 : (frontQ l0).length ≤ 1048576 := frontQ_le l0
  have hR1 : (frontR l0).length ≤ 1048576 := Nat.le_trans (frontR_short l0) (by omega)
  go_enter Try.func3, Try.ntmps3
  go_wp2_with fail
  refine (szNodeS _ a0 l0.length c0 _ (by omega) (by omega) hm0).mono ?_
  rw [if_pos (by omega)]
  rintro e wz ⟨rfl, hz⟩
  have hz' := hz.symm
  clear hz
  subst hz'
  have hp0 : 0 ≤ (1048576 : Int) - (l0.length : Int) := by omega
  have HB0 : Hid (Below w.heap.size w w) := Below.refl _ _
  go_wp2_with fail
  refine (toNodeS _ a0 l0 c0 (HN0.out.below HB0.out) hl0).mono ?_
  rintro e x1 ⟨rfl, hw, hb⟩
  have HB1 : Hid (Below w.heap.size w x1) := HB0.out.trans (hb.mono HB0.out.size)
  have hs1 : w.heap.size ≤ x1.heap.size := hb.size
  have Ht0_1 : Hid (NodesIn x1 w.heap.size x1.heap.size (some ⟨w.heap.size, 0, none⟩) l0) := WNodes.within hw
  clear hw hb
  go_wp2_with fail
  refine (sFront _ _ l0 _ Ht0_1.out.nodes).mono ?_
  rintro e x2 ⟨⟨sa0, sc0, sa1, sc1, rfl, hr0, hr1, _⟩, hb⟩
  have HB2 : Hid (Below w.heap.size w x2) := HB1.out.trans (hb.mono HB1.out.size)
  have hs2 : x1.heap.size ≤ x2.heap.size := hb.size
  have Hs0_2 : Hid (QusIn x2 x1.heap.size x2.heap.size sa0 (frontQ l0)) := WQus.within hr0
  have Hs1_2 : Hid (NodesIn x2 x1.heap.size x2.heap.size sa1 (frontR l0)) := WNodes.within hr1
  clear hb hr0 hr1
  have hne2 : ((sentB l0) != (sentB l0)) = false := by simp
  go_wp2_with fail
  refine (toNodeS _ a0 l0 c0 (HN0.out.below HB2.out) hl0).mono ?_
  rintro e x3 ⟨rfl, hw, hb⟩
  have HB3 : Hid (Below w.heap.size w x3) := HB2.out.trans (hb.mono HB2.out.size)
  have hs3 : x2.heap.size ≤ x3.heap.size := hb.size
  have Hs0_3 : Hid (QusIn x3 x1.heap.size x2.heap.size sa0 (frontQ l0)) := Hs0_2.out.below hb
  have Hs1_3 : Hid (NodesIn x3 x1.heap.size x2.heap.size sa1 (frontR l0)) := Hs1_2.out.below hb
  have Hx0_3 : Hid (NodesIn x3 x2.heap.size x3.heap.size (some ⟨x2.heap.size, 0, none⟩) l0) := WNodes.within hw
  clear hw hb
  go_wp2_with fail
  refine (hI _ _ l0 _ Hx0_3.out.nodes (Nat.le_refl _) hl0).mono ?_
  rintro e x4 ⟨⟨ga0, gc0, ga1, gc1, gu, rfl, hr0, hr1, ghu, ghv, _⟩, hb⟩
  have HB4 : Hid (Below w.heap.size w x4) := HB3.out.trans (hb.mono HB3.out.size)
  have hs4 : x3.heap.size ≤ x4.heap.size := hb.size
  have Hs0_4 : Hid (QusIn x4 x1.heap.size x2.heap.size sa0 (frontQ l0)) := Hs0_3.out.below hb
  have Hs1_4 : Hid (NodesIn x4 x1.heap.size x2.heap.size sa1 (frontR l0)) := Hs1_3.out.below hb
  have Hx0_4 : Hid (NodesIn x4 x2.heap.size x3.heap.size (some ⟨x2.heap.size, 0, none⟩) l0) := Hx0_3.out.below hb
  have Hg0_4 : Hid (QusIn x4 x3.heap.size gu ga0 (frontQ l0)) := hr0
  have Hg1_4 : Hid (NodesIn x4 gu x4.heap.size ga1 (frontR l0)) := hr1
  clear hb hr0 hr1
  go_wp2_with fail
  refine (eqQuantS _ _ _ (frontQ l0) _ _ Hg0_4.out.plain Hs0_4.out.plain).mono ?_
  rintro e x5 ⟨rfl, hb⟩
  have HB5 : Hid (Below w.heap.size w x5) := HB4.out.trans (hb.mono HB4.out.size)
  have hs5 : x4.heap.size ≤ x5.heap.size := hb.size
  have Hs0_5 : Hid (QusIn x5 x1.heap.size x2.heap.size sa0 (frontQ l0)) := Hs0_4.out.below hb
  have Hs1_5 : Hid (NodesIn x5 x1.heap.size x2.heap.size sa1 (frontR l0)) := Hs1_4.out.below hb
  have Hx0_5 : Hid (NodesIn x5 x2.heap.size x3.heap.size (some ⟨x2.heap.size, 0, none⟩) l0) := Hx0_4.out.below hb
  have Hg0_5 : Hid (QusIn x5 x3.heap.size gu ga0 (frontQ l0)) := Hg0_4.out.below hb
  have Hg1_5 : Hid (NodesIn x5 gu x4.heap.size ga1 (frontR l0)) := Hg1_4.out.below hb
  clear hb
  go_wp2_with fail
  refine (eqNodeS _ _ _ (frontR l0) _ _ Hg1_5.out.nodes Hs1_5.out.nodes).mono ?_
  rintro e x6 ⟨rfl, hb⟩
  have HB6 : Hid (Below w.heap.size w x6) := HB5.out.trans (hb.mono HB5.out.size)
  have hs6 : x5.heap.size ≤ x6.heap.size := hb.size
  have Hs0_6 : Hid (QusIn x6 x1.heap.size x2.heap.size sa0 (frontQ l0)) := Hs0_5.out.below hb
  have Hs1_6 : Hid (NodesIn x6 x1.heap.size x2.heap.size sa1 (frontR l0)) := Hs1_5.out.below hb
  have Hx0_6 : Hid (NodesIn x6 x2.heap.size x3.heap.size (some ⟨x2.heap.size, 0, none⟩) l0) := Hx0_5.out.below hb
  have Hg0_6 : Hid (QusIn x6 x3.heap.size gu ga0 (frontQ l0)) := Hg0_5.out.below hb
  have Hg1_6 : Hid (NodesIn x6 gu x4.heap.size ga1 (frontR l0)) := Hg1_5.out.below hb
  clear hb
  go_wp2_with fail
  refine (toNodeS _ a0 l0 c0 (HN0.out.below HB6.out) hl0).mono ?_
  rintro e x7 ⟨rfl, hw, hb⟩
  have HB7 : Hid (Below w.heap.size w x7) := HB6.out.trans (hb.mono HB6.out.size)
  have hs7 : x6.heap.size ≤ x7.heap.size := hb.size
  have Hs0_7 : Hid (QusIn x7 x1.heap.size x2.heap.size sa0 (frontQ l0)) := Hs0_6.out.below hb
  have Hs1_7 : Hid (NodesIn x7 x1.heap.size x2.heap.size sa1 (frontR l0)) := Hs1_6.out.below hb
  have Hx0_7 : Hid (NodesIn x7 x2.heap.size x3.heap.size (some ⟨x2.heap.size, 0, none⟩) l0) := Hx0_6.out.below hb
  have Hg0_7 : Hid (QusIn x7 x3.heap.size gu ga0 (frontQ l0)) := Hg0_6.out.below hb
  have Hg1_7 : Hid (NodesIn x7 gu x4.heap.size ga1 (frontR l0)) := Hg1_6.out.below hb
  have Hy0_7 : Hid (NodesIn x7 x6.heap.size x7.heap.size (some ⟨x6.heap.size, 0, none⟩) l0) := WNodes.within hw
  clear hw hb
  go_wp2_with fail
  refine (eqNodeS _ _ _ l0 _ _ Hx0_7.out.nodes Hy0_7.out.nodes).mono ?_
  rintro e x8 ⟨rfl, hb⟩
  have HB8 : Hid (Below w.heap.size w x8) := HB7.out.trans (hb.mono HB7.out.size)
  have hs8 : x7.heap.size ≤ x8.heap.size := hb.size
  have Hs0_8 : Hid (QusIn x8 x1.heap.size x2.heap.size sa0 (frontQ l0)) := Hs0_7.out.below hb
  have Hs1_8 : Hid (NodesIn x8 x1.heap.size x2.heap.size sa1 (frontR l0)) := Hs1_7.out.below hb
  have Hx0_8 : Hid (NodesIn x8 x2.heap.size x3.heap.size (some ⟨x2.heap.size, 0, none⟩) l0) := Hx0_7.out.below hb
  have Hg0_8 : Hid (QusIn x8 x3.heap.size gu ga0 (frontQ l0)) := Hg0_7.out.below hb
  have Hg1_8 : Hid (NodesIn x8 gu x4.heap.size ga1 (frontR l0)) := Hg1_7.out.below hb
  clear hb
  go_wp2_with fail
  refine (markNodeB _ _ _ l0 _ Hx0_8.out.wnodes _ (by omega) (by omega) hl0).mono ?_
  rintro e x9 ⟨rfl, hw, hk⟩
  have HB9 : Hid (Below w.heap.size w x9) := HB8.out.trans (hk.below (fun b hb => by have := Hx0_8.out.ats hb; omega) HB8.out.size)
  have hs9 : x8.heap.size ≤ x9.heap.size := hk.size
  have Hs0_9 : Hid (QusIn x9 x1.heap.size x2.heap.size sa0 (frontQ l0)) := Hs0_8.out.kept hk (fun b h1 h2 h3 => by have := Hx0_8.out.ats h3; omega)
  have Hs1_9 : Hid (NodesIn x9 x1.heap.size x2.heap.size sa1 (frontR l0)) := Hs1_8.out.kept hk (fun b h1 h2 h3 => by have := Hx0_8.out.ats h3; omega)
  have Hg0_9 : Hid (QusIn x9 x3.heap.size gu ga0 (frontQ l0)) := Hg0_8.out.kept hk (fun b h1 h2 h3 => by have := Hx0_8.out.ats h3; omega)
  have Hg1_9 : Hid (NodesIn x9 gu x4.heap.size ga1 (frontR l0)) := Hg1_8.out.kept hk (fun b h1 h2 h3 => by have := Hx0_8.out.ats h3; omega)
  have Hx0_9 : Hid (NodesIn x9 x2.heap.size x3.heap.size (some ⟨x2.heap.size, 0, none⟩) (markN l0.length ((1 : Int)))) := Hx0_8.out.again hw (markN_length _ _)
  clear hw hk
  have hk1 : ¬ (1 : Int) + 6 * (l0.length : Int) < 0 := by omega
  go_wp2_with fail
  refine (eqQuantS _ _ _ (frontQ l0) _ _ Hg0_9.out.plain Hs0_9.out.plain).mono ?_
  rintro e x10 ⟨rfl, hb⟩
  have HB10 : Hid (Below w.heap.size w x10) := HB9.out.trans (hb.mono HB9.out.size)
  have hs10 : x9.heap.size ≤ x10.heap.size := hb.size
  have Hs0_10 : Hid (QusIn x10 x1.heap.size x2.heap.size sa0 (frontQ l0)) := Hs0_9.out.below hb
  have Hs1_10 : Hid (NodesIn x10 x1.heap.size x2.heap.size sa1 (frontR l0)) := Hs1_9.out.below hb
  have Hg0_10 : Hid (QusIn x10 x3.heap.size gu ga0 (frontQ l0)) := Hg0_9.out.below hb
  have Hg1_10 : Hid (NodesIn x10 gu x4.heap.size ga1 (frontR l0)) := Hg1_9.out.below hb
  clear hb
  go_wp2_with fail
  refine (eqNodeS _ _ _ (frontR l0) _ _ Hg1_10.out.nodes Hs1_10.out.nodes).mono ?_
  rintro e x11 ⟨rfl, hb⟩
  have HB11 : Hid (Below w.heap.size w x11) := HB10.out.trans (hb.mono HB10.out.size)
  have hs11 : x10.heap.size ≤ x11.heap.size := hb.size
  have Hs0_11 : Hid (QusIn x11 x1.heap.size x2.heap.size sa0 (frontQ l0)) := Hs0_10.out.below hb
  have Hs1_11 : Hid (NodesIn x11 x1.heap.size x2.heap.size sa1 (frontR l0)) := Hs1_10.out.below hb
  have Hg0_11 : Hid (QusIn x11 x3.heap.size gu ga0 (frontQ l0)) := Hg0_10.out.below hb
  have Hg1_11 : Hid (NodesIn x11 gu x4.heap.size ga1 (frontR l0)) := Hg1_10.out.below hb
  clear hb
  go_wp2_with fail
  refine (markQuantS _ _ _ (frontQ l0) _ Hg0_11.out.wr _ (by omega) (by omega) hR0).mono ?_
  rintro e x12 ⟨rfl, hw, hk⟩
  have HB12 : Hid (Below w.heap.size w x12) := HB11.out.trans (hk.below (fun b hb => by have := Hg0_11.out.ats hb; omega) HB11.out.size)
  have hs12 : x11.heap.size ≤ x12.heap.size := hk.size
  have Hs0_12 : Hid (QusIn x12 x1.heap.size x2.heap.size sa0 (frontQ l0)) := Hs0_11.out.kept hk (fun b h1 h2 h3 => by have := Hg0_11.out.ats h3; omega)
  have Hs1_12 : Hid (NodesIn x12 x1.heap.size x2.heap.size sa1 (frontR l0)) := Hs1_11.out.kept hk (fun b h1 h2 h3 => by have := Hg0_11.out.ats h3; omega)
  have Hg1_12 : Hid (NodesIn x12 gu x4.heap.size ga1 (frontR l0)) := Hg1_11.out.kept hk (fun b h1 h2 h3 => by have := Hg0_11.out.ats h3; omega)
  have Hg0_12 : Hid (QusIn x12 x3.heap.size gu ga0 (markQu (frontQ l0).length ((1 : Int)))) := Hg0_11.out.again hw (markQu_length _ _)
  clear hw hk
  go_wp2_with fail
  refine (markNodeB _ _ _ (frontR l0) _ Hg1_12.out.wnodes _ (by omega) (by omega) hR1).mono ?_
  rintro e x13 ⟨rfl, hw, hk⟩
  have HB13 : Hid (Below w.heap.size w x13) := HB12.out.trans (hk.below (fun b hb => by have := Hg1_12.out.ats hb; omega) HB12.out.size)
  have hs13 : x12.heap.size ≤ x13.heap.size := hk.size
  have Hs0_13 : Hid (QusIn x13 x1.heap.size x2.heap.size sa0 (frontQ l0)) := Hs0_12.out.kept hk (fun b h1 h2 h3 => by have := Hg1_12.out.ats h3; omega)
  have Hs1_13 : Hid (NodesIn x13 x1.heap.size x2.heap.size sa1 (frontR l0)) := Hs1_12.out.kept hk (fun b h1 h2 h3 => by have := Hg1_12.out.ats h3; omega)
  have Hg0_13 : Hid (QusIn x13 x3.heap.size gu ga0 (markQu (frontQ l0).length ((1 : Int)))) := Hg0_12.out.kept hk (fun b h1 h2 h3 => by have := Hg1_12.out.ats h3; omega)
  have Hg1_13 : Hid (NodesIn x13 gu x4.heap.size ga1 (markN (frontR l0).length ((1 : Int) + 3 * ((frontQ l0).length : Int)))) := Hg1_12.out.again hw (markN_length _ _)
  clear hw hk
  go_wp2_with fail
  refine (heldQuantS _ _ (frontQ l0).length _ ((1 : Int)) Hg0_13.out.plain (by omega) (by omega) hR0).mono ?_
  rintro e wz ⟨rfl, hz⟩
  have hz' := hz.symm
  clear hz
  subst hz'
  have hq0 : ¬ ((1 : Int) + 3 * ((frontQ l0).length : Int)) < 0 := by omega
  go_wp2_with fail
  refine (heldNodeB _ _ (frontR l0).length _ ((1 : Int) + 3 * ((frontQ l0).length : Int)) Hg1_13.out.nodes (by omega) (by omega) hR1).mono ?_
  rintro e wz ⟨rfl, hz⟩
  have hz' := hz.symm
  clear hz
  subst hz'
  have hq1 : ¬ ((1 : Int) + 3 * ((frontQ l0).length : Int) + 6 * ((frontR l0).length : Int)) < 0 := by omega
  go_wp2_with fail
  refine (toNodeS _ a0 l0 c0 (HN0.out.below HB13.out) hl0).mono ?_
  rintro e x14 ⟨rfl, hw, hb⟩
  have HB14 : Hid (Below w.heap.size w x14) := HB13.out.trans (hb.mono HB13.out.size)
  have hs14 : x13.heap.size ≤ x14.heap.size := hb.size
  have Hs0_14 : Hid (QusIn x14 x1.heap.size x2.heap.size sa0 (frontQ l0)) := Hs0_13.out.below hb
  have Hs1_14 : Hid (NodesIn x14 x1.heap.size x2.heap.size sa1 (frontR l0)) := Hs1_13.out.below hb
  have Hg0_14 : Hid (QusIn x14 x3.heap.size gu ga0 (markQu (frontQ l0).length ((1 : Int)))) := Hg0_13.out.below hb
  have Hg1_14 : Hid (NodesIn x14 gu x4.heap.size ga1 (markN (frontR l0).length ((1 : Int) + 3 * ((frontQ l0).length : Int)))) := Hg1_13.out.below hb
  have Hz0_14 : Hid (NodesIn x14 x13.heap.size x14.heap.size (some ⟨x13.heap.size, 0, none⟩) l0) := WNodes.within hw
  clear hw hb
  go_wp2_with fail
  refine (hI _ _ l0 _ Hz0_14.out.nodes (Nat.le_refl _) hl0).mono ?_
  rintro e x15 ⟨⟨ha0, hc0, ha1, hc1, hu, rfl, hr0, hr1, hhu, hhv, _⟩, hb⟩
  have HB15 : Hid (Below w.heap.size w x15) := HB14.out.trans (hb.mono HB14.out.size)
  have hs15 : x14.heap.size ≤ x15.heap.size := hb.size
  have Hs0_15 : Hid (QusIn x15 x1.heap.size x2.heap.size sa0 (frontQ l0)) := Hs0_14.out.below hb
  have Hs1_15 : Hid (NodesIn x15 x1.heap.size x2.heap.size sa1 (frontR l0)) := Hs1_14.out.below hb
  have Hg0_15 : Hid (QusIn x15 x3.heap.size gu ga0 (markQu (frontQ l0).length ((1 : Int)))) := Hg0_14.out.below hb
  have Hg1_15 : Hid (NodesIn x15 gu x4.heap.size ga1 (markN (frontR l0).length ((1 : Int) + 3 * ((frontQ l0).length : Int)))) := Hg1_14.out.below hb
  have Hh0_15 : Hid (QusIn x15 x14.heap.size hu ha0 (frontQ l0)) := hr0
  have Hh1_15 : Hid (NodesIn x15 hu x15.heap.size ha1 (frontR l0)) := hr1
  clear hb hr0 hr1
  go_wp2_with fail
  refine (eqQuantS _ _ _ (frontQ l0) _ _ Hh0_15.out.plain Hs0_15.out.plain).mono ?_
  rintro e x16 ⟨rfl, hb⟩
  have HB16 : Hid (Below w.heap.size w x16) := HB15.out.trans (hb.mono HB15.out.size)
  have hs16 : x15.heap.size ≤ x16.heap.size := hb.size
  have Hs1_16 : Hid (NodesIn x16 x1.heap.size x2.heap.size sa1 (frontR l0)) := Hs1_15.out.below hb
  have Hg0_16 : Hid (QusIn x16 x3.heap.size gu ga0 (markQu (frontQ l0).length ((1 : Int)))) := Hg0_15.out.below hb
  have Hg1_16 : Hid (NodesIn x16 gu x4.heap.size ga1 (markN (frontR l0).length ((1 : Int) + 3 * ((frontQ l0).length : Int)))) := Hg1_15.out.below hb
  have Hh1_16 : Hid (NodesIn x16 hu x15.heap.size ha1 (frontR l0)) := Hh1_15.out.below hb
  clear hb
  go_wp2_with fail
  refine (eqNodeS _ _ _ (frontR l0) _ _ Hh1_16.out.nodes Hs1_16.out.nodes).mono ?_
  rintro e x17 ⟨rfl, hb⟩
  have HB17 : Hid (Below w.heap.size w x17) := HB16.out.trans (hb.mono HB16.out.size)
  have hs17 : x16.heap.size ≤ x17.heap.size := hb.size
  have Hg0_17 : Hid (QusIn x17 x3.heap.size gu ga0 (markQu (frontQ l0).length ((1 : Int)))) := Hg0_16.out.below hb
  have Hg1_17 : Hid (NodesIn x17 gu x4.heap.size ga1 (markN (frontR l0).length ((1 : Int) + 3 * ((frontQ l0).length : Int)))) := Hg1_16.out.below hb
  clear hb
  go_wp2_with fail
  refine (heldQuantS _ _ (frontQ l0).length _ ((1 : Int)) Hg0_17.out.plain (by omega) (by omega) hR0).mono ?_
  rintro e wz ⟨rfl, hz⟩
  have hz' := hz.symm
  clear hz
  subst hz'
  have hq2 : ¬ ((1 : Int) + 3 * ((frontQ l0).length : Int)) < 0 := by omega
  go_wp2_with fail
  refine (heldNodeB _ _ (frontR l0).length _ ((1 : Int) + 3 * ((frontQ l0).length : Int)) Hg1_17.out.nodes (by omega) (by omega) hR1).mono ?_
  rintro e wz ⟨rfl, hz⟩
  have hz' := hz.symm
  clear hz
  subst hz'
  have hq3 : ¬ ((1 : Int) + 3 * ((frontQ l0).length : Int) + 6 * ((frontR l0).length : Int)) < 0 := by omega
  go_wp2
  go_ret
  exact ⟨rfl, HB17.out⟩

end Go.Proofs.Ytebejleeadofcaa.Lx88
