/- The exact law of Both. Written by tools/mkex.py. -/
import Derived.Test.YtnkkigoeffghdaaAm11
import Derived.Test.YtnkkigoeffghdaaPb14
import Derived.Test.YtnkkigoeffghdaaPk1513
import Derived.Test.YtnkkigoeffghdaaPk1514
namespace Go.Proofs.Ytnkkigoeffghdaa.Lx87
open Go.RowKit
open Nd0 Nd1 Nd2 Nd3 Nd4 Nd5 Nd6 Tm0 Tm3 Aq0 Aq13 Ap0
open Am11 (sBoth)
open Pb14 (iBoth)
open Lx1 (ITermOk)
open Lx6 (ISentence)
set_option linter.unusedVariables false

set_option maxRecDepth 100000 in
set_option maxHeartbeats 8000000 in
theorem exBoth (hI : ITermOk) (hS : ISentence) (w : World) (a0 : Option Addr) (l0 : List Nd) (c0 : Nat) (a1 : Option Addr) (l1 : List Nd) (c1 : Nat) (hN0 : Nodes w a0 l0) (hN1 : Nodes w a1 l1) :
    Calls Try.prog 12 #[.slice a0 l0.length c0, .slice a1 l1.length c1] w fun e w' => e = .returned (.bool true) ∧ Below w.heap.size w w' := by
  have HN0 : Hid (Nodes w a0 l0) := hN0
  have hm0 := hN0.1
  have HN1 : Hid (Nodes w a1 l1) := hN1
  have hm1 := hN1.1
  clear hN0 hN1
  by_cases hl0s : l0.length ≤ 1048576
  rotate_left
  · skip
    go_enter Try.func12, Try.ntmps12
    go_wp2_with fail
    refine (szNodeS _ a0 l0.length c0 _ (by omega) (by omega) hm0).mono ?_
    rw [if_neg (by omega)]
    rintro e wz ⟨rfl, hz⟩
    have hz' := hz.symm
    clear hz
    subst hz'
    go_wp2
    go_ret
    exact ⟨rfl, Below.refl _ _⟩
  have hl0 : l0.length ≤ 1048576 := by omega
  by_cases hl1s : l0.length + l1.length ≤ 1048576
  rotate_left
  · skip
    go_enter Try.func12, Try.ntmps12
    go_wp2_with fail
    refine (szNodeS _ a0 l0.length c0 _ (by omega) (by omega) hm0).mono ?_
    rw [if_pos (by omega)]
    rintro e wz ⟨rfl, hz⟩
    have hz' := hz.symm
    clear hz
    subst hz'
    have hp0 : 0 ≤ (1048576 : Int) - (l0.length : Int) := by omega
    go_wp2_with fail
    refine (szNodeS _ a1 l1.length c1 _ (by omega) (by omega) hm1).mono ?_
    rw [if_neg (by omega)]
    rintro e wz ⟨rfl, hz⟩
    have hz' := hz.symm
    clear hz
    subst hz'
    go_wp2
    go_ret
    exact ⟨rfl, Below.refl _ _⟩
  have hl1 : l1.length ≤ 1048576 := by omega
  have hR0 : (bothR l0 l1).length ≤ 1048576 := Nat.le_trans (bothR_le l0 l1) (by omega)
  go_enter Try.func12, Try.ntmps12
  go_wp2_with fail
  refine (szNodeS _ a0 l0.length c0 _ (by omega) (by omega) hm0).mono ?_
  rw [if_pos (by omega)]
  rintro e wz ⟨rfl, hz⟩
  have hz' := hz.symm
  clear hz
  subst hz'
  have hp0 : 0 ≤ (1048576 : Int) - (l0.length : Int) := by omega
  go_wp2_with fail
  refine (szNodeS _ a1 l1.length c1 _ (by omega) (by omega) hm1).mono ?_
  rw [if_pos (by omega)]
  rintro e wz ⟨rfl, hz⟩
  have hz' := hz.symm
  clear hz
  subst hz'
  have hp1 : 0 ≤ (1048576 : Int) - (l0.length : Int) - (l1.length : Int) := by omega
  have HB0 : Hid (Below w.heap.size w w) := Below.refl _ _
  go_wp2_with fail
  refine (toNodeS _ a0 l0 c0 (HN0.out.below HB0.out) hl0).mono ?_
  rintro e x1 ⟨rfl, hw, hb⟩
  have HB1 : Hid (Below w.heap.size w x1) := HB0.out.trans (hb.mono HB0.out.size)
  have hs1 : w.heap.size ≤ x1.heap.size := hb.size
  have Ht0_1 : Hid (NodesIn x1 w.heap.size x1.heap.size (some ⟨w.heap.size, 0, none⟩) l0) := WNodes.within hw
  clear hw hb
  go_wp2_with fail
  refine (toNodeS _ a1 l1 c1 (HN1.out.below HB1.out) hl1).mono ?_
  rintro e x2 ⟨rfl, hw, hb⟩
  have HB2 : Hid (Below w.heap.size w x2) := HB1.out.trans (hb.mono HB1.out.size)
  have hs2 : x1.heap.size ≤ x2.heap.size := hb.size
  have Ht0_2 : Hid (NodesIn x2 w.heap.size x1.heap.size (some ⟨w.heap.size, 0, none⟩) l0) := Ht0_1.out.below hb
  have Ht1_2 : Hid (NodesIn x2 x1.heap.size x2.heap.size (some ⟨x1.heap.size, 0, none⟩) l1) := WNodes.within hw
  clear hw hb
  go_wp2_with fail
  refine (sBoth _ _ _ l0 l1 _ _ Ht0_2.out.nodes Ht1_2.out.nodes).mono ?_
  rintro e x3 ⟨⟨sa0, sc0, rfl, hr0⟩, hb⟩
  have HB3 : Hid (Below w.heap.size w x3) := HB2.out.trans (hb.mono HB2.out.size)
  have hs3 : x2.heap.size ≤ x3.heap.size := hb.size
  have Hs0_3 : Hid (NodesIn x3 x2.heap.size x3.heap.size sa0 (bothR l0 l1)) := WNodes.within hr0
  clear hb hr0
  have hne1 : ((bothB l0 l1) != (bothB l0 l1)) = false := by simp
  go_wp2_with fail
  refine (toNodeS _ a0 l0 c0 (HN0.out.below HB3.out) hl0).mono ?_
  rintro e x4 ⟨rfl, hw, hb⟩
  have HB4 : Hid (Below w.heap.size w x4) := HB3.out.trans (hb.mono HB3.out.size)
  have hs4 : x3.heap.size ≤ x4.heap.size := hb.size
  have Hs0_4 : Hid (NodesIn x4 x2.heap.size x3.heap.size sa0 (bothR l0 l1)) := Hs0_3.out.below hb
  have Hx0_4 : Hid (NodesIn x4 x3.heap.size x4.heap.size (some ⟨x3.heap.size, 0, none⟩) l0) := WNodes.within hw
  clear hw hb
  go_wp2_with fail
  refine (toNodeS _ a1 l1 c1 (HN1.out.below HB4.out) hl1).mono ?_
  rintro e x5 ⟨rfl, hw, hb⟩
  have HB5 : Hid (Below w.heap.size w x5) := HB4.out.trans (hb.mono HB4.out.size)
  have hs5 : x4.heap.size ≤ x5.heap.size := hb.size
  have Hs0_5 : Hid (NodesIn x5 x2.heap.size x3.heap.size sa0 (bothR l0 l1)) := Hs0_4.out.below hb
  have Hx0_5 : Hid (NodesIn x5 x3.heap.size x4.heap.size (some ⟨x3.heap.size, 0, none⟩) l0) := Hx0_4.out.below hb
  have Hx1_5 : Hid (NodesIn x5 x4.heap.size x5.heap.size (some ⟨x4.heap.size, 0, none⟩) l1) := WNodes.within hw
  clear hw hb
  go_wp2_with fail
  refine (iBoth hI hS _ _ _ l0 l1 _ _ Hx0_5.out.nodes Hx1_5.out.nodes (Nat.le_refl _) (Nat.le_refl _) (by omega) (by omega)).mono ?_
  rintro e x6 ⟨⟨ga0, gc0, rfl, hr0, _⟩, hb⟩
  have HB6 : Hid (Below w.heap.size w x6) := HB5.out.trans (hb.mono HB5.out.size)
  have hs6 : x5.heap.size ≤ x6.heap.size := hb.size
  have Hs0_6 : Hid (NodesIn x6 x2.heap.size x3.heap.size sa0 (bothR l0 l1)) := Hs0_5.out.below hb
  have Hx0_6 : Hid (NodesIn x6 x3.heap.size x4.heap.size (some ⟨x3.heap.size, 0, none⟩) l0) := Hx0_5.out.below hb
  have Hx1_6 : Hid (NodesIn x6 x4.heap.size x5.heap.size (some ⟨x4.heap.size, 0, none⟩) l1) := Hx1_5.out.below hb
  have Hg0_6 : Hid (NodesIn x6 x5.heap.size x6.heap.size ga0 (bothR l0 l1)) := WNodes.within hr0
  clear hb hr0
  go_wp2_with fail
  refine (eqNodeS _ _ _ (bothR l0 l1) _ _ Hg0_6.out.nodes Hs0_6.out.nodes).mono ?_
  rintro e x7 ⟨rfl, hb⟩
  have HB7 : Hid (Below w.heap.size w x7) := HB6.out.trans (hb.mono HB6.out.size)
  have hs7 : x6.heap.size ≤ x7.heap.size := hb.size
  have Hs0_7 : Hid (NodesIn x7 x2.heap.size x3.heap.size sa0 (bothR l0 l1)) := Hs0_6.out.below hb
  have Hx0_7 : Hid (NodesIn x7 x3.heap.size x4.heap.size (some ⟨x3.heap.size, 0, none⟩) l0) := Hx0_6.out.below hb
  have Hx1_7 : Hid (NodesIn x7 x4.heap.size x5.heap.size (some ⟨x4.heap.size, 0, none⟩) l1) := Hx1_6.out.below hb
  have Hg0_7 : Hid (NodesIn x7 x5.heap.size x6.heap.size ga0 (bothR l0 l1)) := Hg0_6.out.below hb
  clear hb
  go_wp2_with fail
  refine (toNodeS _ a0 l0 c0 (HN0.out.below HB7.out) hl0).mono ?_
  rintro e x8 ⟨rfl, hw, hb⟩
  have HB8 : Hid (Below w.heap.size w x8) := HB7.out.trans (hb.mono HB7.out.size)
  have hs8 : x7.heap.size ≤ x8.heap.size := hb.size
  have Hs0_8 : Hid (NodesIn x8 x2.heap.size x3.heap.size sa0 (bothR l0 l1)) := Hs0_7.out.below hb
  have Hx0_8 : Hid (NodesIn x8 x3.heap.size x4.heap.size (some ⟨x3.heap.size, 0, none⟩) l0) := Hx0_7.out.below hb
  have Hx1_8 : Hid (NodesIn x8 x4.heap.size x5.heap.size (some ⟨x4.heap.size, 0, none⟩) l1) := Hx1_7.out.below hb
  have Hg0_8 : Hid (NodesIn x8 x5.heap.size x6.heap.size ga0 (bothR l0 l1)) := Hg0_7.out.below hb
  have Hy0_8 : Hid (NodesIn x8 x7.heap.size x8.heap.size (some ⟨x7.heap.size, 0, none⟩) l0) := WNodes.within hw
  clear hw hb
  go_wp2_with fail
  refine (eqNodeS _ _ _ l0 _ _ Hx0_8.out.nodes Hy0_8.out.nodes).mono ?_
  rintro e x9 ⟨rfl, hb⟩
  have HB9 : Hid (Below w.heap.size w x9) := HB8.out.trans (hb.mono HB8.out.size)
  have hs9 : x8.heap.size ≤ x9.heap.size := hb.size
  have Hs0_9 : Hid (NodesIn x9 x2.heap.size x3.heap.size sa0 (bothR l0 l1)) := Hs0_8.out.below hb
  have Hx0_9 : Hid (NodesIn x9 x3.heap.size x4.heap.size (some ⟨x3.heap.size, 0, none⟩) l0) := Hx0_8.out.below hb
  have Hx1_9 : Hid (NodesIn x9 x4.heap.size x5.heap.size (some ⟨x4.heap.size, 0, none⟩) l1) := Hx1_8.out.below hb
  have Hg0_9 : Hid (NodesIn x9 x5.heap.size x6.heap.size ga0 (bothR l0 l1)) := Hg0_8.out.below hb
  clear hb
  go_wp2_with fail
  refine (toNodeS _ a1 l1 c1 (HN1.out.below HB9.out) hl1).mono ?_
  rintro e x10 ⟨rfl, hw, hb⟩
  have HB10 : Hid (Below w.heap.size w x10) := HB9.out.trans (hb.mono HB9.out.size)
  have hs10 : x9.heap.size ≤ x10.heap.size := hb.size
  have Hs0_10 : Hid (NodesIn x10 x2.heap.size x3.heap.size sa0 (bothR l0 l1)) := Hs0_9.out.below hb
  have Hx0_10 : Hid (NodesIn x10 x3.heap.size x4.heap.size (some ⟨x3.heap.size, 0, none⟩) l0) := Hx0_9.out.below hb
  have Hx1_10 : Hid (NodesIn x10 x4.heap.size x5.heap.size (some ⟨x4.heap.size, 0, none⟩) l1) := Hx1_9.out.below hb
  have Hg0_10 : Hid (NodesIn x10 x5.heap.size x6.heap.size ga0 (bothR l0 l1)) := Hg0_9.out.below hb
  have Hy1_10 : Hid (NodesIn x10 x9.heap.size x10.heap.size (some ⟨x9.heap.size, 0, none⟩) l1) := WNodes.within hw
  clear hw hb
  go_wp2_with fail
  refine (eqNodeS _ _ _ l1 _ _ Hx1_10.out.nodes Hy1_10.out.nodes).mono ?_
  rintro e x11 ⟨rfl, hb⟩
  have HB11 : Hid (Below w.heap.size w x11) := HB10.out.trans (hb.mono HB10.out.size)
  have hs11 : x10.heap.size ≤ x11.heap.size := hb.size
  have Hs0_11 : Hid (NodesIn x11 x2.heap.size x3.heap.size sa0 (bothR l0 l1)) := Hs0_10.out.below hb
  have Hx0_11 : Hid (NodesIn x11 x3.heap.size x4.heap.size (some ⟨x3.heap.size, 0, none⟩) l0) := Hx0_10.out.below hb
  have Hx1_11 : Hid (NodesIn x11 x4.heap.size x5.heap.size (some ⟨x4.heap.size, 0, none⟩) l1) := Hx1_10.out.below hb
  have Hg0_11 : Hid (NodesIn x11 x5.heap.size x6.heap.size ga0 (bothR l0 l1)) := Hg0_10.out.below hb
  clear hb
  go_wp2_with fail
  refine (markNodeB _ _ _ l0 _ Hx0_11.out.wnodes _ (by omega) (by omega) hl0).mono ?_
  rintro e x12 ⟨rfl, hw, hk⟩
  have HB12 : Hid (Below w.heap.size w x12) := HB11.out.trans (hk.below (fun b hb => by have := Hx0_11.out.ats hb; omega) HB11.out.size)
  have hs12 : x11.heap.size ≤ x12.heap.size := hk.size
  have Hs0_12 : Hid (NodesIn x12 x2.heap.size x3.heap.size sa0 (bothR l0 l1)) := Hs0_11.out.kept hk (fun b h1 h2 h3 => by have := Hx0_11.out.ats h3; omega)
  have Hx1_12 : Hid (NodesIn x12 x4.heap.size x5.heap.size (some ⟨x4.heap.size, 0, none⟩) l1) := Hx1_11.out.kept hk (fun b h1 h2 h3 => by have := Hx0_11.out.ats h3; omega)
  have Hg0_12 : Hid (NodesIn x12 x5.heap.size x6.heap.size ga0 (bothR l0 l1)) := Hg0_11.out.kept hk (fun b h1 h2 h3 => by have := Hx0_11.out.ats h3; omega)
  have Hx0_12 : Hid (NodesIn x12 x3.heap.size x4.heap.size (some ⟨x3.heap.size, 0, none⟩) (markN l0.length ((1 : Int)))) := Hx0_11.out.again hw (markN_length _ _)
  clear hw hk
  go_wp2_with fail
  refine (markNodeB _ _ _ l1 _ Hx1_12.out.wnodes _ (by omega) (by omega) hl1).mono ?_
  rintro e x13 ⟨rfl, hw, hk⟩
  have HB13 : Hid (Below w.heap.size w x13) := HB12.out.trans (hk.below (fun b hb => by have := Hx1_12.out.ats hb; omega) HB12.out.size)
  have hs13 : x12.heap.size ≤ x13.heap.size := hk.size
  have Hs0_13 : Hid (NodesIn x13 x2.heap.size x3.heap.size sa0 (bothR l0 l1)) := Hs0_12.out.kept hk (fun b h1 h2 h3 => by have := Hx1_12.out.ats h3; omega)
  have Hx0_13 : Hid (NodesIn x13 x3.heap.size x4.heap.size (some ⟨x3.heap.size, 0, none⟩) (markN l0.length ((1 : Int)))) := Hx0_12.out.kept hk (fun b h1 h2 h3 => by have := Hx1_12.out.ats h3; omega)
  have Hg0_13 : Hid (NodesIn x13 x5.heap.size x6.heap.size ga0 (bothR l0 l1)) := Hg0_12.out.kept hk (fun b h1 h2 h3 => by have := Hx1_12.out.ats h3; omega)
  have Hx1_13 : Hid (NodesIn x13 x4.heap.size x5.heap.size (some ⟨x4.heap.size, 0, none⟩) (markN l1.length ((1 : Int) + 6 * (l0.length : Int)))) := Hx1_12.out.again hw (markN_length _ _)
  clear hw hk
  have hk1 : ¬ (1 : Int) + 6 * (l0.length : Int) + 6 * (l1.length : Int) < 0 := by omega
  go_wp2_with fail
  refine (eqNodeS _ _ _ (bothR l0 l1) _ _ Hg0_13.out.nodes Hs0_13.out.nodes).mono ?_
  rintro e x14 ⟨rfl, hb⟩
  have HB14 : Hid (Below w.heap.size w x14) := HB13.out.trans (hb.mono HB13.out.size)
  have hs14 : x13.heap.size ≤ x14.heap.size := hb.size
  have Hs0_14 : Hid (NodesIn x14 x2.heap.size x3.heap.size sa0 (bothR l0 l1)) := Hs0_13.out.below hb
  have Hg0_14 : Hid (NodesIn x14 x5.heap.size x6.heap.size ga0 (bothR l0 l1)) := Hg0_13.out.below hb
  clear hb
  go_wp2_with fail
  refine (markNodeB _ _ _ (bothR l0 l1) _ Hg0_14.out.wnodes _ (by omega) (by omega) hR0).mono ?_
  rintro e x15 ⟨rfl, hw, hk⟩
  have HB15 : Hid (Below w.heap.size w x15) := HB14.out.trans (hk.below (fun b hb => by have := Hg0_14.out.ats hb; omega) HB14.out.size)
  have hs15 : x14.heap.size ≤ x15.heap.size := hk.size
  have Hs0_15 : Hid (NodesIn x15 x2.heap.size x3.heap.size sa0 (bothR l0 l1)) := Hs0_14.out.kept hk (fun b h1 h2 h3 => by have := Hg0_14.out.ats h3; omega)
  have Hg0_15 : Hid (NodesIn x15 x5.heap.size x6.heap.size ga0 (markN (bothR l0 l1).length ((1 : Int)))) := Hg0_14.out.again hw (markN_length _ _)
  clear hw hk
  go_wp2_with fail
  refine (heldNodeB _ _ (bothR l0 l1).length _ ((1 : Int)) Hg0_15.out.nodes (by omega) (by omega) hR0).mono ?_
  rintro e wz ⟨rfl, hz⟩
  have hz' := hz.symm
  clear hz
  subst hz'
  have hq0 : ¬ ((1 : Int) + 6 * ((bothR l0 l1).length : Int)) < 0 := by omega
  go_wp2_with fail
  refine (toNodeS _ a0 l0 c0 (HN0.out.below HB15.out) hl0).mono ?_
  rintro e x16 ⟨rfl, hw, hb⟩
  have HB16 : Hid (Below w.heap.size w x16) := HB15.out.trans (hb.mono HB15.out.size)
  have hs16 : x15.heap.size ≤ x16.heap.size := hb.size
  have Hs0_16 : Hid (NodesIn x16 x2.heap.size x3.heap.size sa0 (bothR l0 l1)) := Hs0_15.out.below hb
  have Hg0_16 : Hid (NodesIn x16 x5.heap.size x6.heap.size ga0 (markN (bothR l0 l1).length ((1 : Int)))) := Hg0_15.out.below hb
  have Hz0_16 : Hid (NodesIn x16 x15.heap.size x16.heap.size (some ⟨x15.heap.size, 0, none⟩) l0) := WNodes.within hw
  clear hw hb
  go_wp2_with fail
  refine (toNodeS _ a1 l1 c1 (HN1.out.below HB16.out) hl1).mono ?_
  rintro e x17 ⟨rfl, hw, hb⟩
  have HB17 : Hid (Below w.heap.size w x17) := HB16.out.trans (hb.mono HB16.out.size)
  have hs17 : x16.heap.size ≤ x17.heap.size := hb.size
  have Hs0_17 : Hid (NodesIn x17 x2.heap.size x3.heap.size sa0 (bothR l0 l1)) := Hs0_16.out.below hb
  have Hg0_17 : Hid (NodesIn x17 x5.heap.size x6.heap.size ga0 (markN (bothR l0 l1).length ((1 : Int)))) := Hg0_16.out.below hb
  have Hz0_17 : Hid (NodesIn x17 x15.heap.size x16.heap.size (some ⟨x15.heap.size, 0, none⟩) l0) := Hz0_16.out.below hb
  have Hz1_17 : Hid (NodesIn x17 x16.heap.size x17.heap.size (some ⟨x16.heap.size, 0, none⟩) l1) := WNodes.within hw
  clear hw hb
  go_wp2_with fail
  refine (iBoth hI hS _ _ _ l0 l1 _ _ Hz0_17.out.nodes Hz1_17.out.nodes (Nat.le_refl _) (Nat.le_refl _) (by omega) (by omega)).mono ?_
  rintro e x18 ⟨⟨ha0, hc0, rfl, hr0, _⟩, hb⟩
  have HB18 : Hid (Below w.heap.size w x18) := HB17.out.trans (hb.mono HB17.out.size)
  have hs18 : x17.heap.size ≤ x18.heap.size := hb.size
  have Hs0_18 : Hid (NodesIn x18 x2.heap.size x3.heap.size sa0 (bothR l0 l1)) := Hs0_17.out.below hb
  have Hg0_18 : Hid (NodesIn x18 x5.heap.size x6.heap.size ga0 (markN (bothR l0 l1).length ((1 : Int)))) := Hg0_17.out.below hb
  have Hh0_18 : Hid (NodesIn x18 x17.heap.size x18.heap.size ha0 (bothR l0 l1)) := WNodes.within hr0
  clear hb hr0
  go_wp2_with fail
  refine (eqNodeS _ _ _ (bothR l0 l1) _ _ Hh0_18.out.nodes Hs0_18.out.nodes).mono ?_
  rintro e x19 ⟨rfl, hb⟩
  have HB19 : Hid (Below w.heap.size w x19) := HB18.out.trans (hb.mono HB18.out.size)
  have hs19 : x18.heap.size ≤ x19.heap.size := hb.size
  have Hg0_19 : Hid (NodesIn x19 x5.heap.size x6.heap.size ga0 (markN (bothR l0 l1).length ((1 : Int)))) := Hg0_18.out.below hb
  clear hb
  go_wp2_with fail
  refine (heldNodeB _ _ (bothR l0 l1).length _ ((1 : Int)) Hg0_19.out.nodes (by omega) (by omega) hR0).mono ?_
  rintro e wz ⟨rfl, hz⟩
  have hz' := hz.symm
  clear hz
  subst hz'
  have hq1 : ¬ ((1 : Int) + 6 * ((bothR l0 l1).length : Int)) < 0 := by omega
  go_wp2
  go_ret
  exact ⟨rfl, HB19.out⟩

end Go.Proofs.Ytnkkigoeffghdaa.Lx87
