/- The exact law of HoldsFront. Written by tools/mkex.py. -/
import Derived.Test.YtdmogjhabladcaaGreatFp7
import Derived.Test.YtdmogjhabladcaaGreatQa1
import Derived.Test.YtdmogjhabladcaaGreatPkB
import Derived.Test.YtdmogjhabladcaaGreatNd6
namespace Go.Proofs.YtdmogjhabladcaaGreat.Lx15
open Go.RowKit
open Nd0 Nd1 Nd2 Nd3 Nd4 Nd5 Nd6 Qa0 Qa1 Fr0
open Fm4 (sHoldsFront hfV hfB)
open Fp7 (IHoldsFront)
set_option linter.unusedVariables false

set_option maxRecDepth 100000 in
set_option maxHeartbeats 8000000 in
theorem exHoldsFront (hI : IHoldsFront) (w : World) (a0 : Option Addr) (l0 : List Qu) (c0 : Nat) (a1 : Option Addr) (l1 : List Nd) (c1 : Nat) (hN0 : Qus w a0 l0) (hN1 : Nodes w a1 l1) :
    Calls Tryz.prog 9 #[.slice a0 l0.length c0, .slice a1 l1.length c1] w fun e w' => e = .returned (.bool true) ∧ Below w.heap.size w w' := by
  have HN0 : Hid (Qus w a0 l0) := hN0
  have hm0 := hN0.1
  have HN1 : Hid (Nodes w a1 l1) := hN1
  have hm1 := hN1.1
  clear hN0 hN1
  by_cases hl0s : l0.length ≤ 1048576
  rotate_left
  · skip
    go_enter Tryz.func9, Tryz.ntmps9
    go_wp2_with fail
    refine (szQuantS _ a0 l0.length c0 _ (by omega) (by omega) hm0).mono ?_
    rw [if_neg (by omega)]
    rintro e wz ⟨rfl, hz⟩
    have hz' := hz.symm
    clear hz
    subst hz'
    go_wp2
    go_ret
    exact ⟨rfl, Below.refl _ _⟩
  have hl0 : l0.length ≤ 1048576 := by omega
  by_cases hl1s : l0.length + l1.length ≤ 1048576
  rotate_left
  · skip
    go_enter Tryz.func9, Tryz.ntmps9
    go_wp2_with fail
    refine (szQuantS _ a0 l0.length c0 _ (by omega) (by omega) hm0).mono ?_
    rw [if_pos (by omega)]
    rintro e wz ⟨rfl, hz⟩
    have hz' := hz.symm
    clear hz
    subst hz'
    have hp0 : 0 ≤ (1048576 : Int) - (l0.length : Int) := by omega
    go_wp2_with fail
    refine (szNodeS _ a1 l1.length c1 _ (by omega) (by omega) hm1).mono ?_
    rw [if_neg (by omega)]
    rintro e wz ⟨rfl, hz⟩
    have hz' := hz.symm
    clear hz
    subst hz'
    go_wp2
    go_ret
    exact ⟨rfl, Below.refl _ _⟩
  have hl1 : l1.length ≤ 1048576 := by omega
  go_enter Tryz.func9, Tryz.ntmps9
  go_wp2_with fail
  refine (szQuantS _ a0 l0.length c0 _ (by omega) (by omega) hm0).mono ?_
  rw [if_pos (by omega)]
  rintro e wz ⟨rfl, hz⟩
  have hz' := hz.symm
  clear hz
  subst hz'
  have hp0 : 0 ≤ (1048576 : Int) - (l0.length : Int) := by omega
  go_wp2_with fail
  refine (szNodeS _ a1 l1.length c1 _ (by omega) (by omega) hm1).mono ?_
  rw [if_pos (by omega)]
  rintro e wz ⟨rfl, hz⟩
  have hz' := hz.symm
  clear hz
  subst hz'
  have hp1 : 0 ≤ (1048576 : Int) - (l0.length : Int) - (l1.length : Int) := by omega
  have HB0 : Hid (Below w.heap.size w w) := Below.refl _ _
  go_wp2_with fail
  refine (toQuantS _ a0 l0 c0 (HN0.out.below HB0.out) hl0).mono ?_
  rintro e x1 ⟨rfl, hw, hb⟩
  have HB1 : Hid (Below w.heap.size w x1) := HB0.out.trans (hb.mono HB0.out.size)
  have hs1 : w.heap.size ≤ x1.heap.size := hb.size
  have Ht0_1 : Hid (QusIn x1 w.heap.size x1.heap.size (some ⟨w.heap.size, 0, none⟩) l0) := WQus.within hw
  clear hw hb
  go_wp2_with fail
  refine (toNodeS _ a1 l1 c1 (HN1.out.below HB1.out) hl1).mono ?_
  rintro e x2 ⟨rfl, hw, hb⟩
  have HB2 : Hid (Below w.heap.size w x2) := HB1.out.trans (hb.mono HB1.out.size)
  have hs2 : x1.heap.size ≤ x2.heap.size := hb.size
  have Ht0_2 : Hid (QusIn x2 w.heap.size x1.heap.size (some ⟨w.heap.size, 0, none⟩) l0) := Ht0_1.out.below hb
  have Ht1_2 : Hid (NodesIn x2 x1.heap.size x2.heap.size (some ⟨x1.heap.size, 0, none⟩) l1) := WNodes.within hw
  clear hw hb
  go_wp2_with fail
  refine (sHoldsFront _ _ _ l0 l1 _ _ Ht0_2.out.plain Ht1_2.out.nodes hl0).mono ?_
  rintro e x3 ⟨rfl, hb⟩
  have HB3 : Hid (Below w.heap.size w x3) := HB2.out.trans (hb.mono HB2.out.size)
  have hs3 : x2.heap.size ≤ x3.heap.size := hb.size
  clear hb 
  have hne0 : ((hfV l0 l1) != (hfV l0 l1)) = false := by simp
  have hne1 : ((hfB l0 l1) != (hfB l0 l1)) = false := by simp
  go_wp2_with fail
  refine (toQuantS _ a0 l0 c0 (HN0.out.below HB3.out) hl0).mono ?_
  rintro e x4 ⟨rfl, hw, hb⟩
  have HB4 : Hid (Below w.heap.size w x4) := HB3.out.trans (hb.mono HB3.out.size)
  have hs4 : x3.heap.size ≤ x4.heap.size := hb.size
  have Hx0_4 : Hid (QusIn x4 x3.heap.size x4.heap.size (some ⟨x3.heap.size, 0, none⟩) l0) := WQus.within hw
  clear hw hb
  go_wp2_with fail
  refine (toNodeS _ a1 l1 c1 (HN1.out.below HB4.out) hl1).mono ?_
  rintro e x5 ⟨rfl, hw, hb⟩
  have HB5 : Hid (Below w.heap.size w x5) := HB4.out.trans (hb.mono HB4.out.size)
  have hs5 : x4.heap.size ≤ x5.heap.size := hb.size
  have Hx0_5 : Hid (QusIn x5 x3.heap.size x4.heap.size (some ⟨x3.heap.size, 0, none⟩) l0) := Hx0_4.out.below hb
  have Hx1_5 : Hid (NodesIn x5 x4.heap.size x5.heap.size (some ⟨x4.heap.size, 0, none⟩) l1) := WNodes.within hw
  clear hw hb
  go_wp2_with fail
  refine (hI _ _ _ l0 l1 _ _ Hx0_5.out.plain hl0 Hx1_5.out.nodes (Nat.le_refl _) hl1).mono ?_
  rintro e x6 ⟨rfl, hb⟩
  have HB6 : Hid (Below w.heap.size w x6) := HB5.out.trans (hb.mono HB5.out.size)
  have hs6 : x5.heap.size ≤ x6.heap.size := hb.size
  have Hx0_6 : Hid (QusIn x6 x3.heap.size x4.heap.size (some ⟨x3.heap.size, 0, none⟩) l0) := Hx0_5.out.below hb
  have Hx1_6 : Hid (NodesIn x6 x4.heap.size x5.heap.size (some ⟨x4.heap.size, 0, none⟩) l1) := Hx1_5.out.below hb
  clear hb 
  go_wp2_with fail
  refine (toQuantS _ a0 l0 c0 (HN0.out.below HB6.out) hl0).mono ?_
  rintro e x7 ⟨rfl, hw, hb⟩
  have HB7 : Hid (Below w.heap.size w x7) := HB6.out.trans (hb.mono HB6.out.size)
  have hs7 : x6.heap.size ≤ x7.heap.size := hb.size
  have Hx0_7 : Hid (QusIn x7 x3.heap.size x4.heap.size (some ⟨x3.heap.size, 0, none⟩) l0) := Hx0_6.out.below hb
  have Hx1_7 : Hid (NodesIn x7 x4.heap.size x5.heap.size (some ⟨x4.heap.size, 0, none⟩) l1) := Hx1_6.out.below hb
  have Hy0_7 : Hid (QusIn x7 x6.heap.size x7.heap.size (some ⟨x6.heap.size, 0, none⟩) l0) := WQus.within hw
  clear hw hb
  go_wp2_with fail
  refine (eqQuantS _ _ _ l0 _ _ Hx0_7.out.plain Hy0_7.out.plain).mono ?_
  rintro e x8 ⟨rfl, hb⟩
  have HB8 : Hid (Below w.heap.size w x8) := HB7.out.trans (hb.mono HB7.out.size)
  have hs8 : x7.heap.size ≤ x8.heap.size := hb.size
  have Hx1_8 : Hid (NodesIn x8 x4.heap.size x5.heap.size (some ⟨x4.heap.size, 0, none⟩) l1) := Hx1_7.out.below hb
  clear hb
  go_wp2_with fail
  refine (toNodeS _ a1 l1 c1 (HN1.out.below HB8.out) hl1).mono ?_
  rintro e x9 ⟨rfl, hw, hb⟩
  have HB9 : Hid (Below w.heap.size w x9) := HB8.out.trans (hb.mono HB8.out.size)
  have hs9 : x8.heap.size ≤ x9.heap.size := hb.size
  have Hx1_9 : Hid (NodesIn x9 x4.heap.size x5.heap.size (some ⟨x4.heap.size, 0, none⟩) l1) := Hx1_8.out.below hb
  have Hy1_9 : Hid (NodesIn x9 x8.heap.size x9.heap.size (some ⟨x8.heap.size, 0, none⟩) l1) := WNodes.within hw
  clear hw hb
  go_wp2_with fail
  refine (eqNodeS _ _ _ l1 _ _ Hx1_9.out.nodes Hy1_9.out.nodes).mono ?_
  rintro e x10 ⟨rfl, hb⟩
  have HB10 : Hid (Below w.heap.size w x10) := HB9.out.trans (hb.mono HB9.out.size)
  have hs10 : x9.heap.size ≤ x10.heap.size := hb.size
  clear hb
  go_wp2
  go_ret
  exact ⟨rfl, HB10.out⟩

end Go.Proofs.YtdmogjhabladcaaGreat.Lx15
