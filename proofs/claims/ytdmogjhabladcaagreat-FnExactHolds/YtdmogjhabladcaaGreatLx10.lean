/- The walk of the exact law of Holds, out of the contracts of the model's and the program's. -/
import Derived.Test.YtdmogjhabladcaaGreatPkM
import Derived.Test.YtdmogjhabladcaaGreatPkH
import Derived.Test.YtdmogjhabladcaaGreatPkB
namespace Go.Proofs.YtdmogjhabladcaaGreat.Lx10
open Go.RowKit
open Nd0 Nd1 Nd2 Nd3 Nd4 Nd5 Tm0 Tm6 Vl1 Vl5 Ic4
open Sv6 (vRes)
open Sv7 (sHolds)
set_option linter.unusedVariables false

set_option maxRecDepth 100000 in
set_option maxHeartbeats 4000000 in
theorem exHolds (hI : IHolds) (w : World) (a : Option Addr) (l : List Nd) (c : Nat) (hN : Nodes w a l) :
    Calls Tryz.prog 8 #[.slice a l.length c] w fun e w' => e = .returned (.bool true) ∧ Below w.heap.size w w' := by
  have HN : Hid (Nodes w a l) := hN
  have hm := hN.1
  clear hN
  by_cases hl : l.length ≤ 1048576
  · go_enter Tryz.func8, Tryz.ntmps8
    go_wp2_with fail
    refine (szNodeS _ a l.length c _ (by omega) (by omega) hm).mono ?_
    rw [if_pos (by omega)]
    rintro e w1 ⟨rfl, rfl⟩
    have hp : 0 ≤ (1048576 : Int) - (l.length : Int) := by omega
    go_wp2_with fail
    refine (toNodeS _ a l c HN.out hl).mono ?_
    rintro e w2 ⟨rfl, hw2, hb2⟩
    have HW2 : Hid (WNodes w2 w1.heap.size (some ⟨w1.heap.size, 0, none⟩) l) := hw2
    have HB2 : Hid (Below w1.heap.size w1 w2) := hb2
    clear hw2 hb2
    go_wp2_with fail
    refine (sHolds _ _ l _ HW2.out.nodes).mono ?_
    rintro e w3 ⟨rfl, hb3⟩
    unfold vRes
    have hne : ((holdsL l).getD 0 != (holdsL l).getD 0) = false := by simp
    have hnb : ((holdsL l).isSome != (holdsL l).isSome) = false := by simp
    have HB3 : Hid (Below w1.heap.size w1 w3) := HB2.out.trans (hb3.mono HB2.out.size)
    clear hb3
    go_wp2_with fail
    refine (toNodeS _ a l c (HN.out.below HB3.out) hl).mono ?_
    rintro e w4 ⟨rfl, hw4, hb4⟩
    have HW4 : Hid (WNodes w4 w3.heap.size (some ⟨w3.heap.size, 0, none⟩) l) := hw4
    have HB4 : Hid (Below w1.heap.size w1 w4) := HB3.out.trans (hb4.mono HB3.out.size)
    clear hw4 hb4
    go_wp2_with fail
    refine (hI _ _ l _ HW4.out.nodes (Nat.le_refl _) hl).mono ?_
    rintro e w5 ⟨rfl, hb5⟩
    have HN5 : Hid (Nodes w5 (some ⟨w3.heap.size, 0, none⟩) l) := HW4.out.nodes.below hb5
    have HB5 : Hid (Below w1.heap.size w1 w5) := HB4.out.trans (hb5.mono HB4.out.size)
    clear hb5
    go_wp2_with fail
    refine (toNodeS _ a l c (HN.out.below HB5.out) hl).mono ?_
    rintro e w6 ⟨rfl, hw6, hb6⟩
    have HW6 : Hid (WNodes w6 w5.heap.size (some ⟨w5.heap.size, 0, none⟩) l) := hw6
    have HN6 : Hid (Nodes w6 (some ⟨w3.heap.size, 0, none⟩) l) := HN5.out.below hb6
    have HB6 : Hid (Below w1.heap.size w1 w6) := HB5.out.trans (hb6.mono HB5.out.size)
    clear hw6 hb6
    go_wp2_with fail
    refine (eqNodeS _ _ _ l _ _ HN6.out HW6.out.nodes).mono ?_
    rintro e w7 ⟨rfl, hb7⟩
    have HB7 : Hid (Below w1.heap.size w1 w7) := HB6.out.trans (hb7.mono HB6.out.size)
    clear hb7
    go_wp2
    go_ret
    exact ⟨rfl, HB7.out⟩
  · go_enter Tryz.func8, Tryz.ntmps8
    go_wp2_with fail
    refine (szNodeS _ a l.length c _ (by omega) (by omega) hm).mono ?_
    rw [if_neg (by omega)]
    rintro e w1 ⟨rfl, rfl⟩
    go_wp2
    go_ret
    exact ⟨rfl, Below.refl _ _⟩

end Go.Proofs.YtdmogjhabladcaaGreat.Lx10
