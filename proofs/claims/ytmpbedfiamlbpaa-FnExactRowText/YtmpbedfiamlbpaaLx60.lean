/- The exact law of RowText. Written by tools/mkzx.py. -/
import Derived.Test.YtmpbedfiamlbpaaZa0
import Derived.Test.YtmpbedfiamlbpaaDq0
namespace Go.Proofs.Ytmpbedfiamlbpaa.Lx60
open Go.RowKit
open Nd0 Nd6 Ap1 Dq0 Za0
open Ss0 (bs)
set_option linter.unusedVariables false

set_option maxRecDepth 100000 in
set_option maxHeartbeats 8000000 in
theorem exRowText (w : World) (a0 : Option Addr) (l0 : List Bool) (c0 : Nat) (hN0 : Bools w a0 l0) :
    Calls Try.prog 3 #[.slice a0 l0.length c0] w fun e w' => e = .returned (.bool true) ∧ Below w.heap.size w w' := by
  have HN0 : Hid (Bools w a0 l0) := hN0
  have hm0 := hN0.1
  clear hN0
  by_cases hl0 : l0.length ≤ 1048576
  rotate_left
  · have hlz0 : (1048576 : Int) < (l0.length : Int) := by omega
    go_enter Try.func3, Try.ntmps3
    go_wp2
    go_ret
    exact ⟨rfl, Below.refl _ _⟩
  have hlz0 : ¬ (1048576 : Int) < (l0.length : Int) := by omega
  obtain ⟨T, hT⟩ : ∃ T, T = bs (rowT l0) := ⟨_, rfl⟩
  have HSP : Hid (∀ (W : World) (a : Option Addr) (c : Nat), Bools W a l0 → Calls Try.prog 5 #[.slice a l0.length c] W fun e w' => e = .returned (.string T) ∧ Below W.heap.size W w') := fun W a c h => by rw [hT]; exact sRowText W a l0 c h hl0
  have HIM : Hid (∀ (W : World) (a : Option Addr) (c : Nat), Bools W a l0 → Calls Try.prog 7 #[.slice a l0.length c] W fun e w' => e = .returned (.string T) ∧ Below W.heap.size W w') := fun W a c h => by rw [hT]; exact iRowText W a l0 c h hl0
  clear hT
  obtain ⟨x0, hx0⟩ : ∃ x, x = w := ⟨_, rfl⟩
  have HB0 : Hid (Below w.heap.size w x0) := by rw [hx0]; exact Below.refl _ _
  go_enter Try.func3, Try.ntmps3
  rw [← hx0]
  have HX0 : Hid (x0 = w) := hx0
  clear hx0
  go_wp2_with fail
  refine (toBoolS _ a0 l0 c0 (HN0.out.below HB0.out) hl0).mono ?_
  rintro e x1 ⟨rfl, hw, hb⟩
  have HB1 : Hid (Below w.heap.size w x1) := HB0.out.trans (hb.mono HB0.out.size)
  have hz1 : x0.heap.size ≤ x1.heap.size := hb.size
  have Rt1 : Hid (BoolsIn x1 x0.heap.size x1.heap.size (some ⟨x0.heap.size, 0, none⟩) l0) := WBools.within hw
  clear hb hw
  go_wp2_with fail
  refine (HSP.out _ _ _ Rt1.out.plain).mono ?_
  rintro e x2 ⟨rfl, hb⟩
  have HB2 : Hid (Below w.heap.size w x2) := HB1.out.trans (hb.mono HB1.out.size)
  have hz2 : x1.heap.size ≤ x2.heap.size := hb.size
  have Rt2 : Hid (BoolsIn x2 x0.heap.size x1.heap.size (some ⟨x0.heap.size, 0, none⟩) l0) := Rt1.out.below hb
  clear hb Rt1
  go_wp2_with fail
  refine (toBoolS _ a0 l0 c0 (HN0.out.below HB2.out) hl0).mono ?_
  rintro e x3 ⟨rfl, hw, hb⟩
  have HB3 : Hid (Below w.heap.size w x3) := HB2.out.trans (hb.mono HB2.out.size)
  have hz3 : x2.heap.size ≤ x3.heap.size := hb.size
  have Rx3 : Hid (BoolsIn x3 x2.heap.size x3.heap.size (some ⟨x2.heap.size, 0, none⟩) l0) := WBools.within hw
  clear hb hw
  go_wp2_with fail
  refine (HIM.out _ _ _ Rx3.out.plain).mono ?_
  rintro e x4 ⟨rfl, hb⟩
  have HB4 : Hid (Below w.heap.size w x4) := HB3.out.trans (hb.mono HB3.out.size)
  have hz4 : x3.heap.size ≤ x4.heap.size := hb.size
  have Rx4 : Hid (BoolsIn x4 x2.heap.size x3.heap.size (some ⟨x2.heap.size, 0, none⟩) l0) := Rx3.out.below hb
  clear hb Rx3
  have hTT : (T.toList == T.toList) = true := by simp
  go_wp2_with fail
  refine (toBoolS _ a0 l0 c0 (HN0.out.below HB4.out) hl0).mono ?_
  rintro e x5 ⟨rfl, hw, hb⟩
  have HB5 : Hid (Below w.heap.size w x5) := HB4.out.trans (hb.mono HB4.out.size)
  have hz5 : x4.heap.size ≤ x5.heap.size := hb.size
  have Rx5 : Hid (BoolsIn x5 x2.heap.size x3.heap.size (some ⟨x2.heap.size, 0, none⟩) l0) := Rx4.out.below hb
  have Ry5 : Hid (BoolsIn x5 x4.heap.size x5.heap.size (some ⟨x4.heap.size, 0, none⟩) l0) := WBools.within hw
  clear hb hw Rx4
  go_wp2_with fail
  refine (eqBoolS _ _ _ l0 _ _ Rx5.out.plain Ry5.out.plain).mono ?_
  rintro e x6 ⟨rfl, hb⟩
  have HB6 : Hid (Below w.heap.size w x6) := HB5.out.trans (hb.mono HB5.out.size)
  have hz6 : x5.heap.size ≤ x6.heap.size := hb.size
  have Rx6 : Hid (BoolsIn x6 x2.heap.size x3.heap.size (some ⟨x2.heap.size, 0, none⟩) l0) := Rx5.out.below hb
  have Ry6 : Hid (BoolsIn x6 x4.heap.size x5.heap.size (some ⟨x4.heap.size, 0, none⟩) l0) := Ry5.out.below hb
  clear hb Rx5 Ry5
  go_wp2
  go_ret
  exact ⟨rfl, by rw [HX0.out]; exact HB6.out⟩
end Go.Proofs.Ytmpbedfiamlbpaa.Lx60
