/- The exact law of ReadRow. Written by tools/mkzx.py. -/
import Derived.Test.YtmpbedfiamlbpaaZa1
namespace Go.Proofs.Ytmpbedfiamlbpaa.Lx61
open Go.RowKit
open Nd0 Nd6 Ap1 Za1
open Ss1 (tl)
set_option linter.unusedVariables false

set_option maxRecDepth 100000 in
set_option maxHeartbeats 8000000 in
theorem exReadRow (w : World) (S : ByteArray) (hS : S.size ≤ maxLen) :
    Calls Try.prog 4 #[.string S] w fun e w' => e = .returned (.bool true) ∧ Below w.heap.size w w' := by
  by_cases hs : (1048576 : Int) < (S.size : Int)
  · go_enter Try.func4, Try.ntmps4
    go_wp2
    go_ret
    exact ⟨rfl, Below.refl _ _⟩
  obtain ⟨l, hl⟩ : ∃ l, l = rrL (tl S) := ⟨_, rfl⟩
  obtain ⟨ok, hk⟩ : ∃ k, k = rrB (tl S) := ⟨_, rfl⟩
  have hll : l.length ≤ 1048576 := by have := rrL_le (tl S); rw [← hl] at this; omega
  have HSP : Hid (∀ (W : World), Calls Try.prog 9 #[.string S] W fun e w' => ∃ a c, e = .returned (.tuple #[.slice a l.length c, .bool ok]) ∧ WBools w' W.heap.size a l ∧ Below W.heap.size W w') := fun W => (sReadRow S W (by omega)).mono fun e w' h => by
    obtain ⟨v, h1, h2, h3⟩ := h
    obtain ⟨a, c, hv, h4⟩ := h2.form
    rw [hl, hk]
    exact ⟨a, c, by rw [h1, hv], h4, h3⟩
  have HIM : Hid (∀ (W : World), Calls Try.prog 10 #[.string S] W fun e w' => ∃ a c, e = .returned (.tuple #[.slice a l.length c, .bool ok]) ∧ WBools w' W.heap.size a l ∧ Below W.heap.size W w') := fun W => (iReadRow S W (by omega)).mono fun e w' h => by
    obtain ⟨v, h1, h2, h3⟩ := h
    obtain ⟨a, c, hv, h4⟩ := h2.form
    rw [hl, hk]
    exact ⟨a, c, by rw [h1, hv], h4, h3⟩
  clear hl hk
  have hok : (ok != ok) = false := by cases ok <;> rfl
  obtain ⟨x0, hx0⟩ : ∃ x, x = w := ⟨_, rfl⟩
  have HB0 : Hid (Below w.heap.size w x0) := by rw [hx0]; exact Below.refl _ _
  have hz0 : w.heap.size ≤ x0.heap.size := HB0.out.size
  go_enter Try.func4, Try.ntmps4
  rw [← hx0]
  have HX0 : Hid (x0 = w) := hx0
  clear hx0
  go_wp2_with fail
  refine (HSP.out _).mono ?_
  rintro e x1 ⟨wa, wc, rfl, hw, hb⟩
  have HB1 : Hid (Below w.heap.size w x1) := HB0.out.trans (hb.mono HB0.out.size)
  have hz1 : x0.heap.size ≤ x1.heap.size := hb.size
  have RW1 : Hid (BoolsIn x1 x0.heap.size x1.heap.size wa l) := WBools.within hw
  clear hb hw
  go_wp2_with fail
  refine (HIM.out _).mono ?_
  rintro e x2 ⟨ga, gc, rfl, hw, hb⟩
  have HB2 : Hid (Below w.heap.size w x2) := HB1.out.trans (hb.mono HB1.out.size)
  have hz2 : x1.heap.size ≤ x2.heap.size := hb.size
  have RW2 : Hid (BoolsIn x2 x0.heap.size x1.heap.size wa l) := RW1.out.below hb
  have RG2 : Hid (BoolsIn x2 x1.heap.size x2.heap.size ga l) := WBools.within hw
  clear hb hw RW1
  go_wp2_with fail
  refine (eqBoolS _ _ _ l _ _ RG2.out.plain RW2.out.plain).mono ?_
  rintro e x3 ⟨rfl, hb⟩
  have HB3 : Hid (Below w.heap.size w x3) := HB2.out.trans (hb.mono HB2.out.size)
  have hz3 : x2.heap.size ≤ x3.heap.size := hb.size
  have RW3 : Hid (BoolsIn x3 x0.heap.size x1.heap.size wa l) := RW2.out.below hb
  have RG3 : Hid (BoolsIn x3 x1.heap.size x2.heap.size ga l) := RG2.out.below hb
  clear hb RW2 RG2
  go_wp2_with fail
  refine (markBoolS _ _ _ l _ RG3.out.wr _ (by omega) (by omega) hll).mono ?_
  rintro e x4 ⟨rfl, hw, hk⟩
  have HB4 : Hid (Below w.heap.size w x4) := HB3.out.trans (hk.below (fun b hb => by have := RG3.out.ats hb; omega) HB3.out.size)
  have hz4 : x3.heap.size ≤ x4.heap.size := hk.size
  have RW4 : Hid (BoolsIn x4 x0.heap.size x1.heap.size wa l) := RW3.out.kept hk (fun b h1 h2 h3 => by have := RG3.out.ats h3; omega)
  have RG4 : Hid (BoolsIn x4 x1.heap.size x2.heap.size ga (markB l.length (1 : Int))) := RG3.out.again hw (markB_length _ _)
  clear hw hk
  go_wp2_with fail
  refine (heldBoolS _ _ l.length _ (1 : Int) RG4.out.plain (by omega) (by omega) hll).mono ?_
  rintro e wz ⟨rfl, hz⟩
  have hz' := hz.symm
  clear hz
  subst hz'
  have hq0 : ¬ ((1 : Int) + (l.length : Int)) < 0 := by omega
  have hp0 : ((1 : Int) + (l.length : Int) != 1 + (l.length : Int)) = false := by simp
  go_wp2_with fail
  refine (HIM.out _).mono ?_
  rintro e x5 ⟨ha, hc, rfl, hw, hb⟩
  have HB5 : Hid (Below w.heap.size w x5) := HB4.out.trans (hb.mono HB4.out.size)
  have hz5 : x4.heap.size ≤ x5.heap.size := hb.size
  have RW5 : Hid (BoolsIn x5 x0.heap.size x1.heap.size wa l) := RW4.out.below hb
  have RG5 : Hid (BoolsIn x5 x1.heap.size x2.heap.size ga (markB l.length (1 : Int))) := RG4.out.below hb
  have RH5 : Hid (BoolsIn x5 x4.heap.size x5.heap.size ha l) := WBools.within hw
  clear hb hw RW4 RG4
  go_wp2_with fail
  refine (eqBoolS _ _ _ l _ _ RH5.out.plain RW5.out.plain).mono ?_
  rintro e x6 ⟨rfl, hb⟩
  have HB6 : Hid (Below w.heap.size w x6) := HB5.out.trans (hb.mono HB5.out.size)
  have hz6 : x5.heap.size ≤ x6.heap.size := hb.size
  have RW6 : Hid (BoolsIn x6 x0.heap.size x1.heap.size wa l) := RW5.out.below hb
  have RG6 : Hid (BoolsIn x6 x1.heap.size x2.heap.size ga (markB l.length (1 : Int))) := RG5.out.below hb
  have RH6 : Hid (BoolsIn x6 x4.heap.size x5.heap.size ha l) := RH5.out.below hb
  clear hb RW5 RG5 RH5
  go_wp2_with fail
  refine (heldBoolS _ _ l.length _ (1 : Int) RG6.out.plain (by omega) (by omega) hll).mono ?_
  rintro e wz ⟨rfl, hz⟩
  have hz' := hz.symm
  clear hz
  subst hz'
  have hq1 : ¬ ((1 : Int) + (l.length : Int)) < 0 := by omega
  have hp1 : ((1 : Int) + (l.length : Int) != 1 + (l.length : Int)) = false := by simp
  go_wp2
  go_ret
  exact ⟨rfl, by rw [HX0.out]; exact HB6.out⟩
end Go.Proofs.Ytmpbedfiamlbpaa.Lx61
