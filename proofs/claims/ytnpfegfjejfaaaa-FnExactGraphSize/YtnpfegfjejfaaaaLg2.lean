/- The exact law of GraphSize. Written by tools/mkgx.py. -/
import Derived.Deep.RegionHeld3
import Derived.Deep.CutBlock
import Derived.Deep.CutRange
import Derived.Test.YtnpfegfjejfaaaaGx0
import Derived.Test.YtnpfegfjejfaaaaGs2
import Derived.Test.YtnpfegfjejfaaaaGp6
namespace Go.Proofs.Ytnpfegfjejfaaaa.Lg2
open Go.RowKit
open Nd0 Qb0 Qb1 Gr0 Gx0
open Gr2 (sizeG)
open Gs2 (sGraphSize)
open Gp6 (iGraphSize)
set_option linter.unusedVariables false

set_option maxRecDepth 100000 in
set_option maxHeartbeats 8000000 in
theorem exGraphSize (w : World) (ins : Int) (a0 : Option Addr) (l0 : List An) (c0 : Nat) (a1 : Int) (hN0 : Ans w a0 l0) (hR : Rg l0) :
    Calls Try.prog 11 #[.agg #[.int .i64 ins, .slice a0 l0.length c0], .int .i64 a1] w fun e w' => e = .returned (.bool true) ∧ Below w.heap.size w w' := by
  have HN0 : Hid (Ans w a0 l0) := hN0
  have hm0 := hN0.1
  clear hN0
  by_cases hl0 : l0.length ≤ 1048576
  rotate_left
  · go_enter Try.func11, Try.ntmps11
    go_wp2_with fail
    have hb0 : Below w.heap.size w (w.alloc (.cells #[.int .i64 ins, .slice a0 l0.length c0] 44)) := (Below.refl _ _).alloc (Nat.le_refl _) _
    refine (szGraph _ ins a0 l0.length c0 hm0).mono ?_
    rw [if_neg (by omega)]
    rintro e x1 ⟨rfl, hb⟩
    have HB1 : Hid (Below w.heap.size w x1) := hb0.trans (hb.mono hb0.size)
    clear hb hb0
    go_wp2
    go_ret
    exact ⟨rfl, HB1.out⟩
  have hne : (sizeG ins l0 a1 != sizeG ins l0 a1) = false := by simp
  go_enter Try.func11, Try.ntmps11
  go_upto_region 2 with fail
  obtain ⟨x0, hx0⟩ : ∃ x0, x0 = w.alloc (.cells #[.int .i64 ins, .slice a0 l0.length c0] 44) := ⟨_, rfl⟩
  have HB0 : Hid (Below w.heap.size w x0) := by rw [hx0]; exact (Below.refl _ _).alloc (Nat.le_refl _) _
  have HbA_0 : Hid (Lay x0 w.heap.size (.int .i64 ins) (.slice a0 l0.length c0)) := by rw [hx0]; exact Lay.made _ _ _ _
  have hs0 : w.heap.size < x0.heap.size := by rw [hx0]; simp
  rw [← hx0]
  clear hx0
  have vA0 := HbA_0.out.c0
  have vA1 := HbA_0.out.c1
  go_wp2_with fail
  clear vA0 vA1
  refine (szGraph _ ins a0 l0.length c0 hm0).mono ?_
  rintro e x1 ⟨rfl, hb⟩
  have HB1 : Hid (Below w.heap.size w x1) := HB0.out.trans (hb.mono HB0.out.size)
  have hs1 : x0.heap.size ≤ x1.heap.size := hb.size
  have HbA_1 : Hid (Lay x1 w.heap.size (.int .i64 ins) (.slice a0 l0.length c0)) := HbA_0.out.below hb
  clear hb
  rw [if_pos (by omega : ((l0.length : Nat) : Int) ≤ 1048576)]
  have hp0 : ¬ 1048576 - (l0.length : Int) < 0 := by omega
  have vA0 := HbA_1.out.c0
  have vA1 := HbA_1.out.c1
  go_wp2_with fail
  clear vA0 vA1
  refine (toGraph _ ins a0 l0 c0 (HN0.out.below HB1.out) hl0).mono ?_
  rintro e x2 ⟨rfl, hw, hb⟩
  have HB2 : Hid (Below w.heap.size w x2) := HB1.out.trans (hb.mono HB1.out.size)
  have hs2 : x1.heap.size ≤ x2.heap.size := hb.size
  have HbA_2 : Hid (Lay x2 w.heap.size (.int .i64 ins) (.slice a0 l0.length c0)) := HbA_1.out.below hb
  have Hss_2 : Hid (AnsIn x2 x1.heap.size x2.heap.size (some ⟨x1.heap.size + 3, 0, none⟩) l0) := WAns.within hw
  clear hw hb
  skip
  go_wp2_with fail
  refine (sGraphSize _ ins _ _ l0 Hss_2.out.plain hR a1).mono ?_
  rintro e x3 ⟨rfl, hb⟩
  have HB3 : Hid (Below w.heap.size w x3) := HB2.out.trans (hb.mono HB2.out.size)
  have hs3 : x2.heap.size ≤ x3.heap.size := hb.size
  have Hss_3 : Hid (AnsIn x3 x1.heap.size x2.heap.size (some ⟨x1.heap.size + 3, 0, none⟩) l0) := Hss_2.out.below hb
  have HbA_3 : Hid (Lay x3 w.heap.size (.int .i64 ins) (.slice a0 l0.length c0)) := HbA_2.out.below hb
  clear hb
  have vA0 := HbA_3.out.c0
  have vA1 := HbA_3.out.c1
  go_wp2_with fail
  clear vA0 vA1
  refine (toGraph _ ins a0 l0 c0 (HN0.out.below HB3.out) hl0).mono ?_
  rintro e x4 ⟨rfl, hw, hb⟩
  have HB4 : Hid (Below w.heap.size w x4) := HB3.out.trans (hb.mono HB3.out.size)
  have hs4 : x3.heap.size ≤ x4.heap.size := hb.size
  have HbA_4 : Hid (Lay x4 w.heap.size (.int .i64 ins) (.slice a0 l0.length c0)) := HbA_3.out.below hb
  have Hsx_4 : Hid (AnsIn x4 x3.heap.size x4.heap.size (some ⟨x3.heap.size + 3, 0, none⟩) l0) := WAns.within hw
  clear hw hb
  go_upto_region 7 with fail
  obtain ⟨x5, hx⟩ : ∃ x, x = x4.alloc (.cells #[.int .i64 ins, .slice (some ⟨x3.heap.size + 3, 0, none⟩) l0.length l0.length] 29) := ⟨_, rfl⟩
  have hsz5 : x4.heap.size < x5.heap.size := by rw [hx]; simp
  have HB5 : Hid (Below w.heap.size w x5) := by rw [hx]; exact HB4.out.alloc HB4.out.size _
  have hs5 : x4.heap.size ≤ x5.heap.size := Nat.le_of_lt hsz5
  have Hsx_5 : Hid (AnsIn x5 x3.heap.size x4.heap.size (some ⟨x3.heap.size + 3, 0, none⟩) l0) := by rw [hx]; exact Hsx_4.out.below ((Below.refl _ _).alloc (Nat.le_refl _) _)
  have HbA_5 : Hid (Lay x5 w.heap.size (.int .i64 ins) (.slice a0 l0.length c0)) := by rw [hx]; exact HbA_4.out.alloc _
  have HbX_5 : Hid (Lay x5 x4.heap.size (.int .i64 ins) (.slice (some ⟨x3.heap.size + 3, 0, none⟩) l0.length l0.length)) := by rw [hx]; exact Lay.made _ _ _ _
  rw [← hx]
  clear hx
  have vX0 := HbX_5.out.c0
  have vX1 := HbX_5.out.c1
  go_wp2_with fail
  clear vX0 vX1
  refine (iGraphSize _ ins _ _ l0 Hsx_5.out.plain a1).mono ?_
  rintro e x6 ⟨rfl, hb⟩
  have HB6 : Hid (Below w.heap.size w x6) := HB5.out.trans (hb.mono HB5.out.size)
  have hs6 : x5.heap.size ≤ x6.heap.size := hb.size
  have Hsx_6 : Hid (AnsIn x6 x3.heap.size x4.heap.size (some ⟨x3.heap.size + 3, 0, none⟩) l0) := Hsx_5.out.below hb
  have HbA_6 : Hid (Lay x6 w.heap.size (.int .i64 ins) (.slice a0 l0.length c0)) := HbA_5.out.below hb
  have HbX_6 : Hid (Lay x6 x4.heap.size (.int .i64 ins) (.slice (some ⟨x3.heap.size + 3, 0, none⟩) l0.length l0.length)) := HbX_5.out.below hb
  clear hb
  have vX0 := HbX_6.out.c0
  have vX1 := HbX_6.out.c1
  have vA0 := HbA_6.out.c0
  have vA1 := HbA_6.out.c1
  go_wp2_with fail
  clear vX0 vX1 vA0 vA1
  have HBD : Hid (Below w.heap.size w x6.drew) := HB6.out.drew
  have LX := HbX_6.out.drew
  have LA := HbA_6.out.drew
  have SX0 : Hid (AnsIn x6.drew x3.heap.size x4.heap.size (some ⟨x3.heap.size + 3, 0, none⟩) l0) := Hsx_6.out.kept (S := fun _ => False) (Kept.refl _ _).drew (fun _ _ _ e => e)
  go_region_held3 (fun w' => w'.cell? ⟨x4.heap.size, 0, none⟩ = some (.int .i64 ins) ∧ w'.cell? ⟨x4.heap.size, 1, none⟩ = some (.slice (some ⟨x3.heap.size + 3, 0, none⟩) l0.length l0.length) ∧ w'.cell? ⟨w.heap.size, 0, none⟩ = some (.int .i64 ins) ∧ w'.cell? ⟨w.heap.size, 1, none⟩ = some (.slice a0 l0.length c0)) ((first | exact ⟨LX.c0, LX.c1, LA.c0, LA.c1⟩ | exact ⟨KX.c0, KX.c1, KA.c0, KA.c1⟩ | exact ⟨EX.c0, EX.c1, EA.c0, EA.c1⟩)) ((first | (go_at_call 26; refine (toGraph _ ins a0 l0 c0 (HN0.out.below HBD.out) hl0).mono ?_; rintro e xT ⟨rfl, hwT, hbT⟩; have KX := LX.below hbT; have KA := LA.below hbT; have SX : Hid (AnsIn xT x3.heap.size x4.heap.size (some ⟨x3.heap.size + 3, 0, none⟩) l0) := SX0.out.below hbT; have hWT : Hid (WAns xT x6.drew.heap.size (some ⟨x6.drew.heap.size + 3, 0, none⟩) l0) := hwT; have HBT : Hid (Below x6.drew.heap.size x6.drew xT) := hbT; clear hwT hbT) | (go_at_call 27; refine (eqGraph _ ins _ _ l0 _ _ SX.out.plain hWT.out.plain).mono ?_; rintro e xE ⟨rfl, hbE⟩; have EX := KX.below hbE; have EA := KA.below hbE; have HBE : Hid (Below xT.heap.size xT xE) := hbE; clear hbE)))
  have hb : Below x6.heap.size x6 xE := ((Below.refl _ x6).drew.trans (HBT.out.mono (Nat.le_refl _))).trans (HBE.out.mono HBT.out.size)
  clear KX KA SX hWT EX EA LX LA HBD SX0 HBT HBE
  generalize xE = x7 at hb ⊢
  have HB7 : Hid (Below w.heap.size w x7) := HB6.out.trans (hb.mono HB6.out.size)
  have hs7 : x6.heap.size ≤ x7.heap.size := hb.size
  have Hsx_7 : Hid (AnsIn x7 x3.heap.size x4.heap.size (some ⟨x3.heap.size + 3, 0, none⟩) l0) := Hsx_6.out.below hb
  have HbA_7 : Hid (Lay x7 w.heap.size (.int .i64 ins) (.slice a0 l0.length c0)) := HbA_6.out.below hb
  have HbX_7 : Hid (Lay x7 x4.heap.size (.int .i64 ins) (.slice (some ⟨x3.heap.size + 3, 0, none⟩) l0.length l0.length)) := HbX_6.out.below hb
  clear hb
  go_wp2
  go_ret
  exact ⟨rfl, HB7.out⟩


end Go.Proofs.Ytnpfegfjejfaaaa.Lg2
