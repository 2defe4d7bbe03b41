/- The exact law of GraphValue. Written by tools/mkgx.py. -/
import Derived.Deep.RegionHeld3
import Derived.Deep.CutBlock
import Derived.Deep.CutRange
import Derived.Test.YtnpfegfjejfaaaaGx0
import Derived.Test.YtnpfegfjejfaaaaGs7
import Derived.Test.YtnpfegfjejfaaaaGp8
import Derived.Test.YtnpfegfjejfaaaaNd6
namespace Go.Proofs.Ytnpfegfjejfaaaa.Lg5
open Go.RowKit
open Nd0 Qb0 Qb1 Gr0 Gx0
open Gv0 (valG)
open Gs7 (sGraphValue)
open Gp8 (iGraphValue)
open Nd6 (toIntS eqIntB)
set_option linter.unusedVariables false

set_option maxRecDepth 100000 in
set_option maxHeartbeats 8000000 in
theorem exGraphValue (w : World) (ins : Int) (a0 : Option Addr) (l0 : List An) (c0 : Nat) (a1 : Option Addr) (l1 : List Int) (c1 : Nat) (a2 : Int) (hN1 : Ints w a1 l1) (hN0 : Ans w a0 l0) (hR : Rg l0) :
    Calls Try.prog 8 #[.agg #[.int .i64 ins, .slice a0 l0.length c0], .slice a1 l1.length c1, .int .i64 a2] w fun e w' => e = .returned (.bool true) ∧ Below w.heap.size w w' := by
  have HN0 : Hid (Ans w a0 l0) := hN0
  have hm0 := hN0.1
  clear hN0
  have HN1 : Hid (Ints w a1 l1) := hN1
  have hm1 := hN1.1
  unfold maxLen at hm1
  clear hN1
  by_cases hl1 : l1.length ≤ 1048576
  rotate_left
  · have hlz : (1048576 : Int) < (l1.length : Int) := by omega
    go_enter Try.func8, Try.ntmps8
    go_wp2
    go_ret
    exact ⟨rfl, (Below.refl _ _).alloc (Nat.le_refl _) _⟩
  have hlz : ¬ (1048576 : Int) < (l1.length : Int) := by omega
  by_cases hl0 : l0.length ≤ 1048576
  rotate_left
  · go_enter Try.func8, Try.ntmps8
    go_wp2_with fail
    have hb0 : Below w.heap.size w (w.alloc (.cells #[.int .i64 ins, .slice a0 l0.length c0] 44)) := (Below.refl _ _).alloc (Nat.le_refl _) _
    refine (szGraph _ ins a0 l0.length c0 hm0).mono ?_
    rw [if_neg (by omega)]
    rintro e x1 ⟨rfl, hb⟩
    have HB1 : Hid (Below w.heap.size w x1) := hb0.trans (hb.mono hb0.size)
    clear hb hb0
    go_wp2
    go_ret
    exact ⟨rfl, HB1.out⟩
  have hne : (valG ins l0 l1 a2 != valG ins l0 l1 a2) = false := by simp
  go_enter Try.func8, Try.ntmps8
  go_upto_region 1 with fail
  obtain ⟨x0, hx0⟩ : ∃ x0, x0 = w.alloc (.cells #[.int .i64 ins, .slice a0 l0.length c0] 44) := ⟨_, rfl⟩
  have HB0 : Hid (Below w.heap.size w x0) := by rw [hx0]; exact (Below.refl _ _).alloc (Nat.le_refl _) _
  have HbA_0 : Hid (Lay x0 w.heap.size (.int .i64 ins) (.slice a0 l0.length c0)) := by rw [hx0]; exact Lay.made _ _ _ _
  have hs0 : w.heap.size < x0.heap.size := by rw [hx0]; simp
  rw [← hx0]
  clear hx0
  have vA0 := HbA_0.out.c0
  have vA1 := HbA_0.out.c1
  go_wp2_with fail
  clear vA0 vA1
  refine (szGraph _ ins a0 l0.length c0 hm0).mono ?_
  rintro e x1 ⟨rfl, hb⟩
  have HB1 : Hid (Below w.heap.size w x1) := HB0.out.trans (hb.mono HB0.out.size)
  have hs1 : x0.heap.size ≤ x1.heap.size := hb.size
  have HbA_1 : Hid (Lay x1 w.heap.size (.int .i64 ins) (.slice a0 l0.length c0)) := HbA_0.out.below hb
  clear hb
  rw [if_pos (by omega : ((l0.length : Nat) : Int) ≤ 1048576)]
  have hp0 : ¬ 1048576 - (l0.length : Int) < 0 := by omega
  have vA0 := HbA_1.out.c0
  have vA1 := HbA_1.out.c1
  go_wp2_with fail
  clear vA0 vA1
  refine (toGraph _ ins a0 l0 c0 (HN0.out.below HB1.out) hl0).mono ?_
  rintro e x2 ⟨rfl, hw, hb⟩
  have HB2 : Hid (Below w.heap.size w x2) := HB1.out.trans (hb.mono HB1.out.size)
  have hs2 : x1.heap.size ≤ x2.heap.size := hb.size
  have HbA_2 : Hid (Lay x2 w.heap.size (.int .i64 ins) (.slice a0 l0.length c0)) := HbA_1.out.below hb
  have Hss_2 : Hid (AnsIn x2 x1.heap.size x2.heap.size (some ⟨x1.heap.size + 3, 0, none⟩) l0) := WAns.within hw
  clear hw hb
  go_wp2_with fail
  refine (toIntS _ a1 l1 c1 (HN1.out.below HB2.out) hl1).mono ?_
  rintro e x3 ⟨rfl, hw, hb⟩
  have HB3 : Hid (Below w.heap.size w x3) := HB2.out.trans (hb.mono HB2.out.size)
  have hs3 : x2.heap.size ≤ x3.heap.size := hb.size
  have Hss_3 : Hid (AnsIn x3 x1.heap.size x2.heap.size (some ⟨x1.heap.size + 3, 0, none⟩) l0) := Hss_2.out.below hb
  have HbA_3 : Hid (Lay x3 w.heap.size (.int .i64 ins) (.slice a0 l0.length c0)) := HbA_2.out.below hb
  have Hssi_3 : Hid (IntsIn x3 x2.heap.size x3.heap.size (some ⟨x2.heap.size, 0, none⟩) l1) := WInts.within hw
  clear hw hb
  go_wp2_with fail
  refine (sGraphValue _ ins _ _ l0 Hss_3.out.plain hR _ _ _ l1 Hssi_3.out.wints.ints hl1 a2).mono ?_
  rintro e x4 ⟨rfl, hb⟩
  have HB4 : Hid (Below w.heap.size w x4) := HB3.out.trans (hb.mono HB3.out.size)
  have hs4 : x3.heap.size ≤ x4.heap.size := hb.size
  have Hss_4 : Hid (AnsIn x4 x1.heap.size x2.heap.size (some ⟨x1.heap.size + 3, 0, none⟩) l0) := Hss_3.out.below hb
  have Hssi_4 : Hid (IntsIn x4 x2.heap.size x3.heap.size (some ⟨x2.heap.size, 0, none⟩) l1) := Hssi_3.out.below hb
  have HbA_4 : Hid (Lay x4 w.heap.size (.int .i64 ins) (.slice a0 l0.length c0)) := HbA_3.out.below hb
  clear hb
  have vA0 := HbA_4.out.c0
  have vA1 := HbA_4.out.c1
  go_wp2_with fail
  clear vA0 vA1
  refine (toGraph _ ins a0 l0 c0 (HN0.out.below HB4.out) hl0).mono ?_
  rintro e x5 ⟨rfl, hw, hb⟩
  have HB5 : Hid (Below w.heap.size w x5) := HB4.out.trans (hb.mono HB4.out.size)
  have hs5 : x4.heap.size ≤ x5.heap.size := hb.size
  have HbA_5 : Hid (Lay x5 w.heap.size (.int .i64 ins) (.slice a0 l0.length c0)) := HbA_4.out.below hb
  have Hsx_5 : Hid (AnsIn x5 x4.heap.size x5.heap.size (some ⟨x4.heap.size + 3, 0, none⟩) l0) := WAns.within hw
  clear hw hb
  go_upto_region 9 with fail
  obtain ⟨x6, hx⟩ : ∃ x, x = x5.alloc (.cells #[.int .i64 ins, .slice (some ⟨x4.heap.size + 3, 0, none⟩) l0.length l0.length] 29) := ⟨_, rfl⟩
  have hsz6 : x5.heap.size < x6.heap.size := by rw [hx]; simp
  have HB6 : Hid (Below w.heap.size w x6) := by rw [hx]; exact HB5.out.alloc HB5.out.size _
  have hs6 : x5.heap.size ≤ x6.heap.size := Nat.le_of_lt hsz6
  have Hsx_6 : Hid (AnsIn x6 x4.heap.size x5.heap.size (some ⟨x4.heap.size + 3, 0, none⟩) l0) := by rw [hx]; exact Hsx_5.out.below ((Below.refl _ _).alloc (Nat.le_refl _) _)
  have HbA_6 : Hid (Lay x6 w.heap.size (.int .i64 ins) (.slice a0 l0.length c0)) := by rw [hx]; exact HbA_5.out.alloc _
  have HbX_6 : Hid (Lay x6 x5.heap.size (.int .i64 ins) (.slice (some ⟨x4.heap.size + 3, 0, none⟩) l0.length l0.length)) := by rw [hx]; exact Lay.made _ _ _ _
  rw [← hx]
  clear hx
  go_wp2_with fail
  refine (toIntS _ a1 l1 c1 (HN1.out.below HB6.out) hl1).mono ?_
  rintro e x7 ⟨rfl, hw, hb⟩
  have HB7 : Hid (Below w.heap.size w x7) := HB6.out.trans (hb.mono HB6.out.size)
  have hs7 : x6.heap.size ≤ x7.heap.size := hb.size
  have Hsx_7 : Hid (AnsIn x7 x4.heap.size x5.heap.size (some ⟨x4.heap.size + 3, 0, none⟩) l0) := Hsx_6.out.below hb
  have HbA_7 : Hid (Lay x7 w.heap.size (.int .i64 ins) (.slice a0 l0.length c0)) := HbA_6.out.below hb
  have HbX_7 : Hid (Lay x7 x5.heap.size (.int .i64 ins) (.slice (some ⟨x4.heap.size + 3, 0, none⟩) l0.length l0.length)) := HbX_6.out.below hb
  have Hsxi_7 : Hid (IntsIn x7 x6.heap.size x7.heap.size (some ⟨x6.heap.size, 0, none⟩) l1) := WInts.within hw
  clear hw hb
  have vX0 := HbX_7.out.c0
  have vX1 := HbX_7.out.c1
  go_wp2_with fail
  clear vX0 vX1
  refine (iGraphValue _ ins _ _ l0 Hsx_7.out.plain _ _ _ l1 Hsxi_7.out.wints.ints hl1 a2).mono ?_
  rintro e x8 ⟨rfl, hb⟩
  have HB8 : Hid (Below w.heap.size w x8) := HB7.out.trans (hb.mono HB7.out.size)
  have hs8 : x7.heap.size ≤ x8.heap.size := hb.size
  have Hsx_8 : Hid (AnsIn x8 x4.heap.size x5.heap.size (some ⟨x4.heap.size + 3, 0, none⟩) l0) := Hsx_7.out.below hb
  have Hsxi_8 : Hid (IntsIn x8 x6.heap.size x7.heap.size (some ⟨x6.heap.size, 0, none⟩) l1) := Hsxi_7.out.below hb
  have HbA_8 : Hid (Lay x8 w.heap.size (.int .i64 ins) (.slice a0 l0.length c0)) := HbA_7.out.below hb
  have HbX_8 : Hid (Lay x8 x5.heap.size (.int .i64 ins) (.slice (some ⟨x4.heap.size + 3, 0, none⟩) l0.length l0.length)) := HbX_7.out.below hb
  clear hb
  have vX0 := HbX_8.out.c0
  have vX1 := HbX_8.out.c1
  have vA0 := HbA_8.out.c0
  have vA1 := HbA_8.out.c1
  go_wp2_with fail
  clear vX0 vX1 vA0 vA1
  have HBD : Hid (Below w.heap.size w x8.drew) := HB8.out.drew
  have LX := HbX_8.out.drew
  have LA := HbA_8.out.drew
  have SX0 : Hid (AnsIn x8.drew x4.heap.size x5.heap.size (some ⟨x4.heap.size + 3, 0, none⟩) l0) := Hsx_8.out.kept (S := fun _ => False) (Kept.refl _ _).drew (fun _ _ _ e => e)
  go_region_held3 (fun w' => w'.cell? ⟨x5.heap.size, 0, none⟩ = some (.int .i64 ins) ∧ w'.cell? ⟨x5.heap.size, 1, none⟩ = some (.slice (some ⟨x4.heap.size + 3, 0, none⟩) l0.length l0.length) ∧ w'.cell? ⟨w.heap.size, 0, none⟩ = some (.int .i64 ins) ∧ w'.cell? ⟨w.heap.size, 1, none⟩ = some (.slice a0 l0.length c0)) ((first | exact ⟨LX.c0, LX.c1, LA.c0, LA.c1⟩ | exact ⟨KX.c0, KX.c1, KA.c0, KA.c1⟩ | exact ⟨EX.c0, EX.c1, EA.c0, EA.c1⟩)) ((first | (go_at_call 26; refine (toGraph _ ins a0 l0 c0 (HN0.out.below HBD.out) hl0).mono ?_; rintro e xT ⟨rfl, hwT, hbT⟩; have KX := LX.below hbT; have KA := LA.below hbT; have SX : Hid (AnsIn xT x4.heap.size x5.heap.size (some ⟨x4.heap.size + 3, 0, none⟩) l0) := SX0.out.below hbT; have hWT : Hid (WAns xT x8.drew.heap.size (some ⟨x8.drew.heap.size + 3, 0, none⟩) l0) := hwT; have HBT : Hid (Below x8.drew.heap.size x8.drew xT) := hbT; clear hwT hbT) | (go_at_call 27; refine (eqGraph _ ins _ _ l0 _ _ SX.out.plain hWT.out.plain).mono ?_; rintro e xE ⟨rfl, hbE⟩; have EX := KX.below hbE; have EA := KA.below hbE; have HBE : Hid (Below xT.heap.size xT xE) := hbE; clear hbE)))
  have hb : Below x8.heap.size x8 xE := ((Below.refl _ x8).drew.trans (HBT.out.mono (Nat.le_refl _))).trans (HBE.out.mono HBT.out.size)
  clear KX KA SX hWT EX EA LX LA HBD SX0 HBT HBE
  generalize xE = x9 at hb ⊢
  have HB9 : Hid (Below w.heap.size w x9) := HB8.out.trans (hb.mono HB8.out.size)
  have hs9 : x8.heap.size ≤ x9.heap.size := hb.size
  have Hsx_9 : Hid (AnsIn x9 x4.heap.size x5.heap.size (some ⟨x4.heap.size + 3, 0, none⟩) l0) := Hsx_8.out.below hb
  have Hsxi_9 : Hid (IntsIn x9 x6.heap.size x7.heap.size (some ⟨x6.heap.size, 0, none⟩) l1) := Hsxi_8.out.below hb
  have HbA_9 : Hid (Lay x9 w.heap.size (.int .i64 ins) (.slice a0 l0.length c0)) := HbA_8.out.below hb
  have HbX_9 : Hid (Lay x9 x5.heap.size (.int .i64 ins) (.slice (some ⟨x4.heap.size + 3, 0, none⟩) l0.length l0.length)) := HbX_8.out.below hb
  clear hb
  go_wp2_with fail
  refine (toIntS _ a1 l1 c1 (HN1.out.below HB9.out) hl1).mono ?_
  rintro e x10 ⟨rfl, hw, hb⟩
  have HB10 : Hid (Below w.heap.size w x10) := HB9.out.trans (hb.mono HB9.out.size)
  have hs10 : x9.heap.size ≤ x10.heap.size := hb.size
  have Hsxi_10 : Hid (IntsIn x10 x6.heap.size x7.heap.size (some ⟨x6.heap.size, 0, none⟩) l1) := Hsxi_9.out.below hb
  have HbA_10 : Hid (Lay x10 w.heap.size (.int .i64 ins) (.slice a0 l0.length c0)) := HbA_9.out.below hb
  have HbX_10 : Hid (Lay x10 x5.heap.size (.int .i64 ins) (.slice (some ⟨x4.heap.size + 3, 0, none⟩) l0.length l0.length)) := HbX_9.out.below hb
  have Hsyi_10 : Hid (IntsIn x10 x9.heap.size x10.heap.size (some ⟨x9.heap.size, 0, none⟩) l1) := WInts.within hw
  clear hw hb
  go_wp2_with fail
  refine (eqIntB _ _ _ l1 _ _ Hsxi_10.out.wints.ints Hsyi_10.out.wints.ints).mono ?_
  rintro e x11 ⟨rfl, hb⟩
  have HB11 : Hid (Below w.heap.size w x11) := HB10.out.trans (hb.mono HB10.out.size)
  have hs11 : x10.heap.size ≤ x11.heap.size := hb.size
  have Hsxi_11 : Hid (IntsIn x11 x6.heap.size x7.heap.size (some ⟨x6.heap.size, 0, none⟩) l1) := Hsxi_10.out.below hb
  have Hsyi_11 : Hid (IntsIn x11 x9.heap.size x10.heap.size (some ⟨x9.heap.size, 0, none⟩) l1) := Hsyi_10.out.below hb
  have HbA_11 : Hid (Lay x11 w.heap.size (.int .i64 ins) (.slice a0 l0.length c0)) := HbA_10.out.below hb
  have HbX_11 : Hid (Lay x11 x5.heap.size (.int .i64 ins) (.slice (some ⟨x4.heap.size + 3, 0, none⟩) l0.length l0.length)) := HbX_10.out.below hb
  clear hb
  go_wp2
  go_ret
  exact ⟨rfl, HB11.out⟩


end Go.Proofs.Ytnpfegfjejfaaaa.Lg5
