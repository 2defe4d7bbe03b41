/- The exact law of GraphOr. Written by tools/mkgx.py. -/
import Derived.Deep.RegionHeld3
import Derived.Deep.CutBlock
import Derived.Deep.CutRange
import Derived.Test.YtnpfegfjejfaaaaGx0
import Derived.Test.YtnpfegfjejfaaaaGs5
import Derived.Test.YtnpfegfjejfaaaaGp5
namespace Go.Proofs.Ytnpfegfjejfaaaa.Lg4
open Go.RowKit
open Nd0 Qb0 Qb1 Gr0 Gx0
open Gr1
open Gs5 (sGraphOr)
open Gp5 (iGraphOr GrPost)
set_option linter.unusedVariables false

set_option maxRecDepth 100000 in
set_option maxHeartbeats 8000000 in
theorem exGraphOr (w : World) (ins : Int) (a0 : Option Addr) (l0 : List An) (c0 : Nat) (a1 a2 : Int) (v1 : -9223372036854775808 ≤ a1 ∧ a1 ≤ 9223372036854775807) (v2 : -9223372036854775808 ≤ a2 ∧ a2 ≤ 9223372036854775807) (hN0 : Ans w a0 l0) (hR : Rg l0) :
    Calls Try.prog 6 #[.agg #[.int .i64 ins, .slice a0 l0.length c0], .int .i64 a1, .int .i64 a2] w fun e w' => e = .returned (.bool true) ∧ Below w.heap.size w w' := by
  have HN0 : Hid (Ans w a0 l0) := hN0
  have hm0 := hN0.1
  clear hN0
  by_cases hl0 : l0.length ≤ 1048576
  rotate_left
  · go_enter Try.func6, Try.ntmps6
    go_wp2_with fail
    have hb0 : Below w.heap.size w (w.alloc (.cells #[.int .i64 ins, .slice a0 l0.length c0] 44)) := (Below.refl _ _).alloc (Nat.le_refl _) _
    refine (szGraph _ ins a0 l0.length c0 hm0).mono ?_
    rw [if_neg (by omega)]
    rintro e x1 ⟨rfl, hb⟩
    have HB1 : Hid (Below w.heap.size w x1) := hb0.trans (hb.mono hb0.size)
    clear hb hb0
    go_wp2
    go_ret
    exact ⟨rfl, HB1.out⟩
  have hRL : (gOr ins l0 a1 a2).1.length ≤ 1048576 := gOr_len hl0
  have HIM : Hid (∀ (W : World) (gx ox c : Nat), Ans W (some ⟨gx, ox, none⟩) l0 → Calls Try.prog 33 #[.agg #[.int .i64 ins, .slice (some ⟨gx, ox, none⟩) l0.length c], .int .i64 a1, .int .i64 a2] W (GrPost W ins (gOr ins l0 a1 a2))) := fun W gx ox c hA => iGraphOr W ins gx ox c l0 hA hl0 a1 a2 v1.1 v1.2 v2.1 v2.2
  have HSP : Hid (∀ (W : World) (gx ox c : Nat), Ans W (some ⟨gx, ox, none⟩) l0 → Calls Try.prog 32 #[.agg #[.int .i64 ins, .slice (some ⟨gx, ox, none⟩) l0.length c], .int .i64 a1, .int .i64 a2] W (GrPost W ins (gOr ins l0 a1 a2))) := fun W gx ox c hA => sGraphOr W ins gx ox c l0 hA hR hl0 a1 a2
  generalize gOr ins l0 a1 a2 = rr at HIM HSP hRL
  obtain ⟨lr, xr⟩ := rr
  simp only at hRL
  have hne : (xr != xr) = false := by simp
  clear v1 v2
  go_enter Try.func6, Try.ntmps6
  go_upto_region 2 with fail
  obtain ⟨x0, hx0⟩ : ∃ x0, x0 = w.alloc (.cells #[.int .i64 ins, .slice a0 l0.length c0] 44) := ⟨_, rfl⟩
  have HB0 : Hid (Below w.heap.size w x0) := by rw [hx0]; exact (Below.refl _ _).alloc (Nat.le_refl _) _
  have HbA_0 : Hid (Lay x0 w.heap.size (.int .i64 ins) (.slice a0 l0.length c0)) := by rw [hx0]; exact Lay.made _ _ _ _
  have hs0 : w.heap.size < x0.heap.size := by rw [hx0]; simp
  rw [← hx0]
  clear hx0
  have vA0 := HbA_0.out.c0
  have vA1 := HbA_0.out.c1
  go_wp2_with fail
  clear vA0 vA1
  refine (szGraph _ ins a0 l0.length c0 hm0).mono ?_
  rintro e x1 ⟨rfl, hb⟩
  have HB1 : Hid (Below w.heap.size w x1) := HB0.out.trans (hb.mono HB0.out.size)
  have hs1 : x0.heap.size ≤ x1.heap.size := hb.size
  have HbA_1 : Hid (Lay x1 w.heap.size (.int .i64 ins) (.slice a0 l0.length c0)) := HbA_0.out.below hb
  clear hb
  rw [if_pos (by omega : ((l0.length : Nat) : Int) ≤ 1048576)]
  have hp0 : ¬ 1048576 - (l0.length : Int) < 0 := by omega
  have vA0 := HbA_1.out.c0
  have vA1 := HbA_1.out.c1
  go_wp2_with fail
  clear vA0 vA1
  refine (toGraph _ ins a0 l0 c0 (HN0.out.below HB1.out) hl0).mono ?_
  rintro e x2 ⟨rfl, hw, hb⟩
  have HB2 : Hid (Below w.heap.size w x2) := HB1.out.trans (hb.mono HB1.out.size)
  have hs2 : x1.heap.size ≤ x2.heap.size := hb.size
  have HbA_2 : Hid (Lay x2 w.heap.size (.int .i64 ins) (.slice a0 l0.length c0)) := HbA_1.out.below hb
  have Hss_2 : Hid (AnsIn x2 x1.heap.size x2.heap.size (some ⟨x1.heap.size + 3, 0, none⟩) l0) := WAns.within hw
  clear hw hb
  go_wp2_with fail
  refine (HSP.out _ _ _ _ Hss_2.out.plain).mono ?_
  rintro e x3 ⟨wa, wc, rfl, hw, hb⟩
  have HB3 : Hid (Below w.heap.size w x3) := HB2.out.trans (hb.mono HB2.out.size)
  have hs3 : x2.heap.size ≤ x3.heap.size := hb.size
  have Hss_3 : Hid (AnsIn x3 x1.heap.size x2.heap.size (some ⟨x1.heap.size + 3, 0, none⟩) l0) := Hss_2.out.below hb
  have HbA_3 : Hid (Lay x3 w.heap.size (.int .i64 ins) (.slice a0 l0.length c0)) := HbA_2.out.below hb
  simp only at hw ⊢
  have HsW_3 : Hid (AnsIn x3 x2.heap.size x3.heap.size wa lr) := WAns.within hw
  clear hw hb
  go_upto_region 6 with fail
  obtain ⟨x4, hx⟩ : ∃ x, x = x3.alloc (.cells #[.int .i64 ins, .slice wa lr.length wc] 29) := ⟨_, rfl⟩
  have hsz4 : x3.heap.size < x4.heap.size := by rw [hx]; simp
  have HB4 : Hid (Below w.heap.size w x4) := by rw [hx]; exact HB3.out.alloc HB3.out.size _
  have hs4 : x3.heap.size ≤ x4.heap.size := Nat.le_of_lt hsz4
  have HsW_4 : Hid (AnsIn x4 x2.heap.size x3.heap.size wa lr) := by rw [hx]; exact HsW_3.out.below ((Below.refl _ _).alloc (Nat.le_refl _) _)
  have HbA_4 : Hid (Lay x4 w.heap.size (.int .i64 ins) (.slice a0 l0.length c0)) := by rw [hx]; exact HbA_3.out.alloc _
  have HbW_4 : Hid (Lay x4 x3.heap.size (.int .i64 ins) (.slice wa lr.length wc)) := by rw [hx]; exact Lay.made _ _ _ _
  rw [← hx]
  clear hx
  have vA0 := HbA_4.out.c0
  have vA1 := HbA_4.out.c1
  go_wp2_with fail
  clear vA0 vA1
  refine (toGraph _ ins a0 l0 c0 (HN0.out.below HB4.out) hl0).mono ?_
  rintro e x5 ⟨rfl, hw, hb⟩
  have HB5 : Hid (Below w.heap.size w x5) := HB4.out.trans (hb.mono HB4.out.size)
  have hs5 : x4.heap.size ≤ x5.heap.size := hb.size
  have HsW_5 : Hid (AnsIn x5 x2.heap.size x3.heap.size wa lr) := HsW_4.out.below hb
  have HbA_5 : Hid (Lay x5 w.heap.size (.int .i64 ins) (.slice a0 l0.length c0)) := HbA_4.out.below hb
  have HbW_5 : Hid (Lay x5 x3.heap.size (.int .i64 ins) (.slice wa lr.length wc)) := HbW_4.out.below hb
  have Hsx_5 : Hid (AnsIn x5 x4.heap.size x5.heap.size (some ⟨x4.heap.size + 3, 0, none⟩) l0) := WAns.within hw
  clear hw hb
  go_upto_region 7 with fail
  obtain ⟨x6, hx⟩ : ∃ x, x = x5.alloc (.cells #[.int .i64 ins, .slice (some ⟨x4.heap.size + 3, 0, none⟩) l0.length l0.length] 29) := ⟨_, rfl⟩
  have hsz6 : x5.heap.size < x6.heap.size := by rw [hx]; simp
  have HB6 : Hid (Below w.heap.size w x6) := by rw [hx]; exact HB5.out.alloc HB5.out.size _
  have hs6 : x5.heap.size ≤ x6.heap.size := Nat.le_of_lt hsz6
  have HsW_6 : Hid (AnsIn x6 x2.heap.size x3.heap.size wa lr) := by rw [hx]; exact HsW_5.out.below ((Below.refl _ _).alloc (Nat.le_refl _) _)
  have Hsx_6 : Hid (AnsIn x6 x4.heap.size x5.heap.size (some ⟨x4.heap.size + 3, 0, none⟩) l0) := by rw [hx]; exact Hsx_5.out.below ((Below.refl _ _).alloc (Nat.le_refl _) _)
  have HbA_6 : Hid (Lay x6 w.heap.size (.int .i64 ins) (.slice a0 l0.length c0)) := by rw [hx]; exact HbA_5.out.alloc _
  have HbW_6 : Hid (Lay x6 x3.heap.size (.int .i64 ins) (.slice wa lr.length wc)) := by rw [hx]; exact HbW_5.out.alloc _
  have HbX_6 : Hid (Lay x6 x5.heap.size (.int .i64 ins) (.slice (some ⟨x4.heap.size + 3, 0, none⟩) l0.length l0.length)) := by rw [hx]; exact Lay.made _ _ _ _
  rw [← hx]
  clear hx
  have vX0 := HbX_6.out.c0
  have vX1 := HbX_6.out.c1
  go_wp2_with fail
  clear vX0 vX1
  refine (HIM.out _ _ _ _ Hsx_6.out.plain).mono ?_
  rintro e x7 ⟨ga, gc, rfl, hw, hb⟩
  have HB7 : Hid (Below w.heap.size w x7) := HB6.out.trans (hb.mono HB6.out.size)
  have hs7 : x6.heap.size ≤ x7.heap.size := hb.size
  have HsW_7 : Hid (AnsIn x7 x2.heap.size x3.heap.size wa lr) := HsW_6.out.below hb
  have Hsx_7 : Hid (AnsIn x7 x4.heap.size x5.heap.size (some ⟨x4.heap.size + 3, 0, none⟩) l0) := Hsx_6.out.below hb
  have HbA_7 : Hid (Lay x7 w.heap.size (.int .i64 ins) (.slice a0 l0.length c0)) := HbA_6.out.below hb
  have HbW_7 : Hid (Lay x7 x3.heap.size (.int .i64 ins) (.slice wa lr.length wc)) := HbW_6.out.below hb
  have HbX_7 : Hid (Lay x7 x5.heap.size (.int .i64 ins) (.slice (some ⟨x4.heap.size + 3, 0, none⟩) l0.length l0.length)) := HbX_6.out.below hb
  simp only at hw ⊢
  have HsG_7 : Hid (AnsIn x7 x6.heap.size x7.heap.size ga lr) := WAns.within hw
  clear hw hb
  go_upto_region 8 with fail
  obtain ⟨x8, hx⟩ : ∃ x, x = x7.alloc (.cells #[.int .i64 ins, .slice ga lr.length gc] 29) := ⟨_, rfl⟩
  have hsz8 : x7.heap.size < x8.heap.size := by rw [hx]; simp
  have HB8 : Hid (Below w.heap.size w x8) := by rw [hx]; exact HB7.out.alloc HB7.out.size _
  have hs8 : x7.heap.size ≤ x8.heap.size := Nat.le_of_lt hsz8
  have HsW_8 : Hid (AnsIn x8 x2.heap.size x3.heap.size wa lr) := by rw [hx]; exact HsW_7.out.below ((Below.refl _ _).alloc (Nat.le_refl _) _)
  have Hsx_8 : Hid (AnsIn x8 x4.heap.size x5.heap.size (some ⟨x4.heap.size + 3, 0, none⟩) l0) := by rw [hx]; exact Hsx_7.out.below ((Below.refl _ _).alloc (Nat.le_refl _) _)
  have HsG_8 : Hid (AnsIn x8 x6.heap.size x7.heap.size ga lr) := by rw [hx]; exact HsG_7.out.below ((Below.refl _ _).alloc (Nat.le_refl _) _)
  have HbA_8 : Hid (Lay x8 w.heap.size (.int .i64 ins) (.slice a0 l0.length c0)) := by rw [hx]; exact HbA_7.out.alloc _
  have HbW_8 : Hid (Lay x8 x3.heap.size (.int .i64 ins) (.slice wa lr.length wc)) := by rw [hx]; exact HbW_7.out.alloc _
  have HbX_8 : Hid (Lay x8 x5.heap.size (.int .i64 ins) (.slice (some ⟨x4.heap.size + 3, 0, none⟩) l0.length l0.length)) := by rw [hx]; exact HbX_7.out.alloc _
  have HbG_8 : Hid (Lay x8 x7.heap.size (.int .i64 ins) (.slice ga lr.length gc)) := by rw [hx]; exact Lay.made _ _ _ _
  rw [← hx]
  clear hx
  have vG0 := HbG_8.out.c0
  have vG1 := HbG_8.out.c1
  have vW0 := HbW_8.out.c0
  have vW1 := HbW_8.out.c1
  go_wp2_with fail
  clear vG0 vG1 vW0 vW1
  refine (eqGraph _ (ins) _ _ (lr) _ _ HsG_8.out.plain HsW_8.out.plain).mono ?_
  rintro e x9 ⟨rfl, hb⟩
  have HB9 : Hid (Below w.heap.size w x9) := HB8.out.trans (hb.mono HB8.out.size)
  have hs9 : x8.heap.size ≤ x9.heap.size := hb.size
  have HsW_9 : Hid (AnsIn x9 x2.heap.size x3.heap.size wa lr) := HsW_8.out.below hb
  have Hsx_9 : Hid (AnsIn x9 x4.heap.size x5.heap.size (some ⟨x4.heap.size + 3, 0, none⟩) l0) := Hsx_8.out.below hb
  have HsG_9 : Hid (AnsIn x9 x6.heap.size x7.heap.size ga lr) := HsG_8.out.below hb
  have HbA_9 : Hid (Lay x9 w.heap.size (.int .i64 ins) (.slice a0 l0.length c0)) := HbA_8.out.below hb
  have HbW_9 : Hid (Lay x9 x3.heap.size (.int .i64 ins) (.slice wa lr.length wc)) := HbW_8.out.below hb
  have HbX_9 : Hid (Lay x9 x5.heap.size (.int .i64 ins) (.slice (some ⟨x4.heap.size + 3, 0, none⟩) l0.length l0.length)) := HbX_8.out.below hb
  have HbG_9 : Hid (Lay x9 x7.heap.size (.int .i64 ins) (.slice ga lr.length gc)) := HbG_8.out.below hb
  clear hb
  go_wp2_with fail
  have HBD : Hid (Below w.heap.size w x9.drew) := HB9.out.drew
  have LX := HbX_9.out.drew
  have LA := HbA_9.out.drew
  have SX0 : Hid (AnsIn x9.drew x4.heap.size x5.heap.size (some ⟨x4.heap.size + 3, 0, none⟩) l0) := Hsx_9.out.kept (S := fun _ => False) (Kept.refl _ _).drew (fun _ _ _ e => e)
  go_region_held3 (fun w' => w'.cell? ⟨x5.heap.size, 0, none⟩ = some (.int .i64 ins) ∧ w'.cell? ⟨x5.heap.size, 1, none⟩ = some (.slice (some ⟨x4.heap.size + 3, 0, none⟩) l0.length l0.length) ∧ w'.cell? ⟨w.heap.size, 0, none⟩ = some (.int .i64 ins) ∧ w'.cell? ⟨w.heap.size, 1, none⟩ = some (.slice a0 l0.length c0)) ((first | exact ⟨LX.c0, LX.c1, LA.c0, LA.c1⟩ | exact ⟨KX.c0, KX.c1, KA.c0, KA.c1⟩ | exact ⟨EX.c0, EX.c1, EA.c0, EA.c1⟩)) ((first | (go_at_call 26; refine (toGraph _ ins a0 l0 c0 (HN0.out.below HBD.out) hl0).mono ?_; rintro e xT ⟨rfl, hwT, hbT⟩; have KX := LX.below hbT; have KA := LA.below hbT; have SX : Hid (AnsIn xT x4.heap.size x5.heap.size (some ⟨x4.heap.size + 3, 0, none⟩) l0) := SX0.out.below hbT; have hWT : Hid (WAns xT x9.drew.heap.size (some ⟨x9.drew.heap.size + 3, 0, none⟩) l0) := hwT; have HBT : Hid (Below x9.drew.heap.size x9.drew xT) := hbT; clear hwT hbT) | (go_at_call 27; refine (eqGraph _ ins _ _ l0 _ _ SX.out.plain hWT.out.plain).mono ?_; rintro e xE ⟨rfl, hbE⟩; have EX := KX.below hbE; have EA := KA.below hbE; have HBE : Hid (Below xT.heap.size xT xE) := hbE; clear hbE)))
  have hb : Below x9.heap.size x9 xE := ((Below.refl _ x9).drew.trans (HBT.out.mono (Nat.le_refl _))).trans (HBE.out.mono HBT.out.size)
  clear KX KA SX hWT EX EA LX LA HBD SX0 HBT HBE
  generalize xE = x10 at hb ⊢
  have HB10 : Hid (Below w.heap.size w x10) := HB9.out.trans (hb.mono HB9.out.size)
  have hs10 : x9.heap.size ≤ x10.heap.size := hb.size
  have HsW_10 : Hid (AnsIn x10 x2.heap.size x3.heap.size wa lr) := HsW_9.out.below hb
  have Hsx_10 : Hid (AnsIn x10 x4.heap.size x5.heap.size (some ⟨x4.heap.size + 3, 0, none⟩) l0) := Hsx_9.out.below hb
  have HsG_10 : Hid (AnsIn x10 x6.heap.size x7.heap.size ga lr) := HsG_9.out.below hb
  have HbA_10 : Hid (Lay x10 w.heap.size (.int .i64 ins) (.slice a0 l0.length c0)) := HbA_9.out.below hb
  have HbW_10 : Hid (Lay x10 x3.heap.size (.int .i64 ins) (.slice wa lr.length wc)) := HbW_9.out.below hb
  have HbX_10 : Hid (Lay x10 x5.heap.size (.int .i64 ins) (.slice (some ⟨x4.heap.size + 3, 0, none⟩) l0.length l0.length)) := HbX_9.out.below hb
  have HbG_10 : Hid (Lay x10 x7.heap.size (.int .i64 ins) (.slice ga lr.length gc)) := HbG_9.out.below hb
  clear hb
  have vX0 := HbX_10.out.c0
  have vX1 := HbX_10.out.c1
  go_wp2_with fail
  clear vX0 vX1
  refine (markGraph _ (ins) _ _ l0 _ Hsx_10.out.wr hl0).mono ?_
  rintro e x11 ⟨rfl, hw, hk⟩
  have HB11 : Hid (Below w.heap.size w x11) := HB10.out.trans (hk.below (fun b hb => by have := Hsx_10.out.ats hb; omega) HB10.out.size)
  have hs11 : x10.heap.size ≤ x11.heap.size := hk.size
  have HsW_11 : Hid (AnsIn x11 x2.heap.size x3.heap.size wa lr) := HsW_10.out.kept hk (fun b h1 h2 h3 => by have := Hsx_10.out.ats h3; omega)
  have HsG_11 : Hid (AnsIn x11 x6.heap.size x7.heap.size ga lr) := HsG_10.out.kept hk (fun b h1 h2 h3 => by have := Hsx_10.out.ats h3; omega)
  have HbA_11 : Hid (Lay x11 w.heap.size (.int .i64 ins) (.slice a0 l0.length c0)) := HbA_10.out.kept hk (fun h3 => by have := Hsx_10.out.ats h3; omega)
  have HbW_11 : Hid (Lay x11 x3.heap.size (.int .i64 ins) (.slice wa lr.length wc)) := HbW_10.out.kept hk (fun h3 => by have := Hsx_10.out.ats h3; omega)
  have HbX_11 : Hid (Lay x11 x5.heap.size (.int .i64 ins) (.slice (some ⟨x4.heap.size + 3, 0, none⟩) l0.length l0.length)) := HbX_10.out.kept hk (fun h3 => by have := Hsx_10.out.ats h3; omega)
  have HbG_11 : Hid (Lay x11 x7.heap.size (.int .i64 ins) (.slice ga lr.length gc)) := HbG_10.out.kept hk (fun h3 => by have := Hsx_10.out.ats h3; omega)
  have Hsx_11 : Hid (AnsIn x11 x4.heap.size x5.heap.size (some ⟨x4.heap.size + 3, 0, none⟩) (markAn l0.length 1)) := Hsx_10.out.again hw (markAn_length _ _)
  clear hw hk
  have hk1 : ¬ (1 : Int) + 2 * (l0.length : Int) < 0 := by omega
  have vG0 := HbG_11.out.c0
  have vG1 := HbG_11.out.c1
  have vW0 := HbW_11.out.c0
  have vW1 := HbW_11.out.c1
  go_wp2_with fail
  clear vG0 vG1 vW0 vW1
  refine (eqGraph _ (ins) _ _ (lr) _ _ HsG_11.out.plain HsW_11.out.plain).mono ?_
  rintro e x12 ⟨rfl, hb⟩
  have HB12 : Hid (Below w.heap.size w x12) := HB11.out.trans (hb.mono HB11.out.size)
  have hs12 : x11.heap.size ≤ x12.heap.size := hb.size
  have HsW_12 : Hid (AnsIn x12 x2.heap.size x3.heap.size wa lr) := HsW_11.out.below hb
  have HsG_12 : Hid (AnsIn x12 x6.heap.size x7.heap.size ga lr) := HsG_11.out.below hb
  have HbA_12 : Hid (Lay x12 w.heap.size (.int .i64 ins) (.slice a0 l0.length c0)) := HbA_11.out.below hb
  have HbW_12 : Hid (Lay x12 x3.heap.size (.int .i64 ins) (.slice wa lr.length wc)) := HbW_11.out.below hb
  have HbX_12 : Hid (Lay x12 x5.heap.size (.int .i64 ins) (.slice (some ⟨x4.heap.size + 3, 0, none⟩) l0.length l0.length)) := HbX_11.out.below hb
  have HbG_12 : Hid (Lay x12 x7.heap.size (.int .i64 ins) (.slice ga lr.length gc)) := HbG_11.out.below hb
  clear hb
  have vG0 := HbG_12.out.c0
  have vG1 := HbG_12.out.c1
  go_wp2_with fail
  clear vG0 vG1
  refine (markGraph _ (ins) _ _ lr _ HsG_12.out.wr hRL).mono ?_
  rintro e x13 ⟨rfl, hw, hk⟩
  have HB13 : Hid (Below w.heap.size w x13) := HB12.out.trans (hk.below (fun b hb => by have := HsG_12.out.ats hb; omega) HB12.out.size)
  have hs13 : x12.heap.size ≤ x13.heap.size := hk.size
  have HsW_13 : Hid (AnsIn x13 x2.heap.size x3.heap.size wa lr) := HsW_12.out.kept hk (fun b h1 h2 h3 => by have := HsG_12.out.ats h3; omega)
  have HbA_13 : Hid (Lay x13 w.heap.size (.int .i64 ins) (.slice a0 l0.length c0)) := HbA_12.out.kept hk (fun h3 => by have := HsG_12.out.ats h3; omega)
  have HbW_13 : Hid (Lay x13 x3.heap.size (.int .i64 ins) (.slice wa lr.length wc)) := HbW_12.out.kept hk (fun h3 => by have := HsG_12.out.ats h3; omega)
  have HbX_13 : Hid (Lay x13 x5.heap.size (.int .i64 ins) (.slice (some ⟨x4.heap.size + 3, 0, none⟩) l0.length l0.length)) := HbX_12.out.kept hk (fun h3 => by have := HsG_12.out.ats h3; omega)
  have HbG_13 : Hid (Lay x13 x7.heap.size (.int .i64 ins) (.slice ga lr.length gc)) := HbG_12.out.kept hk (fun h3 => by have := HsG_12.out.ats h3; omega)
  have HsG_13 : Hid (AnsIn x13 x6.heap.size x7.heap.size ga (markAn lr.length 1)) := HsG_12.out.again hw (markAn_length _ _)
  clear hw hk
  have vG0 := HbG_13.out.c0
  have vG1 := HbG_13.out.c1
  go_wp2_with fail
  clear vG0 vG1
  refine (heldGraph _ (ins) _ lr.length _ HsG_13.out.plain hRL).mono ?_
  rintro e x14 ⟨rfl, hb⟩
  have HB14 : Hid (Below w.heap.size w x14) := HB13.out.trans (hb.mono HB13.out.size)
  have hs14 : x13.heap.size ≤ x14.heap.size := hb.size
  have HsW_14 : Hid (AnsIn x14 x2.heap.size x3.heap.size wa lr) := HsW_13.out.below hb
  have HsG_14 : Hid (AnsIn x14 x6.heap.size x7.heap.size ga (markAn lr.length 1)) := HsG_13.out.below hb
  have HbA_14 : Hid (Lay x14 w.heap.size (.int .i64 ins) (.slice a0 l0.length c0)) := HbA_13.out.below hb
  have HbW_14 : Hid (Lay x14 x3.heap.size (.int .i64 ins) (.slice wa lr.length wc)) := HbW_13.out.below hb
  have HbX_14 : Hid (Lay x14 x5.heap.size (.int .i64 ins) (.slice (some ⟨x4.heap.size + 3, 0, none⟩) l0.length l0.length)) := HbX_13.out.below hb
  have HbG_14 : Hid (Lay x14 x7.heap.size (.int .i64 ins) (.slice ga lr.length gc)) := HbG_13.out.below hb
  clear hb
  have hk2 : ¬ (1 : Int) + 2 * (lr.length : Int) < 0 := by omega
  have hk3 : ((1 : Int) + 2 * (lr.length : Int) != (1 : Int) + 2 * (lr.length : Int)) = false := by simp
  have vA0 := HbA_14.out.c0
  have vA1 := HbA_14.out.c1
  go_wp2_with fail
  clear vA0 vA1
  refine (toGraph _ ins a0 l0 c0 (HN0.out.below HB14.out) hl0).mono ?_
  rintro e x15 ⟨rfl, hw, hb⟩
  have HB15 : Hid (Below w.heap.size w x15) := HB14.out.trans (hb.mono HB14.out.size)
  have hs15 : x14.heap.size ≤ x15.heap.size := hb.size
  have HsW_15 : Hid (AnsIn x15 x2.heap.size x3.heap.size wa lr) := HsW_14.out.below hb
  have HsG_15 : Hid (AnsIn x15 x6.heap.size x7.heap.size ga (markAn lr.length 1)) := HsG_14.out.below hb
  have HbA_15 : Hid (Lay x15 w.heap.size (.int .i64 ins) (.slice a0 l0.length c0)) := HbA_14.out.below hb
  have HbW_15 : Hid (Lay x15 x3.heap.size (.int .i64 ins) (.slice wa lr.length wc)) := HbW_14.out.below hb
  have HbX_15 : Hid (Lay x15 x5.heap.size (.int .i64 ins) (.slice (some ⟨x4.heap.size + 3, 0, none⟩) l0.length l0.length)) := HbX_14.out.below hb
  have HbG_15 : Hid (Lay x15 x7.heap.size (.int .i64 ins) (.slice ga lr.length gc)) := HbG_14.out.below hb
  have Hsz_15 : Hid (AnsIn x15 x14.heap.size x15.heap.size (some ⟨x14.heap.size + 3, 0, none⟩) l0) := WAns.within hw
  clear hw hb
  go_wp2_with fail
  refine (HIM.out _ _ _ _ Hsz_15.out.plain).mono ?_
  rintro e x16 ⟨ha, hc, rfl, hw, hb⟩
  have HB16 : Hid (Below w.heap.size w x16) := HB15.out.trans (hb.mono HB15.out.size)
  have hs16 : x15.heap.size ≤ x16.heap.size := hb.size
  have HsW_16 : Hid (AnsIn x16 x2.heap.size x3.heap.size wa lr) := HsW_15.out.below hb
  have HsG_16 : Hid (AnsIn x16 x6.heap.size x7.heap.size ga (markAn lr.length 1)) := HsG_15.out.below hb
  have Hsz_16 : Hid (AnsIn x16 x14.heap.size x15.heap.size (some ⟨x14.heap.size + 3, 0, none⟩) l0) := Hsz_15.out.below hb
  have HbA_16 : Hid (Lay x16 w.heap.size (.int .i64 ins) (.slice a0 l0.length c0)) := HbA_15.out.below hb
  have HbW_16 : Hid (Lay x16 x3.heap.size (.int .i64 ins) (.slice wa lr.length wc)) := HbW_15.out.below hb
  have HbX_16 : Hid (Lay x16 x5.heap.size (.int .i64 ins) (.slice (some ⟨x4.heap.size + 3, 0, none⟩) l0.length l0.length)) := HbX_15.out.below hb
  have HbG_16 : Hid (Lay x16 x7.heap.size (.int .i64 ins) (.slice ga lr.length gc)) := HbG_15.out.below hb
  simp only at hw ⊢
  have HsH_16 : Hid (AnsIn x16 x15.heap.size x16.heap.size ha lr) := WAns.within hw
  clear hw hb
  go_upto_region 25 with fail
  obtain ⟨x17, hx⟩ : ∃ x, x = x16.alloc (.cells #[.int .i64 ins, .slice ha lr.length hc] 29) := ⟨_, rfl⟩
  have hsz17 : x16.heap.size < x17.heap.size := by rw [hx]; simp
  have HB17 : Hid (Below w.heap.size w x17) := by rw [hx]; exact HB16.out.alloc HB16.out.size _
  have hs17 : x16.heap.size ≤ x17.heap.size := Nat.le_of_lt hsz17
  have HsW_17 : Hid (AnsIn x17 x2.heap.size x3.heap.size wa lr) := by rw [hx]; exact HsW_16.out.below ((Below.refl _ _).alloc (Nat.le_refl _) _)
  have HsG_17 : Hid (AnsIn x17 x6.heap.size x7.heap.size ga (markAn lr.length 1)) := by rw [hx]; exact HsG_16.out.below ((Below.refl _ _).alloc (Nat.le_refl _) _)
  have HsH_17 : Hid (AnsIn x17 x15.heap.size x16.heap.size ha lr) := by rw [hx]; exact HsH_16.out.below ((Below.refl _ _).alloc (Nat.le_refl _) _)
  have HbA_17 : Hid (Lay x17 w.heap.size (.int .i64 ins) (.slice a0 l0.length c0)) := by rw [hx]; exact HbA_16.out.alloc _
  have HbW_17 : Hid (Lay x17 x3.heap.size (.int .i64 ins) (.slice wa lr.length wc)) := by rw [hx]; exact HbW_16.out.alloc _
  have HbX_17 : Hid (Lay x17 x5.heap.size (.int .i64 ins) (.slice (some ⟨x4.heap.size + 3, 0, none⟩) l0.length l0.length)) := by rw [hx]; exact HbX_16.out.alloc _
  have HbG_17 : Hid (Lay x17 x7.heap.size (.int .i64 ins) (.slice ga lr.length gc)) := by rw [hx]; exact HbG_16.out.alloc _
  have HbH_17 : Hid (Lay x17 x16.heap.size (.int .i64 ins) (.slice ha lr.length hc)) := by rw [hx]; exact Lay.made _ _ _ _
  rw [← hx]
  clear hx
  have vH0 := HbH_17.out.c0
  have vH1 := HbH_17.out.c1
  have vW0 := HbW_17.out.c0
  have vW1 := HbW_17.out.c1
  go_wp2_with fail
  clear vH0 vH1 vW0 vW1
  refine (eqGraph _ (ins) _ _ (lr) _ _ HsH_17.out.plain HsW_17.out.plain).mono ?_
  rintro e x18 ⟨rfl, hb⟩
  have HB18 : Hid (Below w.heap.size w x18) := HB17.out.trans (hb.mono HB17.out.size)
  have hs18 : x17.heap.size ≤ x18.heap.size := hb.size
  have HsW_18 : Hid (AnsIn x18 x2.heap.size x3.heap.size wa lr) := HsW_17.out.below hb
  have HsG_18 : Hid (AnsIn x18 x6.heap.size x7.heap.size ga (markAn lr.length 1)) := HsG_17.out.below hb
  have HsH_18 : Hid (AnsIn x18 x15.heap.size x16.heap.size ha lr) := HsH_17.out.below hb
  have HbA_18 : Hid (Lay x18 w.heap.size (.int .i64 ins) (.slice a0 l0.length c0)) := HbA_17.out.below hb
  have HbW_18 : Hid (Lay x18 x3.heap.size (.int .i64 ins) (.slice wa lr.length wc)) := HbW_17.out.below hb
  have HbX_18 : Hid (Lay x18 x5.heap.size (.int .i64 ins) (.slice (some ⟨x4.heap.size + 3, 0, none⟩) l0.length l0.length)) := HbX_17.out.below hb
  have HbG_18 : Hid (Lay x18 x7.heap.size (.int .i64 ins) (.slice ga lr.length gc)) := HbG_17.out.below hb
  have HbH_18 : Hid (Lay x18 x16.heap.size (.int .i64 ins) (.slice ha lr.length hc)) := HbH_17.out.below hb
  clear hb
  have vG0 := HbG_18.out.c0
  have vG1 := HbG_18.out.c1
  go_wp2_with fail
  clear vG0 vG1
  refine (heldGraph _ (ins) _ lr.length _ HsG_18.out.plain hRL).mono ?_
  rintro e x19 ⟨rfl, hb⟩
  have HB19 : Hid (Below w.heap.size w x19) := HB18.out.trans (hb.mono HB18.out.size)
  have hs19 : x18.heap.size ≤ x19.heap.size := hb.size
  have HsW_19 : Hid (AnsIn x19 x2.heap.size x3.heap.size wa lr) := HsW_18.out.below hb
  have HsG_19 : Hid (AnsIn x19 x6.heap.size x7.heap.size ga (markAn lr.length 1)) := HsG_18.out.below hb
  have HsH_19 : Hid (AnsIn x19 x15.heap.size x16.heap.size ha lr) := HsH_18.out.below hb
  have HbA_19 : Hid (Lay x19 w.heap.size (.int .i64 ins) (.slice a0 l0.length c0)) := HbA_18.out.below hb
  have HbW_19 : Hid (Lay x19 x3.heap.size (.int .i64 ins) (.slice wa lr.length wc)) := HbW_18.out.below hb
  have HbX_19 : Hid (Lay x19 x5.heap.size (.int .i64 ins) (.slice (some ⟨x4.heap.size + 3, 0, none⟩) l0.length l0.length)) := HbX_18.out.below hb
  have HbG_19 : Hid (Lay x19 x7.heap.size (.int .i64 ins) (.slice ga lr.length gc)) := HbG_18.out.below hb
  have HbH_19 : Hid (Lay x19 x16.heap.size (.int .i64 ins) (.slice ha lr.length hc)) := HbH_18.out.below hb
  clear hb
  go_wp2
  go_ret
  exact ⟨rfl, HB19.out⟩


end Go.Proofs.Ytnpfegfjejfaaaa.Lg4
