/- The exact law of GraphOf. Written by tools/mkgx.py. -/
import Derived.Deep.RegionHeld3
import Derived.Deep.CutBlock
import Derived.Deep.CutRange
import Derived.Test.YtnpfegfjejfaaaaGx0
import Derived.Test.YtnpfegfjejfaaaaPkGa
import Derived.Test.YtnpfegfjejfaaaaTc3
namespace Go.Proofs.Ytnpfegfjejfaaaa.Lg7
open Go.RowKit
open Nd0 Qb0 Qb1 Gr0 Gx0
open Ta1 Tc2 Gr3
open Gs11 (sGraphOf sGraphOf0)
open Gp12 (iGraphOf iGraphOf0)
open Gp5 (GrPost)
open Tc3 (eqTable toTable szTable)
open Ss0 (bs bs_size)
open Ss1 (tl bs_tl)
set_option linter.unusedVariables false

theorem tok_str {N : Int} {S : ByteArray} (h : tokB N (tl S) = true) : ∃ (n : Nat) (F : Nat → Bool), n ≤ 12 ∧ N = (n : Int) ∧ S = bs (tab n F) := by
  obtain ⟨n, F, h1, h2, h3⟩ := tok_tab h
  exact ⟨n, F, h1, h2, by rw [← bs_tl S, h3]⟩
theorem bGraphOf (N : Int) (S : ByteArray) (hS : S.size ≤ 1048576) : ∃ (ir : Int) (lr : List An) (xr : Int), lr.length ≤ 1048576 ∧ (∀ W, Calls Try.prog 40 #[tv N S] W (GrPost W ir (lr, xr))) ∧ ∀ W, Calls Try.prog 14 #[tv N S] W (GrPost W ir (lr, xr)) := by
  cases h : tokB N (tl S)
  · exact ⟨0, [], -1, Nat.zero_le _, fun W => sGraphOf0 W hS h, fun W => iGraphOf0 W hS h⟩
  · obtain ⟨n, F, hn, rfl, rfl⟩ := tok_str h
    exact ⟨(gOf n F).1, (gOf n F).2.1, (gOf n F).2.2, Nat.le_trans (gOf_len n F) (by omega), fun W => sGraphOf n F W hn, fun W => iGraphOf n F W hn⟩

set_option maxRecDepth 100000 in
set_option maxHeartbeats 8000000 in
theorem exGraphOf (N : Int) (S : ByteArray) (w : World) (hS : S.size ≤ maxLen) :
    Calls Try.prog 9 #[tv N S] w fun e w' => e = .returned (.bool true) ∧ Below w.heap.size w w' := by
  by_cases hl0 : S.size ≤ 1048576
  rotate_left
  · have hlz : (-1 : Int) < 0 := by omega
    have HB0 : Hid (Below w.heap.size w (w.alloc (.cells #[.int .i64 N, .string S] 56))) := (Below.refl _ _).alloc (Nat.le_refl _) _
    go_enter Try.func9, Try.ntmps9
    go_wp2_with fail
    refine (szTable N S _ _ (by omega) (by omega) hS).mono ?_
    rw [if_neg (by omega)]
    rintro e y1 ⟨rfl, hb⟩
    have HC1 : Hid (Below w.heap.size w y1) := HB0.out.trans (hb.mono HB0.out.size)
    clear hb
    go_wp2
    go_ret
    exact ⟨rfl, HC1.out⟩
  obtain ⟨ir, lr, xr, hRL, hsp, him⟩ := bGraphOf N S hl0
  have HSP : Hid _ := hsp
  have HIM : Hid _ := him
  clear hsp him
  have hne : (xr != xr) = false := by simp
  go_enter Try.func9, Try.ntmps9
  go_upto_region 2 with fail
  obtain ⟨x0, hx0⟩ : ∃ x0, x0 = w.alloc (.cells #[.int .i64 N, .string S] 56) := ⟨_, rfl⟩
  have HB0 : Hid (Below w.heap.size w x0) := by rw [hx0]; exact (Below.refl _ _).alloc (Nat.le_refl _) _
  have HbA_0 : Hid (Lay x0 w.heap.size (.int .i64 N) (.string S)) := by rw [hx0]; exact Lay.made _ _ _ _
  have hs0 : w.heap.size < x0.heap.size := by rw [hx0]; simp
  rw [← hx0]
  clear hx0
  have vA0 := HbA_0.out.c0
  have vA1 := HbA_0.out.c1
  go_wp2_with fail
  clear vA0 vA1
  refine (szTable N S _ _ (by omega) (by omega) hS).mono ?_
  rintro e x1 ⟨rfl, hb⟩
  have HB1 : Hid (Below w.heap.size w x1) := HB0.out.trans (hb.mono HB0.out.size)
  have hs1 : x0.heap.size ≤ x1.heap.size := hb.size
  have HbA_1 : Hid (Lay x1 w.heap.size (.int .i64 N) (.string S)) := HbA_0.out.below hb
  clear hb
  rw [if_pos (by omega : ((S.size : Nat) : Int) ≤ 1048576)]
  have hp0 : ¬ (1048576 : Int) - (S.size : Int) < 0 := by omega
  have vA0 := HbA_1.out.c0
  have vA1 := HbA_1.out.c1
  go_wp2_with fail
  clear vA0 vA1
  refine (toTable N S _).mono ?_
  rintro e x2 ⟨rfl, hb⟩
  have HB2 : Hid (Below w.heap.size w x2) := HB1.out.trans (hb.mono HB1.out.size)
  have hs2 : x1.heap.size ≤ x2.heap.size := hb.size
  have HbA_2 : Hid (Lay x2 w.heap.size (.int .i64 N) (.string S)) := HbA_1.out.below hb
  clear hb
  go_wp2_with fail
  refine (HSP.out _).mono ?_
  rintro e x3 ⟨wa, wc, rfl, hw, hb⟩
  have HB3 : Hid (Below w.heap.size w x3) := HB2.out.trans (hb.mono HB2.out.size)
  have hs3 : x2.heap.size ≤ x3.heap.size := hb.size
  have HbA_3 : Hid (Lay x3 w.heap.size (.int .i64 N) (.string S)) := HbA_2.out.below hb
  simp only at hw ⊢
  have HsW_3 : Hid (AnsIn x3 x2.heap.size x3.heap.size wa lr) := WAns.within hw
  clear hw hb
  go_upto_region 6 with fail
  obtain ⟨x4, hx⟩ : ∃ x, x = x3.alloc (.cells #[.int .i64 ir, .slice wa lr.length wc] 29) := ⟨_, rfl⟩
  have hsz4 : x3.heap.size < x4.heap.size := by rw [hx]; simp
  have HB4 : Hid (Below w.heap.size w x4) := by rw [hx]; exact HB3.out.alloc HB3.out.size _
  have hs4 : x3.heap.size ≤ x4.heap.size := Nat.le_of_lt hsz4
  have HsW_4 : Hid (AnsIn x4 x2.heap.size x3.heap.size wa lr) := by rw [hx]; exact HsW_3.out.below ((Below.refl _ _).alloc (Nat.le_refl _) _)
  have HbA_4 : Hid (Lay x4 w.heap.size (.int .i64 N) (.string S)) := by rw [hx]; exact HbA_3.out.alloc _
  have HbW_4 : Hid (Lay x4 x3.heap.size (.int .i64 ir) (.slice wa lr.length wc)) := by rw [hx]; exact Lay.made _ _ _ _
  rw [← hx]
  clear hx
  have vA0 := HbA_4.out.c0
  have vA1 := HbA_4.out.c1
  go_wp2_with fail
  clear vA0 vA1
  refine (toTable N S _).mono ?_
  rintro e x5 ⟨rfl, hb⟩
  have HB5 : Hid (Below w.heap.size w x5) := HB4.out.trans (hb.mono HB4.out.size)
  have hs5 : x4.heap.size ≤ x5.heap.size := hb.size
  have HsW_5 : Hid (AnsIn x5 x2.heap.size x3.heap.size wa lr) := HsW_4.out.below hb
  have HbA_5 : Hid (Lay x5 w.heap.size (.int .i64 N) (.string S)) := HbA_4.out.below hb
  have HbW_5 : Hid (Lay x5 x3.heap.size (.int .i64 ir) (.slice wa lr.length wc)) := HbW_4.out.below hb
  clear hb
  go_wp2_with fail
  refine (HIM.out _).mono ?_
  rintro e x6 ⟨ga, gc, rfl, hw, hb⟩
  have HB6 : Hid (Below w.heap.size w x6) := HB5.out.trans (hb.mono HB5.out.size)
  have hs6 : x5.heap.size ≤ x6.heap.size := hb.size
  have HsW_6 : Hid (AnsIn x6 x2.heap.size x3.heap.size wa lr) := HsW_5.out.below hb
  have HbA_6 : Hid (Lay x6 w.heap.size (.int .i64 N) (.string S)) := HbA_5.out.below hb
  have HbW_6 : Hid (Lay x6 x3.heap.size (.int .i64 ir) (.slice wa lr.length wc)) := HbW_5.out.below hb
  simp only at hw ⊢
  have HsG_6 : Hid (AnsIn x6 x5.heap.size x6.heap.size ga lr) := WAns.within hw
  clear hw hb
  go_upto_region 7 with fail
  obtain ⟨x7, hx⟩ : ∃ x, x = x6.alloc (.cells #[.int .i64 ir, .slice ga lr.length gc] 29) := ⟨_, rfl⟩
  have hsz7 : x6.heap.size < x7.heap.size := by rw [hx]; simp
  have HB7 : Hid (Below w.heap.size w x7) := by rw [hx]; exact HB6.out.alloc HB6.out.size _
  have hs7 : x6.heap.size ≤ x7.heap.size := Nat.le_of_lt hsz7
  have HsW_7 : Hid (AnsIn x7 x2.heap.size x3.heap.size wa lr) := by rw [hx]; exact HsW_6.out.below ((Below.refl _ _).alloc (Nat.le_refl _) _)
  have HsG_7 : Hid (AnsIn x7 x5.heap.size x6.heap.size ga lr) := by rw [hx]; exact HsG_6.out.below ((Below.refl _ _).alloc (Nat.le_refl _) _)
  have HbA_7 : Hid (Lay x7 w.heap.size (.int .i64 N) (.string S)) := by rw [hx]; exact HbA_6.out.alloc _
  have HbW_7 : Hid (Lay x7 x3.heap.size (.int .i64 ir) (.slice wa lr.length wc)) := by rw [hx]; exact HbW_6.out.alloc _
  have HbG_7 : Hid (Lay x7 x6.heap.size (.int .i64 ir) (.slice ga lr.length gc)) := by rw [hx]; exact Lay.made _ _ _ _
  rw [← hx]
  clear hx
  have vG0 := HbG_7.out.c0
  have vG1 := HbG_7.out.c1
  have vW0 := HbW_7.out.c0
  have vW1 := HbW_7.out.c1
  go_wp2_with fail
  clear vG0 vG1 vW0 vW1
  refine (eqGraph _ (ir) _ _ (lr) _ _ HsG_7.out.plain HsW_7.out.plain).mono ?_
  rintro e x8 ⟨rfl, hb⟩
  have HB8 : Hid (Below w.heap.size w x8) := HB7.out.trans (hb.mono HB7.out.size)
  have hs8 : x7.heap.size ≤ x8.heap.size := hb.size
  have HsW_8 : Hid (AnsIn x8 x2.heap.size x3.heap.size wa lr) := HsW_7.out.below hb
  have HsG_8 : Hid (AnsIn x8 x5.heap.size x6.heap.size ga lr) := HsG_7.out.below hb
  have HbA_8 : Hid (Lay x8 w.heap.size (.int .i64 N) (.string S)) := HbA_7.out.below hb
  have HbW_8 : Hid (Lay x8 x3.heap.size (.int .i64 ir) (.slice wa lr.length wc)) := HbW_7.out.below hb
  have HbG_8 : Hid (Lay x8 x6.heap.size (.int .i64 ir) (.slice ga lr.length gc)) := HbG_7.out.below hb
  clear hb
  have vG0 := HbG_8.out.c0
  have vG1 := HbG_8.out.c1
  go_wp2_with fail
  clear vG0 vG1
  refine (markGraph _ (ir) _ _ lr _ HsG_8.out.wr hRL).mono ?_
  rintro e x9 ⟨rfl, hw, hk⟩
  have HB9 : Hid (Below w.heap.size w x9) := HB8.out.trans (hk.below (fun b hb => by have := HsG_8.out.ats hb; omega) HB8.out.size)
  have hs9 : x8.heap.size ≤ x9.heap.size := hk.size
  have HsW_9 : Hid (AnsIn x9 x2.heap.size x3.heap.size wa lr) := HsW_8.out.kept hk (fun b h1 h2 h3 => by have := HsG_8.out.ats h3; omega)
  have HbA_9 : Hid (Lay x9 w.heap.size (.int .i64 N) (.string S)) := HbA_8.out.kept hk (fun h3 => by have := HsG_8.out.ats h3; omega)
  have HbW_9 : Hid (Lay x9 x3.heap.size (.int .i64 ir) (.slice wa lr.length wc)) := HbW_8.out.kept hk (fun h3 => by have := HsG_8.out.ats h3; omega)
  have HbG_9 : Hid (Lay x9 x6.heap.size (.int .i64 ir) (.slice ga lr.length gc)) := HbG_8.out.kept hk (fun h3 => by have := HsG_8.out.ats h3; omega)
  have HsG_9 : Hid (AnsIn x9 x5.heap.size x6.heap.size ga (markAn lr.length 1)) := HsG_8.out.again hw (markAn_length _ _)
  clear hw hk
  have vG0 := HbG_9.out.c0
  have vG1 := HbG_9.out.c1
  go_wp2_with fail
  clear vG0 vG1
  refine (heldGraph _ (ir) _ lr.length _ HsG_9.out.plain hRL).mono ?_
  rintro e x10 ⟨rfl, hb⟩
  have HB10 : Hid (Below w.heap.size w x10) := HB9.out.trans (hb.mono HB9.out.size)
  have hs10 : x9.heap.size ≤ x10.heap.size := hb.size
  have HsW_10 : Hid (AnsIn x10 x2.heap.size x3.heap.size wa lr) := HsW_9.out.below hb
  have HsG_10 : Hid (AnsIn x10 x5.heap.size x6.heap.size ga (markAn lr.length 1)) := HsG_9.out.below hb
  have HbA_10 : Hid (Lay x10 w.heap.size (.int .i64 N) (.string S)) := HbA_9.out.below hb
  have HbW_10 : Hid (Lay x10 x3.heap.size (.int .i64 ir) (.slice wa lr.length wc)) := HbW_9.out.below hb
  have HbG_10 : Hid (Lay x10 x6.heap.size (.int .i64 ir) (.slice ga lr.length gc)) := HbG_9.out.below hb
  clear hb
  have hk2 : ¬ (1 : Int) + 2 * (lr.length : Int) < 0 := by omega
  have hk3 : ((1 : Int) + 2 * (lr.length : Int) != (1 : Int) + 2 * (lr.length : Int)) = false := by simp
  have vA0 := HbA_10.out.c0
  have vA1 := HbA_10.out.c1
  go_wp2_with fail
  clear vA0 vA1
  refine (toTable N S _).mono ?_
  rintro e x11 ⟨rfl, hb⟩
  have HB11 : Hid (Below w.heap.size w x11) := HB10.out.trans (hb.mono HB10.out.size)
  have hs11 : x10.heap.size ≤ x11.heap.size := hb.size
  have HsW_11 : Hid (AnsIn x11 x2.heap.size x3.heap.size wa lr) := HsW_10.out.below hb
  have HsG_11 : Hid (AnsIn x11 x5.heap.size x6.heap.size ga (markAn lr.length 1)) := HsG_10.out.below hb
  have HbA_11 : Hid (Lay x11 w.heap.size (.int .i64 N) (.string S)) := HbA_10.out.below hb
  have HbW_11 : Hid (Lay x11 x3.heap.size (.int .i64 ir) (.slice wa lr.length wc)) := HbW_10.out.below hb
  have HbG_11 : Hid (Lay x11 x6.heap.size (.int .i64 ir) (.slice ga lr.length gc)) := HbG_10.out.below hb
  clear hb
  go_wp2_with fail
  refine (HIM.out _).mono ?_
  rintro e x12 ⟨ha, hc, rfl, hw, hb⟩
  have HB12 : Hid (Below w.heap.size w x12) := HB11.out.trans (hb.mono HB11.out.size)
  have hs12 : x11.heap.size ≤ x12.heap.size := hb.size
  have HsW_12 : Hid (AnsIn x12 x2.heap.size x3.heap.size wa lr) := HsW_11.out.below hb
  have HsG_12 : Hid (AnsIn x12 x5.heap.size x6.heap.size ga (markAn lr.length 1)) := HsG_11.out.below hb
  have HbA_12 : Hid (Lay x12 w.heap.size (.int .i64 N) (.string S)) := HbA_11.out.below hb
  have HbW_12 : Hid (Lay x12 x3.heap.size (.int .i64 ir) (.slice wa lr.length wc)) := HbW_11.out.below hb
  have HbG_12 : Hid (Lay x12 x6.heap.size (.int .i64 ir) (.slice ga lr.length gc)) := HbG_11.out.below hb
  simp only at hw ⊢
  have HsH_12 : Hid (AnsIn x12 x11.heap.size x12.heap.size ha lr) := WAns.within hw
  clear hw hb
  go_upto_region 18 with fail
  obtain ⟨x13, hx⟩ : ∃ x, x = x12.alloc (.cells #[.int .i64 ir, .slice ha lr.length hc] 29) := ⟨_, rfl⟩
  have hsz13 : x12.heap.size < x13.heap.size := by rw [hx]; simp
  have HB13 : Hid (Below w.heap.size w x13) := by rw [hx]; exact HB12.out.alloc HB12.out.size _
  have hs13 : x12.heap.size ≤ x13.heap.size := Nat.le_of_lt hsz13
  have HsW_13 : Hid (AnsIn x13 x2.heap.size x3.heap.size wa lr) := by rw [hx]; exact HsW_12.out.below ((Below.refl _ _).alloc (Nat.le_refl _) _)
  have HsG_13 : Hid (AnsIn x13 x5.heap.size x6.heap.size ga (markAn lr.length 1)) := by rw [hx]; exact HsG_12.out.below ((Below.refl _ _).alloc (Nat.le_refl _) _)
  have HsH_13 : Hid (AnsIn x13 x11.heap.size x12.heap.size ha lr) := by rw [hx]; exact HsH_12.out.below ((Below.refl _ _).alloc (Nat.le_refl _) _)
  have HbA_13 : Hid (Lay x13 w.heap.size (.int .i64 N) (.string S)) := by rw [hx]; exact HbA_12.out.alloc _
  have HbW_13 : Hid (Lay x13 x3.heap.size (.int .i64 ir) (.slice wa lr.length wc)) := by rw [hx]; exact HbW_12.out.alloc _
  have HbG_13 : Hid (Lay x13 x6.heap.size (.int .i64 ir) (.slice ga lr.length gc)) := by rw [hx]; exact HbG_12.out.alloc _
  have HbH_13 : Hid (Lay x13 x12.heap.size (.int .i64 ir) (.slice ha lr.length hc)) := by rw [hx]; exact Lay.made _ _ _ _
  rw [← hx]
  clear hx
  have vH0 := HbH_13.out.c0
  have vH1 := HbH_13.out.c1
  have vW0 := HbW_13.out.c0
  have vW1 := HbW_13.out.c1
  go_wp2_with fail
  clear vH0 vH1 vW0 vW1
  refine (eqGraph _ (ir) _ _ (lr) _ _ HsH_13.out.plain HsW_13.out.plain).mono ?_
  rintro e x14 ⟨rfl, hb⟩
  have HB14 : Hid (Below w.heap.size w x14) := HB13.out.trans (hb.mono HB13.out.size)
  have hs14 : x13.heap.size ≤ x14.heap.size := hb.size
  have HsW_14 : Hid (AnsIn x14 x2.heap.size x3.heap.size wa lr) := HsW_13.out.below hb
  have HsG_14 : Hid (AnsIn x14 x5.heap.size x6.heap.size ga (markAn lr.length 1)) := HsG_13.out.below hb
  have HsH_14 : Hid (AnsIn x14 x11.heap.size x12.heap.size ha lr) := HsH_13.out.below hb
  have HbA_14 : Hid (Lay x14 w.heap.size (.int .i64 N) (.string S)) := HbA_13.out.below hb
  have HbW_14 : Hid (Lay x14 x3.heap.size (.int .i64 ir) (.slice wa lr.length wc)) := HbW_13.out.below hb
  have HbG_14 : Hid (Lay x14 x6.heap.size (.int .i64 ir) (.slice ga lr.length gc)) := HbG_13.out.below hb
  have HbH_14 : Hid (Lay x14 x12.heap.size (.int .i64 ir) (.slice ha lr.length hc)) := HbH_13.out.below hb
  clear hb
  have vG0 := HbG_14.out.c0
  have vG1 := HbG_14.out.c1
  go_wp2_with fail
  clear vG0 vG1
  refine (heldGraph _ (ir) _ lr.length _ HsG_14.out.plain hRL).mono ?_
  rintro e x15 ⟨rfl, hb⟩
  have HB15 : Hid (Below w.heap.size w x15) := HB14.out.trans (hb.mono HB14.out.size)
  have hs15 : x14.heap.size ≤ x15.heap.size := hb.size
  have HsW_15 : Hid (AnsIn x15 x2.heap.size x3.heap.size wa lr) := HsW_14.out.below hb
  have HsG_15 : Hid (AnsIn x15 x5.heap.size x6.heap.size ga (markAn lr.length 1)) := HsG_14.out.below hb
  have HsH_15 : Hid (AnsIn x15 x11.heap.size x12.heap.size ha lr) := HsH_14.out.below hb
  have HbA_15 : Hid (Lay x15 w.heap.size (.int .i64 N) (.string S)) := HbA_14.out.below hb
  have HbW_15 : Hid (Lay x15 x3.heap.size (.int .i64 ir) (.slice wa lr.length wc)) := HbW_14.out.below hb
  have HbG_15 : Hid (Lay x15 x6.heap.size (.int .i64 ir) (.slice ga lr.length gc)) := HbG_14.out.below hb
  have HbH_15 : Hid (Lay x15 x12.heap.size (.int .i64 ir) (.slice ha lr.length hc)) := HbH_14.out.below hb
  clear hb
  go_wp2
  go_ret
  exact ⟨rfl, HB15.out⟩


end Go.Proofs.Ytnpfegfjejfaaaa.Lg7
