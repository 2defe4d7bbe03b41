/- The exact law of GraphTable. Written by tools/mkgx.py. -/
import Derived.Deep.RegionHeld3
import Derived.Deep.CutBlock
import Derived.Deep.CutRange
import Derived.Test.YtnpfegfjejfaaaaGx0
import Derived.Test.YtnpfegfjejfaaaaGs8
import Derived.Test.YtnpfegfjejfaaaaGp9
import Derived.Test.YtnpfegfjejfaaaaTc3
namespace Go.Proofs.Ytnpfegfjejfaaaa.Lg6
open Go.RowKit
open Nd0 Qb0 Qb1 Gr0 Gx0
open Gp9 (tgN tgS tgB iGraphTable)
open Gs8 (sGraphTable)
open Tc3 (eqTable)
set_option linter.unusedVariables false

set_option maxRecDepth 100000 in
set_option maxHeartbeats 8000000 in
theorem exGraphTable (w : World) (ins : Int) (a0 : Option Addr) (l0 : List An) (c0 : Nat) (a1 : Int) (hN0 : Ans w a0 l0) (hR : Rg l0) :
    Calls Try.prog 10 #[.agg #[.int .i64 ins, .slice a0 l0.length c0], .int .i64 a1] w fun e w' => e = .returned (.bool true) ∧ Below w.heap.size w w' := by
  have HN0 : Hid (Ans w a0 l0) := hN0
  have hm0 := hN0.1
  clear hN0
  by_cases hl0 : l0.length ≤ 1048576
  rotate_left
  · go_enter Try.func10, Try.ntmps10
    go_wp2_with fail
    have hb0 : Below w.heap.size w (w.alloc (.cells #[.int .i64 ins, .slice a0 l0.length c0] 44)) := (Below.refl _ _).alloc (Nat.le_refl _) _
    refine (szGraph _ ins a0 l0.length c0 hm0).mono ?_
    rw [if_neg (by omega)]
    rintro e x1 ⟨rfl, hb⟩
    have HB1 : Hid (Below w.heap.size w x1) := hb0.trans (hb.mono hb0.size)
    clear hb hb0
    go_wp2
    go_ret
    exact ⟨rfl, HB1.out⟩
  have HIM : Hid (∀ (W : World) (a : Option Addr) (c : Nat), Ans W a l0 → Calls Try.prog 16 #[.agg #[.int .i64 ins, .slice a l0.length c], .int .i64 a1] W fun e w' => e = .returned (.tuple #[.agg #[.int .i64 (tgN ins l0 a1), .string (tgS ins l0 a1)], .bool (tgB ins l0 a1)]) ∧ Below W.heap.size W w') := fun W a c hA => iGraphTable W ins a c l0 hA a1
  have HSP : Hid (∀ (W : World) (a : Option Addr) (c : Nat), Ans W a l0 → Calls Try.prog 42 #[.agg #[.int .i64 ins, .slice a l0.length c], .int .i64 a1] W fun e w' => e = .returned (.tuple #[.agg #[.int .i64 (tgN ins l0 a1), .string (tgS ins l0 a1)], .bool (tgB ins l0 a1)]) ∧ Below W.heap.size W w') := fun W a c hA => sGraphTable W ins a c l0 hA hR a1
  generalize tgN ins l0 a1 = TN at HIM HSP
  generalize tgS ins l0 a1 = TS at HIM HSP
  generalize tgB ins l0 a1 = TB at HIM HSP
  have hne : (TB != TB) = false := by cases TB <;> rfl
  go_enter Try.func10, Try.ntmps10
  go_upto_region 2 with fail
  obtain ⟨x0, hx0⟩ : ∃ x0, x0 = w.alloc (.cells #[.int .i64 ins, .slice a0 l0.length c0] 44) := ⟨_, rfl⟩
  have HB0 : Hid (Below w.heap.size w x0) := by rw [hx0]; exact (Below.refl _ _).alloc (Nat.le_refl _) _
  have HbA_0 : Hid (Lay x0 w.heap.size (.int .i64 ins) (.slice a0 l0.length c0)) := by rw [hx0]; exact Lay.made _ _ _ _
  have hs0 : w.heap.size < x0.heap.size := by rw [hx0]; simp
  rw [← hx0]
  clear hx0
  have vA0 := HbA_0.out.c0
  have vA1 := HbA_0.out.c1
  go_wp2_with fail
  clear vA0 vA1
  refine (szGraph _ ins a0 l0.length c0 hm0).mono ?_
  rintro e x1 ⟨rfl, hb⟩
  have HB1 : Hid (Below w.heap.size w x1) := HB0.out.trans (hb.mono HB0.out.size)
  have hs1 : x0.heap.size ≤ x1.heap.size := hb.size
  have HbA_1 : Hid (Lay x1 w.heap.size (.int .i64 ins) (.slice a0 l0.length c0)) := HbA_0.out.below hb
  clear hb
  rw [if_pos (by omega : ((l0.length : Nat) : Int) ≤ 1048576)]
  have hp0 : ¬ 1048576 - (l0.length : Int) < 0 := by omega
  have vA0 := HbA_1.out.c0
  have vA1 := HbA_1.out.c1
  go_wp2_with fail
  clear vA0 vA1
  refine (toGraph _ ins a0 l0 c0 (HN0.out.below HB1.out) hl0).mono ?_
  rintro e x2 ⟨rfl, hw, hb⟩
  have HB2 : Hid (Below w.heap.size w x2) := HB1.out.trans (hb.mono HB1.out.size)
  have hs2 : x1.heap.size ≤ x2.heap.size := hb.size
  have HbA_2 : Hid (Lay x2 w.heap.size (.int .i64 ins) (.slice a0 l0.length c0)) := HbA_1.out.below hb
  have Hss_2 : Hid (AnsIn x2 x1.heap.size x2.heap.size (some ⟨x1.heap.size + 3, 0, none⟩) l0) := WAns.within hw
  clear hw hb
  go_wp2_with fail
  refine (HSP.out _ _ _ Hss_2.out.plain).mono ?_
  rintro e x3 ⟨rfl, hb⟩
  have HB3 : Hid (Below w.heap.size w x3) := HB2.out.trans (hb.mono HB2.out.size)
  have hs3 : x2.heap.size ≤ x3.heap.size := hb.size
  have Hss_3 : Hid (AnsIn x3 x1.heap.size x2.heap.size (some ⟨x1.heap.size + 3, 0, none⟩) l0) := Hss_2.out.below hb
  have HbA_3 : Hid (Lay x3 w.heap.size (.int .i64 ins) (.slice a0 l0.length c0)) := HbA_2.out.below hb
  clear hb
  go_upto_region 6 with fail
  obtain ⟨x4, hx⟩ : ∃ x, x = x3.alloc (.cells #[.int .i64 TN, .string TS] 25) := ⟨_, rfl⟩
  have hsz4 : x3.heap.size < x4.heap.size := by rw [hx]; simp
  have HB4 : Hid (Below w.heap.size w x4) := by rw [hx]; exact HB3.out.alloc HB3.out.size _
  have hs4 : x3.heap.size ≤ x4.heap.size := Nat.le_of_lt hsz4
  have HbA_4 : Hid (Lay x4 w.heap.size (.int .i64 ins) (.slice a0 l0.length c0)) := by rw [hx]; exact HbA_3.out.alloc _
  have HbW_4 : Hid (Lay x4 x3.heap.size (.int .i64 TN) (.string TS)) := by rw [hx]; exact Lay.made _ _ _ _
  rw [← hx]
  clear hx
  have vA0 := HbA_4.out.c0
  have vA1 := HbA_4.out.c1
  go_wp2_with fail
  clear vA0 vA1
  refine (toGraph _ ins a0 l0 c0 (HN0.out.below HB4.out) hl0).mono ?_
  rintro e x5 ⟨rfl, hw, hb⟩
  have HB5 : Hid (Below w.heap.size w x5) := HB4.out.trans (hb.mono HB4.out.size)
  have hs5 : x4.heap.size ≤ x5.heap.size := hb.size
  have HbA_5 : Hid (Lay x5 w.heap.size (.int .i64 ins) (.slice a0 l0.length c0)) := HbA_4.out.below hb
  have HbW_5 : Hid (Lay x5 x3.heap.size (.int .i64 TN) (.string TS)) := HbW_4.out.below hb
  have Hsx_5 : Hid (AnsIn x5 x4.heap.size x5.heap.size (some ⟨x4.heap.size + 3, 0, none⟩) l0) := WAns.within hw
  clear hw hb
  go_upto_region 7 with fail
  obtain ⟨x6, hx⟩ : ∃ x, x = x5.alloc (.cells #[.int .i64 ins, .slice (some ⟨x4.heap.size + 3, 0, none⟩) l0.length l0.length] 29) := ⟨_, rfl⟩
  have hsz6 : x5.heap.size < x6.heap.size := by rw [hx]; simp
  have HB6 : Hid (Below w.heap.size w x6) := by rw [hx]; exact HB5.out.alloc HB5.out.size _
  have hs6 : x5.heap.size ≤ x6.heap.size := Nat.le_of_lt hsz6
  have Hsx_6 : Hid (AnsIn x6 x4.heap.size x5.heap.size (some ⟨x4.heap.size + 3, 0, none⟩) l0) := by rw [hx]; exact Hsx_5.out.below ((Below.refl _ _).alloc (Nat.le_refl _) _)
  have HbA_6 : Hid (Lay x6 w.heap.size (.int .i64 ins) (.slice a0 l0.length c0)) := by rw [hx]; exact HbA_5.out.alloc _
  have HbW_6 : Hid (Lay x6 x3.heap.size (.int .i64 TN) (.string TS)) := by rw [hx]; exact HbW_5.out.alloc _
  have HbX_6 : Hid (Lay x6 x5.heap.size (.int .i64 ins) (.slice (some ⟨x4.heap.size + 3, 0, none⟩) l0.length l0.length)) := by rw [hx]; exact Lay.made _ _ _ _
  rw [← hx]
  clear hx
  have vX0 := HbX_6.out.c0
  have vX1 := HbX_6.out.c1
  go_wp2_with fail
  clear vX0 vX1
  refine (HIM.out _ _ _ Hsx_6.out.plain).mono ?_
  rintro e x7 ⟨rfl, hb⟩
  have HB7 : Hid (Below w.heap.size w x7) := HB6.out.trans (hb.mono HB6.out.size)
  have hs7 : x6.heap.size ≤ x7.heap.size := hb.size
  have Hsx_7 : Hid (AnsIn x7 x4.heap.size x5.heap.size (some ⟨x4.heap.size + 3, 0, none⟩) l0) := Hsx_6.out.below hb
  have HbA_7 : Hid (Lay x7 w.heap.size (.int .i64 ins) (.slice a0 l0.length c0)) := HbA_6.out.below hb
  have HbW_7 : Hid (Lay x7 x3.heap.size (.int .i64 TN) (.string TS)) := HbW_6.out.below hb
  have HbX_7 : Hid (Lay x7 x5.heap.size (.int .i64 ins) (.slice (some ⟨x4.heap.size + 3, 0, none⟩) l0.length l0.length)) := HbX_6.out.below hb
  clear hb
  go_upto_region 8 with fail
  obtain ⟨x8, hx⟩ : ∃ x, x = x7.alloc (.cells #[.int .i64 TN, .string TS] 25) := ⟨_, rfl⟩
  have hsz8 : x7.heap.size < x8.heap.size := by rw [hx]; simp
  have HB8 : Hid (Below w.heap.size w x8) := by rw [hx]; exact HB7.out.alloc HB7.out.size _
  have hs8 : x7.heap.size ≤ x8.heap.size := Nat.le_of_lt hsz8
  have Hsx_8 : Hid (AnsIn x8 x4.heap.size x5.heap.size (some ⟨x4.heap.size + 3, 0, none⟩) l0) := by rw [hx]; exact Hsx_7.out.below ((Below.refl _ _).alloc (Nat.le_refl _) _)
  have HbA_8 : Hid (Lay x8 w.heap.size (.int .i64 ins) (.slice a0 l0.length c0)) := by rw [hx]; exact HbA_7.out.alloc _
  have HbW_8 : Hid (Lay x8 x3.heap.size (.int .i64 TN) (.string TS)) := by rw [hx]; exact HbW_7.out.alloc _
  have HbX_8 : Hid (Lay x8 x5.heap.size (.int .i64 ins) (.slice (some ⟨x4.heap.size + 3, 0, none⟩) l0.length l0.length)) := by rw [hx]; exact HbX_7.out.alloc _
  have HbG_8 : Hid (Lay x8 x7.heap.size (.int .i64 TN) (.string TS)) := by rw [hx]; exact Lay.made _ _ _ _
  rw [← hx]
  clear hx
  have vG0 := HbG_8.out.c0
  have vG1 := HbG_8.out.c1
  have vW0 := HbW_8.out.c0
  have vW1 := HbW_8.out.c1
  go_wp2_with fail
  clear vG0 vG1 vW0 vW1
  refine (eqTable TN TN TS TS _).mono ?_
  rintro e x9 ⟨rfl, hb⟩
  have HB9 : Hid (Below w.heap.size w x9) := HB8.out.trans (hb.mono HB8.out.size)
  have hs9 : x8.heap.size ≤ x9.heap.size := hb.size
  have Hsx_9 : Hid (AnsIn x9 x4.heap.size x5.heap.size (some ⟨x4.heap.size + 3, 0, none⟩) l0) := Hsx_8.out.below hb
  have HbA_9 : Hid (Lay x9 w.heap.size (.int .i64 ins) (.slice a0 l0.length c0)) := HbA_8.out.below hb
  have HbW_9 : Hid (Lay x9 x3.heap.size (.int .i64 TN) (.string TS)) := HbW_8.out.below hb
  have HbX_9 : Hid (Lay x9 x5.heap.size (.int .i64 ins) (.slice (some ⟨x4.heap.size + 3, 0, none⟩) l0.length l0.length)) := HbX_8.out.below hb
  have HbG_9 : Hid (Lay x9 x7.heap.size (.int .i64 TN) (.string TS)) := HbG_8.out.below hb
  clear hb
  rw [decide_eq_true (⟨rfl, rfl⟩ : TN = TN ∧ TS = TS)]
  go_wp2_with fail
  have HBD : Hid (Below w.heap.size w x9.drew) := HB9.out.drew
  have LX := HbX_9.out.drew
  have LA := HbA_9.out.drew
  have SX0 : Hid (AnsIn x9.drew x4.heap.size x5.heap.size (some ⟨x4.heap.size + 3, 0, none⟩) l0) := Hsx_9.out.kept (S := fun _ => False) (Kept.refl _ _).drew (fun _ _ _ e => e)
  go_region_held3 (fun w' => w'.cell? ⟨x5.heap.size, 0, none⟩ = some (.int .i64 ins) ∧ w'.cell? ⟨x5.heap.size, 1, none⟩ = some (.slice (some ⟨x4.heap.size + 3, 0, none⟩) l0.length l0.length) ∧ w'.cell? ⟨w.heap.size, 0, none⟩ = some (.int .i64 ins) ∧ w'.cell? ⟨w.heap.size, 1, none⟩ = some (.slice a0 l0.length c0)) ((first | exact ⟨LX.c0, LX.c1, LA.c0, LA.c1⟩ | exact ⟨KX.c0, KX.c1, KA.c0, KA.c1⟩ | exact ⟨EX.c0, EX.c1, EA.c0, EA.c1⟩)) ((first | (go_at_call 26; refine (toGraph _ ins a0 l0 c0 (HN0.out.below HBD.out) hl0).mono ?_; rintro e xT ⟨rfl, hwT, hbT⟩; have KX := LX.below hbT; have KA := LA.below hbT; have SX : Hid (AnsIn xT x4.heap.size x5.heap.size (some ⟨x4.heap.size + 3, 0, none⟩) l0) := SX0.out.below hbT; have hWT : Hid (WAns xT x9.drew.heap.size (some ⟨x9.drew.heap.size + 3, 0, none⟩) l0) := hwT; have HBT : Hid (Below x9.drew.heap.size x9.drew xT) := hbT; clear hwT hbT) | (go_at_call 27; refine (eqGraph _ ins _ _ l0 _ _ SX.out.plain hWT.out.plain).mono ?_; rintro e xE ⟨rfl, hbE⟩; have EX := KX.below hbE; have EA := KA.below hbE; have HBE : Hid (Below xT.heap.size xT xE) := hbE; clear hbE)))
  have hb : Below x9.heap.size x9 xE := ((Below.refl _ x9).drew.trans (HBT.out.mono (Nat.le_refl _))).trans (HBE.out.mono HBT.out.size)
  clear KX KA SX hWT EX EA LX LA HBD SX0 HBT HBE
  generalize xE = x10 at hb ⊢
  have HB10 : Hid (Below w.heap.size w x10) := HB9.out.trans (hb.mono HB9.out.size)
  have hs10 : x9.heap.size ≤ x10.heap.size := hb.size
  have Hsx_10 : Hid (AnsIn x10 x4.heap.size x5.heap.size (some ⟨x4.heap.size + 3, 0, none⟩) l0) := Hsx_9.out.below hb
  have HbA_10 : Hid (Lay x10 w.heap.size (.int .i64 ins) (.slice a0 l0.length c0)) := HbA_9.out.below hb
  have HbW_10 : Hid (Lay x10 x3.heap.size (.int .i64 TN) (.string TS)) := HbW_9.out.below hb
  have HbX_10 : Hid (Lay x10 x5.heap.size (.int .i64 ins) (.slice (some ⟨x4.heap.size + 3, 0, none⟩) l0.length l0.length)) := HbX_9.out.below hb
  have HbG_10 : Hid (Lay x10 x7.heap.size (.int .i64 TN) (.string TS)) := HbG_9.out.below hb
  clear hb
  go_wp2
  go_ret
  exact ⟨rfl, HB10.out⟩


end Go.Proofs.Ytnpfegfjejfaaaa.Lg6
