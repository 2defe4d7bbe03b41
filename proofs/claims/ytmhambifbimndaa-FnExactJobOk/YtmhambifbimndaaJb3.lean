/- JobOk and JobVerdict of both sides. Written by tools/mkjb3.py. -/
import Derived.Deep.CutBlock
import Derived.Deep.CutRange
import Derived.Test.YtmhambifbimndaaJb0
import Derived.Test.YtmhambifbimndaaJb2p
namespace Go.Proofs.Ytmhambifbimndaa.Jb3
open Go.RowKit
open Nd0 (Kept)
open Mm0 Mm2 Mx0 Mi4 Jb0 Jb2 Jb2p
open Tc2 (ret_bool sInT sInF)
set_option linter.unusedVariables false

/-- A right job. -/
noncomputable def jokB (st : Int) (m : Mc) (jr : ByteArray) (sy : Int) : Bool :=
  if (jr.size : Int) ≤ 2000000 ∧ 0 ≤ sy ∧ sy ≤ (jr.size : Int) then
    (if st = 0 then bareB m else if st = 1 then mokB m && !m.over else if st = 2 then mokB m && m.over else false)
  else false
/-- What JobVerdict tells. -/
noncomputable def jverV (st : Int) (m : Mc) (jr : ByteArray) (sy : Int) : Int × Bool := if jokB st m jr sy = true ∧ st = 2 then verV m else (0, false)
theorem ret_pair {a b : Int} {c d : Bool} (h : a = b) (k : c = d) : Ending.returned (.tuple #[.int .i64 a, .bool c]) = .returned (.tuple #[.int .i64 b, .bool d]) := by rw [h, k]

set_option maxRecDepth 100000 in
set_option maxHeartbeats 8000000 in
theorem iJobOk (w : World) (st : Int) (m : Mc) (jr : ByteArray) (sy : Int) (ra va ma : Option Addr) (rc vc mc : Nat) (hR : Mr w m ra va ma) (hS : m.S.size ≤ 1048576) (hk : ∀ x ∈ m.memo, x.k.size ≤ maxLen) (hJ : jr.size ≤ 1048576) :
    Calls Try.prog 8 #[jval st m jr sy ra va ma rc vc mc] w fun e w' => e = .returned (.bool (jokB st m jr sy)) ∧ Below w.heap.size w w' := by
  obtain ⟨W0, hW0⟩ : ∃ W0, W0 = w.alloc (.cells #[.int .i64 st, .slice ra m.row.length rc, .int .i64 m.N, .string m.S, .int .i64 m.room, .slice va m.vals.length vc, .int .i64 m.ret, .bool m.over, .int .i64 m.steps, .int .i64 m.looks, .int .i64 m.hits, .slice ma m.memo.length mc, .string jr, .int .i64 sy] 38) := ⟨_, rfl⟩
  have HE0 : Hid (w.alloc (.cells #[.int .i64 st, .slice ra m.row.length rc, .int .i64 m.N, .string m.S, .int .i64 m.room, .slice va m.vals.length vc, .int .i64 m.ret, .bool m.over, .int .i64 m.steps, .int .i64 m.looks, .int .i64 m.hits, .slice ma m.memo.length mc, .string jr, .int .i64 sy] 38) = W0) := hW0.symm
  have HA : Hid (Jb W0 w.heap.size st m jr sy ra va ma rc vc mc) := by rw [hW0]; exact Jb.made _ _ _ _ _ _ _ _ _ _ _ _
  have HB0 : Hid (Below w.heap.size w W0) := by rw [hW0]; exact (Below.refl _ _).alloc (Nat.le_refl _) _
  clear hW0
  have HM : Hid (∀ W, Below w.heap.size w W → Calls Try.prog 18 #[mval m ra va ma rc vc mc] W fun e w' => e = .returned (.bool (mokB m)) ∧ Below W.heap.size W w') := fun W hb => iMachineOk m ra va ma rc vc mc W hS (hR.below hb) hk
  have HN : Hid (∀ W, Below w.heap.size w W → Calls Try.prog 17 #[mval m ra va ma rc vc mc] W fun e w' => e = .returned (.bool (bareB m)) ∧ Below W.heap.size W w') := fun W hb => iBare m ra va ma rc vc mc W (hR.below hb)
  have h1 : (jr.size : Int) ≤ 2000000 := by omega
  have hg : ¬ (jr.size : Int) > 2000000 := by omega
  clear hR hS hk hJ
  by_cases h2 : sy < 0
  · have HF : Hid (jokB st m jr sy = false) := if_neg (fun h => by omega)
    go_enter Try.func8, Try.ntmps8
    go_upto_region 1 with fail
    rw [HE0.out]
    clear HE0
    obtain ⟨m0, m1, m2, m3, m4, m5, m6, m7, m8, m9, m10, m11, m12, m13⟩ := HA.out
    go_wp2
    go_ret
    exact ⟨ret_bool HF.out.symm, HB0.out⟩
  by_cases h3 : sy > (jr.size : Int)
  · have HF : Hid (jokB st m jr sy = false) := if_neg (fun h => by omega)
    go_enter Try.func8, Try.ntmps8
    go_upto_region 1 with fail
    rw [HE0.out]
    clear HE0
    obtain ⟨m0, m1, m2, m3, m4, m5, m6, m7, m8, m9, m10, m11, m12, m13⟩ := HA.out
    go_wp2
    go_ret
    exact ⟨ret_bool HF.out.symm, HB0.out⟩
  have HJ : Hid (jokB st m jr sy = (if st = 0 then bareB m else if st = 1 then mokB m && !m.over else if st = 2 then mokB m && m.over else false)) := if_pos ⟨h1, by omega, by omega⟩
  by_cases e0 : st = 0
  · have HF : Hid (jokB st m jr sy = bareB m) := HJ.out.trans (if_pos e0)
    have hb0 : (st == 0) = true := beq_iff_eq.2 e0
    clear e0
    go_enter Try.func8, Try.ntmps8
    go_upto_region 1 with fail
    rw [HE0.out]
    clear HE0
    obtain ⟨m0, m1, m2, m3, m4, m5, m6, m7, m8, m9, m10, m11, m12, m13⟩ := HA.out
    go_wp2_with fail
    refine (HN.out _ HB0.out).mono ?_
    rintro e w1 ⟨rfl, hb1⟩
    have HB1 : Hid (Below w.heap.size w w1) := HB0.out.trans (hb1.mono HB0.out.size)
    clear hb1
    go_wp2
    go_ret
    exact ⟨ret_bool HF.out.symm, HB1.out⟩
  have hb0 : (st == 0) = false := beq_eq_false_iff_ne.2 e0
  by_cases e1 : st = 1
  · have HF0 : Hid (jokB st m jr sy = (mokB m && !m.over)) := HJ.out.trans <| (if_neg e0).trans <| if_pos e1
    have hb1 : (st == 1) = true := beq_iff_eq.2 e1
    clear e0 e1
    cases hm : mokB m
    · have HF : Hid (jokB st m jr sy = false) := HF0.out.trans (by rw [hm]; rfl)
      rw [hm] at HM
      clear hm
      go_enter Try.func8, Try.ntmps8
      go_upto_region 1 with fail
      rw [HE0.out]
      clear HE0
      obtain ⟨m0, m1, m2, m3, m4, m5, m6, m7, m8, m9, m10, m11, m12, m13⟩ := HA.out
      go_wp2_with fail
      refine (HM.out _ HB0.out).mono ?_
      rintro e w1 ⟨rfl, hb1⟩
      have HB1 : Hid (Below w.heap.size w w1) := HB0.out.trans (hb1.mono HB0.out.size)
      have HA1 : Hid (Jb w1 w.heap.size st m jr sy ra va ma rc vc mc) := HA.out.below hb1
      clear hb1
      clear m0 m1 m2 m3 m4 m5 m6 m7 m8 m9 m10 m11 m12 m13
      obtain ⟨m0, m1, m2, m3, m4, m5, m6, m7, m8, m9, m10, m11, m12, m13⟩ := HA1.out
      go_wp2
      go_ret
      exact ⟨ret_bool HF.out.symm, HB1.out⟩
    · have HF : Hid (jokB st m jr sy = (!m.over)) := HF0.out.trans (by rw [hm]; rfl)
      rw [hm] at HM
      clear hm
      go_enter Try.func8, Try.ntmps8
      go_upto_region 1 with fail
      rw [HE0.out]
      clear HE0
      obtain ⟨m0, m1, m2, m3, m4, m5, m6, m7, m8, m9, m10, m11, m12, m13⟩ := HA.out
      go_wp2_with fail
      refine (HM.out _ HB0.out).mono ?_
      rintro e w1 ⟨rfl, hb1⟩
      have HB1 : Hid (Below w.heap.size w w1) := HB0.out.trans (hb1.mono HB0.out.size)
      have HA1 : Hid (Jb w1 w.heap.size st m jr sy ra va ma rc vc mc) := HA.out.below hb1
      clear hb1
      clear m0 m1 m2 m3 m4 m5 m6 m7 m8 m9 m10 m11 m12 m13
      obtain ⟨m0, m1, m2, m3, m4, m5, m6, m7, m8, m9, m10, m11, m12, m13⟩ := HA1.out
      go_wp2
      go_ret
      exact ⟨ret_bool HF.out.symm, HB1.out⟩
  have hb1 : (st == 1) = false := beq_eq_false_iff_ne.2 e1
  by_cases e2 : st = 2
  · have HF0 : Hid (jokB st m jr sy = (mokB m && m.over)) := HJ.out.trans <| (if_neg e0).trans <| (if_neg e1).trans <| if_pos e2
    have hb2 : (st == 2) = true := beq_iff_eq.2 e2
    clear e0 e1 e2
    cases hm : mokB m
    · have HF : Hid (jokB st m jr sy = false) := HF0.out.trans (by rw [hm]; rfl)
      rw [hm] at HM
      clear hm
      go_enter Try.func8, Try.ntmps8
      go_upto_region 1 with fail
      rw [HE0.out]
      clear HE0
      obtain ⟨m0, m1, m2, m3, m4, m5, m6, m7, m8, m9, m10, m11, m12, m13⟩ := HA.out
      go_wp2_with fail
      refine (HM.out _ HB0.out).mono ?_
      rintro e w1 ⟨rfl, hb1⟩
      have HB1 : Hid (Below w.heap.size w w1) := HB0.out.trans (hb1.mono HB0.out.size)
      have HA1 : Hid (Jb w1 w.heap.size st m jr sy ra va ma rc vc mc) := HA.out.below hb1
      clear hb1
      clear m0 m1 m2 m3 m4 m5 m6 m7 m8 m9 m10 m11 m12 m13
      obtain ⟨m0, m1, m2, m3, m4, m5, m6, m7, m8, m9, m10, m11, m12, m13⟩ := HA1.out
      go_wp2
      go_ret
      exact ⟨ret_bool HF.out.symm, HB1.out⟩
    · have HF : Hid (jokB st m jr sy = (m.over)) := HF0.out.trans (by rw [hm]; rfl)
      rw [hm] at HM
      clear hm
      go_enter Try.func8, Try.ntmps8
      go_upto_region 1 with fail
      rw [HE0.out]
      clear HE0
      obtain ⟨m0, m1, m2, m3, m4, m5, m6, m7, m8, m9, m10, m11, m12, m13⟩ := HA.out
      go_wp2_with fail
      refine (HM.out _ HB0.out).mono ?_
      rintro e w1 ⟨rfl, hb1⟩
      have HB1 : Hid (Below w.heap.size w w1) := HB0.out.trans (hb1.mono HB0.out.size)
      have HA1 : Hid (Jb w1 w.heap.size st m jr sy ra va ma rc vc mc) := HA.out.below hb1
      clear hb1
      clear m0 m1 m2 m3 m4 m5 m6 m7 m8 m9 m10 m11 m12 m13
      obtain ⟨m0, m1, m2, m3, m4, m5, m6, m7, m8, m9, m10, m11, m12, m13⟩ := HA1.out
      go_wp2
      go_ret
      exact ⟨ret_bool HF.out.symm, HB1.out⟩
  have hb2 : (st == 2) = false := beq_eq_false_iff_ne.2 e2
  have HF : Hid (jokB st m jr sy = false) := HJ.out.trans <| (if_neg e0).trans <| (if_neg e1).trans <| if_neg e2
  clear e0 e1 e2
  go_enter Try.func8, Try.ntmps8
  go_upto_region 1 with fail
  rw [HE0.out]
  clear HE0
  obtain ⟨m0, m1, m2, m3, m4, m5, m6, m7, m8, m9, m10, m11, m12, m13⟩ := HA.out
  go_wp2
  go_ret
  exact ⟨ret_bool HF.out.symm, HB0.out⟩

set_option maxRecDepth 100000 in
set_option maxHeartbeats 8000000 in
theorem sJobOk (w : World) (st : Int) (m : Mc) (jr : ByteArray) (sy : Int) (ra va ma : Option Addr) (rc vc mc : Nat) (hR : Mr w m ra va ma) (hS : m.S.size ≤ 1048576) (hJ : jr.size ≤ 1048576) :
    Calls Try.prog 6 #[jval st m jr sy ra va ma rc vc mc] w fun e w' => e = .returned (.bool (jokB st m jr sy)) ∧ Below w.heap.size w w' := by
  obtain ⟨W0, hW0⟩ : ∃ W0, W0 = w.alloc (.cells #[.int .i64 st, .slice ra m.row.length rc, .int .i64 m.N, .string m.S, .int .i64 m.room, .slice va m.vals.length vc, .int .i64 m.ret, .bool m.over, .int .i64 m.steps, .int .i64 m.looks, .int .i64 m.hits, .slice ma m.memo.length mc, .string jr, .int .i64 sy] 38) := ⟨_, rfl⟩
  have HE0 : Hid (w.alloc (.cells #[.int .i64 st, .slice ra m.row.length rc, .int .i64 m.N, .string m.S, .int .i64 m.room, .slice va m.vals.length vc, .int .i64 m.ret, .bool m.over, .int .i64 m.steps, .int .i64 m.looks, .int .i64 m.hits, .slice ma m.memo.length mc, .string jr, .int .i64 sy] 38) = W0) := hW0.symm
  have HA : Hid (Jb W0 w.heap.size st m jr sy ra va ma rc vc mc) := by rw [hW0]; exact Jb.made _ _ _ _ _ _ _ _ _ _ _ _
  have HB0 : Hid (Below w.heap.size w W0) := by rw [hW0]; exact (Below.refl _ _).alloc (Nat.le_refl _) _
  clear hW0
  have HM : Hid (∀ W, Below w.heap.size w W → Calls Try.prog 15 #[mval m ra va ma rc vc mc] W fun e w' => e = .returned (.bool (mokB m)) ∧ Below W.heap.size W w') := fun W hb => sMachineOk m ra va ma rc vc mc W hS (hR.below hb)
  have HN : Hid (∀ W, Below w.heap.size w W → Calls Try.prog 14 #[mval m ra va ma rc vc mc] W fun e w' => e = .returned (.bool (bareB m)) ∧ Below W.heap.size W w') := fun W hb => sBare m ra va ma rc vc mc W (hR.below hb)
  have h1 : (jr.size : Int) ≤ 2000000 := by omega
  have hg : ¬ (jr.size : Int) > 2000000 := by omega
  clear hR hS hJ
  by_cases hin : 0 ≤ sy ∧ sy ≤ (jr.size : Int)
  rotate_left
  · have HF : Hid (jokB st m jr sy = false) := if_neg (fun h => hin h.2)
    have HIN : Hid (∀ W, Calls Try.prog 13 #[.int .i64 sy, .int .i64 0, .int .i64 (jr.size : Int)] W fun e w' => e = .returned (.bool false) ∧ w' = W) := fun W => sInF W (by omega)
    clear hin
    go_enter Try.func6, Try.ntmps6
    go_upto_region 1 with fail
    rw [HE0.out]
    clear HE0
    obtain ⟨m0, m1, m2, m3, m4, m5, m6, m7, m8, m9, m10, m11, m12, m13⟩ := HA.out
    go_wp2_with fail
    refine (HIN.out _).mono ?_
    rintro e w9 ⟨rfl, hw9⟩
    have hw8 := hw9.symm
    clear hw9
    subst hw8
    go_wp2
    go_ret
    exact ⟨ret_bool HF.out.symm, HB0.out⟩
  have HIN : Hid (∀ W, Calls Try.prog 13 #[.int .i64 sy, .int .i64 0, .int .i64 (jr.size : Int)] W fun e w' => e = .returned (.bool true) ∧ w' = W) := fun W => sInT W (by omega)
  have h2 : ¬ sy < 0 := by omega
  have h3 : ¬ sy > (jr.size : Int) := by omega
  clear hin
  have HJ : Hid (jokB st m jr sy = (if st = 0 then bareB m else if st = 1 then mokB m && !m.over else if st = 2 then mokB m && m.over else false)) := if_pos ⟨h1, by omega, by omega⟩
  clear h2 h3
  by_cases e0 : st = 0
  · have HF : Hid (jokB st m jr sy = bareB m) := HJ.out.trans (if_pos e0)
    have hb0 : (st == 0) = true := beq_iff_eq.2 e0
    clear e0
    go_enter Try.func6, Try.ntmps6
    go_upto_region 1 with fail
    rw [HE0.out]
    clear HE0
    obtain ⟨m0, m1, m2, m3, m4, m5, m6, m7, m8, m9, m10, m11, m12, m13⟩ := HA.out
    go_wp2_with fail
    refine (HIN.out _).mono ?_
    rintro e w9 ⟨rfl, hw9⟩
    have hw8 := hw9.symm
    clear hw9
    subst hw8
    go_wp2_with fail
    refine (HN.out _ HB0.out).mono ?_
    rintro e w1 ⟨rfl, hb1⟩
    have HB1 : Hid (Below w.heap.size w w1) := HB0.out.trans (hb1.mono HB0.out.size)
    clear hb1
    go_wp2
    go_ret
    exact ⟨ret_bool HF.out.symm, HB1.out⟩
  have hb0 : (st == 0) = false := beq_eq_false_iff_ne.2 e0
  by_cases e1 : st = 1
  · have HF0 : Hid (jokB st m jr sy = (mokB m && !m.over)) := HJ.out.trans <| (if_neg e0).trans <| if_pos e1
    have hb1 : (st == 1) = true := beq_iff_eq.2 e1
    clear e0 e1
    cases hm : mokB m
    · have HF : Hid (jokB st m jr sy = false) := HF0.out.trans (by rw [hm]; rfl)
      rw [hm] at HM
      clear hm
      go_enter Try.func6, Try.ntmps6
      go_upto_region 1 with fail
      rw [HE0.out]
      clear HE0
      obtain ⟨m0, m1, m2, m3, m4, m5, m6, m7, m8, m9, m10, m11, m12, m13⟩ := HA.out
      go_wp2_with fail
      refine (HIN.out _).mono ?_
      rintro e w9 ⟨rfl, hw9⟩
      have hw8 := hw9.symm
      clear hw9
      subst hw8
      go_wp2_with fail
      refine (HM.out _ HB0.out).mono ?_
      rintro e w1 ⟨rfl, hb1⟩
      have HB1 : Hid (Below w.heap.size w w1) := HB0.out.trans (hb1.mono HB0.out.size)
      have HA1 : Hid (Jb w1 w.heap.size st m jr sy ra va ma rc vc mc) := HA.out.below hb1
      clear hb1
      clear m0 m1 m2 m3 m4 m5 m6 m7 m8 m9 m10 m11 m12 m13
      obtain ⟨m0, m1, m2, m3, m4, m5, m6, m7, m8, m9, m10, m11, m12, m13⟩ := HA1.out
      go_wp2
      go_ret
      exact ⟨ret_bool HF.out.symm, HB1.out⟩
    · have HF : Hid (jokB st m jr sy = (!m.over)) := HF0.out.trans (by rw [hm]; rfl)
      rw [hm] at HM
      clear hm
      go_enter Try.func6, Try.ntmps6
      go_upto_region 1 with fail
      rw [HE0.out]
      clear HE0
      obtain ⟨m0, m1, m2, m3, m4, m5, m6, m7, m8, m9, m10, m11, m12, m13⟩ := HA.out
      go_wp2_with fail
      refine (HIN.out _).mono ?_
      rintro e w9 ⟨rfl, hw9⟩
      have hw8 := hw9.symm
      clear hw9
      subst hw8
      go_wp2_with fail
      refine (HM.out _ HB0.out).mono ?_
      rintro e w1 ⟨rfl, hb1⟩
      have HB1 : Hid (Below w.heap.size w w1) := HB0.out.trans (hb1.mono HB0.out.size)
      have HA1 : Hid (Jb w1 w.heap.size st m jr sy ra va ma rc vc mc) := HA.out.below hb1
      clear hb1
      clear m0 m1 m2 m3 m4 m5 m6 m7 m8 m9 m10 m11 m12 m13
      obtain ⟨m0, m1, m2, m3, m4, m5, m6, m7, m8, m9, m10, m11, m12, m13⟩ := HA1.out
      go_wp2
      go_ret
      exact ⟨ret_bool HF.out.symm, HB1.out⟩
  have hb1 : (st == 1) = false := beq_eq_false_iff_ne.2 e1
  by_cases e2 : st = 2
  · have HF0 : Hid (jokB st m jr sy = (mokB m && m.over)) := HJ.out.trans <| (if_neg e0).trans <| (if_neg e1).trans <| if_pos e2
    have hb2 : (st == 2) = true := beq_iff_eq.2 e2
    clear e0 e1 e2
    cases hm : mokB m
    · have HF : Hid (jokB st m jr sy = false) := HF0.out.trans (by rw [hm]; rfl)
      rw [hm] at HM
      clear hm
      go_enter Try.func6, Try.ntmps6
      go_upto_region 1 with fail
      rw [HE0.out]
      clear HE0
      obtain ⟨m0, m1, m2, m3, m4, m5, m6, m7, m8, m9, m10, m11, m12, m13⟩ := HA.out
      go_wp2_with fail
      refine (HIN.out _).mono ?_
      rintro e w9 ⟨rfl, hw9⟩
      have hw8 := hw9.symm
      clear hw9
      subst hw8
      go_wp2_with fail
      refine (HM.out _ HB0.out).mono ?_
      rintro e w1 ⟨rfl, hb1⟩
      have HB1 : Hid (Below w.heap.size w w1) := HB0.out.trans (hb1.mono HB0.out.size)
      have HA1 : Hid (Jb w1 w.heap.size st m jr sy ra va ma rc vc mc) := HA.out.below hb1
      clear hb1
      clear m0 m1 m2 m3 m4 m5 m6 m7 m8 m9 m10 m11 m12 m13
      obtain ⟨m0, m1, m2, m3, m4, m5, m6, m7, m8, m9, m10, m11, m12, m13⟩ := HA1.out
      go_wp2
      go_ret
      exact ⟨ret_bool HF.out.symm, HB1.out⟩
    · have HF : Hid (jokB st m jr sy = (m.over)) := HF0.out.trans (by rw [hm]; rfl)
      rw [hm] at HM
      clear hm
      go_enter Try.func6, Try.ntmps6
      go_upto_region 1 with fail
      rw [HE0.out]
      clear HE0
      obtain ⟨m0, m1, m2, m3, m4, m5, m6, m7, m8, m9, m10, m11, m12, m13⟩ := HA.out
      go_wp2_with fail
      refine (HIN.out _).mono ?_
      rintro e w9 ⟨rfl, hw9⟩
      have hw8 := hw9.symm
      clear hw9
      subst hw8
      go_wp2_with fail
      refine (HM.out _ HB0.out).mono ?_
      rintro e w1 ⟨rfl, hb1⟩
      have HB1 : Hid (Below w.heap.size w w1) := HB0.out.trans (hb1.mono HB0.out.size)
      have HA1 : Hid (Jb w1 w.heap.size st m jr sy ra va ma rc vc mc) := HA.out.below hb1
      clear hb1
      clear m0 m1 m2 m3 m4 m5 m6 m7 m8 m9 m10 m11 m12 m13
      obtain ⟨m0, m1, m2, m3, m4, m5, m6, m7, m8, m9, m10, m11, m12, m13⟩ := HA1.out
      go_wp2
      go_ret
      exact ⟨ret_bool HF.out.symm, HB1.out⟩
  have hb2 : (st == 2) = false := beq_eq_false_iff_ne.2 e2
  have HF : Hid (jokB st m jr sy = false) := HJ.out.trans <| (if_neg e0).trans <| (if_neg e1).trans <| if_neg e2
  clear e0 e1 e2
  go_enter Try.func6, Try.ntmps6
  go_upto_region 1 with fail
  rw [HE0.out]
  clear HE0
  obtain ⟨m0, m1, m2, m3, m4, m5, m6, m7, m8, m9, m10, m11, m12, m13⟩ := HA.out
  go_wp2_with fail
  refine (HIN.out _).mono ?_
  rintro e w9 ⟨rfl, hw9⟩
  have hw8 := hw9.symm
  clear hw9
  subst hw8
  go_wp2
  go_ret
  exact ⟨ret_bool HF.out.symm, HB0.out⟩

set_option maxRecDepth 100000 in
set_option maxHeartbeats 8000000 in
theorem iJobVerdict (w : World) (st : Int) (m : Mc) (jr : ByteArray) (sy : Int) (ra va ma : Option Addr) (rc vc mc : Nat) (hR : Mr w m ra va ma) (hS : m.S.size ≤ 1048576) (hk : ∀ x ∈ m.memo, x.k.size ≤ maxLen) (hJ : jr.size ≤ 1048576) :
    Calls Try.prog 11 #[jval st m jr sy ra va ma rc vc mc] w fun e w' => e = .returned (.tuple #[.int .i64 (jverV st m jr sy).1, .bool (jverV st m jr sy).2]) ∧ Below w.heap.size w w' := by
  obtain ⟨W0, hW0⟩ : ∃ W0, W0 = w.alloc (.cells #[.int .i64 st, .slice ra m.row.length rc, .int .i64 m.N, .string m.S, .int .i64 m.room, .slice va m.vals.length vc, .int .i64 m.ret, .bool m.over, .int .i64 m.steps, .int .i64 m.looks, .int .i64 m.hits, .slice ma m.memo.length mc, .string jr, .int .i64 sy] 38) := ⟨_, rfl⟩
  have HE0 : Hid (w.alloc (.cells #[.int .i64 st, .slice ra m.row.length rc, .int .i64 m.N, .string m.S, .int .i64 m.room, .slice va m.vals.length vc, .int .i64 m.ret, .bool m.over, .int .i64 m.steps, .int .i64 m.looks, .int .i64 m.hits, .slice ma m.memo.length mc, .string jr, .int .i64 sy] 38) = W0) := hW0.symm
  have HA : Hid (Jb W0 w.heap.size st m jr sy ra va ma rc vc mc) := by rw [hW0]; exact Jb.made _ _ _ _ _ _ _ _ _ _ _ _
  have HB0 : Hid (Below w.heap.size w W0) := by rw [hW0]; exact (Below.refl _ _).alloc (Nat.le_refl _) _
  clear hW0
  have HK : Hid (∀ W, Below w.heap.size w W → Calls Try.prog 8 #[jval st m jr sy ra va ma rc vc mc] W fun e w' => e = .returned (.bool (jokB st m jr sy)) ∧ Below W.heap.size W w') := fun W hb => iJobOk W st m jr sy ra va ma rc vc mc (hR.below hb) hS hk hJ
  have HV : Hid (∀ W, Below w.heap.size w W → Calls Try.prog 21 #[mval m ra va ma rc vc mc] W fun e w' => e = .returned (.tuple #[.int .i64 (verV m).1, .bool (verV m).2]) ∧ Below W.heap.size W w') := fun W hb => iVerdict m ra va ma rc vc mc W hS (hR.below hb) hk
  clear hR hS hk hJ
  cases hj : jokB st m jr sy
  · have HF : Hid (jverV st m jr sy = (0, false)) := if_neg (fun h => by rw [hj] at h; exact absurd h.1 (by simp))
    rw [hj] at HK
    clear hj
    go_enter Try.func11, Try.ntmps11
    go_upto_region 1 with fail
    rw [HE0.out]
    clear HE0
    obtain ⟨m0, m1, m2, m3, m4, m5, m6, m7, m8, m9, m10, m11, m12, m13⟩ := HA.out
    go_wp2_with fail
    refine (HK.out _ HB0.out).mono ?_
    rintro e w1 ⟨rfl, hb1⟩
    have HB1 : Hid (Below w.heap.size w w1) := HB0.out.trans (hb1.mono HB0.out.size)
    have HA1 : Hid (Jb w1 w.heap.size st m jr sy ra va ma rc vc mc) := HA.out.below hb1
    clear hb1 m0 m1 m2 m3 m4 m5 m6 m7 m8 m9 m10 m11 m12 m13
    obtain ⟨m0, m1, m2, m3, m4, m5, m6, m7, m8, m9, m10, m11, m12, m13⟩ := HA1.out
    go_wp2
    go_ret2
    exact ⟨ret_pair (by rw [HF.out]) (by rw [HF.out]), HB1.out⟩
  by_cases h2 : st = 2
  rotate_left
  · have HF : Hid (jverV st m jr sy = (0, false)) := if_neg (fun h => h2 h.2)
    have hb2 : (st != 2) = true := bne_iff_ne.2 h2
    rw [hj] at HK
    clear hj h2
    go_enter Try.func11, Try.ntmps11
    go_upto_region 1 with fail
    rw [HE0.out]
    clear HE0
    obtain ⟨m0, m1, m2, m3, m4, m5, m6, m7, m8, m9, m10, m11, m12, m13⟩ := HA.out
    go_wp2_with fail
    refine (HK.out _ HB0.out).mono ?_
    rintro e w1 ⟨rfl, hb1⟩
    have HB1 : Hid (Below w.heap.size w w1) := HB0.out.trans (hb1.mono HB0.out.size)
    have HA1 : Hid (Jb w1 w.heap.size st m jr sy ra va ma rc vc mc) := HA.out.below hb1
    clear hb1 m0 m1 m2 m3 m4 m5 m6 m7 m8 m9 m10 m11 m12 m13
    obtain ⟨m0, m1, m2, m3, m4, m5, m6, m7, m8, m9, m10, m11, m12, m13⟩ := HA1.out
    go_wp2
    go_ret2
    exact ⟨ret_pair (by rw [HF.out]) (by rw [HF.out]), HB1.out⟩
  have HF : Hid (jverV st m jr sy = verV m) := if_pos ⟨hj, h2⟩
  have hb2 : (st != 2) = false := by simp [h2]
  rw [hj] at HK
  clear hj h2
  go_enter Try.func11, Try.ntmps11
  go_upto_region 1 with fail
  rw [HE0.out]
  clear HE0
  obtain ⟨m0, m1, m2, m3, m4, m5, m6, m7, m8, m9, m10, m11, m12, m13⟩ := HA.out
  go_wp2_with fail
  refine (HK.out _ HB0.out).mono ?_
  rintro e w1 ⟨rfl, hb1⟩
  have HB1 : Hid (Below w.heap.size w w1) := HB0.out.trans (hb1.mono HB0.out.size)
  have HA1 : Hid (Jb w1 w.heap.size st m jr sy ra va ma rc vc mc) := HA.out.below hb1
  clear hb1 m0 m1 m2 m3 m4 m5 m6 m7 m8 m9 m10 m11 m12 m13
  obtain ⟨m0, m1, m2, m3, m4, m5, m6, m7, m8, m9, m10, m11, m12, m13⟩ := HA1.out
  go_wp2_with fail
  refine (HV.out _ HB1.out).mono ?_
  rintro e w2 ⟨rfl, hb2⟩
  have HB2 : Hid (Below w.heap.size w w2) := HB1.out.trans (hb2.mono HB1.out.size)
  clear hb2
  go_wp2
  go_ret2
  exact ⟨ret_pair (by rw [HF.out]) (by rw [HF.out]), HB2.out⟩

set_option maxRecDepth 100000 in
set_option maxHeartbeats 8000000 in
theorem sJobVerdict (w : World) (st : Int) (m : Mc) (jr : ByteArray) (sy : Int) (ra va ma : Option Addr) (rc vc mc : Nat) (hR : Mr w m ra va ma) (hS : m.S.size ≤ 1048576) (hJ : jr.size ≤ 1048576) :
    Calls Try.prog 10 #[jval st m jr sy ra va ma rc vc mc] w fun e w' => e = .returned (.tuple #[.int .i64 (jverV st m jr sy).1, .bool (jverV st m jr sy).2]) ∧ Below w.heap.size w w' := by
  obtain ⟨W0, hW0⟩ : ∃ W0, W0 = w.alloc (.cells #[.int .i64 st, .slice ra m.row.length rc, .int .i64 m.N, .string m.S, .int .i64 m.room, .slice va m.vals.length vc, .int .i64 m.ret, .bool m.over, .int .i64 m.steps, .int .i64 m.looks, .int .i64 m.hits, .slice ma m.memo.length mc, .string jr, .int .i64 sy] 38) := ⟨_, rfl⟩
  have HE0 : Hid (w.alloc (.cells #[.int .i64 st, .slice ra m.row.length rc, .int .i64 m.N, .string m.S, .int .i64 m.room, .slice va m.vals.length vc, .int .i64 m.ret, .bool m.over, .int .i64 m.steps, .int .i64 m.looks, .int .i64 m.hits, .slice ma m.memo.length mc, .string jr, .int .i64 sy] 38) = W0) := hW0.symm
  have HA : Hid (Jb W0 w.heap.size st m jr sy ra va ma rc vc mc) := by rw [hW0]; exact Jb.made _ _ _ _ _ _ _ _ _ _ _ _
  have HB0 : Hid (Below w.heap.size w W0) := by rw [hW0]; exact (Below.refl _ _).alloc (Nat.le_refl _) _
  clear hW0
  have HK : Hid (∀ W, Below w.heap.size w W → Calls Try.prog 6 #[jval st m jr sy ra va ma rc vc mc] W fun e w' => e = .returned (.bool (jokB st m jr sy)) ∧ Below W.heap.size W w') := fun W hb => sJobOk W st m jr sy ra va ma rc vc mc (hR.below hb) hS hJ
  have HV : Hid (∀ W, Below w.heap.size w W → Calls Try.prog 20 #[mval m ra va ma rc vc mc] W fun e w' => e = .returned (.tuple #[.int .i64 (verV m).1, .bool (verV m).2]) ∧ Below W.heap.size W w') := fun W hb => sVerdict m ra va ma rc vc mc W hS (hR.below hb)
  clear hR hS hJ
  cases hj : jokB st m jr sy
  · have HF : Hid (jverV st m jr sy = (0, false)) := if_neg (fun h => by rw [hj] at h; exact absurd h.1 (by simp))
    rw [hj] at HK
    clear hj
    go_enter Try.func10, Try.ntmps10
    go_upto_region 1 with fail
    rw [HE0.out]
    clear HE0
    obtain ⟨m0, m1, m2, m3, m4, m5, m6, m7, m8, m9, m10, m11, m12, m13⟩ := HA.out
    go_wp2_with fail
    refine (HK.out _ HB0.out).mono ?_
    rintro e w1 ⟨rfl, hb1⟩
    have HB1 : Hid (Below w.heap.size w w1) := HB0.out.trans (hb1.mono HB0.out.size)
    have HA1 : Hid (Jb w1 w.heap.size st m jr sy ra va ma rc vc mc) := HA.out.below hb1
    clear hb1 m0 m1 m2 m3 m4 m5 m6 m7 m8 m9 m10 m11 m12 m13
    obtain ⟨m0, m1, m2, m3, m4, m5, m6, m7, m8, m9, m10, m11, m12, m13⟩ := HA1.out
    go_wp2
    go_ret2
    exact ⟨ret_pair (by rw [HF.out]) (by rw [HF.out]), HB1.out⟩
  by_cases h2 : st = 2
  rotate_left
  · have HF : Hid (jverV st m jr sy = (0, false)) := if_neg (fun h => h2 h.2)
    have hb2 : (st != 2) = true := bne_iff_ne.2 h2
    rw [hj] at HK
    clear hj h2
    go_enter Try.func10, Try.ntmps10
    go_upto_region 1 with fail
    rw [HE0.out]
    clear HE0
    obtain ⟨m0, m1, m2, m3, m4, m5, m6, m7, m8, m9, m10, m11, m12, m13⟩ := HA.out
    go_wp2_with fail
    refine (HK.out _ HB0.out).mono ?_
    rintro e w1 ⟨rfl, hb1⟩
    have HB1 : Hid (Below w.heap.size w w1) := HB0.out.trans (hb1.mono HB0.out.size)
    have HA1 : Hid (Jb w1 w.heap.size st m jr sy ra va ma rc vc mc) := HA.out.below hb1
    clear hb1 m0 m1 m2 m3 m4 m5 m6 m7 m8 m9 m10 m11 m12 m13
    obtain ⟨m0, m1, m2, m3, m4, m5, m6, m7, m8, m9, m10, m11, m12, m13⟩ := HA1.out
    go_wp2
    go_ret2
    exact ⟨ret_pair (by rw [HF.out]) (by rw [HF.out]), HB1.out⟩
  have HF : Hid (jverV st m jr sy = verV m) := if_pos ⟨hj, h2⟩
  have hb2 : (st != 2) = false := by simp [h2]
  rw [hj] at HK
  clear hj h2
  go_enter Try.func10, Try.ntmps10
  go_upto_region 1 with fail
  rw [HE0.out]
  clear HE0
  obtain ⟨m0, m1, m2, m3, m4, m5, m6, m7, m8, m9, m10, m11, m12, m13⟩ := HA.out
  go_wp2_with fail
  refine (HK.out _ HB0.out).mono ?_
  rintro e w1 ⟨rfl, hb1⟩
  have HB1 : Hid (Below w.heap.size w w1) := HB0.out.trans (hb1.mono HB0.out.size)
  have HA1 : Hid (Jb w1 w.heap.size st m jr sy ra va ma rc vc mc) := HA.out.below hb1
  clear hb1 m0 m1 m2 m3 m4 m5 m6 m7 m8 m9 m10 m11 m12 m13
  obtain ⟨m0, m1, m2, m3, m4, m5, m6, m7, m8, m9, m10, m11, m12, m13⟩ := HA1.out
  go_wp2_with fail
  refine (HV.out _ HB1.out).mono ?_
  rintro e w2 ⟨rfl, hb2⟩
  have HB2 : Hid (Below w.heap.size w w2) := HB1.out.trans (hb2.mono HB1.out.size)
  clear hb2
  go_wp2
  go_ret2
  exact ⟨ret_pair (by rw [HF.out]) (by rw [HF.out]), HB2.out⟩

end Go.Proofs.Ytmhambifbimndaa.Jb3
