/- The law FnDecide. -/
import Derived.Deep.RegionHeld3
import Derived.Deep.CutBlock
import Derived.Test.YtiojfommmmggoaaFm7
import Derived.Test.YtiojfommmmggoaaTo3
import Derived.Test.YtiojfommmmggoaaPkDE34
import Derived.Test.YtiojfommmmggoaaPkDE39
import Derived.Test.YtiojfommmmggoaaPkDE38
import Derived.Test.YtiojfommmmggoaaPkDE41
import Derived.Test.YtiojfommmmggoaaPkDE43
import Derived.Test.YtiojfommmmggoaaPkDE47
import Derived.Test.YtiojfommmmggoaaPkDE48
namespace Go.Proofs.Ytiojfommmmggoaa.Lde1
open Go.RowKit
open Nd0 Qa0 Ta0 Ta1 Tc2 Tc5 De0 Fr0 Fr2 To0 To0t
open Nd6 (Bools)
open Ap1 (WBools)
open Dr0 (Bytes)
open Lw4 (lbig)
open Vl5 (holdsL)
open Sv6 (vRes)
open Sv7 (sHolds)
open Te1 (iNot)
open Dp4 (iDecide iDecide0)
open Dm3 (sDecide)
open Ddr (drawCase)
open Dq0 (iTurned turnL)
open Fm1 (sRows)
open Fm7 (sFront)
open To3 (sTableOf)
open Ss0 (bs bs_size)
open Ws1 (ret_int ret_bool)
set_option linter.unusedVariables false

def dv (q : List Qu) (l : List Nd) : Int := if toB q l then ((dc (rowsL q) (atL q l)).toNat : Int) else 0

theorem row_bits {q : List Qu} (h : fewB q = true) : (rowsL q).length = bitL q ∧ bitL q ≤ 12 := by
  obtain ⟨n, hn1, hn2⟩ := few_of h
  have h2 := bit_all hn1
  refine ⟨?_, by omega⟩
  unfold rowsL
  rw [h, if_pos rfl, rowTo_length n hn1, h2]

theorem dec_of (q : List Qu) (l : List Nd) (a : Option Addr) (c : Nat) (W : World) (hB : Bools W a (rowsL q)) :
    Calls Try.prog 9 #[.slice a (rowsL q).length c, tv (toN q l) (toS q l)] W fun e w' => e = .returned (.tuple #[.int .i64 (dv q l), .bool (toB q l)]) ∧ Below W.heap.size W w' := by
  cases h : toB q l with
  | false =>
    obtain ⟨e1, e2⟩ := to_no h
    unfold dv
    rw [h, e1, e2]
    exact iDecide0 a _ c W (by show (0 : Nat) ≤ _; omega) (fun k => by have := k.1; revert this; decide)
  | true =>
    obtain ⟨e1, e2⟩ := to_yes h
    have hf : fewB q = true := by unfold toB at h; exact (Bool.and_eq_true_iff.1 h).1
    obtain ⟨h1, h2⟩ := row_bits hf
    unfold dv
    rw [h, e1, e2, h1]
    exact iDecide (bitL q) (atL q l) a (rowsL q) c W h2 h1 hB

theorem said_of {l : List Nd} (h : toB (frontQ l) (frontR l) = true) : (holdsL l).getD 0 = dv (frontQ l) (frontR l) := by
  rw [Dh2.said h]
  unfold dv
  rw [h]
  cases dc (rowsL (frontQ l)) (atL (frontQ l) (frontR l)) <;> rfl

theorem turn_dc (row : List Bool) (F : Nat → Bool) : ((dc (turnL row) (fun p => !F p)).toNat : Int) = 1 - ((dc row F).toNat : Int) := by
  unfold turnL
  rw [dc_not]
  cases dc row F <;> rfl

theorem front_le (l : List Nd) : (frontQ l).length ≤ 1048576 := by
  unfold frontQ
  cases h : Tm6.sentB l with
  | false => exact Nat.zero_le _
  | true => exact Nat.le_trans (Fr5.wk_len h false) (by omega)

set_option maxRecDepth 100000 in
set_option maxHeartbeats 8000000 in
theorem lawDecide (w : World) (a : Option Addr) (len cap : Nat) (hb : Bytes w a len) :
    Calls Try.prog 3 #[.slice a len cap] w fun e w' => e = .returned (.bool true) ∧ Below w.heap.size w w' := by
  have HB : Hid (Bytes w a len) := hb
  clear hb
  by_cases hs : 1048576 < len
  · go_enter Try.func3, Try.ntmps3
    go_wp2_with fail
    refine (lbig _ a len cap true (by simp; omega)).mono ?_
    rintro e w' ⟨rfl, rfl⟩
    go_wp2
    go_ret
    exact ⟨rfl, Below.refl _ _⟩
  have hsl : len ≤ 1048576 := by omega
  go_enter Try.func3, Try.ntmps3
  go_wp2_with fail
  refine (lbig _ a len cap false (by simp; omega)).mono ?_
  rintro e w0 ⟨rfl, hw0⟩
  have hw0' := hw0.symm
  clear hw0
  subst hw0'
  go_wp2_with fail
  refine (Ds0.drawSaid _ a len cap HB.out).mono ?_
  rintro e w1 ⟨g, c, L, rfl, hn, hb1, hl1, hl2, hcL⟩
  have HN1 : Hid (Nodes w1 (some ⟨g, 0, none⟩) L) := hn
  have HB1 : Hid (Below w.heap.size w w1) := hb1
  clear hn hb1 hcL
  go_wp2_with fail
  refine (sFront _ _ L c HN1.out).mono ?_
  rintro e w2 ⟨⟨aq, cq, ar, cr, rfl, hq, hr⟩, hb⟩
  have HN2 : Hid (Nodes w2 (some ⟨g, 0, none⟩) L) := HN1.out.below hb
  have HB2 : Hid (Below w.heap.size w w2) := HB1.out.trans (hb.mono HB1.out.size)
  have HQ2 : Hid (Qus w2 aq (frontQ L)) := hq.plain
  have HR2 : Hid (Nodes w2 ar (frontR L)) := hr.nodes
  have HQL : Hid ((frontQ L).length ≤ 1048576) := front_le L
  clear hb hq hr HN1 HB1
  have HSA : Hid (toB (frontQ L) (frontR L) = true → (holdsL L).getD 0 = dv (frontQ L) (frontR L)) := fun h => said_of h
  have HDV : Hid (∀ (W : World) (a' : Option Addr) (c' : Nat), Bools W a' (rowsL (frontQ L)) → Calls Try.prog 9 #[.slice a' (rowsL (frontQ L)).length c', tv (toN (frontQ L) (frontR L)) (toS (frontQ L) (frontR L))] W fun e w' => e = .returned (.tuple #[.int .i64 (dv (frontQ L) (frontR L)), .bool (toB (frontQ L) (frontR L))]) ∧ Below W.heap.size W w') := fun W a' c' h => dec_of _ _ a' c' W h
  have HTO : Hid (∀ W : World, Qus W aq (frontQ L) → Nodes W ar (frontR L) → Calls Try.prog 7 #[.slice aq (frontQ L).length cq, .slice ar (frontR L).length cr] W fun e w' => e = .returned (.tuple #[tv (toN (frontQ L) (frontR L)) (toS (frontQ L) (frontR L)), .bool (toB (frontQ L) (frontR L))]) ∧ Below W.heap.size W w') := fun W h1 h2 => sTableOf W aq ar _ _ cq cr h1 h2 HQL.out
  have HRO : Hid (∀ W : World, Qus W aq (frontQ L) → Calls Try.prog 10 #[.slice aq (frontQ L).length cq] W fun e w' => (∃ a' c', e = .returned (.slice a' (rowsL (frontQ L)).length c') ∧ WBools w' W.heap.size a' (rowsL (frontQ L))) ∧ Below W.heap.size W w') := fun W h1 => sRows W aq _ cq h1 HQL.out
  have HHO : Hid (∀ W : World, Nodes W (some ⟨g, 0, none⟩) L → Calls Try.prog 8 #[.slice (some ⟨g, 0, none⟩) L.length c] W fun x w' => x = .returned (.tuple #[.int .i64 ((holdsL L).getD 0), .bool (holdsL L).isSome]) ∧ Below W.heap.size W w') := fun W h1 => sHolds W _ L c h1
  generalize dv (frontQ L) (frontR L) = x at *
  generalize toB (frontQ L) (frontR L) = bo at *
  generalize toN (frontQ L) (frontR L) = N at *
  generalize toS (frontQ L) (frontR L) = S at *
  generalize rowsL (frontQ L) = R at *
  generalize (holdsL L).getD 0 = y at *
  generalize (holdsL L).isSome = hso at *
  generalize frontQ L = Q at *
  generalize frontR L = T at *
  go_wp2_with fail
  refine (HTO.out _ HQ2.out HR2.out).mono ?_
  rintro e w3 ⟨rfl, hb⟩
  obtain ⟨W3, hW3⟩ : ∃ W3, W3 = w3.alloc (.cells #[.int .i64 N, .string S] 30) := ⟨_, rfl⟩
  have HE3 : Hid (w3.alloc (.cells #[.int .i64 N, .string S] 30) = W3) := hW3.symm
  have HT3 : Hid (Lay W3 w3.heap.size (.int .i64 N) (.string S)) := by rw [hW3]; exact Lay.made _ _ _ _
  have hb3 : Below w2.heap.size w2 W3 := by rw [hW3]; exact hb.alloc hb.size _
  have HN3 : Hid (Nodes W3 (some ⟨g, 0, none⟩) L) := HN2.out.below hb3
  have HQ3 : Hid (Qus W3 aq Q) := HQ2.out.below hb3
  have HB3 : Hid (Below w.heap.size w W3) := HB2.out.trans (hb3.mono HB2.out.size)
  clear hb hb3 hW3 HN2 HQ2 HR2 HB2 HTO
  go_upto_region 6 with fail
  rw [HE3.out]
  generalize hq3e : w3.heap.size = q3 at HT3 ⊢
  clear HE3 hq3e
  go_wp2_with fail
  refine (HHO.out _ HN3.out).mono ?_
  rintro e w4 ⟨rfl, hb⟩
  have HT4 : Hid (Lay w4 q3 (.int .i64 N) (.string S)) := HT3.out.below hb
  have HQ4 : Hid (Qus w4 aq Q) := HQ3.out.below hb
  have HB4 : Hid (Below w.heap.size w w4) := HB3.out.trans (hb.mono HB3.out.size)
  clear hb HT3 HN3 HQ3 HB3 HHO
  obtain ⟨x0, x1, _, _⟩ := HT4.out
  go_wp2_with fail
  have DX : Lay w4.drew q3 (.int .i64 N) (.string S) := HT4.out.kept (S := fun _ => False) (Kept.refl _ _).drew (fun h => h)
  have DQ : Hid (Qus w4.drew aq Q) := HQ4.out.below ((Below.refl _ _).drew)
  have HBD : Hid (Below w.heap.size w w4.drew) := HB4.out.drew
  clear HT4 HQ4 HB4
  go_region_held3 (fun w' => w'.cell? ⟨q3, 0, none⟩ = some (.int .i64 N) ∧ w'.cell? ⟨q3, 1, none⟩ = some (.string S)) ((first | exact ⟨EX.c0, EX.c1⟩ | exact ⟨DX.c0, DX.c1⟩)) ((first | (go_at_call 10; refine (HRO.out _ DQ.out).mono ?_; rintro e w5 ⟨⟨ro, rc, rfl, hro⟩, hb⟩; have EX := DX.below hb; have HR5 : Hid (Bools w5 ro R) := Nd6.WBools.plain hro; have HB5 : Hid (Below w.heap.size w w5) := HBD.out.trans (hb.mono HBD.out.size); clear hb hro) | (go_at_call 9; refine (HDV.out _ _ _ HR5.out).mono ?_; rintro e w6 ⟨rfl, hb⟩; have EX := EX.below hb; have HB6 : Hid (Below w.heap.size w w6) := HB5.out.trans (hb.mono HB5.out.size); clear hb)))
  all_goals
    clear x0 x1 DX EX DQ HBD HRO HDV HR5 HB5
    have hbb : (bo != bo) = false := by simp
    have HXY : Hid (bo = true → (x != y) = false) := fun h => by rw [HSA.out h]; simp
    cases bo
    all_goals
      (try have hxy : (x != y) = false := HXY.out rfl)
      clear HXY HSA
      have HY6 : Hid (Bytes w6 a len) := HB.out.below HB6.out
      go_wp2_with fail
      refine (drawCase _ a len cap HY6.out).mono ?_
      rintro e w7 ⟨⟨n, F, row, ra, c7, hn, hrn, hnc, rfl, hBo⟩, hb⟩
      obtain ⟨W7, hW7⟩ : ∃ W7, W7 = w7.alloc (.cells #[.int .i64 (n : Int), .string (bs (tab n F))] 30) := ⟨_, rfl⟩
      have hb7 : Below w6.heap.size w6 W7 := by rw [hW7]; exact hb.alloc hb.size _
      have HB7 : Hid (Below w.heap.size w W7) := HB6.out.trans (hb7.mono HB6.out.size)
      have HO7 : Hid (Bools W7 ra row) := by rw [hW7]; exact hBo.below ((Below.refl _ _).alloc (Nat.le_refl _) _)
      have HE7 : Hid (w7.alloc (.cells #[.int .i64 (n : Int), .string (bs (tab n F))] 30) = W7) := hW7.symm
      have HT7 : Hid (Lay W7 w7.heap.size (.int .i64 (n : Int)) (.string (bs (tab n F)))) := by rw [hW7]; exact Lay.made _ _ _ _
      clear hb hb7 hW7 hBo HY6 HB6
      have HDE : Hid (∀ W : World, Bools W ra row → Calls Try.prog 9 #[.slice ra n c7, tv (n : Int) (bs (tab n F))] W fun e w' => e = .returned (.tuple #[.int .i64 ((dc row F).toNat : Int), .bool true]) ∧ Below W.heap.size W w') := fun W h => iDecide n F ra row c7 W (by omega) hrn h
      have HSD : Hid (∀ W : World, Bools W ra row → Calls Try.prog 14 #[.slice ra n c7, tv (n : Int) (bs (tab n F))] W fun e w' => e = .returned (.tuple #[.int .i64 ((dc row F).toNat : Int), .bool true]) ∧ Below W.heap.size W w') := fun W h => sDecide n F ra row c7 W (by omega) hrn h hnc
      have HTU : Hid (∀ W : World, Bools W ra row → Calls Try.prog 12 #[.slice ra n c7] W fun e w' => (∃ a' c', e = .returned (.slice a' n c') ∧ Bools w' a' (turnL row)) ∧ Below W.heap.size W w') := fun W h => by
        have h2 := iTurned W ra row c7 h (by omega)
        rw [Dq0.turnL_length, hrn] at h2
        exact h2.mono fun e w' k => by
          obtain ⟨⟨a', c', he, hw⟩, hb⟩ := k
          exact ⟨⟨a', c', he, Nd6.WBools.plain hw⟩, hb⟩
      have HNO : Hid (∀ W : World, Calls Try.prog 13 #[tv (n : Int) (bs (tab n F))] W fun e w' => e = .returned (tv (n : Int) (bs (tab n fun p => !F p))) ∧ Below W.heap.size W w') := fun W => iNot n F W (by omega)
      have HD2 : Hid (∀ (W : World) (a' : Option Addr) (c' : Nat), Bools W a' (turnL row) → Calls Try.prog 9 #[.slice a' n c', tv (n : Int) (bs (tab n fun p => !F p))] W fun e w' => e = .returned (.tuple #[.int .i64 (1 - ((dc row F).toNat : Int)), .bool true]) ∧ Below W.heap.size W w') := fun W a' c' h => by
        have h2 := iDecide n (fun p => !F p) a' (turnL row) c' W (by omega) (by rw [Dq0.turnL_length]; exact hrn) h
        rw [turn_dc] at h2
        exact h2
      have hd01 : 0 ≤ ((dc row F).toNat : Int) ∧ ((dc row F).toNat : Int) ≤ 1 := by cases dc row F <;> decide
      obtain ⟨hd0, hd1⟩ := hd01
      generalize ((dc row F).toNat : Int) = d at *
      generalize turnL row = tr at *
      generalize (bs (tab n fun p => !F p)) = S8 at *
      generalize bs (tab n F) = S7 at *
      clear hrn hnc
      go_upto_region 11 with fail
      rw [HE7.out]
      generalize hq7e : w7.heap.size = q7 at HT7 ⊢
      clear HE7 hq7e
      obtain ⟨y0, y1, _, _⟩ := HT7.out
      go_wp2_with fail
      refine (HDE.out _ HO7.out).mono ?_
      rintro e w8 ⟨rfl, hb⟩
      have HT8 : Hid (Lay w8 q7 (.int .i64 (n : Int)) (.string S7)) := HT7.out.below hb
      have HO8 : Hid (Bools w8 ra row) := HO7.out.below hb
      have HB8 : Hid (Below w.heap.size w w8) := HB7.out.trans (hb.mono HB7.out.size)
      clear hb y0 y1 HT7 HO7 HB7 HDE
      obtain ⟨y0, y1, _, _⟩ := HT8.out
      go_wp2_with fail
      have DX : Lay w8.drew q7 (.int .i64 (n : Int)) (.string S7) := HT8.out.kept (S := fun _ => False) (Kept.refl _ _).drew (fun h => h)
      have DO : Hid (Bools w8.drew ra row) := HO8.out.below ((Below.refl _ _).drew)
      have HBD : Hid (Below w.heap.size w w8.drew) := HB8.out.drew
      clear HT8 HO8 HB8
      go_region_held3 (fun w' => w'.cell? ⟨q7, 0, none⟩ = some (.int .i64 (n : Int)) ∧ w'.cell? ⟨q7, 1, none⟩ = some (.string S7)) ((first | exact ⟨EX.c0, EX.c1⟩ | exact ⟨DX.c0, DX.c1⟩)) ((first | (go_at_call 12; (first | with_reducible refine (HTU.out _ EO.out).mono ?_ | with_reducible refine (HTU.out _ DO.out).mono ?_); rintro e w9 ⟨⟨ta, tc, rfl, hta⟩, hb⟩; have EX : Lay w9 q7 (.int .i64 (n : Int)) (.string S7) := (by first | exact EX.below hb | exact DX.below hb); have EO : Hid (Bools w9 ra row) := (by first | exact EO.out.below hb | exact DO.out.below hb); have HBE : Hid (Below w.heap.size w w9) := (by first | exact HBE.out.trans (hb.mono HBE.out.size) | exact HBD.out.trans (hb.mono HBD.out.size)); have ET : Hid (Bools w9 ta tr) := hta; clear hta hb) | (go_at_call 13; refine (HNO.out _).mono ?_; rintro e w9 ⟨rfl, hb⟩; have EX : Lay w9 q7 (.int .i64 (n : Int)) (.string S7) := (by first | exact EX.below hb | exact DX.below hb); have EO : Hid (Bools w9 ra row) := (by first | exact EO.out.below hb | exact DO.out.below hb); have HBE : Hid (Below w.heap.size w w9) := (by first | exact HBE.out.trans (hb.mono HBE.out.size) | exact HBD.out.trans (hb.mono HBD.out.size)); (try have ET : Hid (Bools w9 ta tr) := ET.out.below hb); clear hb) | (go_at_call 9; refine (HD2.out _ _ _ ET.out).mono ?_; rintro e w9 ⟨rfl, hb⟩; have EX : Lay w9 q7 (.int .i64 (n : Int)) (.string S7) := EX.below hb; have EO : Hid (Bools w9 ra row) := EO.out.below hb; have HBE : Hid (Below w.heap.size w w9) := HBE.out.trans (hb.mono HBE.out.size); clear hb)))
      all_goals
        have HB9 : Hid _ := HBE.out
        have HT9 : Hid _ := EX
        have HO9 : Hid _ := EO.out
        clear y0 y1 DX DO HBD HTU HNO HD2
        have e1 : (d == d) = true := beq_self_eq_true _
        have e2 : (1 - d == 1 - d) = true := beq_self_eq_true _
        have e3 : IntKind.i64.wrap (1 - d) = 1 - d := by rw [IntKind.wrap_i64] <;> omega
        obtain ⟨y0, y1, _, _⟩ := HT9.out
        go_wp2_with fail
        refine (HSD.out _ HO9.out).mono ?_
        rintro e wz ⟨rfl, hb⟩
        have HBZ : Hid (Below w.heap.size w wz) := HB9.out.trans (hb.mono HB9.out.size)
        clear hb y0 y1
        go_wp2
        go_ret
        exact ⟨rfl, HBZ.out⟩

end Go.Proofs.Ytiojfommmmggoaa.Lde1
