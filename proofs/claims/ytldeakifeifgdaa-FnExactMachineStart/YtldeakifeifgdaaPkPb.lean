/- Small texts of mine, one behind the other. -/
import Derived.Deep.CutRange
import Derived.Deep.RegionHeld3
import Derived.Deep.CutBlock
import Derived.Test.YtldeakifeifgdaaPkPc
import Derived.Test.YtldeakifeifgdaaCp0
import Derived.Test.YtldeakifeifgdaaPkPa
import Derived.Test.YtldeakifeifgdaaPkNd
import Derived.Test.YtldeakifeifgdaaTc3
/- The program's MachineStart. Written by tools/gen_ia0.py. -/
namespace Go.Proofs.Ytldeakifeifgdaa.Ia0
open Go.RowKit
open Ta0 Ta1 Ta2 Tc2 Tc5 Mm0 Mm1 Mm2 Mx0 Mi4 Sa0 Cp0
open Nd0 (Kept Ints lt_of_cell)
open Nd6 (Bools BoolsIn)
open Ap1 (Owb)
open Ss1 (tl)
set_option linter.unusedVariables false

theorem start_ok (row : List Bool) (N : Int) (S : ByteArray) (room : Int) : mokB (startM row N S room) = true ↔ (tokB N (tl S) = true ∧ (row.length : Int) = N) ∧ 0 ≤ room ∧ room ≤ 40 := by
  have hm : mokB (startM row N S room) = true ↔ Mok (startM row N S room) := by unfold mokB; simp
  rw [hm]
  constructor
  · intro h
    exact ⟨⟨h.tab, h.row⟩, h.room⟩
  · rintro ⟨⟨h1, h2⟩, h3⟩
    have hN : 0 ≤ N := by omega
    exact ⟨h1, h2, h3, (show ((0 : Nat) : Int) ≤ room by omega), (show ((0 : Nat) : Int) ≤ N by omega), ⟨by show (-1 : Int) ≤ -1; omega, by show (-1 : Int) ≤ 1; omega⟩, (fun e => by cases e), ⟨Int.le_refl 0, by show (0 : Int) ≤ 1000000000; omega⟩, ⟨Int.le_refl 0, by show (0 : Int) ≤ 1000000000; omega⟩, ⟨Int.le_refl 0, by show (0 : Int) ≤ 1000000000; omega⟩, (fun x hx => by cases hx), (fun x hx => by cases hx), fun i j hi => by cases hi⟩

set_option maxRecDepth 100000 in
set_option maxHeartbeats 8000000 in
theorem iStart (a : Option Addr) (c : Nat) (row : List Bool) (N : Int) (S : ByteArray) (room : Int) (w : World) (hS : S.size ≤ 1048576) (hl : row.length ≤ 1048576) (hR : Bools w a row) (M : Mc) (ok : Bool) (hM : (ok = true ∧ M = startM row N S room ∧ ((tokB N (tl S) = true ∧ (row.length : Int) = N) ∧ 0 ≤ room ∧ room ≤ 40)) ∨ (ok = false ∧ M = zeroM ∧ ¬ ((tokB N (tl S) = true ∧ (row.length : Int) = N) ∧ 0 ≤ room ∧ room ≤ 40))) :
    Calls Try.prog 16 #[.slice a row.length c, tv N S, .int .i64 room] w fun e w' => ∃ ra va ma rc vc mc, e = .returned (.tuple #[mval M ra va ma rc vc mc, .bool ok]) ∧ BoolsIn w' w.heap.size w'.heap.size ra M.row ∧ Below w.heap.size w w' := by
  have HR : Hid (Bools w a row) := hR
  have HMR : Hid (∀ W, Below w.heap.size w W → Mr W (startM row N S room) a none none) := fun W hb => ⟨hR.below hb, ⟨Nat.zero_le _, .inl rfl⟩, ⟨Nat.zero_le _, .inl rfl⟩⟩
  have HOK : Hid (∀ W, Below w.heap.size w W → Calls Try.prog 10 #[.agg #[.slice a row.length c, .int .i64 N, .string S, .int .i64 room, .slice none 0 0, .int .i64 (-1), .bool false, .int .i64 0, .int .i64 0, .int .i64 0, .slice none 0 0]] W fun e w' => e = .returned (.bool (mokB (startM row N S room))) ∧ Below W.heap.size W w') := fun W hb => iMachineOk (startM row N S room) a none none c 0 0 W hS (HMR.out W hb) (fun x hx => by cases hx)
  have HCP : Hid (∀ W, Below w.heap.size w W → Calls Try.prog 40 #[.agg #[.slice a row.length c, .int .i64 N, .string S, .int .i64 room, .slice none 0 0, .int .i64 (-1), .bool false, .int .i64 0, .int .i64 0, .int .i64 0, .slice none 0 0]] W fun e w' => ∃ ra' va' ma' rc' vc' mc' U1 U2, e = .returned (mval (startM row N S room) ra' va' ma' rc' vc' mc') ∧ W.heap.size ≤ U1 ∧ U1 ≤ U2 ∧ U2 ≤ w'.heap.size ∧ Owb w' W.heap.size (.slice ra' (startM row N S room).row.length rc') (startM row N S room).row ∧ (∀ x, ra' = some x → x.block < U1) ∧ Ap0.Ows w' U1 (.slice va' (startM row N S room).vals.length vc') (startM row N S room).vals ∧ (∀ x, va' = some x → x.block < U2) ∧ Qc2.OwSn w' U2 (.slice ma' (startM row N S room).memo.length mc') (startM row N S room).memo ∧ Below W.heap.size W w') := fun W hb => iCopied W (startM row N S room) a none none c 0 0 (HMR.out W hb) hl (Nat.zero_le _) (Nat.zero_le _)
  clear hR
  obtain ⟨W0, hW0⟩ : ∃ W0, W0 = (((w.alloc (.cells #[.int .i64 N, .string S] 31)).alloc (.cells #[.slice none 0 0, .int .i64 0, .string ⟨#[]⟩, .int .i64 0, .slice none 0 0, .int .i64 0, .bool false, .int .i64 0, .int .i64 0, .int .i64 0, .slice none 0 0] 34)).alloc (.cells #[.slice a row.length c, .int .i64 N, .string S, .int .i64 room, .slice none 0 0, .int .i64 (-1), .bool false, .int .i64 0, .int .i64 0, .int .i64 0, .slice none 0 0] 34)) := ⟨_, rfl⟩
  have HE0 : Hid ((((w.alloc (.cells #[.int .i64 N, .string S] 31)).alloc (.cells #[.slice none 0 0, .int .i64 0, .string ⟨#[]⟩, .int .i64 0, .slice none 0 0, .int .i64 0, .bool false, .int .i64 0, .int .i64 0, .int .i64 0, .slice none 0 0] 34)).alloc (.cells #[.slice a row.length c, .int .i64 N, .string S, .int .i64 room, .slice none 0 0, .int .i64 (-1), .bool false, .int .i64 0, .int .i64 0, .int .i64 0, .slice none 0 0] 34)) = W0) := hW0.symm
  have HB0 : Hid (Below w.heap.size w W0) := by rw [hW0]; exact (((Below.refl _ _).alloc (Nat.le_refl _) _).alloc (by simp) _).alloc (by simp <;> omega) _
  have HZ0 : Hid (Mf W0 (w.heap.size + 1) [.slice none 0 0, .int .i64 0, .string ⟨#[]⟩, .int .i64 0, .slice none 0 0, .int .i64 0, .bool false, .int .i64 0, .int .i64 0, .int .i64 0, .slice none 0 0]) := by
    have h1 := (Mf.made (w.alloc (.cells #[.int .i64 N, .string S] 31)) #[.slice none 0 0, .int .i64 0, .string ⟨#[]⟩, .int .i64 0, .slice none 0 0, .int .i64 0, .bool false, .int .i64 0, .int .i64 0, .int .i64 0, .slice none 0 0] 34).alloc (.cells #[.slice a row.length c, .int .i64 N, .string S, .int .i64 room, .slice none 0 0, .int .i64 (-1), .bool false, .int .i64 0, .int .i64 0, .int .i64 0, .slice none 0 0] 34)
    have h2 : (w.alloc (.cells #[.int .i64 N, .string S] 31)).heap.size = w.heap.size + 1 := by simp
    rw [h2, ← hW0] at h1
    exact h1
  have HX0 : Hid (Mf W0 (w.heap.size + 1 + 1) [.slice a row.length c, .int .i64 N, .string S, .int .i64 room, .slice none 0 0, .int .i64 (-1), .bool false, .int .i64 0, .int .i64 0, .int .i64 0, .slice none 0 0]) := by
    have h1 := Mf.made ((w.alloc (.cells #[.int .i64 N, .string S] 31)).alloc (.cells #[.slice none 0 0, .int .i64 0, .string ⟨#[]⟩, .int .i64 0, .slice none 0 0, .int .i64 0, .bool false, .int .i64 0, .int .i64 0, .int .i64 0, .slice none 0 0] 34)) #[.slice a row.length c, .int .i64 N, .string S, .int .i64 room, .slice none 0 0, .int .i64 (-1), .bool false, .int .i64 0, .int .i64 0, .int .i64 0, .slice none 0 0] 34
    have h2 : ((w.alloc (.cells #[.int .i64 N, .string S] 31)).alloc (.cells #[.slice none 0 0, .int .i64 0, .string ⟨#[]⟩, .int .i64 0, .slice none 0 0, .int .i64 0, .bool false, .int .i64 0, .int .i64 0, .int .i64 0, .slice none 0 0] 34)).heap.size = w.heap.size + 1 + 1 := by simp
    rw [h2, ← hW0] at h1
    exact h1
  clear hW0
  rcases hM with ⟨rfl, rfl, hgood⟩ | ⟨rfl, rfl, hbad⟩
  · have hk : mokB (startM row N S room) = true := (start_ok row N S room).2 hgood
    rw [hk] at HOK
    clear hk hgood
    go_enter Try.func16, Try.ntmps16
    go_upto_region 2 with fail
    rw [HE0.out]
    clear HE0
    obtain ⟨d0, d1, d2, d3, d4, d5, d6, d7, d8, d9, d10, z0, z1, z2, z3, z4, z5, z6, z7, z8, z9, z10⟩ := HX0.out.all
    go_wp2_with fail
    refine (HOK.out _ HB0.out).mono ?_
    rintro e w1 ⟨rfl, hb⟩
    have HB1 : Hid (Below w.heap.size w w1) := HB0.out.trans (hb.mono HB0.out.size)
    have HZ1 : Hid (Mf w1 (w.heap.size + 1) [.slice none 0 0, .int .i64 0, .string ⟨#[]⟩, .int .i64 0, .slice none 0 0, .int .i64 0, .bool false, .int .i64 0, .int .i64 0, .int .i64 0, .slice none 0 0]) := HZ0.out.below hb
    have HX1 : Hid (Mf w1 (w.heap.size + 1 + 1) [.slice a row.length c, .int .i64 N, .string S, .int .i64 room, .slice none 0 0, .int .i64 (-1), .bool false, .int .i64 0, .int .i64 0, .int .i64 0, .slice none 0 0]) := HX0.out.below hb
    clear hb d0 z0 d1 z1 d2 z2 d3 z3 d4 z4 d5 z5 d6 z6 d7 z7 d8 z8 d9 z9 d10 z10
    obtain ⟨d0, d1, d2, d3, d4, d5, d6, d7, d8, d9, d10, z0, z1, z2, z3, z4, z5, z6, z7, z8, z9, z10⟩ := HX1.out.all
    go_wp2_with fail
    clear d0 z0 d1 z1 d2 z2 d3 z3 d4 z4 d5 z5 d6 z6 d7 z7 d8 z8 d9 z9 d10 z10
    refine (HCP.out _ HB1.out).mono ?_
    rintro e w2 ⟨ra', va', ma', rc', vc', mc', U1, U2, rfl, hu0, hu1, hu2, ho, hlt, _, _, _, hb⟩
    have HB2 : Hid (Below w.heap.size w w2) := HB1.out.trans (hb.mono HB1.out.size)
    have HZ2 : Hid (Mf w2 (w.heap.size + 1) [.slice none 0 0, .int .i64 0, .string ⟨#[]⟩, .int .i64 0, .slice none 0 0, .int .i64 0, .bool false, .int .i64 0, .int .i64 0, .int .i64 0, .slice none 0 0]) := HZ1.out.below hb
    have HOW : Hid (Owb w2 w1.heap.size (.slice ra' row.length rc') row) := ho
    have HSZ : Hid (w.heap.size + 1 < w1.heap.size) := HZ1.out.lt (by simp)
    clear hb ho hlt hu0 hu1 hu2
    obtain ⟨d0, d1, d2, d3, d4, d5, d6, d7, d8, d9, d10, z0, z1, z2, z3, z4, z5, z6, z7, z8, z9, z10⟩ := HZ2.out.all
    unfold startM
    go_wp2
    clear d0 z0 d1 z1 d2 z2 d3 z3 d4 z4 d5 z5 d6 z6 d7 z7 d8 z8 d9 z9 d10 z10
    obtain ⟨WF, hWF⟩ : ∃ WF, WF = (((((((((((w2).setCell ⟨w.heap.size + 1, 0, none⟩ ((.slice ra' row.length rc'))).setCell ⟨w.heap.size + 1, 1, none⟩ (.int .i64 N)).setCell ⟨w.heap.size + 1, 2, none⟩ (.string S)).setCell ⟨w.heap.size + 1, 3, none⟩ (.int .i64 room)).setCell ⟨w.heap.size + 1, 4, none⟩ ((.slice va' 0 vc'))).setCell ⟨w.heap.size + 1, 5, none⟩ (.int .i64 (-1))).setCell ⟨w.heap.size + 1, 6, none⟩ (.bool false)).setCell ⟨w.heap.size + 1, 7, none⟩ (.int .i64 0)).setCell ⟨w.heap.size + 1, 8, none⟩ (.int .i64 0)).setCell ⟨w.heap.size + 1, 9, none⟩ (.int .i64 0)).setCell ⟨w.heap.size + 1, 10, none⟩ ((.slice ma' 0 mc')) := ⟨_, rfl⟩
    rw [← hWF]
    have KF : Kept (fun b => b = w.heap.size + 1) w2 WF := by rw [hWF]; exact ((((((((((((Kept.refl (fun b => b = w.heap.size + 1) w2)).setCell (p := ⟨w.heap.size + 1, 0, none⟩) rfl _).setCell (p := ⟨w.heap.size + 1, 1, none⟩) rfl _).setCell (p := ⟨w.heap.size + 1, 2, none⟩) rfl _).setCell (p := ⟨w.heap.size + 1, 3, none⟩) rfl _).setCell (p := ⟨w.heap.size + 1, 4, none⟩) rfl _).setCell (p := ⟨w.heap.size + 1, 5, none⟩) rfl _).setCell (p := ⟨w.heap.size + 1, 6, none⟩) rfl _).setCell (p := ⟨w.heap.size + 1, 7, none⟩) rfl _).setCell (p := ⟨w.heap.size + 1, 8, none⟩) rfl _).setCell (p := ⟨w.heap.size + 1, 9, none⟩) rfl _).setCell (p := ⟨w.heap.size + 1, 10, none⟩) rfl _
    have HF : Mf WF (w.heap.size + 1) [(.slice ra' row.length rc'), .int .i64 N, .string S, .int .i64 room, (.slice va' 0 vc'), .int .i64 (-1), .bool false, .int .i64 0, .int .i64 0, .int .i64 0, (.slice ma' 0 mc')] := by
      rw [hWF]
      exact (((((((((((HZ2.out.set 0 ((.slice ra' row.length rc'))).set 1 (.int .i64 N)).set 2 (.string S)).set 3 (.int .i64 room)).set 4 ((.slice va' 0 vc'))).set 5 (.int .i64 (-1))).set 6 (.bool false)).set 7 (.int .i64 0)).set 8 (.int .i64 0)).set 9 (.int .i64 0)).set 10 ((.slice ma' 0 mc')))
    obtain ⟨e0, e1, e2, e3, e4, e5, e6, e7, e8, e9, e10, f0, f1, f2, f3, f4, f5, f6, f7, f8, f9, f10⟩ := HF.all
    have hs := HSZ.out
    have f1 := HOW.out.kept KF (fun k hk h => by have := HOW.out.lt k hk; omega)
    obtain ⟨fa, fc, hfe, hfw⟩ := f1.form
    cases hfe
    have hin := Nd6.WBools.within hfw
    exact bodyPost_ret (v := .tuple #[mval (startM row N S room) ra' va' ma' rc' vc' mc', .bool true]) (by simp [results, Try.results16, go_sem, startM, e0, e1, e2, e3, e4, e5, e6, e7, e8, e9, e10]) rfl ⟨ra', va', ma', rc', vc', mc', rfl, ⟨hin.1, by
      rcases hin.2 with e | ⟨b, o, ha, hb, hu, r⟩
      · exact .inl e
      · exact .inr ⟨b, o, ha, by omega, hu, r⟩⟩, HB2.out.trans (KF.below (fun b hb => by omega) HB2.out.size)⟩
  · have hk : mokB (startM row N S room) = false := Bool.eq_false_iff.2 fun e => hbad ((start_ok row N S room).1 e)
    rw [hk] at HOK
    clear hk hbad HCP
    go_enter Try.func16, Try.ntmps16
    go_upto_region 2 with fail
    rw [HE0.out]
    clear HE0
    obtain ⟨d0, d1, d2, d3, d4, d5, d6, d7, d8, d9, d10, z0, z1, z2, z3, z4, z5, z6, z7, z8, z9, z10⟩ := HX0.out.all
    go_wp2_with fail
    refine (HOK.out _ HB0.out).mono ?_
    rintro e w1 ⟨rfl, hb⟩
    have HB1 : Hid (Below w.heap.size w w1) := HB0.out.trans (hb.mono HB0.out.size)
    have HZ1 : Hid (Mf w1 (w.heap.size + 1) [.slice none 0 0, .int .i64 0, .string ⟨#[]⟩, .int .i64 0, .slice none 0 0, .int .i64 0, .bool false, .int .i64 0, .int .i64 0, .int .i64 0, .slice none 0 0]) := HZ0.out.below hb
    clear hb d0 z0 d1 z1 d2 z2 d3 z3 d4 z4 d5 z5 d6 z6 d7 z7 d8 z8 d9 z9 d10 z10
    obtain ⟨d0, d1, d2, d3, d4, d5, d6, d7, d8, d9, d10, z0, z1, z2, z3, z4, z5, z6, z7, z8, z9, z10⟩ := HZ1.out.all
    go_wp2
    clear d0 z0 d1 z1 d2 z2 d3 z3 d4 z4 d5 z5 d6 z6 d7 z7 d8 z8 d9 z9 d10 z10
    obtain ⟨WF, hWF⟩ : ∃ WF, WF = (((((((((((w1).setCell ⟨w.heap.size + 1, 0, none⟩ (.slice none 0 0)).setCell ⟨w.heap.size + 1, 1, none⟩ (.int .i64 0)).setCell ⟨w.heap.size + 1, 2, none⟩ (.string ⟨#[]⟩)).setCell ⟨w.heap.size + 1, 3, none⟩ (.int .i64 0)).setCell ⟨w.heap.size + 1, 4, none⟩ (.slice none 0 0)).setCell ⟨w.heap.size + 1, 5, none⟩ (.int .i64 0)).setCell ⟨w.heap.size + 1, 6, none⟩ (.bool false)).setCell ⟨w.heap.size + 1, 7, none⟩ (.int .i64 0)).setCell ⟨w.heap.size + 1, 8, none⟩ (.int .i64 0)).setCell ⟨w.heap.size + 1, 9, none⟩ (.int .i64 0)).setCell ⟨w.heap.size + 1, 10, none⟩ (.slice none 0 0) := ⟨_, rfl⟩
    rw [← hWF]
    have KF : Kept (fun b => b = w.heap.size + 1) w1 WF := by rw [hWF]; exact ((((((((((((Kept.refl (fun b => b = w.heap.size + 1) w1)).setCell (p := ⟨w.heap.size + 1, 0, none⟩) rfl _).setCell (p := ⟨w.heap.size + 1, 1, none⟩) rfl _).setCell (p := ⟨w.heap.size + 1, 2, none⟩) rfl _).setCell (p := ⟨w.heap.size + 1, 3, none⟩) rfl _).setCell (p := ⟨w.heap.size + 1, 4, none⟩) rfl _).setCell (p := ⟨w.heap.size + 1, 5, none⟩) rfl _).setCell (p := ⟨w.heap.size + 1, 6, none⟩) rfl _).setCell (p := ⟨w.heap.size + 1, 7, none⟩) rfl _).setCell (p := ⟨w.heap.size + 1, 8, none⟩) rfl _).setCell (p := ⟨w.heap.size + 1, 9, none⟩) rfl _).setCell (p := ⟨w.heap.size + 1, 10, none⟩) rfl _
    have HF : Mf WF (w.heap.size + 1) [.slice none 0 0, .int .i64 0, .string ⟨#[]⟩, .int .i64 0, .slice none 0 0, .int .i64 0, .bool false, .int .i64 0, .int .i64 0, .int .i64 0, .slice none 0 0] := by
      rw [hWF]
      exact (((((((((((HZ1.out.set 0 (.slice none 0 0)).set 1 (.int .i64 0)).set 2 (.string ⟨#[]⟩)).set 3 (.int .i64 0)).set 4 (.slice none 0 0)).set 5 (.int .i64 0)).set 6 (.bool false)).set 7 (.int .i64 0)).set 8 (.int .i64 0)).set 9 (.int .i64 0)).set 10 (.slice none 0 0))
    obtain ⟨e0, e1, e2, e3, e4, e5, e6, e7, e8, e9, e10, f0, f1, f2, f3, f4, f5, f6, f7, f8, f9, f10⟩ := HF.all
    exact bodyPost_ret (v := .tuple #[mval zeroM none none none 0 0 0, .bool false]) (by simp [results, Try.results16, go_sem, zeroM, e0, e1, e2, e3, e4, e5, e6, e7, e8, e9, e10]) rfl ⟨none, none, none, 0, 0, 0, rfl, ⟨Nat.zero_le _, .inl rfl⟩, HB1.out.trans (KF.below (fun b hb => by omega) HB1.out.size)⟩

end Go.Proofs.Ytldeakifeifgdaa.Ia0

/- Marks on a machine without values and memo. Written by tools/gen_mk0.py. -/
namespace Go.Proofs.Ytldeakifeifgdaa.Mk0
open Go.RowKit
open Nd0 (Kept Ints WInts Ats marks)
open Nd6 (Bools markBoolS heldBoolS markB markIntB heldIntB BoolsIn)
open Ap1 (WBools)
open Mm0 Mx0
set_option linter.unusedVariables false

set_option maxHeartbeats 1000000 in
theorem markSeen0 (w : World) (a : Option Addr) (c : Nat) (k : Int) : Calls Try.prog 42 #[.slice a 0 c, .int .i64 k] w fun e w' => e = .returned (.int .i64 k) ∧ w' = w := by
  go_enter Try.func42, Try.ntmps42
  go_wp2
  go_loopw [1, 5] (fun q i wr => i = .int .i64 0 ∧ q = .int .i64 k ∧ wr = w) (fun _ _ _ => 0)
  case atStart => exact ⟨rfl, rfl, rfl⟩
  case round =>
    obtain ⟨rfl, rfl, hw⟩ := hrel
    subst hw
    go_wp2
    go_ret
    exact ⟨rfl, rfl⟩
set_option maxHeartbeats 1000000 in
theorem heldSeen0 (w : World) (a : Option Addr) (c : Nat) (k : Int) : Calls Try.prog 45 #[.slice a 0 c, .int .i64 k] w fun e w' => e = .returned (.int .i64 k) ∧ w' = w := by
  go_enter Try.func45, Try.ntmps45
  go_wp2
  go_loopw [1, 5] (fun q i wr => i = .int .i64 0 ∧ q = .int .i64 k ∧ wr = w) (fun _ _ _ => 0)
  case atStart => exact ⟨rfl, rfl, rfl⟩
  case round =>
    obtain ⟨rfl, rfl, hw⟩ := hrel
    subst hw
    go_wp2
    go_ret
    exact ⟨rfl, rfl⟩

set_option maxRecDepth 100000 in
set_option maxHeartbeats 2000000 in
theorem markMachine0 (w : World) (m : Mc) (ra va ma : Option Addr) (rc vc mc B : Nat) (hv : m.vals = []) (hm : m.memo = []) (h : WBools w B ra m.row) (hl : m.row.length ≤ 1048576) :
    Calls Try.prog 19 #[mval m ra va ma rc vc mc, .int .i64 1] w fun e w' => e = .returned (.int .i64 (1 + m.row.length)) ∧ WBools w' B ra (markB m.row.length 1) ∧ Kept (Ats m.row.length ra) w w' := by
  have HW : Hid (WBools w B ra m.row) := h
  have HV : Hid (m.vals = []) := hv
  have HM : Hid (m.memo = []) := hm
  clear h hv hm
  have HVL : Hid (m.vals.length = 0) := by show _ = _; rw [HV.out]; rfl
  have HML : Hid (m.memo.length = 0) := by show _ = _; rw [HM.out]; rfl
  have HA0 : Hid (Mb (w.alloc (.cells #[.slice ra m.row.length rc, .int .i64 m.N, .string m.S, .int .i64 m.room, .slice va m.vals.length vc, .int .i64 m.ret, .bool m.over, .int .i64 m.steps, .int .i64 m.looks, .int .i64 m.hits, .slice ma m.memo.length mc] 34)) w.heap.size m ra va ma rc vc mc) := Mb.made _ _ _ _ _ _ _ _ _
  have K0 : Kept (fun _ => False) w (w.alloc (.cells #[.slice ra m.row.length rc, .int .i64 m.N, .string m.S, .int .i64 m.room, .slice va m.vals.length vc, .int .i64 m.ret, .bool m.over, .int .i64 m.steps, .int .i64 m.looks, .int .i64 m.hits, .slice ma m.memo.length mc] 34)) := (Kept.refl _ _).alloc _
  have HK0 : Hid (Kept (Ats m.row.length ra) w (w.alloc (.cells #[.slice ra m.row.length rc, .int .i64 m.N, .string m.S, .int .i64 m.room, .slice va m.vals.length vc, .int .i64 m.ret, .bool m.over, .int .i64 m.steps, .int .i64 m.looks, .int .i64 m.hits, .slice ma m.memo.length mc] 34))) := K0.mono (fun _ e => e.elim)
  have HW0 : Hid (WBools (w.alloc (.cells #[.slice ra m.row.length rc, .int .i64 m.N, .string m.S, .int .i64 m.room, .slice va m.vals.length vc, .int .i64 m.ret, .bool m.over, .int .i64 m.steps, .int .i64 m.looks, .int .i64 m.hits, .slice ma m.memo.length mc] 34)) B ra m.row) := ((Nd6.WBools.within HW.out).kept K0 (fun _ _ _ e => e)).wr
  have HIN : Hid (BoolsIn w B w.heap.size ra m.row) := Nd6.WBools.within HW.out
  clear K0
  go_enter Try.func19, Try.ntmps19
  go_wp2_with fail
  refine (markBoolS _ B ra m.row rc HW0.out 1 (by omega) (by omega) hl).mono ?_
  rintro e w1 ⟨rfl, hw1, hk1⟩
  have HW1 : Hid (WBools w1 B ra (markB m.row.length 1)) := hw1
  have HK1 : Hid (Kept (Ats m.row.length ra) w w1) := HK0.out.trans hk1
  have HA1 : Hid (Mb w1 w.heap.size m ra va ma rc vc mc) := HA0.out.kept hk1 (fun h => by have := HIN.out.ats h; omega)
  clear hw1 hk1 HA0 HK0 HW0
  obtain ⟨m0, m1, m2, m3, m4, m5, m6, m7, m8, m9, m10⟩ := HA1.out
  go_wp2_with fail
  have hI : WInts w1 B va m.vals := by rw [HV.out]; exact ⟨Nat.zero_le _, .inl rfl⟩
  refine (markIntB w1 B va m.vals vc hI (1 + (m.row.length : Int)) (by omega) (by omega) (by rw [HVL.out]; omega)).mono ?_
  rintro e w2 ⟨rfl, _, hk2⟩
  rw [HVL.out] at hk2 ⊢
  have K2 : Kept (fun _ => False) w1 w2 := ⟨hk2.os, hk2.tape, hk2.output, hk2.size, fun k hk hn => hk2.block k hk (fun h => by have := h.1; omega)⟩
  have HW2 : Hid (WBools w2 B ra (markB m.row.length 1)) := ((Nd6.WBools.within HW1.out).kept K2 (fun _ _ _ e => e)).wr
  have HK2 : Hid (Kept (Ats m.row.length ra) w w2) := HK1.out.trans (K2.mono (fun _ e => e.elim))
  have HA2 : Hid (Mb w2 w.heap.size m ra va ma rc vc mc) := HA1.out.kept K2 (fun h => h)
  clear hk2 K2 hI m0 m1 m2 m3 m4 m5 m6 m7 m8 m9 m10 HA1 HK1 HW1
  obtain ⟨m0, m1, m2, m3, m4, m5, m6, m7, m8, m9, m10⟩ := HA2.out
  rw [HML.out] at m10
  go_wp2_with fail
  refine (markSeen0 _ ma mc _).mono ?_
  rintro e w3 ⟨rfl, hw3⟩
  have hw3' := hw3.symm
  clear hw3
  subst hw3'
  go_wp2
  go_ret
  exact ⟨by simp, HW2.out, HK2.out⟩

set_option maxRecDepth 100000 in
set_option maxHeartbeats 2000000 in
theorem heldMachine0 (w : World) (m : Mc) (ra va ma : Option Addr) (rc vc mc : Nat) (hv : m.vals = []) (hm : m.memo = []) (h : Bools w ra (markB m.row.length 1)) (hl : m.row.length ≤ 1048576) :
    Calls Try.prog 20 #[mval m ra va ma rc vc mc, .int .i64 1] w fun e w' => e = .returned (.int .i64 (1 + m.row.length)) ∧ Below w.heap.size w w' := by
  have HW : Hid (Bools w ra (markB m.row.length 1)) := h
  have HV : Hid (m.vals = []) := hv
  clear h hv
  have HVL : Hid (m.vals.length = 0) := by show _ = _; rw [HV.out]; rfl
  have HML : Hid (m.memo.length = 0) := by show _ = _; rw [hm]; rfl
  clear hm
  have HA0 : Hid (Mb (w.alloc (.cells #[.slice ra m.row.length rc, .int .i64 m.N, .string m.S, .int .i64 m.room, .slice va m.vals.length vc, .int .i64 m.ret, .bool m.over, .int .i64 m.steps, .int .i64 m.looks, .int .i64 m.hits, .slice ma m.memo.length mc] 34)) w.heap.size m ra va ma rc vc mc) := Mb.made _ _ _ _ _ _ _ _ _
  have HB0 : Hid (Below w.heap.size w (w.alloc (.cells #[.slice ra m.row.length rc, .int .i64 m.N, .string m.S, .int .i64 m.room, .slice va m.vals.length vc, .int .i64 m.ret, .bool m.over, .int .i64 m.steps, .int .i64 m.looks, .int .i64 m.hits, .slice ma m.memo.length mc] 34))) := (Below.refl _ _).alloc (Nat.le_refl _) _
  have hq : ¬ (1 : Int) + (m.row.length : Int) < 0 := by omega
  go_enter Try.func20, Try.ntmps20
  go_wp2_with fail
  refine (heldBoolS _ ra m.row.length rc 1 (HW.out.below HB0.out) (by omega) (by omega) hl).mono ?_
  rintro e w1 ⟨rfl, hw1⟩
  have HB1 : Hid (Below w.heap.size w w1) := by rw [hw1]; exact HB0.out
  have HA1 : Hid (Mb w1 w.heap.size m ra va ma rc vc mc) := by rw [hw1]; exact HA0.out
  clear hw1 HB0 HA0
  obtain ⟨m0, m1, m2, m3, m4, m5, m6, m7, m8, m9, m10⟩ := HA1.out
  rw [HVL.out] at m4
  rw [HML.out] at m10
  go_wp2_with fail
  refine (heldIntB w1 va 0 vc (1 + (m.row.length : Int)) ⟨Nat.zero_le _, .inl rfl⟩ (by omega) (by omega) (by omega)).mono ?_
  rintro e w2 ⟨rfl, hw2⟩
  have hw2' := hw2.symm
  clear hw2
  subst hw2'
  have hz : (1 : Int) + (m.row.length : Int) + ((0 : Nat) : Int) = 1 + (m.row.length : Int) := by omega
  rw [hz]
  go_wp2_with fail
  refine (heldSeen0 _ ma mc _).mono ?_
  rintro e w3 ⟨rfl, hw3⟩
  have hw3' := hw3.symm
  clear hw3
  subst hw3'
  go_wp2
  go_ret
  exact ⟨rfl, HB1.out⟩

end Go.Proofs.Ytldeakifeifgdaa.Mk0

/- The exact law of MachineStart. Written by tools/mkmx2.py. -/
namespace Go.Proofs.Ytldeakifeifgdaa.Lx43
open Go.RowKit
open Nd0 Nd1 Nd6 Ap1 Dq0
open Ta0 Ta1 Tc2
open Tc3 (Tbx szTable toTable eqTable)
open Ss0 (bs bs_size)
open Ss1 (tl bs_tl)
open Mm0 Mx0 Sa0 Ia0 Mk0
set_option linter.unusedVariables false

theorem tok_str {N : Int} {S : ByteArray} (h : tokB N (tl S) = true) : ∃ (n : Nat) (F : Nat → Bool), n ≤ 12 ∧ N = (n : Int) ∧ S = bs (tab n F) := by
  obtain ⟨n, F, h1, h2, h3⟩ := tok_tab h
  exact ⟨n, F, h1, h2, by rw [← bs_tl S, h3]⟩
theorem toBoolE (w : World) (a : Option Addr) (l : List Bool) (c : Nat) (h : Bools w a l) (hl : l.length ≤ 1048576) :
    Calls Try.prog 14 #[.slice a l.length c] w fun e w' => ∃ g, e = .returned (.slice (some ⟨g, 0, none⟩) l.length l.length) ∧ w.heap.size ≤ g ∧ WBools w' w.heap.size (some ⟨g, 0, none⟩) l ∧ Below w.heap.size w w' :=
  (toBoolS w a l c h hl).mono fun e w' h => ⟨w.heap.size, h.1, Nat.le_refl _, h.2.1, h.2.2⟩
theorem Tbx.drew {W : World} {g : Nat} {N : Int} {S : ByteArray} (h : Tbx W g N S) : Tbx W.drew g N S := ⟨h.c0, h.c1⟩
theorem boolsDrew {W : World} {a : Option Addr} {l : List Bool} (h : Bools W a l) : Bools W.drew a l := h

theorem bStart (row : List Bool) (N : Int) (S : ByteArray) (room : Int) (hS : S.size ≤ 1048576) (hl : row.length ≤ 1048576) : ∃ (M : Mc) (ok : Bool), (M.vals = [] ∧ M.memo = [] ∧ M.row.length ≤ 1048576) ∧ (∀ (W : World) (g : Nat) (c : Nat), Bools W (some ⟨g, 0, none⟩) row → Calls Try.prog 13 #[.slice (some ⟨g, 0, none⟩) row.length c, tv N S, .int .i64 room] W fun e w' => ∃ ra va ma rc vc mc, e = .returned (.tuple #[mval M ra va ma rc vc mc, .bool ok]) ∧ BoolsIn w' W.heap.size w'.heap.size ra M.row ∧ Below W.heap.size W w') ∧ (∀ (W : World) (a : Option Addr) (c : Nat), Bools W a row → Calls Try.prog 16 #[.slice a row.length c, tv N S, .int .i64 room] W fun e w' => ∃ ra va ma rc vc mc, e = .returned (.tuple #[mval M ra va ma rc vc mc, .bool ok]) ∧ BoolsIn w' W.heap.size w'.heap.size ra M.row ∧ Below W.heap.size W w') := by
  by_cases h : (tokB N (tl S) = true ∧ (row.length : Int) = N) ∧ 0 ≤ room ∧ room ≤ 40
  · have hl2 : row.length ≤ 12 := by
      obtain ⟨n, F, hn, hN, _⟩ := tok_tab h.1.1
      have := h.1.2
      omega
    exact ⟨startM row N S room, true, ⟨rfl, rfl, hl⟩, fun W g c hB => (sStart1 g 0 c row N S room W hS hl2 hB h).mono fun e w' h => by
      obtain ⟨g', cp, h1, h2, h3⟩ := h
      exact ⟨_, _, _, _, _, _, h1, h2, h3⟩, fun W a c hB => iStart a c row N S room W hS hl hB _ true (.inl ⟨rfl, rfl, h⟩)⟩
  · exact ⟨zeroM, false, ⟨rfl, rfl, Nat.zero_le _⟩, fun W g c hB => (sStart0 _ row.length c N S room W hS h).mono fun e w' h => ⟨_, _, _, _, _, _, h.1, ⟨Nat.zero_le _, .inl rfl⟩, h.2⟩, fun W a c hB => iStart a c row N S room W hS hl hB _ false (.inr ⟨rfl, rfl, h⟩)⟩
theorem mrE {W : World} {M : Mc} {ra va ma : Option Addr} (hv : M.vals = []) (hm : M.memo = []) (h : Bools W ra M.row) : Mr W M ra va ma := ⟨h, by rw [hv]; exact ⟨Nat.zero_le _, .inl rfl⟩, by rw [hm]; exact ⟨Nat.zero_le _, .inl rfl⟩⟩
theorem Mf.madeE (W : World) (A : Array Value) (T : Nat) : Mf (W.alloc (.cells A T)).drew W.heap.size A.toList := (Mf.made W A T).kept (S := fun _ => False) (Kept.refl _ _).drew (fun h => h)
/-- What stands of the table that is handed in. -/
structure TA (w y : World) (N : Int) (S : ByteArray) (W : World) : Prop where
  x : Tbx W w.heap.size N S
  bel : Below y.heap.size y W
theorem TA.below {w y : World} {N : Int} {S : ByteArray} {W W' : World} (h : TA w y N S W) (k : Below W.heap.size W W') : TA w y N S W' := ⟨h.x.below k, h.bel.trans (k.mono h.bel.size)⟩
theorem TA.alloc {w y : World} {N : Int} {S : ByteArray} {W : World} (h : TA w y N S W) (o : Obj) : TA w y N S (W.alloc o) := h.below ((Below.refl _ _).alloc (Nat.le_refl _) _)
theorem TA.drew {w y : World} {N : Int} {S : ByteArray} {W : World} (h : TA w y N S W) : TA w y N S W.drew := h.below (Below.refl _ _).drew
theorem TA.kept {w y : World} {N : Int} {S : ByteArray} {W W' : World} {z : Nat} (h : TA w y N S W) (k : Kept (fun b => b = z) W W') (h1 : w.heap.size < z) (h2 : y.heap.size ≤ z) : TA w y N S W' :=
  ⟨⟨by rw [k.cell (p := ⟨w.heap.size, 0, none⟩) (World.block_lt_of_cell? _ _ h.x.c0) (show ¬ w.heap.size = z by omega)]; exact h.x.c0, by rw [k.cell (p := ⟨w.heap.size, 1, none⟩) (World.block_lt_of_cell? _ _ h.x.c1) (show ¬ w.heap.size = z by omega)]; exact h.x.c1⟩, h.bel.trans (k.below (fun b hb => by omega) h.bel.size)⟩
theorem bal {W : World} {a : Option Addr} {l : List Bool} (h : Bools W a l) (o : Obj) : Bools (W.alloc o) a l := h.below ((Below.refl _ _).alloc (Nat.le_refl _) _)
theorem bin_alloc {W : World} {B U : Nat} {a : Option Addr} {l : List Bool} (h : BoolsIn W B U a l) (o : Obj) : BoolsIn (W.alloc o) B U a l := h.below ((Below.refl _ _).alloc (Nat.le_refl _) _)
theorem bin_mono {W : World} {B U B' U' : Nat} {a : Option Addr} {l : List Bool} (h : BoolsIn W B U a l) (h1 : B' ≤ B) (h2 : U ≤ U') : BoolsIn W B' U' a l := by
  refine ⟨h.1, ?_⟩
  rcases h.2 with e | ⟨b, o, ha, hb, hu, r⟩
  · exact .inl e
  · exact .inr ⟨b, o, ha, by omega, by omega, r⟩
theorem put11 {W : World} {z : Nat} {M : Mc} (hL : Mf W z [.slice none 0 0, .int .i64 0, .string ⟨#[]⟩, .int .i64 0, .slice none 0 0, .int .i64 0, .bool false, .int .i64 0, .int .i64 0, .int .i64 0, .slice none 0 0]) (ra va ma : Option Addr) (rc vc mc : Nat) : Mb ((((((((((((W).setCell ⟨z, 0, none⟩ (.slice ra M.row.length rc)).setCell ⟨z, 1, none⟩ (.int .i64 M.N)).setCell ⟨z, 2, none⟩ (.string M.S)).setCell ⟨z, 3, none⟩ (.int .i64 M.room)).setCell ⟨z, 4, none⟩ (.slice va M.vals.length vc)).setCell ⟨z, 5, none⟩ (.int .i64 M.ret)).setCell ⟨z, 6, none⟩ (.bool M.over)).setCell ⟨z, 7, none⟩ (.int .i64 M.steps)).setCell ⟨z, 8, none⟩ (.int .i64 M.looks)).setCell ⟨z, 9, none⟩ (.int .i64 M.hits)).setCell ⟨z, 10, none⟩ (.slice ma M.memo.length mc)) z M ra va ma rc vc mc ∧ Kept (fun b => b = z) W ((((((((((((W).setCell ⟨z, 0, none⟩ (.slice ra M.row.length rc)).setCell ⟨z, 1, none⟩ (.int .i64 M.N)).setCell ⟨z, 2, none⟩ (.string M.S)).setCell ⟨z, 3, none⟩ (.int .i64 M.room)).setCell ⟨z, 4, none⟩ (.slice va M.vals.length vc)).setCell ⟨z, 5, none⟩ (.int .i64 M.ret)).setCell ⟨z, 6, none⟩ (.bool M.over)).setCell ⟨z, 7, none⟩ (.int .i64 M.steps)).setCell ⟨z, 8, none⟩ (.int .i64 M.looks)).setCell ⟨z, 9, none⟩ (.int .i64 M.hits)).setCell ⟨z, 10, none⟩ (.slice ma M.memo.length mc)) :=
  ⟨Mf.mb (by exact (((((((((((hL.set 0 (.slice ra M.row.length rc)).set 1 (.int .i64 M.N)).set 2 (.string M.S)).set 3 (.int .i64 M.room)).set 4 (.slice va M.vals.length vc)).set 5 (.int .i64 M.ret)).set 6 (.bool M.over)).set 7 (.int .i64 M.steps)).set 8 (.int .i64 M.looks)).set 9 (.int .i64 M.hits)).set 10 (.slice ma M.memo.length mc))), ((((((((((((Kept.refl (fun b => b = z) W)).setCell (p := ⟨z, 0, none⟩) rfl _).setCell (p := ⟨z, 1, none⟩) rfl _).setCell (p := ⟨z, 2, none⟩) rfl _).setCell (p := ⟨z, 3, none⟩) rfl _).setCell (p := ⟨z, 4, none⟩) rfl _).setCell (p := ⟨z, 5, none⟩) rfl _).setCell (p := ⟨z, 6, none⟩) rfl _).setCell (p := ⟨z, 7, none⟩) rfl _).setCell (p := ⟨z, 8, none⟩) rfl _).setCell (p := ⟨z, 9, none⟩) rfl _).setCell (p := ⟨z, 10, none⟩) rfl _⟩

theorem tbx_kept {W W' : World} {S' : Nat → Prop} {g : Nat} {N : Int} {S : ByteArray} (h : Tbx W g N S) (k : Kept S' W W') (hs : ¬ S' g) : Tbx W' g N S :=
  ⟨by rw [k.cell (p := ⟨g, 0, none⟩) (World.block_lt_of_cell? _ _ h.c0) hs]; exact h.c0, by rw [k.cell (p := ⟨g, 1, none⟩) (World.block_lt_of_cell? _ _ h.c1) hs]; exact h.c1⟩

set_option maxRecDepth 100000 in
set_option maxHeartbeats 8000000 in
theorem exMachineStart (w : World) (a0 : Option Addr) (l0 : List Bool) (c0 : Nat) (N : Int) (S : ByteArray) (room : Int) (hN0 : Bools w a0 l0) (hS : S.size ≤ maxLen) :
    Calls Try.prog 4 #[.slice a0 l0.length c0, tv N S, .int .i64 room] w fun e w' => e = .returned (.bool true) ∧ Below w.heap.size w w' := by
  have HN0 : Hid (Bools w a0 l0) := hN0
  have hm0 := hN0.1
  clear hN0
  have HA : Hid (Below w.heap.size w (w.alloc (.cells #[.int .i64 N, .string S] 24))) := (Below.refl _ _).alloc (Nat.le_refl _) _
  have HT : Hid (Tbx (w.alloc (.cells #[.int .i64 N, .string S] 24)) w.heap.size N S) := Tbx.made _ _ _ _
  by_cases hl0 : l0.length ≤ 1048576
  rotate_left
  · have hlz : (1048576 : Int) < (l0.length : Int) := by omega
    go_enter Try.func4, Try.ntmps4
    go_wp2
    go_ret
    exact ⟨rfl, HA.out⟩
  have hlz : ¬ (1048576 : Int) < (l0.length : Int) := by omega
  have HSZ : Hid (S.size ≤ maxLen) := hS
  by_cases hs0 : S.size ≤ 1048576
  rotate_left
  · go_enter Try.func4, Try.ntmps4
    go_wp2_with fail
    refine (szTable N S _ _ (by omega) (by omega) hS).mono ?_
    rw [if_neg (by omega)]
    rintro e x1 ⟨rfl, hb⟩
    have HB1 : Hid (Below w.heap.size w x1) := HA.out.trans (hb.mono HA.out.size)
    clear hb
    go_wp2
    go_ret
    exact ⟨rfl, HB1.out⟩
  obtain ⟨M, ok, hMM, hsp, him⟩ := bStart l0 N S room hs0 hl0
  have HSP : Hid _ := hsp
  have HIM : Hid _ := him
  clear hsp him
  obtain ⟨x0, hx0⟩ : ∃ x0, x0 = w.alloc (.cells #[.int .i64 N, .string S] 24) := ⟨_, rfl⟩
  have HB0 : Hid (Below w.heap.size w x0) := by rw [hx0]; exact HA.out
  have HX0 : Hid (Tbx x0 w.heap.size N S) := by rw [hx0]; exact HT.out
  have hzw : w.heap.size < x0.heap.size := by rw [hx0]; simp
  have HE0 : Hid (w.alloc (.cells #[.int .i64 N, .string S] 24) = x0) := hx0.symm
  clear hx0 HA HT
  go_enter Try.func4, Try.ntmps4
  go_upto_region 4 with fail
  rw [HE0.out]
  clear HE0
  obtain ⟨c0T, c1T⟩ := HX0.out
  go_wp2_with fail
  refine (szTable N S _ _ (by omega) (by omega) hS).mono ?_
  rw [if_pos (by omega)]
  rintro e x1 ⟨rfl, hb⟩
  have HB1 : Hid (Below w.heap.size w x1) := HB0.out.trans (hb.mono HB0.out.size)
  have HX1 : Hid (Tbx x1 w.heap.size N S) := HX0.out.below hb
  have hz1 : x0.heap.size ≤ x1.heap.size := hb.size
  clear hb c0T c1T
  have hp0 : ¬ (1048576 : Int) - (S.size : Int) < 0 := by omega
  clear hS
  have hok : (ok != ok) = false := by cases ok <;> rfl
  have HMV : Hid (M.vals = []) := hMM.1
  have HMO : Hid (M.memo = []) := hMM.2.1
  have HML : Hid (M.row.length ≤ 1048576) := hMM.2.2
  clear hMM
  have HS : Hid (TA w x1 N S x1) := ⟨HX1.out, Below.refl _ _⟩
  have hN0 : w.heap.size < x1.heap.size := World.block_lt_of_cell? _ _ HS.out.x.c0
  go_upto_region 7 with fail
  go_cut [8, 9] from 26 to 34 (fun s8 s9 wc => ∃ q ra va ma rc vc mc, s8 = .pointer (some ⟨q, 0, none⟩) ∧ s9 = .bool ok ∧ TA w x1 N S wc ∧ Mb wc q M ra va ma rc vc mc ∧ BoolsIn wc x1.heap.size wc.heap.size ra M.row)
  case first =>
    obtain ⟨c0T, c1T⟩ := HX1.out
    go_wp2_with fail
    go_region_held3 (fun w' => w'.cell? ⟨w.heap.size, 0, none⟩ = some (.int .i64 N) ∧ w'.cell? ⟨w.heap.size, 1, none⟩ = some (.string S)) ((first | (with_reducible exact ⟨HS.out.x.c0, HS.out.x.c1⟩) | (with_reducible exact ⟨hS3.x.c0, hS3.x.c1⟩) | (with_reducible exact ⟨(hS3.alloc _).x.c0, (hS3.alloc _).x.c1⟩) | (with_reducible exact ⟨(HS.out.alloc _).x.c0, (HS.out.alloc _).x.c1⟩) | (with_reducible exact ⟨HS.out.drew.x.c0, HS.out.drew.x.c1⟩) | (with_reducible exact ⟨(HS.out.drew.alloc _).x.c0, (HS.out.drew.alloc _).x.c1⟩) | (with_reducible exact ⟨(HS.out.alloc _).drew.x.c0, (HS.out.alloc _).drew.x.c1⟩) | (with_reducible exact ⟨(TA.kept hS3 (put11 hL _ _ _ _ _ _).2 (by omega) (by omega)).x.c0, (TA.kept hS3 (put11 hL _ _ _ _ _ _).2 (by omega) (by omega)).x.c1⟩))) ((first | (go_at_call 14; (first | with_reducible refine (toBoolE _ a0 l0 c0 (HN0.out.below (HB1.out.trans (hS3.bel.mono HB1.out.size))) hl0).mono ?_ | with_reducible refine (toBoolE _ a0 l0 c0 (HN0.out.below (HB1.out.trans ((hS3.alloc _).bel.mono HB1.out.size))) hl0).mono ?_ | with_reducible refine (toBoolE _ a0 l0 c0 (HN0.out.below (HB1.out.trans (HS.out.drew.bel.mono HB1.out.size))) hl0).mono ?_ | with_reducible refine (toBoolE _ a0 l0 c0 (HN0.out.below (HB1.out.trans ((HS.out.drew.alloc _).bel.mono HB1.out.size))) hl0).mono ?_ | with_reducible refine (toBoolE _ a0 l0 c0 (HN0.out.below (HB1.out.trans ((HS.out.alloc _).drew.bel.mono HB1.out.size))) hl0).mono ?_); rintro e xa ⟨gr, rfl, hg, hw, hb⟩; (first | have hS3 := hS3.below hb | have hS3 := (hS3.alloc _).below hb | have hS3 := HS.out.drew.below hb | have hS3 := (HS.out.drew.alloc _).below hb | have hS3 := (HS.out.alloc _).drew.below hb); (have hN := World.block_lt_of_cell? _ _ hS3.x.c0); (have hN2 := hS3.bel.size); (first | have hL := hL.below hb | have hL := (Mf.madeE _ _ _).below hb | have hL := (Mf.made _ _ _).below hb | skip); (first | (have hLc := hL.all; obtain ⟨l0c, l1c, l2c, l3c, l4c, l5c, l6c, l7c, l8c, l9c, l10c, f0c, f1c, f2c, f3c, f4c, f5c, f6c, f7c, f8c, f9c, f10c⟩ := hLc) | skip); have ER : Hid (Bools xa (some ⟨gr, 0, none⟩) l0) := WBools.plain hw; clear hb hg hw) | (go_at_call 15; (with_reducible refine (toTable N S _).mono ?_); rintro e xa ⟨rfl, hb⟩; (first | have ER : Hid (Bools xa (some ⟨gr, 0, none⟩) l0) := ER.out.below hb | have ER : Hid (Bools xa (some ⟨gr, 0, none⟩) l0) := (bal ER.out _).below hb | skip); (first | have hS3 := hS3.below hb | have hS3 := (hS3.alloc _).below hb | have hS3 := HS.out.drew.below hb | have hS3 := (HS.out.drew.alloc _).below hb | have hS3 := (HS.out.alloc _).drew.below hb); (have hN := World.block_lt_of_cell? _ _ hS3.x.c0); (have hN2 := hS3.bel.size); (first | have hL := hL.below hb | have hL := (Mf.madeE _ _ _).below hb | have hL := (Mf.made _ _ _).below hb | skip); (first | (have hLc := hL.all; obtain ⟨l0c, l1c, l2c, l3c, l4c, l5c, l6c, l7c, l8c, l9c, l10c, f0c, f1c, f2c, f3c, f4c, f5c, f6c, f7c, f8c, f9c, f10c⟩ := hLc) | skip); clear hb) | (go_at_call 13; (first | with_reducible refine (HSP.out _ _ l0.length ER.out).mono ?_ | with_reducible refine (HSP.out _ _ l0.length (bal ER.out _)).mono ?_); rintro e xa ⟨ra, va, ma, rc, vc, mc, rfl, hin, hb⟩; (first | have hzl := hL.lt (by simp) | skip); (first | have hS3 := hS3.below hb | have hS3 := (hS3.alloc _).below hb | have hS3 := HS.out.drew.below hb | have hS3 := (HS.out.drew.alloc _).below hb | have hS3 := (HS.out.alloc _).drew.below hb); (have hN := World.block_lt_of_cell? _ _ hS3.x.c0); (have hN2 := hS3.bel.size); (first | have hL := hL.below hb | have hL := (Mf.madeE _ _ _).below hb | have hL := (Mf.made _ _ _).below hb | skip); (first | (have hLc := hL.all; obtain ⟨l0c, l1c, l2c, l3c, l4c, l5c, l6c, l7c, l8c, l9c, l10c, f0c, f1c, f2c, f3c, f4c, f5c, f6c, f7c, f8c, f9c, f10c⟩ := hLc) | skip); have HIN : Hid (BoolsIn xa _ xa.heap.size ra M.row) := hin; clear hb hin)))
    all_goals
      go_wp2_with fail
      go_meet
      case rel => first | with_reducible exact ⟨_, ra, va, ma, rc, vc, mc, rfl, rfl, hS3.alloc _, Mb.made _ _ _ _ _ _ _ _ _, bin_mono (bin_alloc HIN.out _) (by first | omega | (simp; omega)) (by simp)⟩ | with_reducible exact ⟨_, ra, va, ma, rc, vc, mc, rfl, rfl, TA.kept hS3 (put11 hL _ _ _ _ _ _).2 (by omega) (by omega), (put11 hL _ _ _ _ _ _).1, bin_mono (HIN.out.kept (put11 hL _ _ _ _ _ _).2 (fun b h1 h2 h3 => by first | omega | (simp at h1; omega))) (by first | omega | (simp; omega)) (put11 (M := M) hL ra va ma rc vc mc).2.size⟩
  case rest =>
    obtain ⟨q, wra, wva, wma, wrc, wvc, wmc, rfl, rfl, hc1, hc2, hc3⟩ := hcut
    have hb : Below x1.heap.size x1 wc := hc1.bel
    generalize wc = x2 at *
    have HB2 : Hid (Below w.heap.size w x2) := HB1.out.trans (hb.mono HB1.out.size)
    have HX2 : Hid (Tbx x2 w.heap.size N S) := HX1.out.below hb
    have hz2 : x1.heap.size ≤ x2.heap.size := hb.size
    have HQ2 : Hid (Mb x2 q M wra wva wma wrc wvc wmc) := hc2
    have hltQ : q < x2.heap.size := hc2.lt
    have Hw_2 : Hid (BoolsIn x2 x1.heap.size x2.heap.size wra M.row) := hc3
    clear hb hc1 hc2 hc3 HS hN0
    go_wp2_with fail
    refine (toBoolE _ a0 l0 c0 (HN0.out.below HB2.out) hl0).mono ?_
    rintro e x3 ⟨gx, rfl, hg, hw, hb⟩
    have HB3 : Hid (Below w.heap.size w x3) := HB2.out.trans (hb.mono HB2.out.size)
    have HX3 : Hid (Tbx x3 w.heap.size N S) := HX2.out.below hb
    have hz3 : x2.heap.size ≤ x3.heap.size := hb.size
    have Hw_3 : Hid (BoolsIn x3 x1.heap.size x2.heap.size wra M.row) := Hw_2.out.below hb
    have HQ3 : Hid (Mb x3 q M wra wva wma wrc wvc wmc) := HQ2.out.below hb
    have Hx_3 : Hid (BoolsIn x3 x2.heap.size x3.heap.size (some ⟨gx, 0, none⟩) l0) := WBools.within hw
    clear hb hw hg
    obtain ⟨c0T, c1T⟩ := HX3.out
    go_wp2_with fail
    refine (toTable N S _).mono ?_
    rintro e x4 ⟨rfl, hb⟩
    have HB4 : Hid (Below w.heap.size w x4) := HB3.out.trans (hb.mono HB3.out.size)
    have HX4 : Hid (Tbx x4 w.heap.size N S) := HX3.out.below hb
    have hz4 : x3.heap.size ≤ x4.heap.size := hb.size
    have Hw_4 : Hid (BoolsIn x4 x1.heap.size x2.heap.size wra M.row) := Hw_3.out.below hb
    have Hx_4 : Hid (BoolsIn x4 x2.heap.size x3.heap.size (some ⟨gx, 0, none⟩) l0) := Hx_3.out.below hb
    have HQ4 : Hid (Mb x4 q M wra wva wma wrc wvc wmc) := HQ3.out.below hb
    clear hb c0T c1T
    go_wp2_with fail
    refine (HIM.out _ _ l0.length Hx_4.out.plain).mono ?_
    rintro e x5 ⟨gra, gva, gma, grc, gvc, gmc, rfl, hin, hb⟩
    have HB5 : Hid (Below w.heap.size w x5) := HB4.out.trans (hb.mono HB4.out.size)
    have HX5 : Hid (Tbx x5 w.heap.size N S) := HX4.out.below hb
    have hz5 : x4.heap.size ≤ x5.heap.size := hb.size
    have Hw_5 : Hid (BoolsIn x5 x1.heap.size x2.heap.size wra M.row) := Hw_4.out.below hb
    have Hx_5 : Hid (BoolsIn x5 x2.heap.size x3.heap.size (some ⟨gx, 0, none⟩) l0) := Hx_4.out.below hb
    have HQ5 : Hid (Mb x5 q M wra wva wma wrc wvc wmc) := HQ4.out.below hb
    have Hg_5 : Hid (BoolsIn x5 x4.heap.size x5.heap.size gra M.row) := hin
    clear hb hin
    go_upto_region 10 with fail
    obtain ⟨x6, hx⟩ : ∃ x, x = x5.alloc (.cells #[.slice gra M.row.length grc, .int .i64 M.N, .string M.S, .int .i64 M.room, .slice gva M.vals.length gvc, .int .i64 M.ret, .bool M.over, .int .i64 M.steps, .int .i64 M.looks, .int .i64 M.hits, .slice gma M.memo.length gmc] 34) := ⟨_, rfl⟩
    have hb : Below x5.heap.size x5 x6 := by rw [hx]; exact (Below.refl _ _).alloc (Nat.le_refl _) _
    have HB6 : Hid (Below w.heap.size w x6) := HB5.out.trans (hb.mono HB5.out.size)
    have HX6 : Hid (Tbx x6 w.heap.size N S) := HX5.out.below hb
    have hz6 : x5.heap.size ≤ x6.heap.size := hb.size
    have Hw_6 : Hid (BoolsIn x6 x1.heap.size x2.heap.size wra M.row) := Hw_5.out.below hb
    have Hx_6 : Hid (BoolsIn x6 x2.heap.size x3.heap.size (some ⟨gx, 0, none⟩) l0) := Hx_5.out.below hb
    have Hg_6 : Hid (BoolsIn x6 x4.heap.size x5.heap.size gra M.row) := Hg_5.out.below hb
    have HQ6 : Hid (Mb x6 q M wra wva wma wrc wvc wmc) := HQ5.out.below hb
    obtain ⟨pg, hpg⟩ : ∃ pg, pg = x5.heap.size := ⟨_, rfl⟩
    have HG6 : Hid (Mb x6 pg M gra gva gma grc gvc gmc) := by rw [hx, hpg]; exact Mb.made _ _ _ _ _ _ _ _ _
    rw [← hx, ← hpg]
    have hpg1 : x5.heap.size ≤ pg := Nat.le_of_eq hpg.symm
    clear hx hb hpg
    obtain ⟨c0, c1, c2, c3, c4, c5, c6, c7, c8, c9, c10⟩ := HG6.out
    obtain ⟨d0, d1, d2, d3, d4, d5, d6, d7, d8, d9, d10⟩ := HQ6.out
    go_wp2_with fail
    clear c0 c1 c2 c3 c4 c5 c6 c7 c8 c9 c10 d0 d1 d2 d3 d4 d5 d6 d7 d8 d9 d10
    refine (eqMachine _ M _ _ _ _ _ _ _ _ _ _ _ _ (mrE HMV.out HMO.out Hg_6.out.plain) (mrE HMV.out HMO.out Hw_6.out.plain)).mono ?_
    rintro e x7 ⟨rfl, hb⟩
    have HB7 : Hid (Below w.heap.size w x7) := HB6.out.trans (hb.mono HB6.out.size)
    have HX7 : Hid (Tbx x7 w.heap.size N S) := HX6.out.below hb
    have hz7 : x6.heap.size ≤ x7.heap.size := hb.size
    have Hw_7 : Hid (BoolsIn x7 x1.heap.size x2.heap.size wra M.row) := Hw_6.out.below hb
    have Hx_7 : Hid (BoolsIn x7 x2.heap.size x3.heap.size (some ⟨gx, 0, none⟩) l0) := Hx_6.out.below hb
    have Hg_7 : Hid (BoolsIn x7 x4.heap.size x5.heap.size gra M.row) := Hg_6.out.below hb
    have HQ7 : Hid (Mb x7 q M wra wva wma wrc wvc wmc) := HQ6.out.below hb
    have HG7 : Hid (Mb x7 pg M gra gva gma grc gvc gmc) := HG6.out.below hb
    clear hb
    go_wp2_with fail
    refine (toBoolE _ a0 l0 c0 (HN0.out.below HB7.out) hl0).mono ?_
    rintro e x8 ⟨gy, rfl, hg, hw, hb⟩
    have HB8 : Hid (Below w.heap.size w x8) := HB7.out.trans (hb.mono HB7.out.size)
    have HX8 : Hid (Tbx x8 w.heap.size N S) := HX7.out.below hb
    have hz8 : x7.heap.size ≤ x8.heap.size := hb.size
    have Hw_8 : Hid (BoolsIn x8 x1.heap.size x2.heap.size wra M.row) := Hw_7.out.below hb
    have Hx_8 : Hid (BoolsIn x8 x2.heap.size x3.heap.size (some ⟨gx, 0, none⟩) l0) := Hx_7.out.below hb
    have Hg_8 : Hid (BoolsIn x8 x4.heap.size x5.heap.size gra M.row) := Hg_7.out.below hb
    have HQ8 : Hid (Mb x8 q M wra wva wma wrc wvc wmc) := HQ7.out.below hb
    have HG8 : Hid (Mb x8 pg M gra gva gma grc gvc gmc) := HG7.out.below hb
    have Hy_8 : Hid (BoolsIn x8 x7.heap.size x8.heap.size (some ⟨gy, 0, none⟩) l0) := WBools.within hw
    clear hb hw hg
    go_wp2_with fail
    refine (eqBoolS _ _ _ l0 _ _ Hx_8.out.plain Hy_8.out.plain).mono ?_
    rintro e x9 ⟨rfl, hb⟩
    have HB9 : Hid (Below w.heap.size w x9) := HB8.out.trans (hb.mono HB8.out.size)
    have HX9 : Hid (Tbx x9 w.heap.size N S) := HX8.out.below hb
    have hz9 : x8.heap.size ≤ x9.heap.size := hb.size
    have Hw_9 : Hid (BoolsIn x9 x1.heap.size x2.heap.size wra M.row) := Hw_8.out.below hb
    have Hx_9 : Hid (BoolsIn x9 x2.heap.size x3.heap.size (some ⟨gx, 0, none⟩) l0) := Hx_8.out.below hb
    have Hg_9 : Hid (BoolsIn x9 x4.heap.size x5.heap.size gra M.row) := Hg_8.out.below hb
    have Hy_9 : Hid (BoolsIn x9 x7.heap.size x8.heap.size (some ⟨gy, 0, none⟩) l0) := Hy_8.out.below hb
    have HQ9 : Hid (Mb x9 q M wra wva wma wrc wvc wmc) := HQ8.out.below hb
    have HG9 : Hid (Mb x9 pg M gra gva gma grc gvc gmc) := HG8.out.below hb
    clear hb
    go_wp2_with fail
    refine (markBoolS _ _ _ l0 _ Hx_9.out.wr 1 (by omega) (by omega) hl0).mono ?_
    rintro e x10 ⟨rfl, _, hk⟩
    have hsz10 : x9.heap.size ≤ x10.heap.size := hk.size
    have HB10 : Hid (Below w.heap.size w x10) := HB9.out.trans (hk.below (fun b hb => by have := Hx_9.out.ats hb; omega) HB9.out.size)
    have HX10 : Hid (Tbx x10 w.heap.size N S) := tbx_kept HX9.out hk (fun hb => by have := Hx_9.out.ats hb; omega)
    have HQ10 : Hid (Mb x10 q M wra wva wma wrc wvc wmc) := HQ9.out.kept hk (fun hb => by have := Hx_9.out.ats hb; omega)
    have HG10 : Hid (Mb x10 pg M gra gva gma grc gvc gmc) := HG9.out.kept hk (fun hb => by have := Hx_9.out.ats hb; omega)
    have Hw_10 : Hid (BoolsIn x10 x1.heap.size x2.heap.size wra M.row) := Hw_9.out.kept hk (fun b h1 h2 h3 => by have := Hx_9.out.ats h3; omega)
    have Hg_10 : Hid (BoolsIn x10 x4.heap.size x5.heap.size gra M.row) := Hg_9.out.kept hk (fun b h1 h2 h3 => by have := Hx_9.out.ats h3; omega)
    clear hk
    have hq1 : ¬ (1 : Int) + (l0.length : Int) < 0 := by omega
    obtain ⟨c0, c1, c2, c3, c4, c5, c6, c7, c8, c9, c10⟩ := HG10.out
    obtain ⟨d0, d1, d2, d3, d4, d5, d6, d7, d8, d9, d10⟩ := HQ10.out
    go_wp2_with fail
    clear c0 c1 c2 c3 c4 c5 c6 c7 c8 c9 c10 d0 d1 d2 d3 d4 d5 d6 d7 d8 d9 d10
    refine (eqMachine _ M _ _ _ _ _ _ _ _ _ _ _ _ (mrE HMV.out HMO.out Hg_10.out.plain) (mrE HMV.out HMO.out Hw_10.out.plain)).mono ?_
    rintro e x11 ⟨rfl, hb⟩
    have HB11 : Hid (Below w.heap.size w x11) := HB10.out.trans (hb.mono HB10.out.size)
    have HX11 : Hid (Tbx x11 w.heap.size N S) := HX10.out.below hb
    have hz11 : x10.heap.size ≤ x11.heap.size := hb.size
    have Hw_11 : Hid (BoolsIn x11 x1.heap.size x2.heap.size wra M.row) := Hw_10.out.below hb
    have Hg_11 : Hid (BoolsIn x11 x4.heap.size x5.heap.size gra M.row) := Hg_10.out.below hb
    have HQ11 : Hid (Mb x11 q M wra wva wma wrc wvc wmc) := HQ10.out.below hb
    have HG11 : Hid (Mb x11 pg M gra gva gma grc gvc gmc) := HG10.out.below hb
    clear hb
    obtain ⟨d0, d1, d2, d3, d4, d5, d6, d7, d8, d9, d10⟩ := HG11.out
    go_wp2_with fail
    clear d0 d1 d2 d3 d4 d5 d6 d7 d8 d9 d10
    refine (markMachine0 _ M _ _ _ _ _ _ _ HMV.out HMO.out Hg_11.out.wr HML.out).mono ?_
    rintro e x12 ⟨rfl, hw, hk⟩
    have hsz12 : x11.heap.size ≤ x12.heap.size := hk.size
    have HB12 : Hid (Below w.heap.size w x12) := HB11.out.trans (hk.below (fun b hb => by have := Hg_11.out.ats hb; omega) HB11.out.size)
    have HX12 : Hid (Tbx x12 w.heap.size N S) := tbx_kept HX11.out hk (fun hb => by have := Hg_11.out.ats hb; omega)
    have HQ12 : Hid (Mb x12 q M wra wva wma wrc wvc wmc) := HQ11.out.kept hk (fun hb => by have := Hg_11.out.ats hb; omega)
    have HG12 : Hid (Mb x12 pg M gra gva gma grc gvc gmc) := HG11.out.kept hk (fun hb => by have := Hg_11.out.ats hb; omega)
    have Hw_12 : Hid (BoolsIn x12 x1.heap.size x2.heap.size wra M.row) := Hw_11.out.kept hk (fun b h1 h2 h3 => by have := Hg_11.out.ats h3; omega)
    have Hg_12 : Hid (BoolsIn x12 x4.heap.size x5.heap.size gra (markB M.row.length 1)) := Hg_11.out.again hw (by rw [markB_length])
    clear hk hw
    have hq2 : ¬ (1 : Int) + (M.row.length : Int) < 0 := by omega
    obtain ⟨d0, d1, d2, d3, d4, d5, d6, d7, d8, d9, d10⟩ := HG12.out
    go_wp2_with fail
    clear d0 d1 d2 d3 d4 d5 d6 d7 d8 d9 d10
    refine (heldMachine0 _ M _ _ _ _ _ _ HMV.out HMO.out Hg_12.out.plain HML.out).mono ?_
    rintro e x13 ⟨rfl, hb⟩
    have HB13 : Hid (Below w.heap.size w x13) := HB12.out.trans (hb.mono HB12.out.size)
    have HX13 : Hid (Tbx x13 w.heap.size N S) := HX12.out.below hb
    have hz13 : x12.heap.size ≤ x13.heap.size := hb.size
    have Hw_13 : Hid (BoolsIn x13 x1.heap.size x2.heap.size wra M.row) := Hw_12.out.below hb
    have Hg_13 : Hid (BoolsIn x13 x4.heap.size x5.heap.size gra (markB M.row.length 1)) := Hg_12.out.below hb
    have HQ13 : Hid (Mb x13 q M wra wva wma wrc wvc wmc) := HQ12.out.below hb
    have HG13 : Hid (Mb x13 pg M gra gva gma grc gvc gmc) := HG12.out.below hb
    clear hb
    have HS : Hid (TA w x13 N S x13) := ⟨HX13.out, Below.refl _ _⟩
    have hN0 : w.heap.size < x13.heap.size := World.block_lt_of_cell? _ _ HS.out.x.c0
    go_upto_region 26 with fail
    go_cut [16, 17] from 86 to 94 (fun s8 s9 wc => ∃ q ra va ma rc vc mc, s8 = .pointer (some ⟨q, 0, none⟩) ∧ s9 = .bool ok ∧ TA w x13 N S wc ∧ Mb wc q M ra va ma rc vc mc ∧ BoolsIn wc x13.heap.size wc.heap.size ra M.row)
    case first =>
      obtain ⟨c0T, c1T⟩ := HX13.out
      go_wp2_with fail
      go_region_held3 (fun w' => w'.cell? ⟨w.heap.size, 0, none⟩ = some (.int .i64 N) ∧ w'.cell? ⟨w.heap.size, 1, none⟩ = some (.string S)) ((first | (with_reducible exact ⟨HS.out.x.c0, HS.out.x.c1⟩) | (with_reducible exact ⟨hS3.x.c0, hS3.x.c1⟩) | (with_reducible exact ⟨(hS3.alloc _).x.c0, (hS3.alloc _).x.c1⟩) | (with_reducible exact ⟨(HS.out.alloc _).x.c0, (HS.out.alloc _).x.c1⟩) | (with_reducible exact ⟨HS.out.drew.x.c0, HS.out.drew.x.c1⟩) | (with_reducible exact ⟨(HS.out.drew.alloc _).x.c0, (HS.out.drew.alloc _).x.c1⟩) | (with_reducible exact ⟨(HS.out.alloc _).drew.x.c0, (HS.out.alloc _).drew.x.c1⟩) | (with_reducible exact ⟨(TA.kept hS3 (put11 hL _ _ _ _ _ _).2 (by omega) (by omega)).x.c0, (TA.kept hS3 (put11 hL _ _ _ _ _ _).2 (by omega) (by omega)).x.c1⟩))) ((first | (go_at_call 14; (first | with_reducible refine (toBoolE _ a0 l0 c0 (HN0.out.below (HB13.out.trans (hS3.bel.mono HB13.out.size))) hl0).mono ?_ | with_reducible refine (toBoolE _ a0 l0 c0 (HN0.out.below (HB13.out.trans ((hS3.alloc _).bel.mono HB13.out.size))) hl0).mono ?_ | with_reducible refine (toBoolE _ a0 l0 c0 (HN0.out.below (HB13.out.trans (HS.out.drew.bel.mono HB13.out.size))) hl0).mono ?_ | with_reducible refine (toBoolE _ a0 l0 c0 (HN0.out.below (HB13.out.trans ((HS.out.drew.alloc _).bel.mono HB13.out.size))) hl0).mono ?_ | with_reducible refine (toBoolE _ a0 l0 c0 (HN0.out.below (HB13.out.trans ((HS.out.alloc _).drew.bel.mono HB13.out.size))) hl0).mono ?_); rintro e xa ⟨gr, rfl, hg, hw, hb⟩; (first | have hS3 := hS3.below hb | have hS3 := (hS3.alloc _).below hb | have hS3 := HS.out.drew.below hb | have hS3 := (HS.out.drew.alloc _).below hb | have hS3 := (HS.out.alloc _).drew.below hb); (have hN := World.block_lt_of_cell? _ _ hS3.x.c0); (have hN2 := hS3.bel.size); (first | have hL := hL.below hb | have hL := (Mf.madeE _ _ _).below hb | have hL := (Mf.made _ _ _).below hb | skip); (first | (have hLc := hL.all; obtain ⟨l0c, l1c, l2c, l3c, l4c, l5c, l6c, l7c, l8c, l9c, l10c, f0c, f1c, f2c, f3c, f4c, f5c, f6c, f7c, f8c, f9c, f10c⟩ := hLc) | skip); have ER : Hid (Bools xa (some ⟨gr, 0, none⟩) l0) := WBools.plain hw; clear hb hg hw) | (go_at_call 15; (with_reducible refine (toTable N S _).mono ?_); rintro e xa ⟨rfl, hb⟩; (first | have ER : Hid (Bools xa (some ⟨gr, 0, none⟩) l0) := ER.out.below hb | have ER : Hid (Bools xa (some ⟨gr, 0, none⟩) l0) := (bal ER.out _).below hb | skip); (first | have hS3 := hS3.below hb | have hS3 := (hS3.alloc _).below hb | have hS3 := HS.out.drew.below hb | have hS3 := (HS.out.drew.alloc _).below hb | have hS3 := (HS.out.alloc _).drew.below hb); (have hN := World.block_lt_of_cell? _ _ hS3.x.c0); (have hN2 := hS3.bel.size); (first | have hL := hL.below hb | have hL := (Mf.madeE _ _ _).below hb | have hL := (Mf.made _ _ _).below hb | skip); (first | (have hLc := hL.all; obtain ⟨l0c, l1c, l2c, l3c, l4c, l5c, l6c, l7c, l8c, l9c, l10c, f0c, f1c, f2c, f3c, f4c, f5c, f6c, f7c, f8c, f9c, f10c⟩ := hLc) | skip); clear hb) | (go_at_call 16; (first | with_reducible refine (HIM.out _ _ l0.length ER.out).mono ?_ | with_reducible refine (HIM.out _ _ l0.length (bal ER.out _)).mono ?_); rintro e xa ⟨ra, va, ma, rc, vc, mc, rfl, hin, hb⟩; (first | have hzl := hL.lt (by simp) | skip); (first | have hS3 := hS3.below hb | have hS3 := (hS3.alloc _).below hb | have hS3 := HS.out.drew.below hb | have hS3 := (HS.out.drew.alloc _).below hb | have hS3 := (HS.out.alloc _).drew.below hb); (have hN := World.block_lt_of_cell? _ _ hS3.x.c0); (have hN2 := hS3.bel.size); (first | have hL := hL.below hb | have hL := (Mf.madeE _ _ _).below hb | have hL := (Mf.made _ _ _).below hb | skip); (first | (have hLc := hL.all; obtain ⟨l0c, l1c, l2c, l3c, l4c, l5c, l6c, l7c, l8c, l9c, l10c, f0c, f1c, f2c, f3c, f4c, f5c, f6c, f7c, f8c, f9c, f10c⟩ := hLc) | skip); have HIN : Hid (BoolsIn xa _ xa.heap.size ra M.row) := hin; clear hb hin)))
      all_goals
        go_wp2_with fail
        go_meet
        case rel => first | with_reducible exact ⟨_, ra, va, ma, rc, vc, mc, rfl, rfl, hS3.alloc _, Mb.made _ _ _ _ _ _ _ _ _, bin_mono (bin_alloc HIN.out _) (by first | omega | (simp; omega)) (by simp)⟩ | with_reducible exact ⟨_, ra, va, ma, rc, vc, mc, rfl, rfl, TA.kept hS3 (put11 hL _ _ _ _ _ _).2 (by omega) (by omega), (put11 hL _ _ _ _ _ _).1, bin_mono (HIN.out.kept (put11 hL _ _ _ _ _ _).2 (fun b h1 h2 h3 => by first | omega | (simp at h1; omega))) (by first | omega | (simp; omega)) (put11 (M := M) hL ra va ma rc vc mc).2.size⟩
    case rest =>
      obtain ⟨qh, hra, hva, hma, hrc, hvc, hmc, rfl, rfl, hc1, hc2, hc3⟩ := hcut
      have hb : Below x13.heap.size x13 wc := hc1.bel
      generalize wc = x14 at *
      have HB14 : Hid (Below w.heap.size w x14) := HB13.out.trans (hb.mono HB13.out.size)
      have HX14 : Hid (Tbx x14 w.heap.size N S) := HX13.out.below hb
      have hz14 : x13.heap.size ≤ x14.heap.size := hb.size
      have Hw_14 : Hid (BoolsIn x14 x1.heap.size x2.heap.size wra M.row) := Hw_13.out.below hb
      have Hg_14 : Hid (BoolsIn x14 x4.heap.size x5.heap.size gra (markB M.row.length 1)) := Hg_13.out.below hb
      have HQ14 : Hid (Mb x14 q M wra wva wma wrc wvc wmc) := HQ13.out.below hb
      have HG14 : Hid (Mb x14 pg M gra gva gma grc gvc gmc) := HG13.out.below hb
      have HH14 : Hid (Mb x14 qh M hra hva hma hrc hvc hmc) := hc2
      have hltH : qh < x14.heap.size := hc2.lt
      have Hh_14 : Hid (BoolsIn x14 x13.heap.size x14.heap.size hra M.row) := hc3
      clear hb hc1 hc2 hc3 HS hN0
      obtain ⟨c0, c1, c2, c3, c4, c5, c6, c7, c8, c9, c10⟩ := HH14.out
      obtain ⟨d0, d1, d2, d3, d4, d5, d6, d7, d8, d9, d10⟩ := HQ14.out
      go_wp2_with fail
      clear c0 c1 c2 c3 c4 c5 c6 c7 c8 c9 c10 d0 d1 d2 d3 d4 d5 d6 d7 d8 d9 d10
      refine (eqMachine _ M _ _ _ _ _ _ _ _ _ _ _ _ (mrE HMV.out HMO.out Hh_14.out.plain) (mrE HMV.out HMO.out Hw_14.out.plain)).mono ?_
      rintro e x15 ⟨rfl, hb⟩
      have HB15 : Hid (Below w.heap.size w x15) := HB14.out.trans (hb.mono HB14.out.size)
      have HX15 : Hid (Tbx x15 w.heap.size N S) := HX14.out.below hb
      have hz15 : x14.heap.size ≤ x15.heap.size := hb.size
      have Hw_15 : Hid (BoolsIn x15 x1.heap.size x2.heap.size wra M.row) := Hw_14.out.below hb
      have Hg_15 : Hid (BoolsIn x15 x4.heap.size x5.heap.size gra (markB M.row.length 1)) := Hg_14.out.below hb
      have Hh_15 : Hid (BoolsIn x15 x13.heap.size x14.heap.size hra M.row) := Hh_14.out.below hb
      have HQ15 : Hid (Mb x15 q M wra wva wma wrc wvc wmc) := HQ14.out.below hb
      have HG15 : Hid (Mb x15 pg M gra gva gma grc gvc gmc) := HG14.out.below hb
      have HH15 : Hid (Mb x15 qh M hra hva hma hrc hvc hmc) := HH14.out.below hb
      clear hb
      obtain ⟨d0, d1, d2, d3, d4, d5, d6, d7, d8, d9, d10⟩ := HG15.out
      go_wp2_with fail
      clear d0 d1 d2 d3 d4 d5 d6 d7 d8 d9 d10
      refine (heldMachine0 _ M _ _ _ _ _ _ HMV.out HMO.out Hg_15.out.plain HML.out).mono ?_
      rintro e x16 ⟨rfl, hb⟩
      have HB16 : Hid (Below w.heap.size w x16) := HB15.out.trans (hb.mono HB15.out.size)
      have HX16 : Hid (Tbx x16 w.heap.size N S) := HX15.out.below hb
      have hz16 : x15.heap.size ≤ x16.heap.size := hb.size
      have Hw_16 : Hid (BoolsIn x16 x1.heap.size x2.heap.size wra M.row) := Hw_15.out.below hb
      have Hg_16 : Hid (BoolsIn x16 x4.heap.size x5.heap.size gra (markB M.row.length 1)) := Hg_15.out.below hb
      have Hh_16 : Hid (BoolsIn x16 x13.heap.size x14.heap.size hra M.row) := Hh_15.out.below hb
      have HQ16 : Hid (Mb x16 q M wra wva wma wrc wvc wmc) := HQ15.out.below hb
      have HG16 : Hid (Mb x16 pg M gra gva gma grc gvc gmc) := HG15.out.below hb
      have HH16 : Hid (Mb x16 qh M hra hva hma hrc hvc hmc) := HH15.out.below hb
      clear hb
      clear hok
      go_wp2
      go_ret
      exact ⟨rfl, HB16.out⟩

end Go.Proofs.Ytldeakifeifgdaa.Lx43
