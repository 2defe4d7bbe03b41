/- The program's MachineStart. Written by tools/gen_ia0.py. -/
import Derived.Test.YtldeakifeifgdaaDoorPkR4
import Derived.Test.YtldeakifeifgdaaDoorCp0
import Derived.Test.YtldeakifeifgdaaDoorPkQm
namespace Go.Proofs.YtldeakifeifgdaaDoor.Ia0
open Go.RowKit
open Ta0 Ta1 Ta2 Tc2 Tc5 Mm0 Mm1 Mm2 Mx0 Mi4 Sa0 Cp0
open Nd0 (Kept Ints lt_of_cell)
open Nd6 (Bools BoolsIn)
open Ap1 (Owb)
open Ss1 (tl)
set_option linter.unusedVariables false

theorem start_ok (row : List Bool) (N : Int) (S : ByteArray) (room : Int) : mokB (startM row N S room) = true ↔ (tokB N (tl S) = true ∧ (row.length : Int) = N) ∧ 0 ≤ room ∧ room ≤ 40 := by
  have hm : mokB (startM row N S room) = true ↔ Mok (startM row N S room) := by unfold mokB; simp
  rw [hm]
  constructor
  · intro h
    exact ⟨⟨h.tab, h.row⟩, h.room⟩
  · rintro ⟨⟨h1, h2⟩, h3⟩
    have hN : 0 ≤ N := by omega
    exact ⟨h1, h2, h3, (show ((0 : Nat) : Int) ≤ room by omega), (show ((0 : Nat) : Int) ≤ N by omega), ⟨by show (-1 : Int) ≤ -1; omega, by show (-1 : Int) ≤ 1; omega⟩, (fun e => by cases e), ⟨Int.le_refl 0, by show (0 : Int) ≤ 1000000000; omega⟩, ⟨Int.le_refl 0, by show (0 : Int) ≤ 1000000000; omega⟩, ⟨Int.le_refl 0, by show (0 : Int) ≤ 1000000000; omega⟩, (fun x hx => by cases hx), (fun x hx => by cases hx), fun i j hi => by cases hi⟩

set_option maxRecDepth 100000 in
set_option maxHeartbeats 8000000 in
theorem iStart (a : Option Addr) (c : Nat) (row : List Bool) (N : Int) (S : ByteArray) (room : Int) (w : World) (hS : S.size ≤ 1048576) (hl : row.length ≤ 1048576) (hR : Bools w a row) (M : Mc) (ok : Bool) (hM : (ok = true ∧ M = startM row N S room ∧ ((tokB N (tl S) = true ∧ (row.length : Int) = N) ∧ 0 ≤ room ∧ room ≤ 40)) ∨ (ok = false ∧ M = zeroM ∧ ¬ ((tokB N (tl S) = true ∧ (row.length : Int) = N) ∧ 0 ≤ room ∧ room ≤ 40))) :
    Calls Tryd.prog 9 #[.slice a row.length c, tv N S, .int .i64 room] w fun e w' => ∃ ra va ma rc vc mc, e = .returned (.tuple #[mval M ra va ma rc vc mc, .bool ok]) ∧ BoolsIn w' w.heap.size w'.heap.size ra M.row ∧ Below w.heap.size w w' := by
  have HR : Hid (Bools w a row) := hR
  have HMR : Hid (∀ W, Below w.heap.size w W → Mr W (startM row N S room) a none none) := fun W hb => ⟨hR.below hb, ⟨Nat.zero_le _, .inl rfl⟩, ⟨Nat.zero_le _, .inl rfl⟩⟩
  have HOK : Hid (∀ W, Below w.heap.size w W → Calls Tryd.prog 10 #[.agg #[.slice a row.length c, .int .i64 N, .string S, .int .i64 room, .slice none 0 0, .int .i64 (-1), .bool false, .int .i64 0, .int .i64 0, .int .i64 0, .slice none 0 0]] W fun e w' => e = .returned (.bool (mokB (startM row N S room))) ∧ Below W.heap.size W w') := fun W hb => iMachineOk (startM row N S room) a none none c 0 0 W hS (HMR.out W hb) (fun x hx => by cases hx)
  have HCP : Hid (∀ W, Below w.heap.size w W → Calls Tryd.prog 28 #[.agg #[.slice a row.length c, .int .i64 N, .string S, .int .i64 room, .slice none 0 0, .int .i64 (-1), .bool false, .int .i64 0, .int .i64 0, .int .i64 0, .slice none 0 0]] W fun e w' => ∃ ra' va' ma' rc' vc' mc' U1 U2, e = .returned (mval (startM row N S room) ra' va' ma' rc' vc' mc') ∧ W.heap.size ≤ U1 ∧ U1 ≤ U2 ∧ U2 ≤ w'.heap.size ∧ Owb w' W.heap.size (.slice ra' (startM row N S room).row.length rc') (startM row N S room).row ∧ (∀ x, ra' = some x → x.block < U1) ∧ Ap0.Ows w' U1 (.slice va' (startM row N S room).vals.length vc') (startM row N S room).vals ∧ (∀ x, va' = some x → x.block < U2) ∧ Qc2.OwSn w' U2 (.slice ma' (startM row N S room).memo.length mc') (startM row N S room).memo ∧ Below W.heap.size W w') := fun W hb => iCopied W (startM row N S room) a none none c 0 0 (HMR.out W hb) hl (Nat.zero_le _) (Nat.zero_le _)
  clear hR
  obtain ⟨W0, hW0⟩ : ∃ W0, W0 = (((w.alloc (.cells #[.int .i64 N, .string S] 26)).alloc (.cells #[.slice none 0 0, .int .i64 0, .string ⟨#[]⟩, .int .i64 0, .slice none 0 0, .int .i64 0, .bool false, .int .i64 0, .int .i64 0, .int .i64 0, .slice none 0 0] 34)).alloc (.cells #[.slice a row.length c, .int .i64 N, .string S, .int .i64 room, .slice none 0 0, .int .i64 (-1), .bool false, .int .i64 0, .int .i64 0, .int .i64 0, .slice none 0 0] 34)) := ⟨_, rfl⟩
  have HE0 : Hid ((((w.alloc (.cells #[.int .i64 N, .string S] 26)).alloc (.cells #[.slice none 0 0, .int .i64 0, .string ⟨#[]⟩, .int .i64 0, .slice none 0 0, .int .i64 0, .bool false, .int .i64 0, .int .i64 0, .int .i64 0, .slice none 0 0] 34)).alloc (.cells #[.slice a row.length c, .int .i64 N, .string S, .int .i64 room, .slice none 0 0, .int .i64 (-1), .bool false, .int .i64 0, .int .i64 0, .int .i64 0, .slice none 0 0] 34)) = W0) := hW0.symm
  have HB0 : Hid (Below w.heap.size w W0) := by rw [hW0]; exact (((Below.refl _ _).alloc (Nat.le_refl _) _).alloc (by simp) _).alloc (by simp <;> omega) _
  have HZ0 : Hid (Mf W0 (w.heap.size + 1) [.slice none 0 0, .int .i64 0, .string ⟨#[]⟩, .int .i64 0, .slice none 0 0, .int .i64 0, .bool false, .int .i64 0, .int .i64 0, .int .i64 0, .slice none 0 0]) := by
    have h1 := (Mf.made (w.alloc (.cells #[.int .i64 N, .string S] 26)) #[.slice none 0 0, .int .i64 0, .string ⟨#[]⟩, .int .i64 0, .slice none 0 0, .int .i64 0, .bool false, .int .i64 0, .int .i64 0, .int .i64 0, .slice none 0 0] 34).alloc (.cells #[.slice a row.length c, .int .i64 N, .string S, .int .i64 room, .slice none 0 0, .int .i64 (-1), .bool false, .int .i64 0, .int .i64 0, .int .i64 0, .slice none 0 0] 34)
    have h2 : (w.alloc (.cells #[.int .i64 N, .string S] 26)).heap.size = w.heap.size + 1 := by simp
    rw [h2, ← hW0] at h1
    exact h1
  have HX0 : Hid (Mf W0 (w.heap.size + 1 + 1) [.slice a row.length c, .int .i64 N, .string S, .int .i64 room, .slice none 0 0, .int .i64 (-1), .bool false, .int .i64 0, .int .i64 0, .int .i64 0, .slice none 0 0]) := by
    have h1 := Mf.made ((w.alloc (.cells #[.int .i64 N, .string S] 26)).alloc (.cells #[.slice none 0 0, .int .i64 0, .string ⟨#[]⟩, .int .i64 0, .slice none 0 0, .int .i64 0, .bool false, .int .i64 0, .int .i64 0, .int .i64 0, .slice none 0 0] 34)) #[.slice a row.length c, .int .i64 N, .string S, .int .i64 room, .slice none 0 0, .int .i64 (-1), .bool false, .int .i64 0, .int .i64 0, .int .i64 0, .slice none 0 0] 34
    have h2 : ((w.alloc (.cells #[.int .i64 N, .string S] 26)).alloc (.cells #[.slice none 0 0, .int .i64 0, .string ⟨#[]⟩, .int .i64 0, .slice none 0 0, .int .i64 0, .bool false, .int .i64 0, .int .i64 0, .int .i64 0, .slice none 0 0] 34)).heap.size = w.heap.size + 1 + 1 := by simp
    rw [h2, ← hW0] at h1
    exact h1
  clear hW0
  rcases hM with ⟨rfl, rfl, hgood⟩ | ⟨rfl, rfl, hbad⟩
  · have hk : mokB (startM row N S room) = true := (start_ok row N S room).2 hgood
    rw [hk] at HOK
    clear hk hgood
    go_enter Tryd.func9, Tryd.ntmps9
    go_upto_region 2 with fail
    rw [HE0.out]
    clear HE0
    obtain ⟨d0, d1, d2, d3, d4, d5, d6, d7, d8, d9, d10, z0, z1, z2, z3, z4, z5, z6, z7, z8, z9, z10⟩ := HX0.out.all
    go_wp2_with fail
    refine (HOK.out _ HB0.out).mono ?_
    rintro e w1 ⟨rfl, hb⟩
    have HB1 : Hid (Below w.heap.size w w1) := HB0.out.trans (hb.mono HB0.out.size)
    have HZ1 : Hid (Mf w1 (w.heap.size + 1) [.slice none 0 0, .int .i64 0, .string ⟨#[]⟩, .int .i64 0, .slice none 0 0, .int .i64 0, .bool false, .int .i64 0, .int .i64 0, .int .i64 0, .slice none 0 0]) := HZ0.out.below hb
    have HX1 : Hid (Mf w1 (w.heap.size + 1 + 1) [.slice a row.length c, .int .i64 N, .string S, .int .i64 room, .slice none 0 0, .int .i64 (-1), .bool false, .int .i64 0, .int .i64 0, .int .i64 0, .slice none 0 0]) := HX0.out.below hb
    clear hb d0 z0 d1 z1 d2 z2 d3 z3 d4 z4 d5 z5 d6 z6 d7 z7 d8 z8 d9 z9 d10 z10
    obtain ⟨d0, d1, d2, d3, d4, d5, d6, d7, d8, d9, d10, z0, z1, z2, z3, z4, z5, z6, z7, z8, z9, z10⟩ := HX1.out.all
    go_wp2_with fail
    clear d0 z0 d1 z1 d2 z2 d3 z3 d4 z4 d5 z5 d6 z6 d7 z7 d8 z8 d9 z9 d10 z10
    refine (HCP.out _ HB1.out).mono ?_
    rintro e w2 ⟨ra', va', ma', rc', vc', mc', U1, U2, rfl, hu0, hu1, hu2, ho, hlt, _, _, _, hb⟩
    have HB2 : Hid (Below w.heap.size w w2) := HB1.out.trans (hb.mono HB1.out.size)
    have HZ2 : Hid (Mf w2 (w.heap.size + 1) [.slice none 0 0, .int .i64 0, .string ⟨#[]⟩, .int .i64 0, .slice none 0 0, .int .i64 0, .bool false, .int .i64 0, .int .i64 0, .int .i64 0, .slice none 0 0]) := HZ1.out.below hb
    have HOW : Hid (Owb w2 w1.heap.size (.slice ra' row.length rc') row) := ho
    have HSZ : Hid (w.heap.size + 1 < w1.heap.size) := HZ1.out.lt (by simp)
    clear hb ho hlt hu0 hu1 hu2
    obtain ⟨d0, d1, d2, d3, d4, d5, d6, d7, d8, d9, d10, z0, z1, z2, z3, z4, z5, z6, z7, z8, z9, z10⟩ := HZ2.out.all
    unfold startM
    go_wp2
    clear d0 z0 d1 z1 d2 z2 d3 z3 d4 z4 d5 z5 d6 z6 d7 z7 d8 z8 d9 z9 d10 z10
    obtain ⟨WF, hWF⟩ : ∃ WF, WF = (((((((((((w2).setCell ⟨w.heap.size + 1, 0, none⟩ ((.slice ra' row.length rc'))).setCell ⟨w.heap.size + 1, 1, none⟩ (.int .i64 N)).setCell ⟨w.heap.size + 1, 2, none⟩ (.string S)).setCell ⟨w.heap.size + 1, 3, none⟩ (.int .i64 room)).setCell ⟨w.heap.size + 1, 4, none⟩ ((.slice va' 0 vc'))).setCell ⟨w.heap.size + 1, 5, none⟩ (.int .i64 (-1))).setCell ⟨w.heap.size + 1, 6, none⟩ (.bool false)).setCell ⟨w.heap.size + 1, 7, none⟩ (.int .i64 0)).setCell ⟨w.heap.size + 1, 8, none⟩ (.int .i64 0)).setCell ⟨w.heap.size + 1, 9, none⟩ (.int .i64 0)).setCell ⟨w.heap.size + 1, 10, none⟩ ((.slice ma' 0 mc')) := ⟨_, rfl⟩
    rw [← hWF]
    have KF : Kept (fun b => b = w.heap.size + 1) w2 WF := by rw [hWF]; exact ((((((((((((Kept.refl (fun b => b = w.heap.size + 1) w2)).setCell (p := ⟨w.heap.size + 1, 0, none⟩) rfl _).setCell (p := ⟨w.heap.size + 1, 1, none⟩) rfl _).setCell (p := ⟨w.heap.size + 1, 2, none⟩) rfl _).setCell (p := ⟨w.heap.size + 1, 3, none⟩) rfl _).setCell (p := ⟨w.heap.size + 1, 4, none⟩) rfl _).setCell (p := ⟨w.heap.size + 1, 5, none⟩) rfl _).setCell (p := ⟨w.heap.size + 1, 6, none⟩) rfl _).setCell (p := ⟨w.heap.size + 1, 7, none⟩) rfl _).setCell (p := ⟨w.heap.size + 1, 8, none⟩) rfl _).setCell (p := ⟨w.heap.size + 1, 9, none⟩) rfl _).setCell (p := ⟨w.heap.size + 1, 10, none⟩) rfl _
    have HF : Mf WF (w.heap.size + 1) [(.slice ra' row.length rc'), .int .i64 N, .string S, .int .i64 room, (.slice va' 0 vc'), .int .i64 (-1), .bool false, .int .i64 0, .int .i64 0, .int .i64 0, (.slice ma' 0 mc')] := by
      rw [hWF]
      exact (((((((((((HZ2.out.set 0 ((.slice ra' row.length rc'))).set 1 (.int .i64 N)).set 2 (.string S)).set 3 (.int .i64 room)).set 4 ((.slice va' 0 vc'))).set 5 (.int .i64 (-1))).set 6 (.bool false)).set 7 (.int .i64 0)).set 8 (.int .i64 0)).set 9 (.int .i64 0)).set 10 ((.slice ma' 0 mc')))
    obtain ⟨e0, e1, e2, e3, e4, e5, e6, e7, e8, e9, e10, f0, f1, f2, f3, f4, f5, f6, f7, f8, f9, f10⟩ := HF.all
    have hs := HSZ.out
    have f1 := HOW.out.kept KF (fun k hk h => by have := HOW.out.lt k hk; omega)
    obtain ⟨fa, fc, hfe, hfw⟩ := f1.form
    cases hfe
    have hin := Nd6.WBools.within hfw
    exact bodyPost_ret (v := .tuple #[mval (startM row N S room) ra' va' ma' rc' vc' mc', .bool true]) (by simp [results, Tryd.results9, go_sem, startM, e0, e1, e2, e3, e4, e5, e6, e7, e8, e9, e10]) rfl ⟨ra', va', ma', rc', vc', mc', rfl, ⟨hin.1, by
      rcases hin.2 with e | ⟨b, o, ha, hb, hu, r⟩
      · exact .inl e
      · exact .inr ⟨b, o, ha, by omega, hu, r⟩⟩, HB2.out.trans (KF.below (fun b hb => by omega) HB2.out.size)⟩
  · have hk : mokB (startM row N S room) = false := Bool.eq_false_iff.2 fun e => hbad ((start_ok row N S room).1 e)
    rw [hk] at HOK
    clear hk hbad HCP
    go_enter Tryd.func9, Tryd.ntmps9
    go_upto_region 2 with fail
    rw [HE0.out]
    clear HE0
    obtain ⟨d0, d1, d2, d3, d4, d5, d6, d7, d8, d9, d10, z0, z1, z2, z3, z4, z5, z6, z7, z8, z9, z10⟩ := HX0.out.all
    go_wp2_with fail
    refine (HOK.out _ HB0.out).mono ?_
    rintro e w1 ⟨rfl, hb⟩
    have HB1 : Hid (Below w.heap.size w w1) := HB0.out.trans (hb.mono HB0.out.size)
    have HZ1 : Hid (Mf w1 (w.heap.size + 1) [.slice none 0 0, .int .i64 0, .string ⟨#[]⟩, .int .i64 0, .slice none 0 0, .int .i64 0, .bool false, .int .i64 0, .int .i64 0, .int .i64 0, .slice none 0 0]) := HZ0.out.below hb
    clear hb d0 z0 d1 z1 d2 z2 d3 z3 d4 z4 d5 z5 d6 z6 d7 z7 d8 z8 d9 z9 d10 z10
    obtain ⟨d0, d1, d2, d3, d4, d5, d6, d7, d8, d9, d10, z0, z1, z2, z3, z4, z5, z6, z7, z8, z9, z10⟩ := HZ1.out.all
    go_wp2
    clear d0 z0 d1 z1 d2 z2 d3 z3 d4 z4 d5 z5 d6 z6 d7 z7 d8 z8 d9 z9 d10 z10
    obtain ⟨WF, hWF⟩ : ∃ WF, WF = (((((((((((w1).setCell ⟨w.heap.size + 1, 0, none⟩ (.slice none 0 0)).setCell ⟨w.heap.size + 1, 1, none⟩ (.int .i64 0)).setCell ⟨w.heap.size + 1, 2, none⟩ (.string ⟨#[]⟩)).setCell ⟨w.heap.size + 1, 3, none⟩ (.int .i64 0)).setCell ⟨w.heap.size + 1, 4, none⟩ (.slice none 0 0)).setCell ⟨w.heap.size + 1, 5, none⟩ (.int .i64 0)).setCell ⟨w.heap.size + 1, 6, none⟩ (.bool false)).setCell ⟨w.heap.size + 1, 7, none⟩ (.int .i64 0)).setCell ⟨w.heap.size + 1, 8, none⟩ (.int .i64 0)).setCell ⟨w.heap.size + 1, 9, none⟩ (.int .i64 0)).setCell ⟨w.heap.size + 1, 10, none⟩ (.slice none 0 0) := ⟨_, rfl⟩
    rw [← hWF]
    have KF : Kept (fun b => b = w.heap.size + 1) w1 WF := by rw [hWF]; exact ((((((((((((Kept.refl (fun b => b = w.heap.size + 1) w1)).setCell (p := ⟨w.heap.size + 1, 0, none⟩) rfl _).setCell (p := ⟨w.heap.size + 1, 1, none⟩) rfl _).setCell (p := ⟨w.heap.size + 1, 2, none⟩) rfl _).setCell (p := ⟨w.heap.size + 1, 3, none⟩) rfl _).setCell (p := ⟨w.heap.size + 1, 4, none⟩) rfl _).setCell (p := ⟨w.heap.size + 1, 5, none⟩) rfl _).setCell (p := ⟨w.heap.size + 1, 6, none⟩) rfl _).setCell (p := ⟨w.heap.size + 1, 7, none⟩) rfl _).setCell (p := ⟨w.heap.size + 1, 8, none⟩) rfl _).setCell (p := ⟨w.heap.size + 1, 9, none⟩) rfl _).setCell (p := ⟨w.heap.size + 1, 10, none⟩) rfl _
    have HF : Mf WF (w.heap.size + 1) [.slice none 0 0, .int .i64 0, .string ⟨#[]⟩, .int .i64 0, .slice none 0 0, .int .i64 0, .bool false, .int .i64 0, .int .i64 0, .int .i64 0, .slice none 0 0] := by
      rw [hWF]
      exact (((((((((((HZ1.out.set 0 (.slice none 0 0)).set 1 (.int .i64 0)).set 2 (.string ⟨#[]⟩)).set 3 (.int .i64 0)).set 4 (.slice none 0 0)).set 5 (.int .i64 0)).set 6 (.bool false)).set 7 (.int .i64 0)).set 8 (.int .i64 0)).set 9 (.int .i64 0)).set 10 (.slice none 0 0))
    obtain ⟨e0, e1, e2, e3, e4, e5, e6, e7, e8, e9, e10, f0, f1, f2, f3, f4, f5, f6, f7, f8, f9, f10⟩ := HF.all
    exact bodyPost_ret (v := .tuple #[mval zeroM none none none 0 0 0, .bool false]) (by simp [results, Tryd.results9, go_sem, zeroM, e0, e1, e2, e3, e4, e5, e6, e7, e8, e9, e10]) rfl ⟨none, none, none, 0, 0, 0, rfl, ⟨Nat.zero_le _, .inl rfl⟩, HB1.out.trans (KF.below (fun b hb => by omega) HB1.out.size)⟩

end Go.Proofs.YtldeakifeifgdaaDoor.Ia0
