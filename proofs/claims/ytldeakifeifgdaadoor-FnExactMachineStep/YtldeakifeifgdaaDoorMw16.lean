/- The program's MachineRun of right arguments, over any invariant of its loop. Written by tools/gen_mw16.py. -/
import Derived.Test.YtldeakifeifgdaaDoorMw0
namespace Go.Proofs.YtldeakifeifgdaaDoor.Mw16
open Go.RowKit
open Nd0 (Kept Ints lt_of_cell At)
open Mm0 Mx0 Mu2 Mw0
set_option linter.unusedVariables false

def RunPost (w : World) (n : Nat) (I : World → Nat → Nat → World → Prop) (st : Nat → Bool) (M : Nat → Mc) (e : Ending) (w' : World) : Prop :=
  ∃ k p ra' va' ma' rc' vc' mc' bm W1 w2, e = .returned (mval (M k) ra' va' ma' rc' vc' mc') ∧ Below w.heap.size w W1 ∧ w.heap.size + 2 ≤ W1.heap.size ∧ k ≤ n ∧ (k = n ∨ st k = true) ∧ (∀ t, t < k → st t = false) ∧ I W1 p k w2 ∧ Sb w2 p (M k) ra' va' ma' rc' vc' mc' bm ∧ Kept (fun b => b = w.heap.size + 1) w2 w'

set_option maxRecDepth 100000 in
set_option maxHeartbeats 8000000 in
theorem iRunOk (w : World) (n : Nat) (hn : n ≤ 100000) (m : Mc) (ra va ma : Option Addr) (rc vc mc : Nat) (I : World → Nat → Nat → World → Prop) (st : Nat → Bool) (M : Nat → Mc)
    (hO : ∀ W, Below w.heap.size w W → Calls Tryd.prog 10 #[mval m ra va ma rc vc mc] W fun e w' => e = .returned (.bool true) ∧ Below W.heap.size W w')
    (hN : ∀ W, Below w.heap.size w W → Calls Tryd.prog 34 #[mval m ra va ma rc vc mc] W fun e w' => ∃ p, e = .returned (.pointer (some ⟨p, 0, none⟩)) ∧ I W p 0 w')
    (hK : ∀ W1 p i W, I W1 p i W → Below W1.heap.size W1 W)
    (hS : ∀ W1 p i W, I W1 p i W → Calls Tryd.prog 35 #[.pointer (some ⟨p, 0, none⟩)] W fun e w' => e = .returned (.bool (st i)) ∧ I W1 p i w')
    (hT : ∀ W1 p i W, I W1 p i W → st i = false → Calls Tryd.prog 36 #[.pointer (some ⟨p, 0, none⟩)] W fun e w' => e = .returned (.tuple #[]) ∧ I W1 p (i + 1) w')
    (hE : ∀ W1 p i W, I W1 p i W → ∃ ra' va' ma' rc' vc' mc' bm, Sb W p (M i) ra' va' ma' rc' vc' mc' bm) :
    Calls Tryd.prog 11 #[mval m ra va ma rc vc mc, .int .i64 n] w (RunPost w n I st M) := by
  have HO : Hid (∀ W, Below w.heap.size w W → Calls Tryd.prog 10 #[mval m ra va ma rc vc mc] W fun e w' => e = .returned (.bool true) ∧ Below W.heap.size W w') := hO
  have HN : Hid (∀ W, Below w.heap.size w W → Calls Tryd.prog 34 #[mval m ra va ma rc vc mc] W fun e w' => ∃ p, e = .returned (.pointer (some ⟨p, 0, none⟩)) ∧ I W p 0 w') := hN
  have HK : Hid (∀ W1 p i W, I W1 p i W → Below W1.heap.size W1 W) := hK
  have HS : Hid (∀ W1 p i W, I W1 p i W → Calls Tryd.prog 35 #[.pointer (some ⟨p, 0, none⟩)] W fun e w' => e = .returned (.bool (st i)) ∧ I W1 p i w') := hS
  have HT : Hid (∀ W1 p i W, I W1 p i W → st i = false → Calls Tryd.prog 36 #[.pointer (some ⟨p, 0, none⟩)] W fun e w' => e = .returned (.tuple #[]) ∧ I W1 p (i + 1) w') := hT
  have HE : Hid (∀ W1 p i W, I W1 p i W → ∃ ra' va' ma' rc' vc' mc' bm, Sb W p (M i) ra' va' ma' rc' vc' mc' bm) := hE
  clear hO hN hK hS hT hE
  obtain ⟨W0, hW0⟩ : ∃ W0, W0 = ((w.alloc (.cells #[.slice ra m.row.length rc, .int .i64 m.N, .string m.S, .int .i64 m.room, .slice va m.vals.length vc, .int .i64 m.ret, .bool m.over, .int .i64 m.steps, .int .i64 m.looks, .int .i64 m.hits, .slice ma m.memo.length mc] 34)).alloc (.cells #[.slice none 0 0, .int .i64 0, .string ⟨#[]⟩, .int .i64 0, .slice none 0 0, .int .i64 0, .bool false, .int .i64 0, .int .i64 0, .int .i64 0, .slice none 0 0] 34)) := ⟨_, rfl⟩
  have HE0 : Hid (((w.alloc (.cells #[.slice ra m.row.length rc, .int .i64 m.N, .string m.S, .int .i64 m.room, .slice va m.vals.length vc, .int .i64 m.ret, .bool m.over, .int .i64 m.steps, .int .i64 m.looks, .int .i64 m.hits, .slice ma m.memo.length mc] 34)).alloc (.cells #[.slice none 0 0, .int .i64 0, .string ⟨#[]⟩, .int .i64 0, .slice none 0 0, .int .i64 0, .bool false, .int .i64 0, .int .i64 0, .int .i64 0, .slice none 0 0] 34)) = W0) := hW0.symm
  have HB0 : Hid (Below w.heap.size w W0) := by rw [hW0]; exact ((Below.refl _ _).alloc (Nat.le_refl _) _).alloc (by simp) _
  have hs0 : W0.heap.size = w.heap.size + 2 := by rw [hW0]; simp
  have HS0 : Hid (W0.heap.size = w.heap.size + 2) := hs0
  clear hs0
  have HZ0 : Hid (Mf W0 (w.heap.size + 1) [.slice none 0 0, .int .i64 0, .string ⟨#[]⟩, .int .i64 0, .slice none 0 0, .int .i64 0, .bool false, .int .i64 0, .int .i64 0, .int .i64 0, .slice none 0 0]) := by
    have h1 := Mf.made (w.alloc (.cells #[.slice ra m.row.length rc, .int .i64 m.N, .string m.S, .int .i64 m.room, .slice va m.vals.length vc, .int .i64 m.ret, .bool m.over, .int .i64 m.steps, .int .i64 m.looks, .int .i64 m.hits, .slice ma m.memo.length mc] 34)) #[.slice none 0 0, .int .i64 0, .string ⟨#[]⟩, .int .i64 0, .slice none 0 0, .int .i64 0, .bool false, .int .i64 0, .int .i64 0, .int .i64 0, .slice none 0 0] 34
    have h2 : (w.alloc (.cells #[.slice ra m.row.length rc, .int .i64 m.N, .string m.S, .int .i64 m.room, .slice va m.vals.length vc, .int .i64 m.ret, .bool m.over, .int .i64 m.steps, .int .i64 m.looks, .int .i64 m.hits, .slice ma m.memo.length mc] 34)).heap.size = w.heap.size + 1 := by simp
    rw [h2, ← hW0] at h1
    exact h1
  have HX0 : Hid (Mf W0 w.heap.size [.slice ra m.row.length rc, .int .i64 m.N, .string m.S, .int .i64 m.room, .slice va m.vals.length vc, .int .i64 m.ret, .bool m.over, .int .i64 m.steps, .int .i64 m.looks, .int .i64 m.hits, .slice ma m.memo.length mc]) := by
    have h1 := (Mf.made w #[.slice ra m.row.length rc, .int .i64 m.N, .string m.S, .int .i64 m.room, .slice va m.vals.length vc, .int .i64 m.ret, .bool m.over, .int .i64 m.steps, .int .i64 m.looks, .int .i64 m.hits, .slice ma m.memo.length mc] 34).alloc (.cells #[.slice none 0 0, .int .i64 0, .string ⟨#[]⟩, .int .i64 0, .slice none 0 0, .int .i64 0, .bool false, .int .i64 0, .int .i64 0, .int .i64 0, .slice none 0 0] 34)
    rw [← hW0] at h1
    exact h1
  clear hW0
  have hn0 : ¬ (n : Int) < 0 := by omega
  have hn1 : ¬ (100000 : Int) < (n : Int) := by omega
  go_enter Tryd.func11, Tryd.ntmps11
  unfold mval
  go_upto_region 1 with fail
  rw [HE0.out]
  clear HE0
  obtain ⟨d0, d1, d2, d3, d4, d5, d6, d7, d8, d9, d10, z0, z1, z2, z3, z4, z5, z6, z7, z8, z9, z10⟩ := HX0.out.all
  have hlt := HX0.out.lt (by simp)
  go_wp2_with fail
  clear d0 z0 d1 z1 d2 z2 d3 z3 d4 z4 d5 z5 d6 z6 d7 z7 d8 z8 d9 z9 d10 z10 hlt
  refine (HO.out _ HB0.out).mono ?_
  rintro e WC ⟨rfl, hb⟩
  have HBC : Hid (Below w.heap.size w WC) := HB0.out.trans (hb.mono HB0.out.size)
  have HSC : Hid (w.heap.size + 2 ≤ WC.heap.size) := Nat.le_trans (Nat.le_of_eq HS0.out.symm) hb.size
  have HZC : Hid (Mf WC (w.heap.size + 1) [.slice none 0 0, .int .i64 0, .string ⟨#[]⟩, .int .i64 0, .slice none 0 0, .int .i64 0, .bool false, .int .i64 0, .int .i64 0, .int .i64 0, .slice none 0 0]) := HZ0.out.below hb
  have HXC : Hid (Mf WC w.heap.size [.slice ra m.row.length rc, .int .i64 m.N, .string m.S, .int .i64 m.room, .slice va m.vals.length vc, .int .i64 m.ret, .bool m.over, .int .i64 m.steps, .int .i64 m.looks, .int .i64 m.hits, .slice ma m.memo.length mc]) := HX0.out.below hb
  clear hb
  obtain ⟨d0, d1, d2, d3, d4, d5, d6, d7, d8, d9, d10, z0, z1, z2, z3, z4, z5, z6, z7, z8, z9, z10⟩ := HXC.out.all
  have hlt := HXC.out.lt (by simp)
  go_wp2_with fail
  clear d0 z0 d1 z1 d2 z2 d3 z3 d4 z4 d5 z5 d6 z6 d7 z7 d8 z8 d9 z9 d10 z10 hlt hn0 hn1
  refine (HN.out _ HBC.out).mono ?_
  rintro e w1 ⟨p, rfl, hi⟩
  have HI1 : Hid (I WC p 0 w1) := hi
  clear hi
  go_wp2_with fail
  go_loopw [6] (fun i wr => ∃ j : Nat, j ≤ n ∧ i = .int .i64 j ∧ (∀ t, t < j → st t = false) ∧ I WC p j wr) (fun i _ => n - (intOf i).toNat)
  case atStart => exact ⟨0, Nat.zero_le _, rfl, fun t ht => absurd ht (Nat.not_lt_zero _), HI1.out⟩
  case round =>
    obtain ⟨j, hj, rfl, hpast, hi⟩ := hrel
    have HPAST : Hid (∀ t, t < j → st t = false) := hpast
    have HIW : Hid (I WC p j wr) := hi
    clear hpast hi
    by_cases hlt : j < n
    · have hjz : (j : Int) < (n : Int) := by omega
      go_wp2_with fail
      refine (HS.out _ _ _ _ HIW.out).mono ?_
      rintro e w2 ⟨rfl, hi⟩
      have HIx : Hid (I WC p j w2) := hi
      clear hi
      cases hst : st j
      · have HST : Hid (st j = false) := hst
        clear hst
        go_wp2_with fail
        refine (HT.out _ _ _ _ HIx.out HST.out).mono ?_
        rintro e w3 ⟨rfl, hi⟩
        have HI3 : Hid (I WC p (j + 1) w3) := hi
        clear hi
        go_wp2
        go_roundw
        case rel => exact ⟨j + 1, by omega, by go_num, fun t ht => by rcases Nat.lt_or_eq_of_le (Nat.le_of_lt_succ ht) with h | h; (exact HPAST.out t h); (rw [h]; exact HST.out), HI3.out⟩
        case measure => simp [intOf]; omega
      have HSTOP : Hid (j = n ∨ st j = true) := .inr hst
      clear hst
      obtain ⟨ra', va', ma', rc', vc', mc', bm, hSb⟩ := HE.out _ _ _ _ HIx.out
      have HSB : Hid (Sb w2 p (M j) ra' va' ma' rc' vc' mc' bm) := hSb
      clear hSb
      obtain ⟨c0, c1, c2, c3, c4, c5, c6, c7, c8, c9, c10, c11, y0, y1, y2, y3, y4, y5, y6, y7, y8, y9, y10, y11⟩ := HSB.out.all
      have hpl := HSB.out.lt
      have HZ2 : Hid (Mf w2 (w.heap.size + 1) [.slice none 0 0, .int .i64 0, .string ⟨#[]⟩, .int .i64 0, .slice none 0 0, .int .i64 0, .bool false, .int .i64 0, .int .i64 0, .int .i64 0, .slice none 0 0]) := HZC.out.below (HK.out _ _ _ _ HIx.out)
      obtain ⟨d0, d1, d2, d3, d4, d5, d6, d7, d8, d9, d10, z0, z1, z2, z3, z4, z5, z6, z7, z8, z9, z10⟩ := HZ2.out.all
      have hlt := HZ2.out.lt (by simp)
      go_wp2
      clear d0 z0 d1 z1 d2 z2 d3 z3 d4 z4 d5 z5 d6 z6 d7 z7 d8 z8 d9 z9 d10 z10 hlt c0 c1 c2 c3 c4 c5 c6 c7 c8 c9 c10 c11 y0 y1 y2 y3 y4 y5 y6 y7 y8 y9 y10 y11
      obtain ⟨WF, hWF⟩ : ∃ WF, WF = (((((((((((w2).setCell ⟨w.heap.size + 1, 0, none⟩ (.slice ra' (M j).row.length rc')).setCell ⟨w.heap.size + 1, 1, none⟩ (.int .i64 (M j).N)).setCell ⟨w.heap.size + 1, 2, none⟩ (.string (M j).S)).setCell ⟨w.heap.size + 1, 3, none⟩ (.int .i64 (M j).room)).setCell ⟨w.heap.size + 1, 4, none⟩ (.slice va' (M j).vals.length vc')).setCell ⟨w.heap.size + 1, 5, none⟩ (.int .i64 (M j).ret)).setCell ⟨w.heap.size + 1, 6, none⟩ (.bool (M j).over)).setCell ⟨w.heap.size + 1, 7, none⟩ (.int .i64 (M j).steps)).setCell ⟨w.heap.size + 1, 8, none⟩ (.int .i64 (M j).looks)).setCell ⟨w.heap.size + 1, 9, none⟩ (.int .i64 (M j).hits)).setCell ⟨w.heap.size + 1, 10, none⟩ (.slice ma' (M j).memo.length mc') := ⟨_, rfl⟩
      rw [← hWF]
      have KF : Kept (fun b => b = w.heap.size + 1) w2 WF := by rw [hWF]; exact ((((((((((((Kept.refl (fun b => b = w.heap.size + 1) w2)).setCell (p := ⟨w.heap.size + 1, 0, none⟩) rfl _).setCell (p := ⟨w.heap.size + 1, 1, none⟩) rfl _).setCell (p := ⟨w.heap.size + 1, 2, none⟩) rfl _).setCell (p := ⟨w.heap.size + 1, 3, none⟩) rfl _).setCell (p := ⟨w.heap.size + 1, 4, none⟩) rfl _).setCell (p := ⟨w.heap.size + 1, 5, none⟩) rfl _).setCell (p := ⟨w.heap.size + 1, 6, none⟩) rfl _).setCell (p := ⟨w.heap.size + 1, 7, none⟩) rfl _).setCell (p := ⟨w.heap.size + 1, 8, none⟩) rfl _).setCell (p := ⟨w.heap.size + 1, 9, none⟩) rfl _).setCell (p := ⟨w.heap.size + 1, 10, none⟩) rfl _
      have HF : Mf WF (w.heap.size + 1) [.slice ra' (M j).row.length rc', .int .i64 (M j).N, .string (M j).S, .int .i64 (M j).room, .slice va' (M j).vals.length vc', .int .i64 (M j).ret, .bool (M j).over, .int .i64 (M j).steps, .int .i64 (M j).looks, .int .i64 (M j).hits, .slice ma' (M j).memo.length mc'] := by
        rw [hWF]
        exact (((((((((((HZ2.out).set 0 (.slice ra' (M j).row.length rc')).set 1 (.int .i64 (M j).N)).set 2 (.string (M j).S)).set 3 (.int .i64 (M j).room)).set 4 (.slice va' (M j).vals.length vc')).set 5 (.int .i64 (M j).ret)).set 6 (.bool (M j).over)).set 7 (.int .i64 (M j).steps)).set 8 (.int .i64 (M j).looks)).set 9 (.int .i64 (M j).hits)).set 10 (.slice ma' (M j).memo.length mc')
      obtain ⟨e0, e1, e2, e3, e4, e5, e6, e7, e8, e9, e10, f0, f1, f2, f3, f4, f5, f6, f7, f8, f9, f10⟩ := HF.all
      exact bodyPost_ret (v := mval (M j) ra' va' ma' rc' vc' mc') (by simp [results, Tryd.results11, go_sem, mval, e0, e1, e2, e3, e4, e5, e6, e7, e8, e9, e10]) rfl ⟨j, p, ra', va', ma', rc', vc', mc', bm, WC, w2, rfl, HBC.out, HSC.out, hj, HSTOP.out, HPAST.out, HIx.out, HSB.out, KF⟩
    · have hjz : ¬ (j : Int) < (n : Int) := by omega
      have HSTOP : Hid (j = n ∨ st j = true) := .inl (by omega)
      obtain ⟨w2, hw2⟩ : ∃ w2, w2 = wr := ⟨_, rfl⟩
      subst hw2
      have HIx : Hid (I WC p j w2) := HIW.out
      obtain ⟨ra', va', ma', rc', vc', mc', bm, hSb⟩ := HE.out _ _ _ _ HIx.out
      have HSB : Hid (Sb w2 p (M j) ra' va' ma' rc' vc' mc' bm) := hSb
      clear hSb
      obtain ⟨c0, c1, c2, c3, c4, c5, c6, c7, c8, c9, c10, c11, y0, y1, y2, y3, y4, y5, y6, y7, y8, y9, y10, y11⟩ := HSB.out.all
      have hpl := HSB.out.lt
      have HZ2 : Hid (Mf w2 (w.heap.size + 1) [.slice none 0 0, .int .i64 0, .string ⟨#[]⟩, .int .i64 0, .slice none 0 0, .int .i64 0, .bool false, .int .i64 0, .int .i64 0, .int .i64 0, .slice none 0 0]) := HZC.out.below (HK.out _ _ _ _ HIx.out)
      obtain ⟨d0, d1, d2, d3, d4, d5, d6, d7, d8, d9, d10, z0, z1, z2, z3, z4, z5, z6, z7, z8, z9, z10⟩ := HZ2.out.all
      have hlt := HZ2.out.lt (by simp)
      go_wp2
      clear d0 z0 d1 z1 d2 z2 d3 z3 d4 z4 d5 z5 d6 z6 d7 z7 d8 z8 d9 z9 d10 z10 hlt c0 c1 c2 c3 c4 c5 c6 c7 c8 c9 c10 c11 y0 y1 y2 y3 y4 y5 y6 y7 y8 y9 y10 y11
      obtain ⟨WF, hWF⟩ : ∃ WF, WF = (((((((((((w2).setCell ⟨w.heap.size + 1, 0, none⟩ (.slice ra' (M j).row.length rc')).setCell ⟨w.heap.size + 1, 1, none⟩ (.int .i64 (M j).N)).setCell ⟨w.heap.size + 1, 2, none⟩ (.string (M j).S)).setCell ⟨w.heap.size + 1, 3, none⟩ (.int .i64 (M j).room)).setCell ⟨w.heap.size + 1, 4, none⟩ (.slice va' (M j).vals.length vc')).setCell ⟨w.heap.size + 1, 5, none⟩ (.int .i64 (M j).ret)).setCell ⟨w.heap.size + 1, 6, none⟩ (.bool (M j).over)).setCell ⟨w.heap.size + 1, 7, none⟩ (.int .i64 (M j).steps)).setCell ⟨w.heap.size + 1, 8, none⟩ (.int .i64 (M j).looks)).setCell ⟨w.heap.size + 1, 9, none⟩ (.int .i64 (M j).hits)).setCell ⟨w.heap.size + 1, 10, none⟩ (.slice ma' (M j).memo.length mc') := ⟨_, rfl⟩
      rw [← hWF]
      have KF : Kept (fun b => b = w.heap.size + 1) w2 WF := by rw [hWF]; exact ((((((((((((Kept.refl (fun b => b = w.heap.size + 1) w2)).setCell (p := ⟨w.heap.size + 1, 0, none⟩) rfl _).setCell (p := ⟨w.heap.size + 1, 1, none⟩) rfl _).setCell (p := ⟨w.heap.size + 1, 2, none⟩) rfl _).setCell (p := ⟨w.heap.size + 1, 3, none⟩) rfl _).setCell (p := ⟨w.heap.size + 1, 4, none⟩) rfl _).setCell (p := ⟨w.heap.size + 1, 5, none⟩) rfl _).setCell (p := ⟨w.heap.size + 1, 6, none⟩) rfl _).setCell (p := ⟨w.heap.size + 1, 7, none⟩) rfl _).setCell (p := ⟨w.heap.size + 1, 8, none⟩) rfl _).setCell (p := ⟨w.heap.size + 1, 9, none⟩) rfl _).setCell (p := ⟨w.heap.size + 1, 10, none⟩) rfl _
      have HF : Mf WF (w.heap.size + 1) [.slice ra' (M j).row.length rc', .int .i64 (M j).N, .string (M j).S, .int .i64 (M j).room, .slice va' (M j).vals.length vc', .int .i64 (M j).ret, .bool (M j).over, .int .i64 (M j).steps, .int .i64 (M j).looks, .int .i64 (M j).hits, .slice ma' (M j).memo.length mc'] := by
        rw [hWF]
        exact (((((((((((HZ2.out).set 0 (.slice ra' (M j).row.length rc')).set 1 (.int .i64 (M j).N)).set 2 (.string (M j).S)).set 3 (.int .i64 (M j).room)).set 4 (.slice va' (M j).vals.length vc')).set 5 (.int .i64 (M j).ret)).set 6 (.bool (M j).over)).set 7 (.int .i64 (M j).steps)).set 8 (.int .i64 (M j).looks)).set 9 (.int .i64 (M j).hits)).set 10 (.slice ma' (M j).memo.length mc')
      obtain ⟨e0, e1, e2, e3, e4, e5, e6, e7, e8, e9, e10, f0, f1, f2, f3, f4, f5, f6, f7, f8, f9, f10⟩ := HF.all
      exact bodyPost_ret (v := mval (M j) ra' va' ma' rc' vc' mc') (by simp [results, Tryd.results11, go_sem, mval, e0, e1, e2, e3, e4, e5, e6, e7, e8, e9, e10]) rfl ⟨j, p, ra', va', ma', rc', vc', mc', bm, WC, w2, rfl, HBC.out, HSC.out, hj, HSTOP.out, HPAST.out, HIx.out, HSB.out, KF⟩

end Go.Proofs.YtldeakifeifgdaaDoor.Mw16
