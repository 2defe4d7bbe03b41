/- Small texts of mine, one behind the other. -/
import Derived.Test.YtmjmnfegaoegjaaGreatDoorZl10
import Derived.Test.YtmjmnfegaoegjaaGreatDoorPkLD33
import Derived.Test.YtmjmnfegaoegjaaGreatDoorPkLD38
import Derived.Test.YtmjmnfegaoegjaaGreatDoorPkLD27
/- The program's LoadMachine. Written by tools/mkzl11.py. -/
namespace Go.Proofs.YtmjmnfegaoegjaaGreatDoor.Zl11
open Go.RowKit
open Nd0 (Kept At lt_of_cell)
open Mm0 (Mc Mb Mr Mok mval)
open Mx0 (Mf Mz)
open Ss0 (bs bs_size)
open Ss1 (tl tl_bs bs_tl tl_length)
open Zs5 (rfv)
open Zs6 (iRefusal iRefusal0)
open Zs7 (TabE)
open Zl0 Zl1 Zl2 Zl10
set_option linter.unusedVariables false

def LmP (s : List UInt8) (B : Nat) (e : Ending) (w' : World) : Prop :=
  (∀ m, ldP s = some m → ∃ q ra va ma rc vc mc u1 u2, e = .returned (.tuple #[mval m ra va ma rc vc mc, .bool true]) ∧ B ≤ q ∧ Ld w' q m ra va ma rc vc mc u1 u2) ∧ (ldP s = none → e = .returned (.tuple #[mval mc0 none none none 0 0 0, .bool false]))
theorem LmP.no {s : List UInt8} {B : Nat} {w' : World} (h : ldP s = none) : LmP s B (.returned (.tuple #[mval mc0 none none none 0 0 0, .bool false])) w' :=
  ⟨fun m hm => (by rw [h] at hm; cases hm), fun _ => rfl⟩
theorem LmP.yes {s : List UInt8} {B : Nat} {w' : World} {q : Nat} {m : Mc} {ra va ma : Option Addr} {rc vc mc u1 u2 : Nat} (h : ldP s = some m) (hq : B ≤ q) (hl : Ld w' q m ra va ma rc vc mc u1 u2) : LmP s B (.returned (.tuple #[mval m ra va ma rc vc mc, .bool true])) w' :=
  ⟨fun m' hm => (by rw [h] at hm; cases hm; exact ⟨q, ra, va, ma, rc, vc, mc, u1, u2, rfl, hq, hl⟩), fun e => (by rw [h] at e; cases e)⟩

set_option maxRecDepth 100000 in
set_option maxHeartbeats 4000000 in
theorem iLoad (s : List UInt8) (w : World) (hs : s.length ≤ 1048576) (hT : TabE w) :
    Calls Tryz.prog 18 #[.string (bs s)] w fun e w' => LmP s w.heap.size e w' ∧ Below w.heap.size w w' := by
  obtain ⟨X0, hX0⟩ : ∃ X, X = w.alloc (.cells #[.slice none 0 0, .int .i64 0, .string ⟨#[]⟩, .int .i64 0, .slice none 0 0, .int .i64 0, .bool false, .int .i64 0, .int .i64 0, .int .i64 0, .slice none 0 0] 30) := ⟨_, rfl⟩
  have hE : w.alloc (.cells #[.slice none 0 0, .int .i64 0, .string ⟨#[]⟩, .int .i64 0, .slice none 0 0, .int .i64 0, .bool false, .int .i64 0, .int .i64 0, .int .i64 0, .slice none 0 0] 30) = X0 := hX0.symm
  have HB0 : Hid (Below w.heap.size w X0) := by rw [hX0]; exact (Below.refl _ _).alloc (Nat.le_refl _) _
  have HZ0 : Hid (Mf X0 w.heap.size [.slice none 0 0, .int .i64 0, .string ⟨#[]⟩, .int .i64 0, .slice none 0 0, .int .i64 0, .bool false, .int .i64 0, .int .i64 0, .int .i64 0, .slice none 0 0]) := by rw [hX0]; exact Mf.made _ _ _
  have HX0 : Hid (X0.heap.size = w.heap.size + 1) := by rw [hX0]; show _ = _; simp
  have HT : Hid (TabE w) := hT
  have HSM : Hid _ := iSavedMachine s X0 hs (hT.tab.below HB0.out)
  obtain ⟨S, hS⟩ : ∃ S, S = bs s := ⟨_, rfl⟩
  rw [← hS] at HSM
  rw [← hS]
  clear hX0 hT hS hs
  go_enter Tryz.func18, Tryz.ntmps18
  go_upto_region 1 with fail
  clear hE
  go_wp2_with fail
  refine Calls.mono HSM.out ?_
  rintro e w1 ⟨⟨hyes, hno⟩, hb1⟩
  have HB1 : Hid (Below w.heap.size w w1) := HB0.out.trans (hb1.mono HB0.out.size)
  have HZ1 : Hid (Mf w1 w.heap.size [.slice none 0 0, .int .i64 0, .string ⟨#[]⟩, .int .i64 0, .slice none 0 0, .int .i64 0, .bool false, .int .i64 0, .int .i64 0, .int .i64 0, .slice none 0 0]) := HZ0.out.below hb1
  clear hb1 HSM
  cases hl : ldP s with
  | none =>
    have HP : Hid (ldP s = none) := hl
    obtain ⟨m, ra, va, ma, rc, vc, mc, x, rfl⟩ := hno hl
    clear hyes hno hl
    obtain ⟨X2, hX2⟩ : ∃ X, X = w1.alloc (.cells #[.slice ra m.row.length rc, .int .i64 m.N, .string m.S, .int .i64 m.room, .slice va m.vals.length vc, .int .i64 m.ret, .bool m.over, .int .i64 m.steps, .int .i64 m.looks, .int .i64 m.hits, .slice ma m.memo.length mc] 30) := ⟨_, rfl⟩
    have HE2 : Hid (w1.alloc (.cells #[.slice ra m.row.length rc, .int .i64 m.N, .string m.S, .int .i64 m.room, .slice va m.vals.length vc, .int .i64 m.ret, .bool m.over, .int .i64 m.steps, .int .i64 m.looks, .int .i64 m.hits, .slice ma m.memo.length mc] 30) = X2) := hX2.symm
    have HB2 : Hid (Below w.heap.size w X2) := by rw [hX2]; exact HB1.out.alloc HB1.out.size _
    have HZ2 : Hid (Mf X2 w.heap.size [.slice none 0 0, .int .i64 0, .string ⟨#[]⟩, .int .i64 0, .slice none 0 0, .int .i64 0, .bool false, .int .i64 0, .int .i64 0, .int .i64 0, .slice none 0 0]) := by rw [hX2]; exact HZ1.out.alloc _
    clear hX2
    go_upto_region 2 with fail
    rw [HE2.out]
    clear HE2
    go_wp2_with fail
    refine (iRefusal x _ (HT.out.below HB2.out).ety).mono ?_
    rintro e w3 ⟨rfl, hb3⟩
    have HB3 : Hid (Below w.heap.size w w3) := HB2.out.trans (hb3.mono HB2.out.size)
    have HZ3 : Hid (Mf w3 w.heap.size [.slice none 0 0, .int .i64 0, .string ⟨#[]⟩, .int .i64 0, .slice none 0 0, .int .i64 0, .bool false, .int .i64 0, .int .i64 0, .int .i64 0, .slice none 0 0]) := HZ2.out.below hb3
    clear hb3
    obtain ⟨d0, d1, d2, d3, d4, d5, d6, d7, d8, d9, d10, z0, z1, z2, z3, z4, z5, z6, z7, z8, z9, z10⟩ := HZ3.out.all
    go_wp2
    clear d0 d1 d2 d3 d4 d5 d6 d7 d8 d9 d10 z0 z1 z2 z3 z4 z5 z6 z7 z8 z9 z10
    obtain ⟨WF, hWF⟩ : ∃ WF, WF = (((((((((((w3).setCell ⟨w.heap.size, 0, none⟩ (.slice none 0 0)).setCell ⟨w.heap.size, 1, none⟩ (.int .i64 0)).setCell ⟨w.heap.size, 2, none⟩ (.string ⟨#[]⟩)).setCell ⟨w.heap.size, 3, none⟩ (.int .i64 0)).setCell ⟨w.heap.size, 4, none⟩ (.slice none 0 0)).setCell ⟨w.heap.size, 5, none⟩ (.int .i64 0)).setCell ⟨w.heap.size, 6, none⟩ (.bool false)).setCell ⟨w.heap.size, 7, none⟩ (.int .i64 0)).setCell ⟨w.heap.size, 8, none⟩ (.int .i64 0)).setCell ⟨w.heap.size, 9, none⟩ (.int .i64 0)).setCell ⟨w.heap.size, 10, none⟩ (.slice none 0 0) := ⟨_, rfl⟩
    rw [← hWF]
    have KF : Kept (fun b => b = w.heap.size) w3 WF := by rw [hWF]; exact ((((((((((((Kept.refl (fun b => b = w.heap.size) w3).setCell (p := ⟨w.heap.size, 0, none⟩) rfl _).setCell (p := ⟨w.heap.size, 1, none⟩) rfl _).setCell (p := ⟨w.heap.size, 2, none⟩) rfl _).setCell (p := ⟨w.heap.size, 3, none⟩) rfl _).setCell (p := ⟨w.heap.size, 4, none⟩) rfl _).setCell (p := ⟨w.heap.size, 5, none⟩) rfl _).setCell (p := ⟨w.heap.size, 6, none⟩) rfl _).setCell (p := ⟨w.heap.size, 7, none⟩) rfl _).setCell (p := ⟨w.heap.size, 8, none⟩) rfl _).setCell (p := ⟨w.heap.size, 9, none⟩) rfl _).setCell (p := ⟨w.heap.size, 10, none⟩) rfl _)
    have HF : Mf WF w.heap.size [.slice none 0 0, .int .i64 0, .string ⟨#[]⟩, .int .i64 0, .slice none 0 0, .int .i64 0, .bool false, .int .i64 0, .int .i64 0, .int .i64 0, .slice none 0 0] := by
      rw [hWF]
      exact (((((((((((HZ3.out.set 0 (.slice none 0 0)).set 1 (.int .i64 0)).set 2 (.string ⟨#[]⟩)).set 3 (.int .i64 0)).set 4 (.slice none 0 0)).set 5 (.int .i64 0)).set 6 (.bool false)).set 7 (.int .i64 0)).set 8 (.int .i64 0)).set 9 (.int .i64 0)).set 10 (.slice none 0 0))
    obtain ⟨e0, e1, e2, e3, e4, e5, e6, e7, e8, e9, e10, f0, f1, f2, f3, f4, f5, f6, f7, f8, f9, f10⟩ := HF.all
    exact bodyPost_ret (v := .tuple #[mval mc0 none none none 0 0 0, .bool false]) (by simp [results, Tryz.results18, go_sem, mc0, e0, e1, e2, e3, e4, e5, e6, e7, e8, e9, e10]) rfl ⟨LmP.no HP.out, HB3.out.trans (KF.below (fun b hb => by omega) HB3.out.size)⟩

  | some m =>
    have HP : Hid (ldP s = some m) := hl
    obtain ⟨q, ra, va, ma, rc, vc, mc, u1, u2, rfl, hq, hld⟩ := hyes m hl
    clear hyes hno hl
    obtain ⟨X2, hX2⟩ : ∃ X, X = w1.alloc (.cells #[.slice ra m.row.length rc, .int .i64 m.N, .string m.S, .int .i64 m.room, .slice va m.vals.length vc, .int .i64 m.ret, .bool m.over, .int .i64 m.steps, .int .i64 m.looks, .int .i64 m.hits, .slice ma m.memo.length mc] 30) := ⟨_, rfl⟩
    have HE2 : Hid (w1.alloc (.cells #[.slice ra m.row.length rc, .int .i64 m.N, .string m.S, .int .i64 m.room, .slice va m.vals.length vc, .int .i64 m.ret, .bool m.over, .int .i64 m.steps, .int .i64 m.looks, .int .i64 m.hits, .slice ma m.memo.length mc] 30) = X2) := hX2.symm
    have b2 : Below w1.heap.size w1 X2 := by rw [hX2]; exact (Below.refl _ _).alloc (Nat.le_refl _) _
    have HB2 : Hid (Below w.heap.size w X2) := HB1.out.trans (b2.mono HB1.out.size)
    have HZ2 : Hid (Mf X2 w.heap.size [.slice none 0 0, .int .i64 0, .string ⟨#[]⟩, .int .i64 0, .slice none 0 0, .int .i64 0, .bool false, .int .i64 0, .int .i64 0, .int .i64 0, .slice none 0 0]) := HZ1.out.below b2
    have HD2 : Hid (Ld X2 q m ra va ma rc vc mc u1 u2) := hld.below b2
    have HM2 : Hid (Mf X2 w1.heap.size [.slice ra m.row.length rc, .int .i64 m.N, .string m.S, .int .i64 m.room, .slice va m.vals.length vc, .int .i64 m.ret, .bool m.over, .int .i64 m.steps, .int .i64 m.looks, .int .i64 m.hits, .slice ma m.memo.length mc]) := by rw [hX2]; exact Mf.made _ _ _
    have HQ : Hid (w.heap.size < q) := by show _ < _; have := HX0.out; omega
    clear hX2 b2 hq hld
    go_upto_region 2 with fail
    rw [HE2.out]
    clear HE2
    go_wp2_with fail
    refine (iRefusal0 _).mono ?_
    rintro e w3 ⟨rfl, hb3⟩
    have HB3 : Hid (Below w.heap.size w w3) := HB2.out.trans (hb3.mono HB2.out.size)
    have HZ3 : Hid (Mf w3 w.heap.size [.slice none 0 0, .int .i64 0, .string ⟨#[]⟩, .int .i64 0, .slice none 0 0, .int .i64 0, .bool false, .int .i64 0, .int .i64 0, .int .i64 0, .slice none 0 0]) := HZ2.out.below hb3
    have HD3 : Hid (Ld w3 q m ra va ma rc vc mc u1 u2) := HD2.out.below hb3
    have HM3 : Hid (Mf w3 w1.heap.size [.slice ra m.row.length rc, .int .i64 m.N, .string m.S, .int .i64 m.room, .slice va m.vals.length vc, .int .i64 m.ret, .bool m.over, .int .i64 m.steps, .int .i64 m.looks, .int .i64 m.hits, .slice ma m.memo.length mc]) := HM2.out.below hb3
    clear hb3
    obtain ⟨d0, d1, d2, d3, d4, d5, d6, d7, d8, d9, d10, z0, z1, z2, z3, z4, z5, z6, z7, z8, z9, z10⟩ := HZ3.out.all
    obtain ⟨a0, a1, a2, a3, a4, a5, a6, a7, a8, a9, a10, y0, y1, y2, y3, y4, y5, y6, y7, y8, y9, y10⟩ := HM3.out.all
    go_wp2
    clear d0 d1 d2 d3 d4 d5 d6 d7 d8 d9 d10 z0 z1 z2 z3 z4 z5 z6 z7 z8 z9 z10 a0 a1 a2 a3 a4 a5 a6 a7 a8 a9 a10 y0 y1 y2 y3 y4 y5 y6 y7 y8 y9 y10
    obtain ⟨WF, hWF⟩ : ∃ WF, WF = (((((((((((w3).setCell ⟨w.heap.size, 0, none⟩ (.slice ra m.row.length rc)).setCell ⟨w.heap.size, 1, none⟩ (.int .i64 m.N)).setCell ⟨w.heap.size, 2, none⟩ (.string m.S)).setCell ⟨w.heap.size, 3, none⟩ (.int .i64 m.room)).setCell ⟨w.heap.size, 4, none⟩ (.slice va m.vals.length vc)).setCell ⟨w.heap.size, 5, none⟩ (.int .i64 m.ret)).setCell ⟨w.heap.size, 6, none⟩ (.bool m.over)).setCell ⟨w.heap.size, 7, none⟩ (.int .i64 m.steps)).setCell ⟨w.heap.size, 8, none⟩ (.int .i64 m.looks)).setCell ⟨w.heap.size, 9, none⟩ (.int .i64 m.hits)).setCell ⟨w.heap.size, 10, none⟩ (.slice ma m.memo.length mc) := ⟨_, rfl⟩
    rw [← hWF]
    have KF : Kept (fun b => b = w.heap.size) w3 WF := by rw [hWF]; exact ((((((((((((Kept.refl (fun b => b = w.heap.size) w3).setCell (p := ⟨w.heap.size, 0, none⟩) rfl _).setCell (p := ⟨w.heap.size, 1, none⟩) rfl _).setCell (p := ⟨w.heap.size, 2, none⟩) rfl _).setCell (p := ⟨w.heap.size, 3, none⟩) rfl _).setCell (p := ⟨w.heap.size, 4, none⟩) rfl _).setCell (p := ⟨w.heap.size, 5, none⟩) rfl _).setCell (p := ⟨w.heap.size, 6, none⟩) rfl _).setCell (p := ⟨w.heap.size, 7, none⟩) rfl _).setCell (p := ⟨w.heap.size, 8, none⟩) rfl _).setCell (p := ⟨w.heap.size, 9, none⟩) rfl _).setCell (p := ⟨w.heap.size, 10, none⟩) rfl _)
    have HF : Mf WF w.heap.size [.slice ra m.row.length rc, .int .i64 m.N, .string m.S, .int .i64 m.room, .slice va m.vals.length vc, .int .i64 m.ret, .bool m.over, .int .i64 m.steps, .int .i64 m.looks, .int .i64 m.hits, .slice ma m.memo.length mc] := by
      rw [hWF]
      exact (((((((((((HZ3.out.set 0 (.slice ra m.row.length rc)).set 1 (.int .i64 m.N)).set 2 (.string m.S)).set 3 (.int .i64 m.room)).set 4 (.slice va m.vals.length vc)).set 5 (.int .i64 m.ret)).set 6 (.bool m.over)).set 7 (.int .i64 m.steps)).set 8 (.int .i64 m.looks)).set 9 (.int .i64 m.hits)).set 10 (.slice ma m.memo.length mc))
    obtain ⟨e0, e1, e2, e3, e4, e5, e6, e7, e8, e9, e10, f0, f1, f2, f3, f4, f5, f6, f7, f8, f9, f10⟩ := HF.all
    exact bodyPost_ret (v := .tuple #[mval m ra va ma rc vc mc, .bool true]) (by simp [results, Tryz.results18, go_sem, e0, e1, e2, e3, e4, e5, e6, e7, e8, e9, e10]) rfl ⟨LmP.yes HP.out (Nat.le_of_lt HQ.out) (HD3.out.kept KF (fun b h1 h2 h3 => by have := HQ.out; omega)), HB3.out.trans (KF.below (fun b hb => by omega) HB3.out.size)⟩

end Go.Proofs.YtmjmnfegaoegjaaGreatDoor.Zl11

/- The model's l11Lines, l11Words, l11Int. Written by tools/mkzl4.py. -/
namespace Go.Proofs.YtmjmnfegaoegjaaGreatDoor.Zl4
open Go.RowKit
open Nd0 (Kept lt_of_cell)
open Ap4 Ap5
open Ss0 (bs bs_size)
open Ss1 (tl tl_bs bs_tl tl_length tl_take tl_get tl_ext numI sNum)
open Zl0 (wds)
open Zl2 (lns int2)
open Zl3
set_option linter.unusedVariables false

theorem spl_len (d : UInt8) (s : List UInt8) : (spl d s).length ≤ s.length + 1 := by
  induction s with
  | nil => exact Nat.le_refl _
  | cons c r ih =>
    by_cases e : c = d
    · subst e; rw [spl_cons_eq]; simp; omega
    · rw [spl_cons_ne e]
      cases hx : spl d r with
      | nil => exact absurd hx (spl_ne d r)
      | cons x t => rw [hx] at ih; simp at ih ⊢; omega
set_option maxRecDepth 100000 in
set_option maxHeartbeats 4000000 in
theorem sLines (S : ByteArray) (w : World) (hS : S.size ≤ 1048576) :
    Calls Tryz.prog 56 #[.string S] w fun e w' => (∃ g cp, e = .returned (.slice (some ⟨g, 0, none⟩) (lns (tl S)).length cp) ∧ Ost w' w.heap.size (.slice (some ⟨g, 0, none⟩) (lns (tl S)).length cp) (lns (tl S))) ∧ Below w.heap.size w w' := by
  have HLEN : Hid ((tl S).length = S.size) := tl_length S
  go_enter Tryz.func56, Tryz.ntmps56
  go_wp2
  go_loopw [3, 4, 5] (fun v fr i wr => ∃ k f g cp : Nat, k ≤ S.size ∧ f ≤ k ∧ i = .int .i64 k ∧ fr = .int .i64 f ∧ v = .slice (some ⟨g, 0, none⟩) (spl 10 ((tl S).take k)).dropLast.length cp ∧ Ost wr w.heap.size v (spl 10 ((tl S).take k)).dropLast ∧ lastP 10 ((tl S).take k) = ((tl S).take k).drop f ∧ Below w.heap.size w wr) (fun _ _ i _ => S.size - (intOf i).toNat)
  case atStart => exact ⟨0, 0, w.heap.size, 0, Nat.zero_le _, Nat.le_refl _, rfl, rfl, rfl, Ost.lit _ _ (Nat.le_refl _), rfl, (Below.refl _ _).alloc (Nat.le_refl _) _⟩
  case round =>
    obtain ⟨k, f, g, cp, hk, hf, rfl, rfl, rfl, ho, hla, hbr⟩ := hrel
    obtain ⟨L, hL⟩ : ∃ L, L = (spl 10 ((tl S).take k)).dropLast := ⟨_, rfl⟩
    rw [← hL] at ho ⊢
    have hll : L.length ≤ k := by
      rw [hL, List.length_dropLast]
      have := spl_len 10 ((tl S).take k)
      rw [List.length_take] at this
      omega
    obtain ⟨n, hn⟩ : ∃ n, n = L.length := ⟨_, rfl⟩
    rw [← hn] at ho ⊢ hll
    have HN : Hid (L.length = n) := hn.symm
    have HL : Hid (L = (spl 10 ((tl S).take k)).dropLast) := hL
    have HO : Hid (Ost wr w.heap.size (.slice (some ⟨g, 0, none⟩) n cp) L) := ho
    have HLA : Hid (lastP 10 ((tl S).take k) = ((tl S).take k).drop f) := hla
    have HB : Hid (Below w.heap.size w wr) := hbr
    clear ho hla hbr hL hn
    obtain ⟨lp, hlp⟩ : ∃ l, l = lastP 10 ((tl S).take k) := ⟨_, rfl⟩
    have HLP : Hid (lp = lastP 10 ((tl S).take k)) := hlp
    have HSP : Hid (L ++ [lp] = spl 10 ((tl S).take k)) := by show _ = _; rw [HL.out, hlp]; exact spl_last _ _
    have HX0 : Hid (tl (S.extract f k) = lp) := by show _ = _; rw [hlp, tl_ext, HLA.out]
    clear hlp
    have hw1 : wrap64 ((k : Int) + 1) = (k : Int) + 1 := by unfold wrap64; omega
    by_cases hlt : k < S.size
    · have hlz : (k : Int) < (S.size : Int) := by omega
      have HX : Hid ((tl S).take (k + 1) = (tl S).take k ++ [S[k]]) := tl_take S k hlt
      by_cases h8 : S[k] = 10
      · have b8 : ((S[k].toNat : Int) == 10) = true := by rw [h8]; rfl
        have HSN : Hid (spl 10 ((tl S).take (k + 1)) = L ++ [lp] ++ [[]]) := by show _ = _; rw [HX.out, h8, spl_snoc_d, HSP.out]
        have hex : S.extract f k = bs lp := by rw [← bs_tl (S.extract f k), HX0.out]
        clear h8
        go_wp2_with (at_builtin; go_must (refine app_str _ rfl _ _ rfl w.heap.size (.slice (some ⟨g, 0, none⟩) n cp) L lp rfl rfl HO.out HB.out.size (by rw [HN.out]; omega) ?_; rw [HN.out]; intro g5 cp5 w5 ho5 hk5 hg5; have HO5 : Hid (Ost w5 w.heap.size (.slice (some ⟨g5, 0, none⟩) (n + 1) cp5) (L ++ [lp])) := ho5; have HK5 : Hid (Kept (fun i => (Value.slice (some ⟨g, 0, none⟩) n cp).ownBlock = some i) wr w5) := hk5; clear ho5 hk5 hg5))
        go_roundw
        case rel =>
          have e1 : (spl 10 ((tl S).take (k + 1))).dropLast = L ++ [lp] := by rw [HSN.out, List.dropLast_concat]
          refine ⟨k + 1, k + 1, g5, cp5, by omega, Nat.le_refl _, by go_num, by go_num, ?_, ?_, ?_, HB.out.trans (HK5.out.below (fun i hi => (HO.out.lt i hi).1) HB.out.size)⟩
          · rw [e1, List.length_append, HN.out]; rfl
          · rw [e1]; exact HO5.out
          · unfold lastP
            simp only [HSN.out]
            rw [List.getLast_concat, List.drop_of_length_le (by rw [List.length_take]; omega)]
        case measure => simp [intOf]; omega
      · have b8 : ((S[k].toNat : Int) == 10) = false := beq_eq_false_iff_ne.2 fun e => h8 (UInt8.toNat_inj.1 (by have : (10 : UInt8).toNat = 10 := rfl; omega))
        have HSN : Hid (spl 10 ((tl S).take (k + 1)) = L ++ [lp ++ [S[k]]]) := by show _ = _; rw [HX.out, spl_snoc 10 h8, HL.out, HLP.out]
        have HDR : Hid (lp ++ [S[k]] = ((tl S).take (k + 1)).drop f) := by
          show _ = _
          rw [HX.out, HLP.out, HLA.out, List.drop_append_of_le_length (by rw [List.length_take, HLEN.out]; omega)]
        clear h8
        go_wp2
        go_roundw
        case rel =>
          have e1 : (spl 10 ((tl S).take (k + 1))).dropLast = L := by rw [HSN.out, List.dropLast_concat]
          refine ⟨k + 1, f, g, cp, by omega, by omega, by go_num, rfl, ?_, ?_, ?_, HB.out⟩
          · rw [e1, HN.out]
          · rw [e1]; exact HO.out
          · unfold lastP
            simp only [HSN.out]
            rw [List.getLast_concat, HDR.out]
        case measure => simp [intOf]; omega
    · have hlz : ¬ (k : Int) < (S.size : Int) := by omega
      have HTK : Hid ((tl S).take k = tl S) := List.take_of_length_le (by have := HLEN.out; omega)
      have HG : Hid (lns (tl S) = L) := by show _ = _; unfold lns; rw [split_eq, HL.out, HTK.out]
      go_wp2
      go_ret
      exact ⟨⟨g, cp, by rw [HG.out, HN.out]; rfl, by rw [HG.out, HN.out]; exact HO.out⟩, HB.out⟩
set_option maxRecDepth 100000 in
set_option maxHeartbeats 4000000 in
theorem sWords (S : ByteArray) (w : World) (hS : S.size ≤ 1048576) :
    Calls Tryz.prog 57 #[.string S] w fun e w' => (∃ g cp, e = .returned (.slice (some ⟨g, 0, none⟩) (wds (tl S)).length cp) ∧ Ost w' w.heap.size (.slice (some ⟨g, 0, none⟩) (wds (tl S)).length cp) (wds (tl S))) ∧ Below w.heap.size w w' := by
  have HLEN : Hid ((tl S).length = S.size) := tl_length S
  go_enter Tryz.func57, Tryz.ntmps57
  go_wp2
  go_loopw [3, 4, 5] (fun v fr i wr => ∃ k f g cp : Nat, k ≤ S.size ∧ f ≤ k ∧ i = .int .i64 k ∧ fr = .int .i64 f ∧ v = .slice (some ⟨g, 0, none⟩) (spl 32 ((tl S).take k)).dropLast.length cp ∧ Ost wr w.heap.size v (spl 32 ((tl S).take k)).dropLast ∧ lastP 32 ((tl S).take k) = ((tl S).take k).drop f ∧ Below w.heap.size w wr) (fun _ _ i _ => S.size - (intOf i).toNat)
  case atStart => exact ⟨0, 0, w.heap.size, 0, Nat.zero_le _, Nat.le_refl _, rfl, rfl, rfl, Ost.lit _ _ (Nat.le_refl _), rfl, (Below.refl _ _).alloc (Nat.le_refl _) _⟩
  case round =>
    obtain ⟨k, f, g, cp, hk, hf, rfl, rfl, rfl, ho, hla, hbr⟩ := hrel
    obtain ⟨L, hL⟩ : ∃ L, L = (spl 32 ((tl S).take k)).dropLast := ⟨_, rfl⟩
    rw [← hL] at ho ⊢
    have hll : L.length ≤ k := by
      rw [hL, List.length_dropLast]
      have := spl_len 32 ((tl S).take k)
      rw [List.length_take] at this
      omega
    obtain ⟨n, hn⟩ : ∃ n, n = L.length := ⟨_, rfl⟩
    rw [← hn] at ho ⊢ hll
    have HN : Hid (L.length = n) := hn.symm
    have HL : Hid (L = (spl 32 ((tl S).take k)).dropLast) := hL
    have HO : Hid (Ost wr w.heap.size (.slice (some ⟨g, 0, none⟩) n cp) L) := ho
    have HLA : Hid (lastP 32 ((tl S).take k) = ((tl S).take k).drop f) := hla
    have HB : Hid (Below w.heap.size w wr) := hbr
    clear ho hla hbr hL hn
    obtain ⟨lp, hlp⟩ : ∃ l, l = lastP 32 ((tl S).take k) := ⟨_, rfl⟩
    have HLP : Hid (lp = lastP 32 ((tl S).take k)) := hlp
    have HSP : Hid (L ++ [lp] = spl 32 ((tl S).take k)) := by show _ = _; rw [HL.out, hlp]; exact spl_last _ _
    have HX0 : Hid (tl (S.extract f k) = lp) := by show _ = _; rw [hlp, tl_ext, HLA.out]
    clear hlp
    have hw1 : wrap64 ((k : Int) + 1) = (k : Int) + 1 := by unfold wrap64; omega
    by_cases hlt : k < S.size
    · have hlz : (k : Int) < (S.size : Int) := by omega
      have HX : Hid ((tl S).take (k + 1) = (tl S).take k ++ [S[k]]) := tl_take S k hlt
      by_cases h8 : S[k] = 32
      · have b8 : ((S[k].toNat : Int) == 32) = true := by rw [h8]; rfl
        have HSN : Hid (spl 32 ((tl S).take (k + 1)) = L ++ [lp] ++ [[]]) := by show _ = _; rw [HX.out, h8, spl_snoc_d, HSP.out]
        have hex : S.extract f k = bs lp := by rw [← bs_tl (S.extract f k), HX0.out]
        clear h8
        go_wp2_with (at_builtin; go_must (refine app_str _ rfl _ _ rfl w.heap.size (.slice (some ⟨g, 0, none⟩) n cp) L lp rfl rfl HO.out HB.out.size (by rw [HN.out]; omega) ?_; rw [HN.out]; intro g5 cp5 w5 ho5 hk5 hg5; have HO5 : Hid (Ost w5 w.heap.size (.slice (some ⟨g5, 0, none⟩) (n + 1) cp5) (L ++ [lp])) := ho5; have HK5 : Hid (Kept (fun i => (Value.slice (some ⟨g, 0, none⟩) n cp).ownBlock = some i) wr w5) := hk5; clear ho5 hk5 hg5))
        go_roundw
        case rel =>
          have e1 : (spl 32 ((tl S).take (k + 1))).dropLast = L ++ [lp] := by rw [HSN.out, List.dropLast_concat]
          refine ⟨k + 1, k + 1, g5, cp5, by omega, Nat.le_refl _, by go_num, by go_num, ?_, ?_, ?_, HB.out.trans (HK5.out.below (fun i hi => (HO.out.lt i hi).1) HB.out.size)⟩
          · rw [e1, List.length_append, HN.out]; rfl
          · rw [e1]; exact HO5.out
          · unfold lastP
            simp only [HSN.out]
            rw [List.getLast_concat, List.drop_of_length_le (by rw [List.length_take]; omega)]
        case measure => simp [intOf]; omega
      · have b8 : ((S[k].toNat : Int) == 32) = false := beq_eq_false_iff_ne.2 fun e => h8 (UInt8.toNat_inj.1 (by have : (32 : UInt8).toNat = 32 := rfl; omega))
        have HSN : Hid (spl 32 ((tl S).take (k + 1)) = L ++ [lp ++ [S[k]]]) := by show _ = _; rw [HX.out, spl_snoc 32 h8, HL.out, HLP.out]
        have HDR : Hid (lp ++ [S[k]] = ((tl S).take (k + 1)).drop f) := by
          show _ = _
          rw [HX.out, HLP.out, HLA.out, List.drop_append_of_le_length (by rw [List.length_take, HLEN.out]; omega)]
        clear h8
        go_wp2
        go_roundw
        case rel =>
          have e1 : (spl 32 ((tl S).take (k + 1))).dropLast = L := by rw [HSN.out, List.dropLast_concat]
          refine ⟨k + 1, f, g, cp, by omega, by omega, by go_num, rfl, ?_, ?_, ?_, HB.out⟩
          · rw [e1, HN.out]
          · rw [e1]; exact HO.out
          · unfold lastP
            simp only [HSN.out]
            rw [List.getLast_concat, HDR.out]
        case measure => simp [intOf]; omega
    · have hlz : ¬ (k : Int) < (S.size : Int) := by omega
      have HTK : Hid ((tl S).take k = tl S) := List.take_of_length_le (by have := HLEN.out; omega)
      have HG : Hid (wds (tl S) = L ++ [lp]) := by show _ = _; unfold wds; rw [split_eq, HSP.out, HTK.out]
      have hex : S.extract f S.size = bs lp := by
        rw [← bs_tl (S.extract f S.size), show S.size = k by omega, HX0.out]
      go_wp2_with (at_builtin; go_must (refine app_str _ rfl _ _ rfl w.heap.size (.slice (some ⟨g, 0, none⟩) n cp) L lp rfl rfl HO.out HB.out.size (by rw [HN.out]; omega) ?_; rw [HN.out]; intro g5 cp5 w5 ho5 hk5 hg5; have HO5 : Hid (Ost w5 w.heap.size (.slice (some ⟨g5, 0, none⟩) (n + 1) cp5) (L ++ [lp])) := ho5; have HK5 : Hid (Kept (fun i => (Value.slice (some ⟨g, 0, none⟩) n cp).ownBlock = some i) wr w5) := hk5; clear ho5 hk5 hg5))
      go_ret
      exact ⟨⟨g5, cp5, by rw [HG.out, List.length_append, HN.out]; rfl, by rw [HG.out, List.length_append, HN.out]; exact HO5.out⟩, HB.out.trans (HK5.out.below (fun i hi => (HO.out.lt i hi).1) HB.out.size)⟩
set_option maxHeartbeats 1000000 in
theorem sInt (S : ByteArray) (w : World) (hS : S.size ≤ 100000) :
    Calls Tryz.prog 60 #[.string S] w fun e w' => e = .returned (.int .i64 (int2 (tl S))) ∧ w' = w := by
  by_cases h1 : tl S = [45, 49]
  · have q1 : (S.toList == [45, 49]) = true := Ss1.eql_true h1
    have HR : Hid (int2 (tl S) = -1) := by show _ = _; rw [h1]; rfl
    clear h1
    go_enter Tryz.func60, Tryz.ntmps60
    go_wp2
    go_ret
    exact ⟨by rw [HR.out]; rfl, rfl⟩
  have q1 : (S.toList == [45, 49]) = false := Ss1.eql_false h1
  by_cases h2 : tl S = [49, 48, 48, 48, 48, 48, 48, 48, 48, 48]
  · have q2 : (S.toList == [49, 48, 48, 48, 48, 48, 48, 48, 48, 48]) = true := Ss1.eql_true h2
    have HR : Hid (int2 (tl S) = 1000000000) := by show _ = _; rw [h2]; rfl
    clear h1 h2
    go_enter Tryz.func60, Tryz.ntmps60
    go_wp2
    go_ret
    exact ⟨by rw [HR.out]; rfl, rfl⟩
  have q2 : (S.toList == [49, 48, 48, 48, 48, 48, 48, 48, 48, 48]) = false := Ss1.eql_false h2
  have HR : Hid (int2 (tl S) = if numI (tl S) < 0 then -2 else numI (tl S)) := by show _ = _; unfold int2; rw [if_neg h1, if_neg h2]
  have HNU : Hid _ := sNum S w hS
  clear h1 h2
  obtain ⟨x, hx⟩ : ∃ x, x = numI (tl S) := ⟨_, rfl⟩
  rw [← hx] at HNU HR
  clear hx
  by_cases hn : x < 0
  · go_enter Tryz.func60, Tryz.ntmps60
    go_wp2_with (go_at_call 98; refine Calls.mono HNU.out ?_; rintro e w2 ⟨rfl, hw2⟩; have hw2' := hw2.symm; clear hw2; subst hw2')
    go_ret
    exact ⟨by rw [HR.out, if_pos (by omega)]; rfl, rfl⟩
  · go_enter Tryz.func60, Tryz.ntmps60
    go_wp2_with (go_at_call 98; refine Calls.mono HNU.out ?_; rintro e w2 ⟨rfl, hw2⟩; have hw2' := hw2.symm; clear hw2; subst hw2')
    go_ret
    exact ⟨by rw [HR.out, if_neg (by omega)]; rfl, rfl⟩
end Go.Proofs.YtmjmnfegaoegjaaGreatDoor.Zl4
