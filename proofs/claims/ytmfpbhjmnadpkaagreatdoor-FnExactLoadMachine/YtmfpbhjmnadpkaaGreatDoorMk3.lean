/- Marks on a machine. -/
import Derived.Deep.CutBlock
import Derived.Test.YtmfpbhjmnadpkaaGreatDoorPkU47
namespace Go.Proofs.YtmfpbhjmnadpkaaGreatDoor.Mk3
open Go.RowKit
open Nd0 (Kept Ints WInts Ats At marks lt_of_cell marks_length)
open Nd6 (Bools markBoolS heldBoolS markB markIntB heldIntB BoolsIn markB_length)
open Ap1 (WBools)
open Qc0 Mm0 Mx0 Mk2
set_option linter.unusedVariables false

theorem wb_kept {w w' : World} {B : Nat} {a : Option Addr} {l : List Bool} (h : WBools w B a l) {S : Nat → Prop} (k : Kept S w w') (hs : ∀ b, Ats l.length a b → ¬ S b) : WBools w' B a l := by
  refine ⟨h.1, ?_⟩
  rcases h.2 with h0 | ⟨b, o, rfl, hB, hc⟩
  · exact .inl h0
  · exact .inr ⟨b, o, rfl, hB, fun i hi => ⟨by rw [k.cell (p := ⟨b, o + i, none⟩) (lt_of_cell (hc i hi).1) (hs b ⟨by omega, _, rfl, rfl⟩)]; exact (hc i hi).1, by rw [k.frozen (p := ⟨b, o + i, none⟩) (lt_of_cell (hc i hi).1) (hs b ⟨by omega, _, rfl, rfl⟩)]; exact (hc i hi).2⟩⟩
theorem wi_kept {w w' : World} {B : Nat} {a : Option Addr} {l : List Int} (h : WInts w B a l) {S : Nat → Prop} (k : Kept S w w') (hs : ∀ b, Ats l.length a b → ¬ S b) : WInts w' B a l := by
  refine ⟨h.1, ?_⟩
  rcases h.2 with h0 | ⟨b, o, rfl, hB, hc⟩
  · exact .inl h0
  · exact .inr ⟨b, o, rfl, hB, fun i hi => ⟨by rw [k.cell (p := ⟨b, o + i, none⟩) (lt_of_cell (hc i hi).1) (hs b ⟨by omega, _, rfl, rfl⟩)]; exact (hc i hi).1, by rw [k.frozen (p := ⟨b, o + i, none⟩) (lt_of_cell (hc i hi).1) (hs b ⟨by omega, _, rfl, rfl⟩)]; exact (hc i hi).2⟩⟩
theorem ws_kept {w w' : World} {B : Nat} {a : Option Addr} {l : List Sn} (h : WSns w B a l) {S : Nat → Prop} (k : Kept S w w') (hs : ∀ b, Ats l.length a b → ¬ S b) : WSns w' B a l := by
  refine ⟨h.1, ?_⟩
  rcases h.2 with h0 | ⟨b, o, rfl, hB, hc, hf⟩
  · exact .inl h0
  · by_cases e : l.length = 0
    · exact .inl e
    have hl := (hc 0 (by omega)).lt
    exact .inr ⟨b, o, rfl, hB, fun i hi => ⟨by rw [k.cell (p := ⟨b, o + i * 2, none⟩) hl (hs b ⟨by omega, _, rfl, rfl⟩)]; exact (hc i hi).c0, by rw [k.cell (p := ⟨b, o + i * 2 + 1, none⟩) hl (hs b ⟨by omega, _, rfl, rfl⟩)]; exact (hc i hi).c1⟩, fun j hj => by rw [k.frozen (p := ⟨b, o + j, none⟩) hl (hs b ⟨by omega, _, rfl, rfl⟩)]; exact hf j hj⟩
/-- Lists of nr, nv and nm elements that lie apart from each other. -/
structure Ax (nr nv nm : Nat) (ra va ma : Option Addr) : Prop where
  rv : ∀ k, Ats nr ra k → ¬ Ats nv va k
  rm : ∀ k, Ats nr ra k → ¬ Ats nm ma k
  vm : ∀ k, Ats nv va k → ¬ Ats nm ma k
/-- A machine's lists that may be written. -/
structure Wm (W : World) (B : Nat) (row : List Bool) (vals : List Int) (memo : List Sn) (ra va ma : Option Addr) : Prop where
  row : WBools W B ra row
  vals : WInts W B va vals
  memo : WSns W B ma memo
theorem Wm.kept {W W' : World} {B : Nat} {row : List Bool} {vals : List Int} {memo : List Sn} {ra va ma : Option Addr} (h : Wm W B row vals memo ra va ma) {S : Nat → Prop} (k : Kept S W W') (h1 : ∀ b, Ats row.length ra b → ¬ S b) (h2 : ∀ b, Ats vals.length va b → ¬ S b) (h3 : ∀ b, Ats memo.length ma b → ¬ S b) : Wm W' B row vals memo ra va ma := ⟨wb_kept h.row k h1, wi_kept h.vals k h2, ws_kept h.memo k h3⟩
theorem Wm.below {W W' : World} {B : Nat} {row : List Bool} {vals : List Int} {memo : List Sn} {ra va ma : Option Addr} (h : Wm W B row vals memo ra va ma) (k : Below W.heap.size W W') : Wm W' B row vals memo ra va ma := h.kept (S := fun _ => False) (Kept.ofBelow k) (fun _ _ h => h) (fun _ _ h => h) (fun _ _ h => h)
theorem Wm.mr {W : World} {B : Nat} {m : Mc} {ra va ma : Option Addr} (h : Wm W B m.row m.vals m.memo ra va ma) : Mr W m ra va ma := ⟨Nd6.WBools.plain h.row, h.vals.ints, h.memo.plain⟩
def anyAt (nr nv nm : Nat) (ra va ma : Option Addr) (b : Nat) : Prop := Ats nr ra b ∨ Ats nv va b ∨ Ats nm ma b
theorem Wm.ge {W : World} {B : Nat} {row : List Bool} {vals : List Int} {memo : List Sn} {ra va ma : Option Addr} (h : Wm W B row vals memo ra va ma) {b : Nat} (hb : anyAt row.length vals.length memo.length ra va ma b) : B ≤ b ∧ b < W.heap.size := by
  rcases hb with ⟨h0, x, hx, rfl⟩ | ⟨h0, x, hx, rfl⟩ | ⟨h0, x, hx, rfl⟩
  · rcases h.row.2 with e | ⟨b, o, e, hB, hc⟩
    · omega
    · rw [e] at hx; cases hx; exact ⟨hB, lt_of_cell (hc 0 h0).1⟩
  · rcases h.vals.2 with e | ⟨b, o, e, hB, hc⟩
    · omega
    · rw [e] at hx; cases hx; exact ⟨hB, lt_of_cell (hc 0 h0).1⟩
  · rcases h.memo.2 with e | ⟨b, o, e, hB, hc, _⟩
    · omega
    · rw [e] at hx; cases hx; exact ⟨hB, (hc 0 h0).lt⟩
/-- The last mark on a machine. -/
def lastM (m : Mc) : Nat := 1 + m.row.length + m.vals.length + 2 * m.memo.length

set_option maxRecDepth 100000 in
set_option maxHeartbeats 2000000 in
theorem markMachine (w : World) (m : Mc) (ra va ma : Option Addr) (rc vc mc B : Nat) (h : Wm w B m.row m.vals m.memo ra va ma) (hx : Ax m.row.length m.vals.length m.memo.length ra va ma) (hl : m.row.length ≤ 1048576) (hv : m.vals.length ≤ 1048576) (hm : m.memo.length ≤ 1048576) :
    Calls Tryz.prog 28 #[mval m ra va ma rc vc mc, .int .i64 1] w fun e w' => e = .returned (.int .i64 (lastM m : Int)) ∧ Wm w' B (markB m.row.length 1) (marks m.vals.length ((1 + m.row.length : Nat) : Int)) (markS m.memo.length (1 + m.row.length + m.vals.length)) ra va ma ∧ Kept (anyAt m.row.length m.vals.length m.memo.length ra va ma) w w' := by
  have HW : Hid (Wm w B m.row m.vals m.memo ra va ma) := h
  have HRA : Hid (∀ b, anyAt m.row.length m.vals.length m.memo.length ra va ma b → b < w.heap.size) := fun b hb => (h.ge hb).2
  have HX : Hid (Ax m.row.length m.vals.length m.memo.length ra va ma) := hx
  clear h hx
  obtain ⟨X0, hX0⟩ : ∃ X0, X0 = w.alloc (.cells #[.slice ra m.row.length rc, .int .i64 m.N, .string m.S, .int .i64 m.room, .slice va m.vals.length vc, .int .i64 m.ret, .bool m.over, .int .i64 m.steps, .int .i64 m.looks, .int .i64 m.hits, .slice ma m.memo.length mc] 30) := ⟨_, rfl⟩
  have HA0 : Hid (Mb X0 w.heap.size m ra va ma rc vc mc) := by rw [hX0]; exact Mb.made _ _ _ _ _ _ _ _ _
  have K0 : Kept (fun _ => False) w X0 := by rw [hX0]; exact (Kept.refl _ _).alloc _
  have HK0 : Hid (Kept (anyAt m.row.length m.vals.length m.memo.length ra va ma) w X0) := K0.mono (fun _ e => e.elim)
  have HW0 : Hid (Wm X0 B m.row m.vals m.memo ra va ma) := HW.out.kept K0 (fun _ _ e => e) (fun _ _ e => e) (fun _ _ e => e)
  clear K0
  go_enter Tryz.func28, Tryz.ntmps28
  go_upto_region 1 with fail
  rw [← hX0]
  clear hX0
  obtain ⟨m0, m1, m2, m3, m4, m5, m6, m7, m8, m9, m10⟩ := HA0.out
  go_wp2_with fail
  clear m0 m1 m2 m3 m4 m5 m6 m7 m8 m9 m10
  refine (markBoolS _ B ra m.row rc HW0.out.row 1 (by omega) (by omega) hl).mono ?_
  rintro e w1 ⟨rfl, hw1, hk1⟩
  have hk1' : Kept (Ats m.row.length ra) X0 w1 := hk1
  have HW1 : Hid (Wm w1 B (markB m.row.length 1) m.vals m.memo ra va ma) := ⟨hw1, wi_kept HW0.out.vals hk1' (fun b h1 h2 => HX.out.rv b h2 h1), ws_kept HW0.out.memo hk1' (fun b h1 h2 => HX.out.rm b h2 h1)⟩
  have HK1 : Hid (Kept (anyAt m.row.length m.vals.length m.memo.length ra va ma) w w1) := HK0.out.trans (hk1'.mono (fun b hb => .inl hb))
  have HA1 : Hid (Mb w1 w.heap.size m ra va ma rc vc mc) := HA0.out.kept hk1' (fun h => by have := HRA.out _ (.inl h); omega)
  clear hw1 hk1 hk1' HA0 HK0 HW0
  obtain ⟨m0, m1, m2, m3, m4, m5, m6, m7, m8, m9, m10⟩ := HA1.out
  obtain ⟨z1, hz1⟩ : ∃ z : Nat, z = 1 + m.row.length := ⟨_, rfl⟩
  have hz1i : (1 : Int) + (m.row.length : Int) = (z1 : Int) := by omega
  have HZ1 : Hid (z1 = 1 + m.row.length) := hz1
  rw [hz1i]
  have hz1b : z1 ≤ 2000000 := by omega
  clear hz1 hz1i
  go_wp2_with fail
  clear m0 m1 m2 m3 m4 m5 m6 m7 m8 m9 m10
  refine (markIntB w1 B va m.vals vc HW1.out.vals (z1 : Int) (by omega) (by omega) hv).mono ?_
  rintro e w2 ⟨rfl, hw2, hk2⟩
  have hk2' : Kept (Ats m.vals.length va) w1 w2 := hk2
  have HW2 : Hid (Wm w2 B (markB m.row.length 1) (marks m.vals.length (z1 : Int)) m.memo ra va ma) := ⟨wb_kept HW1.out.row hk2' (fun b h1 h2 => HX.out.rv b (by rw [markB_length] at h1; exact h1) h2), hw2, ws_kept HW1.out.memo hk2' (fun b h1 h2 => HX.out.vm b h2 h1)⟩
  have HK2 : Hid (Kept (anyAt m.row.length m.vals.length m.memo.length ra va ma) w w2) := HK1.out.trans (hk2'.mono (fun b hb => .inr (.inl hb)))
  have HA2 : Hid (Mb w2 w.heap.size m ra va ma rc vc mc) := HA1.out.kept hk2' (fun h => by have := HRA.out _ (.inr (.inl h)); omega)
  clear hw2 hk2 hk2' HA1 HK1 HW1
  obtain ⟨m0, m1, m2, m3, m4, m5, m6, m7, m8, m9, m10⟩ := HA2.out
  obtain ⟨z2, hz2⟩ : ∃ z : Nat, z = z1 + m.vals.length := ⟨_, rfl⟩
  have hz2i : (z1 : Int) + (m.vals.length : Int) = (z2 : Int) := by omega
  have HZ2 : Hid (z2 = z1 + m.vals.length) := hz2
  have hz2b : z2 ≤ 4000000 ∧ 0 < z2 := by have := HZ1.out; omega
  rw [hz2i]
  clear hz2 hz2i
  go_wp2_with fail
  clear m0 m1 m2 m3 m4 m5 m6 m7 m8 m9 m10
  refine (markSeenS w2 B ma m.memo mc HW2.out.memo z2 hz2b.2 (by omega) hm).mono ?_
  rintro e w3 ⟨rfl, hw3, hk3⟩
  have hk3' : Kept (Ats m.memo.length ma) w2 w3 := hk3
  have HW3 : Hid (Wm w3 B (markB m.row.length 1) (marks m.vals.length (z1 : Int)) (markS m.memo.length z2) ra va ma) := ⟨wb_kept HW2.out.row hk3' (fun b h1 h2 => HX.out.rm b (by rw [markB_length] at h1; exact h1) h2), wi_kept HW2.out.vals hk3' (fun b h1 h2 => HX.out.vm b (by rw [marks_length] at h1; exact h1) h2), hw3⟩
  have HK3 : Hid (Kept (anyAt m.row.length m.vals.length m.memo.length ra va ma) w w3) := HK2.out.trans (hk3'.mono (fun b hb => .inr (.inr hb)))
  clear hw3 hk3 hk3' HA2 HK2 HW2
  have HL : Hid (z2 + 2 * m.memo.length = lastM m) := by
    show _ = _
    unfold lastM
    have := HZ1.out
    have := HZ2.out
    omega
  rw [HL.out]
  go_wp2
  go_ret
  have hw := HW3.out
  rw [HZ2.out, HZ1.out] at hw
  exact ⟨rfl, hw, HK3.out⟩

set_option maxRecDepth 100000 in
set_option maxHeartbeats 2000000 in
theorem heldMachine (w : World) (m : Mc) (ra va ma : Option Addr) (rc vc mc : Nat) (hB : Bools w ra (markB m.row.length 1)) (hI : Ints w va (marks m.vals.length ((1 + m.row.length : Nat) : Int))) (hM : Sns w ma (markS m.memo.length (1 + m.row.length + m.vals.length))) (hl : m.row.length ≤ 1048576) (hv : m.vals.length ≤ 1048576) (hm : m.memo.length ≤ 1048576) :
    Calls Tryz.prog 29 #[mval m ra va ma rc vc mc, .int .i64 1] w fun e w' => e = .returned (.int .i64 (lastM m : Int)) ∧ Below w.heap.size w w' := by
  obtain ⟨z1, hz1⟩ : ∃ z : Nat, z = 1 + m.row.length := ⟨_, rfl⟩
  have hz1i : (1 : Int) + (m.row.length : Int) = (z1 : Int) := by omega
  obtain ⟨z2, hz2⟩ : ∃ z : Nat, z = z1 + m.vals.length := ⟨_, rfl⟩
  have hz2i : (z1 : Int) + (m.vals.length : Int) = (z2 : Int) := by omega
  rw [← hz1] at hI hM
  rw [← hz2] at hM
  have HB : Hid (Bools w ra (markB m.row.length 1)) := hB
  have HI : Hid (Ints w va (marks m.vals.length (z1 : Int))) := hI
  have HM : Hid (Sns w ma (markS m.memo.length z2)) := hM
  have hz1b : z1 ≤ 2000000 := by omega
  have hz2b : z2 ≤ 4000000 ∧ 0 < z2 := by omega
  have HL : Hid (z2 + 2 * m.memo.length = lastM m) := by
    show _ = _
    unfold lastM
    omega
  have HQ1 : Hid ((1 : Int) + (m.row.length : Int) = (z1 : Int)) := hz1i
  have HQ2 : Hid ((z1 : Int) + (m.vals.length : Int) = (z2 : Int)) := hz2i
  clear hB hI hM hz1 hz2 hz1i hz2i
  obtain ⟨X0, hX0⟩ : ∃ X0, X0 = w.alloc (.cells #[.slice ra m.row.length rc, .int .i64 m.N, .string m.S, .int .i64 m.room, .slice va m.vals.length vc, .int .i64 m.ret, .bool m.over, .int .i64 m.steps, .int .i64 m.looks, .int .i64 m.hits, .slice ma m.memo.length mc] 30) := ⟨_, rfl⟩
  have HA0 : Hid (Mb X0 w.heap.size m ra va ma rc vc mc) := by rw [hX0]; exact Mb.made _ _ _ _ _ _ _ _ _
  have HB0 : Hid (Below w.heap.size w X0) := by rw [hX0]; exact (Below.refl _ _).alloc (Nat.le_refl _) _
  go_enter Tryz.func29, Tryz.ntmps29
  go_upto_region 1 with fail
  rw [← hX0]
  clear hX0
  obtain ⟨m0, m1, m2, m3, m4, m5, m6, m7, m8, m9, m10⟩ := HA0.out
  go_wp2_with fail
  clear m0 m1 m2 m3 m4 m5 m6 m7 m8 m9 m10
  refine (heldBoolS _ ra m.row.length rc 1 (HB.out.below HB0.out) (by omega) (by omega) hl).mono ?_
  rintro e w1 ⟨rfl, hw1⟩
  have hw1' := hw1.symm
  clear hw1
  subst hw1'
  rw [HQ1.out]
  have hq1 : ¬ (z1 : Int) < 0 := by omega
  obtain ⟨m0, m1, m2, m3, m4, m5, m6, m7, m8, m9, m10⟩ := HA0.out
  go_wp2_with fail
  clear m0 m1 m2 m3 m4 m5 m6 m7 m8 m9 m10
  refine (heldIntB _ va m.vals.length vc (z1 : Int) (HI.out.below HB0.out) (by omega) (by omega) hv).mono ?_
  rintro e w2 ⟨rfl, hw2⟩
  have hw2' := hw2.symm
  clear hw2
  subst hw2'
  rw [HQ2.out]
  have hq2 : ¬ (z2 : Int) < 0 := by omega
  obtain ⟨m0, m1, m2, m3, m4, m5, m6, m7, m8, m9, m10⟩ := HA0.out
  go_wp2_with fail
  clear m0 m1 m2 m3 m4 m5 m6 m7 m8 m9 m10
  refine (heldSeenS _ ma m.memo.length mc z2 (HM.out.below HB0.out) hz2b.2 (by omega) hm).mono ?_
  rintro e w3 ⟨rfl, hb3⟩
  have HB3 : Hid (Below w.heap.size w w3) := HB0.out.trans (hb3.mono HB0.out.size)
  clear hb3
  rw [HL.out]
  have hq3 : ¬ (lastM m : Int) < 0 := by omega
  go_wp2
  go_ret
  exact ⟨rfl, HB3.out⟩
end Go.Proofs.YtmfpbhjmnadpkaaGreatDoor.Mk3
