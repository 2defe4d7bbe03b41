/- Small texts of mine, one behind the other. -/
import Derived.Laws.IdiomStrings
import Derived.Deep.RegionWith
import Derived.Test.YtmfpbhjmnadpkaaGreatDoorMx0
import Derived.Test.YtmfpbhjmnadpkaaGreatDoorPkU3
/- Marks on a machine without values and memo. Written by tools/gen_mk0.py. -/
namespace Go.Proofs.YtmfpbhjmnadpkaaGreatDoor.Mk0
open Go.RowKit
open Nd0 (Kept Ints WInts Ats marks)
open Nd6 (Bools markBoolS heldBoolS markB markIntB heldIntB BoolsIn)
open Ap1 (WBools)
open Mm0 Mx0
set_option linter.unusedVariables false

set_option maxHeartbeats 1000000 in
theorem markSeen0 (w : World) (a : Option Addr) (c : Nat) (k : Int) : Calls Tryz.prog 82 #[.slice a 0 c, .int .i64 k] w fun e w' => e = .returned (.int .i64 k) ∧ w' = w := by
  go_enter Tryz.func82, Tryz.ntmps82
  go_wp2
  go_loopw [1, 5] (fun q i wr => i = .int .i64 0 ∧ q = .int .i64 k ∧ wr = w) (fun _ _ _ => 0)
  case atStart => exact ⟨rfl, rfl, rfl⟩
  case round =>
    obtain ⟨rfl, rfl, hw⟩ := hrel
    subst hw
    go_wp2
    go_ret
    exact ⟨rfl, rfl⟩
set_option maxHeartbeats 1000000 in
theorem heldSeen0 (w : World) (a : Option Addr) (c : Nat) (k : Int) : Calls Tryz.prog 85 #[.slice a 0 c, .int .i64 k] w fun e w' => e = .returned (.int .i64 k) ∧ w' = w := by
  go_enter Tryz.func85, Tryz.ntmps85
  go_wp2
  go_loopw [1, 5] (fun q i wr => i = .int .i64 0 ∧ q = .int .i64 k ∧ wr = w) (fun _ _ _ => 0)
  case atStart => exact ⟨rfl, rfl, rfl⟩
  case round =>
    obtain ⟨rfl, rfl, hw⟩ := hrel
    subst hw
    go_wp2
    go_ret
    exact ⟨rfl, rfl⟩

set_option maxRecDepth 100000 in
set_option maxHeartbeats 2000000 in
theorem markMachine0 (w : World) (m : Mc) (ra va ma : Option Addr) (rc vc mc B : Nat) (hv : m.vals = []) (hm : m.memo = []) (h : WBools w B ra m.row) (hl : m.row.length ≤ 1048576) :
    Calls Tryz.prog 28 #[mval m ra va ma rc vc mc, .int .i64 1] w fun e w' => e = .returned (.int .i64 (1 + m.row.length)) ∧ WBools w' B ra (markB m.row.length 1) ∧ Kept (Ats m.row.length ra) w w' := by
  have HW : Hid (WBools w B ra m.row) := h
  have HV : Hid (m.vals = []) := hv
  have HM : Hid (m.memo = []) := hm
  clear h hv hm
  have HVL : Hid (m.vals.length = 0) := by show _ = _; rw [HV.out]; rfl
  have HML : Hid (m.memo.length = 0) := by show _ = _; rw [HM.out]; rfl
  have HA0 : Hid (Mb (w.alloc (.cells #[.slice ra m.row.length rc, .int .i64 m.N, .string m.S, .int .i64 m.room, .slice va m.vals.length vc, .int .i64 m.ret, .bool m.over, .int .i64 m.steps, .int .i64 m.looks, .int .i64 m.hits, .slice ma m.memo.length mc] 30)) w.heap.size m ra va ma rc vc mc) := Mb.made _ _ _ _ _ _ _ _ _
  have K0 : Kept (fun _ => False) w (w.alloc (.cells #[.slice ra m.row.length rc, .int .i64 m.N, .string m.S, .int .i64 m.room, .slice va m.vals.length vc, .int .i64 m.ret, .bool m.over, .int .i64 m.steps, .int .i64 m.looks, .int .i64 m.hits, .slice ma m.memo.length mc] 30)) := (Kept.refl _ _).alloc _
  have HK0 : Hid (Kept (Ats m.row.length ra) w (w.alloc (.cells #[.slice ra m.row.length rc, .int .i64 m.N, .string m.S, .int .i64 m.room, .slice va m.vals.length vc, .int .i64 m.ret, .bool m.over, .int .i64 m.steps, .int .i64 m.looks, .int .i64 m.hits, .slice ma m.memo.length mc] 30))) := K0.mono (fun _ e => e.elim)
  have HW0 : Hid (WBools (w.alloc (.cells #[.slice ra m.row.length rc, .int .i64 m.N, .string m.S, .int .i64 m.room, .slice va m.vals.length vc, .int .i64 m.ret, .bool m.over, .int .i64 m.steps, .int .i64 m.looks, .int .i64 m.hits, .slice ma m.memo.length mc] 30)) B ra m.row) := ((Nd6.WBools.within HW.out).kept K0 (fun _ _ _ e => e)).wr
  have HIN : Hid (BoolsIn w B w.heap.size ra m.row) := Nd6.WBools.within HW.out
  clear K0
  go_enter Tryz.func28, Tryz.ntmps28
  go_wp2_with fail
  refine (markBoolS _ B ra m.row rc HW0.out 1 (by omega) (by omega) hl).mono ?_
  rintro e w1 ⟨rfl, hw1, hk1⟩
  have HW1 : Hid (WBools w1 B ra (markB m.row.length 1)) := hw1
  have HK1 : Hid (Kept (Ats m.row.length ra) w w1) := HK0.out.trans hk1
  have HA1 : Hid (Mb w1 w.heap.size m ra va ma rc vc mc) := HA0.out.kept hk1 (fun h => by have := HIN.out.ats h; omega)
  clear hw1 hk1 HA0 HK0 HW0
  obtain ⟨m0, m1, m2, m3, m4, m5, m6, m7, m8, m9, m10⟩ := HA1.out
  go_wp2_with fail
  have hI : WInts w1 B va m.vals := by rw [HV.out]; exact ⟨Nat.zero_le _, .inl rfl⟩
  refine (markIntB w1 B va m.vals vc hI (1 + (m.row.length : Int)) (by omega) (by omega) (by rw [HVL.out]; omega)).mono ?_
  rintro e w2 ⟨rfl, _, hk2⟩
  rw [HVL.out] at hk2 ⊢
  have K2 : Kept (fun _ => False) w1 w2 := ⟨hk2.os, hk2.tape, hk2.output, hk2.size, fun k hk hn => hk2.block k hk (fun h => by have := h.1; omega)⟩
  have HW2 : Hid (WBools w2 B ra (markB m.row.length 1)) := ((Nd6.WBools.within HW1.out).kept K2 (fun _ _ _ e => e)).wr
  have HK2 : Hid (Kept (Ats m.row.length ra) w w2) := HK1.out.trans (K2.mono (fun _ e => e.elim))
  have HA2 : Hid (Mb w2 w.heap.size m ra va ma rc vc mc) := HA1.out.kept K2 (fun h => h)
  clear hk2 K2 hI m0 m1 m2 m3 m4 m5 m6 m7 m8 m9 m10 HA1 HK1 HW1
  obtain ⟨m0, m1, m2, m3, m4, m5, m6, m7, m8, m9, m10⟩ := HA2.out
  rw [HML.out] at m10
  go_wp2_with fail
  refine (markSeen0 _ ma mc _).mono ?_
  rintro e w3 ⟨rfl, hw3⟩
  have hw3' := hw3.symm
  clear hw3
  subst hw3'
  go_wp2
  go_ret
  exact ⟨by simp, HW2.out, HK2.out⟩

set_option maxRecDepth 100000 in
set_option maxHeartbeats 2000000 in
theorem heldMachine0 (w : World) (m : Mc) (ra va ma : Option Addr) (rc vc mc : Nat) (hv : m.vals = []) (hm : m.memo = []) (h : Bools w ra (markB m.row.length 1)) (hl : m.row.length ≤ 1048576) :
    Calls Tryz.prog 29 #[mval m ra va ma rc vc mc, .int .i64 1] w fun e w' => e = .returned (.int .i64 (1 + m.row.length)) ∧ Below w.heap.size w w' := by
  have HW : Hid (Bools w ra (markB m.row.length 1)) := h
  have HV : Hid (m.vals = []) := hv
  clear h hv
  have HVL : Hid (m.vals.length = 0) := by show _ = _; rw [HV.out]; rfl
  have HML : Hid (m.memo.length = 0) := by show _ = _; rw [hm]; rfl
  clear hm
  have HA0 : Hid (Mb (w.alloc (.cells #[.slice ra m.row.length rc, .int .i64 m.N, .string m.S, .int .i64 m.room, .slice va m.vals.length vc, .int .i64 m.ret, .bool m.over, .int .i64 m.steps, .int .i64 m.looks, .int .i64 m.hits, .slice ma m.memo.length mc] 30)) w.heap.size m ra va ma rc vc mc) := Mb.made _ _ _ _ _ _ _ _ _
  have HB0 : Hid (Below w.heap.size w (w.alloc (.cells #[.slice ra m.row.length rc, .int .i64 m.N, .string m.S, .int .i64 m.room, .slice va m.vals.length vc, .int .i64 m.ret, .bool m.over, .int .i64 m.steps, .int .i64 m.looks, .int .i64 m.hits, .slice ma m.memo.length mc] 30))) := (Below.refl _ _).alloc (Nat.le_refl _) _
  have hq : ¬ (1 : Int) + (m.row.length : Int) < 0 := by omega
  go_enter Tryz.func29, Tryz.ntmps29
  go_wp2_with fail
  refine (heldBoolS _ ra m.row.length rc 1 (HW.out.below HB0.out) (by omega) (by omega) hl).mono ?_
  rintro e w1 ⟨rfl, hw1⟩
  have HB1 : Hid (Below w.heap.size w w1) := by rw [hw1]; exact HB0.out
  have HA1 : Hid (Mb w1 w.heap.size m ra va ma rc vc mc) := by rw [hw1]; exact HA0.out
  clear hw1 HB0 HA0
  obtain ⟨m0, m1, m2, m3, m4, m5, m6, m7, m8, m9, m10⟩ := HA1.out
  rw [HVL.out] at m4
  rw [HML.out] at m10
  go_wp2_with fail
  refine (heldIntB w1 va 0 vc (1 + (m.row.length : Int)) ⟨Nat.zero_le _, .inl rfl⟩ (by omega) (by omega) (by omega)).mono ?_
  rintro e w2 ⟨rfl, hw2⟩
  have hw2' := hw2.symm
  clear hw2
  subst hw2'
  have hz : (1 : Int) + (m.row.length : Int) + ((0 : Nat) : Int) = 1 + (m.row.length : Int) := by omega
  rw [hz]
  go_wp2_with fail
  refine (heldSeen0 _ ma mc _).mono ?_
  rintro e w3 ⟨rfl, hw3⟩
  have hw3' := hw3.symm
  clear hw3
  subst hw3'
  go_wp2
  go_ret
  exact ⟨rfl, HB1.out⟩

end Go.Proofs.YtmfpbhjmnadpkaaGreatDoor.Mk0

/- Marks on Seens: the text of a mark. -/
namespace Go.Proofs.YtmfpbhjmnadpkaaGreatDoor.Mk1
open Go.RowKit
open Nd0 Tx0
open Ss0 (bs bs_app bs_size)
set_option linter.unusedVariables false

/-- The text of a mark. -/
def mt (k : Nat) : ByteArray := bs (109 :: digs k)
set_option maxRecDepth 100000 in
set_option maxHeartbeats 1000000 in
theorem markText (k : Nat) (w : World) (h0 : 0 < k) (h : k < 1000000000) :
    Calls Tryz.prog 127 #[.int .i64 k] w fun e w' => e = .returned (.string (mt k)) ∧ Below w.heap.size w w' := by
  have hz : ¬ (k : Int) ≤ 0 := by omega
  go_enter Tryz.func127, Tryz.ntmps127
  go_wp2
  go_loopw [0, 3] (fun m o wr => ∃ (j : Nat) (s : List UInt8), j ≤ k ∧ m = .int .i64 j ∧ o = .string (bs s) ∧ digs k = digs j ++ s ∧ s.length + (digs j).length ≤ 9 ∧ Below w.heap.size w wr) (fun m _ _ => (intOf m).toNat)
  case atStart => exact ⟨k, [], Nat.le_refl _, rfl, rfl, by simp, by have := digs_len 9 k h; simpa using this, Below.refl _ _⟩
  case round =>
    obtain ⟨j, s, hj, rfl, rfl, hd, hl, hb⟩ := hrel
    have HD : Hid (digs k = digs j ++ s) := hd
    have HB : Hid (Below w.heap.size w wr) := hb
    clear hd hb
    by_cases hj0 : j = 0
    · subst hj0
      have HE : Hid (⟨#[109]⟩ ++ bs s = mt k) := by
        show _ = _
        unfold mt
        rw [show (⟨#[109]⟩ : ByteArray) = bs [109] from rfl, bs_app, HD.out, digs_zero]
        rfl
      have hss : (bs s).size ≤ 9 := by rw [bs_size]; omega
      go_wp2
      go_ret
      exact ⟨Ss0.ret_str HE.out, HB.out⟩
    · have hkz : (0 : Int) < (j : Int) := by omega
      have hr1 : 0 ≤ (j : Int) % 10 := by omega
      have hr2 : (j : Int) % 10 < 10 := by omega
      have hss : (bs s).size ≤ 9 := by rw [bs_size]; omega
      have hp := digs_pos (n := j) (by omega)
      have HN : Hid (digs k = digs (j / 10) ++ (UInt8.ofNat (48 + j % 10) :: s)) := by
        show _ = _
        rw [HD.out, hp]; simp
      have HL : Hid ((UInt8.ofNat (48 + j % 10) :: s).length + (digs (j / 10)).length ≤ 9) := by
        show _ ≤ _
        rw [hp] at hl
        simp at hl ⊢; omega
      clear hp
      have hcv : (convert 22 9 (.slice (some ⟨wr.heap.size, 0, none⟩) 1 1)).run Tryz.prog (wr.alloc (.cells #[.int .u8 (48 + (j : Int) % 10)] 5)) = .ok (.string (bs [UInt8.ofNat (48 + j % 10)])) (wr.alloc (.cells #[.int .u8 (48 + (j : Int) % 10)] 5)) := by
        refine run_convert_bytes_back (P := Tryz.prog) _ 22 9 5 ⟨wr.heap.size, 0, none⟩ 1 [UInt8.ofNat (48 + j % 10)] Tryz.underlying22 Tryz.underlying5 Tryz.underlying9 (fun i hi => ?_)
        have : i = 0 := by simpa using hi
        subst this
        rw [Addr.add_lit, World.cell?_alloc_new]
        simp
        omega
      obtain ⟨D, hD⟩ : ∃ D, D = bs [UInt8.ofNat (48 + j % 10)] := ⟨_, rfl⟩
      have hs1 : D.size ≤ 1 := by rw [hD, bs_size]; simp
      rw [← hD] at hcv
      have HDD : Hid (D = bs [UInt8.ofNat (48 + j % 10)]) := hD
      clear hD
      have hsum : ¬ 9223372036854775807 < D.size + (bs s).size := by omega
      go_wp2
      go_roundw
      case rel => exact ⟨j / 10, UInt8.ofNat (48 + j % 10) :: s, by omega, by go_num, by rw [HDD.out, bs_app]; rfl, HN.out, HL.out, HB.out.alloc HB.out.size _⟩
      case measure => simp [intOf]; omega
end Go.Proofs.YtmfpbhjmnadpkaaGreatDoor.Mk1

/- Marks on lists of Seens. -/
namespace Go.Proofs.YtmfpbhjmnadpkaaGreatDoor.Mk2
open Go.RowKit
open Nd0 Tx0 Qc0 Mk1
set_option linter.unusedVariables false

def mkS (k0 i : Nat) : Sn := ⟨mt (k0 + 2 * i), ((k0 + 2 * i + 1 : Nat) : Int)⟩
def markS (n k0 : Nat) : List Sn := (List.range n).map fun i => mkS k0 i
theorem markS_length (n k0 : Nat) : (markS n k0).length = n := by simp [markS]
theorem markS_get (n k0 i : Nat) (h : i < (markS n k0).length) : (markS n k0)[i] = mkS k0 i := by simp [markS]

set_option maxRecDepth 100000 in
set_option maxHeartbeats 2000000 in
theorem markSeenS (w : World) (B : Nat) (a : Option Addr) (l : List Sn) (c : Nat) (h : WSns w B a l) (k0 : Nat) (h0 : 0 < k0) (h1 : k0 ≤ 10000000) (hl : l.length ≤ 1048576) :
    Calls Tryz.prog 82 #[.slice a l.length c, .int .i64 (k0 : Int)] w fun e w' => e = .returned (.int .i64 ((k0 + 2 * l.length : Nat) : Int)) ∧ WSns w' B a (markS l.length k0) ∧ Kept (Ats l.length a) w w' := by
  have H : Hid (WSns w B a l) := h
  clear h
  generalize hn : l.length = n at hl ⊢
  go_enter Tryz.func82, Tryz.ntmps82
  go_wp2
  go_loopw [1, 5] (fun q i wr => ∃ k : Nat, k ≤ n ∧ i = .int .i64 k ∧ q = .int .i64 ((k0 + 2 * k : Nat) : Int) ∧ Kept (Ats n a) w wr ∧ (n = 0 ∨ ∃ b o, a = some ⟨b, o, none⟩ ∧ B ≤ b ∧ ∀ j, j < n → ∃ v : Sn, SnAt wr b (o + j * 2) v ∧ wr.frozen? ⟨b, o + j * 2, none⟩ = false ∧ wr.frozen? ⟨b, o + j * 2 + 1, none⟩ = false ∧ (j < k → v = mkS k0 j))) (fun _ i _ => n - (intOf i).toNat)
  case atStart =>
    refine ⟨0, Nat.zero_le _, rfl, by simp, Kept.refl _ _, ?_⟩
    rcases H.out.2 with e | ⟨b, o, ha, hB, hc, hf⟩
    · exact .inl (by omega)
    · exact .inr ⟨b, o, ha, hB, fun j hj => ⟨l[j]'(by omega), hc j (by omega), hf (j * 2) (by omega), hf (j * 2 + 1) (by omega), fun x => by omega⟩⟩
  case round =>
    obtain ⟨k, hk, rfl, rfl, hb, hx⟩ := hrel
    by_cases hlt : k < n
    · have HK : Hid (Kept (Ats n a) w wr) := hb
      clear hb
      rcases hx with e | ⟨b, o, rfl, hB, hc⟩
      · omega
      have HC : Hid (∀ j, j < n → ∃ v : Sn, SnAt wr b (o + j * 2) v ∧ wr.frozen? ⟨b, o + j * 2, none⟩ = false ∧ wr.frozen? ⟨b, o + j * 2 + 1, none⟩ = false ∧ (j < k → v = mkS k0 j)) := hc
      clear hc
      have hlz : (k : Int) < (n : Int) := by omega
      obtain ⟨z, hz⟩ : ∃ z : Nat, z = k0 + 2 * k := ⟨_, rfl⟩
      rw [← hz]
      have HZ : Hid (z = k0 + 2 * k) := hz
      have hz0 : 0 < z := by omega
      have hz9 : z < 100000000 := by omega
      clear hz
      go_wp2_with fail
      refine (markText z wr hz0 (by omega)).mono ?_
      rintro e w1 ⟨rfl, hb1⟩
      obtain ⟨v, p0, p1, p2, _⟩ := HC.out k hlt
      have hbl := p0.lt
      have c0 : w1.cell? ⟨b, o + k * 2, none⟩ = some (.string v.k) := by rw [hb1.cell (p := ⟨b, o + k * 2, none⟩) hbl]; exact p0.c0
      have c1 : w1.cell? ⟨b, o + k * 2 + 1, none⟩ = some (.int .i64 v.r) := by rw [hb1.cell (p := ⟨b, o + k * 2 + 1, none⟩) hbl]; exact p0.c1
      have f0 : w1.frozen? ⟨b, o + k * 2, none⟩ = false := by rw [hb1.frozen (p := ⟨b, o + k * 2, none⟩) hbl]; exact p1
      have f1 : w1.frozen? ⟨b, o + k * 2 + 1, none⟩ = false := by rw [hb1.frozen (p := ⟨b, o + k * 2 + 1, none⟩) hbl]; exact p2
      have HB1 : Hid (Below wr.heap.size wr w1) := hb1
      have hbl1 := lt_of_cell c0
      clear hb1 p0 p1 p2 hbl
      obtain ⟨M, hM⟩ : ∃ M, M = mt z := ⟨_, rfl⟩
      have HM : Hid (M = mt z) := hM
      rw [← hM]
      clear hM
      go_wp2
      go_roundw
      case rel =>
        have F1 : Kept (Ats n (some ⟨b, o, none⟩)) w ((w1.setCell ⟨b, o + k * 2, none⟩ (.string M)).setCell ⟨b, o + k * 2 + 1, none⟩ (.int .i64 ((z : Int) + 1))) := ((HK.out.trans (Kept.ofBelow HB1.out)).setCell (p := ⟨b, o + k * 2, none⟩) ⟨by omega, _, rfl, rfl⟩ _).setCell (p := ⟨b, o + k * 2 + 1, none⟩) ⟨by omega, _, rfl, rfl⟩ _
        refine ⟨k + 1, by omega, by go_num, congrArg (Value.int .i64) (by have := HZ.out; omega), F1, .inr ⟨b, o, rfl, hB, ?_⟩⟩
        intro j hj
        obtain ⟨u, q0, q1, q2, q3⟩ := HC.out j hj
        by_cases e : j = k
        · subst e
          refine ⟨mkS k0 j, ⟨?_, ?_⟩, ?_, ?_, fun _ => rfl⟩
          · rw [set_other (by simp), set_same c0]
            unfold mkS
            rw [HM.out, HZ.out]
          · rw [set_same (by rw [set_other (by simp)]; exact c1)]
            unfold mkS
            have := HZ.out
            exact congrArg (fun z => some (Value.int .i64 z)) (show (z : Int) + 1 = ((k0 + 2 * j + 1 : Nat) : Int) by omega)
          · rw [World.frozen?_setCell, World.frozen?_setCell]; exact f0
          · rw [World.frozen?_setCell, World.frozen?_setCell]; exact f1
        · have hb1 := HB1.out
          refine ⟨u, ⟨?_, ?_⟩, ?_, ?_, fun x => q3 (by omega)⟩
          · rw [set_other (by simp <;> omega), set_other (by simp <;> omega), hb1.cell (p := ⟨b, o + j * 2, none⟩) q0.lt]; exact q0.c0
          · rw [set_other (by simp <;> omega), set_other (by simp <;> omega), hb1.cell (p := ⟨b, o + j * 2 + 1, none⟩) q0.lt]; exact q0.c1
          · rw [World.frozen?_setCell, World.frozen?_setCell, hb1.frozen (p := ⟨b, o + j * 2, none⟩) q0.lt]; exact q1
          · rw [World.frozen?_setCell, World.frozen?_setCell, hb1.frozen (p := ⟨b, o + j * 2 + 1, none⟩) q0.lt]; exact q2
      case measure => simp [intOf]; omega
    · go_wp2
      go_ret
      have e : k = n := by omega
      subst e
      refine ⟨rfl, ⟨by rw [markS_length]; have := H.out.1; omega, ?_⟩, hb⟩
      rcases hx with e | ⟨b, o, ha, hB, hc⟩
      · exact .inl (by rw [markS_length]; exact e)
      · refine .inr ⟨b, o, ha, hB, fun i hi => ?_, fun j hj => ?_⟩
        · rw [markS_length] at hi
          obtain ⟨v, q0, q1, q2, q3⟩ := hc i hi
          rw [markS_get, ← q3 hi]
          exact q0
        · rw [markS_length] at hj
          obtain ⟨v, q0, q1, q2, q3⟩ := hc (j / 2) (by omega)
          rcases Nat.mod_two_eq_zero_or_one j with e | e
          · rw [show o + j = o + j / 2 * 2 by omega]; exact q1
          · rw [show o + j = o + j / 2 * 2 + 1 by omega]; exact q2

set_option maxRecDepth 100000 in
set_option maxHeartbeats 2000000 in
theorem heldSeenS (w : World) (a : Option Addr) (n : Nat) (c : Nat) (k0 : Nat) (h : Sns w a (markS n k0)) (h0 : 0 < k0) (h1 : k0 ≤ 10000000) (hl : n ≤ 1048576) :
    Calls Tryz.prog 85 #[.slice a n c, .int .i64 (k0 : Int)] w fun e w' => e = .returned (.int .i64 ((k0 + 2 * n : Nat) : Int)) ∧ Below w.heap.size w w' := by
  have H : Hid (Sns w a (markS n k0)) := h
  clear h
  go_enter Tryz.func85, Tryz.ntmps85
  go_wp2
  go_loopw [1, 5] (fun q i wr => ∃ k : Nat, k ≤ n ∧ i = .int .i64 k ∧ q = .int .i64 ((k0 + 2 * k : Nat) : Int) ∧ Below w.heap.size w wr) (fun _ i _ => n - (intOf i).toNat)
  case atStart => exact ⟨0, Nat.zero_le _, rfl, by simp, Below.refl _ _⟩
  case round =>
    obtain ⟨k, hk, rfl, rfl, hb⟩ := hrel
    have HB : Hid (Below w.heap.size w wr) := hb
    clear hb
    by_cases hlt : k < n
    · have hlz : (k : Int) < (n : Int) := by omega
      obtain ⟨b, o, rfl, hc⟩ : ∃ b o, a = some ⟨b, o, none⟩ ∧ ∀ i, i < n → SnAt w b (o + i * 2) (mkS k0 i) := by
        rcases H.out.2 with e | ⟨b, o, e, hc⟩
        · rw [markS_length] at e; omega
        · exact ⟨b, o, e, fun i hi => by have := hc i (by rw [markS_length]; exact hi); rwa [markS_get] at this⟩
      have hat := hc k hlt
      clear hc
      obtain ⟨z, hz⟩ : ∃ z : Nat, z = k0 + 2 * k := ⟨_, rfl⟩
      rw [← hz]
      have HZ : Hid (z = k0 + 2 * k) := hz
      have hz0 : 0 < z := by omega
      have hz9 : z < 100000000 := by omega
      have a0 : w.cell? ⟨b, o + k * 2, none⟩ = some (.string (mt z)) := by rw [hz]; exact hat.c0
      have a1 : w.cell? ⟨b, o + k * 2 + 1, none⟩ = some (.int .i64 ((z : Int) + 1)) := by rw [hat.c1]; unfold mkS; exact congrArg (fun z => some (Value.int .i64 z)) (show ((k0 + 2 * k + 1 : Nat) : Int) = (z : Int) + 1 by omega)
      clear hz hat
      have HA1 : Hid (∀ W, Below w.heap.size w W → W.cell? ⟨b, o + k * 2 + 1, none⟩ = some (.int .i64 ((z : Int) + 1)) ∧ b < W.heap.size) := fun W hb => by rw [hb.cell (p := ⟨b, o + k * 2 + 1, none⟩) (lt_of_cell a1)]; exact ⟨a1, Nat.lt_of_lt_of_le (lt_of_cell a1) hb.size⟩
      have HA0 : Hid (∀ W, Below w.heap.size w W → W.cell? ⟨b, o + k * 2, none⟩ = some (.string (mt z)) ∧ b < W.heap.size) := fun W hb => by rw [hb.cell (p := ⟨b, o + k * 2, none⟩) (lt_of_cell a0)]; exact ⟨a0, Nat.lt_of_lt_of_le (lt_of_cell a0) hb.size⟩
      clear a0 a1
      have HMT : Hid (∀ W : World, Calls Tryz.prog 127 #[.int .i64 (z : Int)] W fun e w' => e = .returned (.string (mt z)) ∧ Below W.heap.size W w') := fun W => markText z W hz0 (by omega)
      generalize mt z = M at *
      have hMM : (M.toList == M.toList) = true := by simp
      go_wp2
      obtain ⟨b0, hb0⟩ := HA0.out wr.drew HB.out.drew
      go_region_with (go_at_call 127; (with_reducible refine (HMT.out _).mono ?_); rintro e w1 ⟨rfl, hb1⟩; obtain ⟨b0, hb0⟩ := HA0.out w1 (HB.out.drew.trans (hb1.mono HB.out.drew.size)); have HB1 : Hid (Below w.heap.size w w1) := HB.out.drew.trans (hb1.mono HB.out.drew.size); clear hb1)
      all_goals
        obtain ⟨b1, hb9⟩ := HA1.out _ HB1.out
        go_wp2
        go_roundw
        case rel => exact ⟨k + 1, by omega, by go_num, congrArg (Value.int .i64) (by have := HZ.out; omega), HB1.out⟩
        case measure => simp [intOf]; omega
    · have e : k = n := by omega
      subst e
      go_wp2
      go_ret
      exact ⟨rfl, HB.out⟩
end Go.Proofs.YtmfpbhjmnadpkaaGreatDoor.Mk2
