/- Small functions of the laws over machines. Written by tools/gen_mx0.py. -/
import Derived.Test.YtmhambifbimndaaMm0
import Derived.Test.YtmhambifbimndaaQc1
import Derived.Test.YtmhambifbimndaaTc3
import Derived.Test.YtmhambifbimndaaDq0
namespace Go.Proofs.Ytmhambifbimndaa.Mx0
open Go.RowKit
open Nd0 (Kept Ints WInts set_other set_same lt_of_cell)
open Nd6 (Bools eqBoolS eqIntB toIntS)
open Dq0 (toBoolS)
open Qc0 (Sn Sns WSns)
open Qc1 (toSeenS eqSeenS szSeenS szSeenK)
open Tc2 (tv)
open Tc3 (szTable toTable eqTable)
open Mm0
set_option linter.unusedVariables false

set_option maxHeartbeats 400000 in
theorem szBoolS (w : World) (a : Option Addr) (n c : Nat) (left : Int) (h0 : 0 ≤ left) (h1 : left ≤ 1048576) (hn : n ≤ maxLen) :
    Calls Try.prog 22 #[.slice a n c, .int .i64 left] w fun e w' => e = .returned (.int .i64 (if (n : Int) ≤ left then left - n else -1)) ∧ w' = w := by
  unfold maxLen at hn
  by_cases hc : (n : Int) ≤ left
  · go_enter Try.func22, Try.ntmps22
    go_wp2
    go_ret
    exact ⟨rfl, rfl⟩
  · go_enter Try.func22, Try.ntmps22
    go_wp2
    go_ret
    exact ⟨rfl, rfl⟩
set_option maxHeartbeats 400000 in
theorem szIntS (w : World) (a : Option Addr) (n c : Nat) (left : Int) (h0 : 0 ≤ left) (h1 : left ≤ 1048576) (hn : n ≤ maxLen) :
    Calls Try.prog 24 #[.slice a n c, .int .i64 left] w fun e w' => e = .returned (.int .i64 (if (n : Int) ≤ left then left - n else -1)) ∧ w' = w := by
  unfold maxLen at hn
  by_cases hc : (n : Int) ≤ left
  · go_enter Try.func24, Try.ntmps24
    go_wp2
    go_ret
    exact ⟨rfl, rfl⟩
  · go_enter Try.func24, Try.ntmps24
    go_wp2
    go_ret
    exact ⟨rfl, rfl⟩

set_option maxRecDepth 100000 in
set_option maxHeartbeats 4000000 in
theorem eqMachine (w : World) (m : Mc) (ra va ma ra' va' ma' : Option Addr) (rc vc mc rc' vc' mc' : Nat) (h : Mr w m ra va ma) (h' : Mr w m ra' va' ma') :
    Calls Try.prog 19 #[mval m ra va ma rc vc mc, mval m ra' va' ma' rc' vc' mc'] w fun e w' => e = .returned (.bool true) ∧ Below w.heap.size w w' := by
  have H : Hid (Mr w m ra va ma) := h
  have H' : Hid (Mr w m ra' va' ma') := h'
  clear h h'
  have hne_room : (m.room != m.room) = false := by simp
  have hne_ret : (m.ret != m.ret) = false := by simp
  have hne_over : (m.over != m.over) = false := by simp
  have hne_steps : (m.steps != m.steps) = false := by simp
  have hne_looks : (m.looks != m.looks) = false := by simp
  have hne_hits : (m.hits != m.hits) = false := by simp
  obtain ⟨W0, hW0⟩ : ∃ W0, W0 = (w.alloc (.cells #[.slice ra m.row.length rc, .int .i64 m.N, .string m.S, .int .i64 m.room, .slice va m.vals.length vc, .int .i64 m.ret, .bool m.over, .int .i64 m.steps, .int .i64 m.looks, .int .i64 m.hits, .slice ma m.memo.length mc] 36)).alloc (.cells #[.slice ra' m.row.length rc', .int .i64 m.N, .string m.S, .int .i64 m.room, .slice va' m.vals.length vc', .int .i64 m.ret, .bool m.over, .int .i64 m.steps, .int .i64 m.looks, .int .i64 m.hits, .slice ma' m.memo.length mc'] 36) := ⟨_, rfl⟩
  have HE0 : Hid ((w.alloc (.cells #[.slice ra m.row.length rc, .int .i64 m.N, .string m.S, .int .i64 m.room, .slice va m.vals.length vc, .int .i64 m.ret, .bool m.over, .int .i64 m.steps, .int .i64 m.looks, .int .i64 m.hits, .slice ma m.memo.length mc] 36)).alloc (.cells #[.slice ra' m.row.length rc', .int .i64 m.N, .string m.S, .int .i64 m.room, .slice va' m.vals.length vc', .int .i64 m.ret, .bool m.over, .int .i64 m.steps, .int .i64 m.looks, .int .i64 m.hits, .slice ma' m.memo.length mc'] 36) = W0) := hW0.symm
  have HA : Hid (Mb W0 w.heap.size m ra va ma rc vc mc) := by rw [hW0]; exact (Mb.made _ _ _ _ _ _ _ _ _).alloc _
  have HA' : Hid (Mb W0 (w.heap.size + 1) m ra' va' ma' rc' vc' mc') := by
    rw [hW0]
    have := Mb.made (w.alloc (.cells #[.slice ra m.row.length rc, .int .i64 m.N, .string m.S, .int .i64 m.room, .slice va m.vals.length vc, .int .i64 m.ret, .bool m.over, .int .i64 m.steps, .int .i64 m.looks, .int .i64 m.hits, .slice ma m.memo.length mc] 36)) m ra' va' ma' rc' vc' mc' 36
    show Mb _ _ _ _ _ _ _ _ _
    simpa using this
  have HB0 : Hid (Below w.heap.size w W0) := by rw [hW0]; exact ((Below.refl _ _).alloc (Nat.le_refl _) _).alloc (by simp) _
  clear hW0
  go_enter Try.func19, Try.ntmps19
  go_wp2_with fail
  rw [HE0.out]
  clear HE0
  refine (eqBoolS _ ra ra' m.row rc rc' (H.out.row.below HB0.out) (H'.out.row.below HB0.out)).mono ?_
  rintro e w1 ⟨rfl, hb1⟩
  have HB1 : Hid (Below w.heap.size w w1) := HB0.out.trans (hb1.mono HB0.out.size)
  have HA1 : Hid (Mb w1 w.heap.size m ra va ma rc vc mc) := HA.out.below hb1
  have HA1' : Hid (Mb w1 (w.heap.size + 1) m ra' va' ma' rc' vc' mc') := HA'.out.below hb1
  clear hb1 HA HA' HB0
  obtain ⟨m0, m1, m2, m3, m4, m5, m6, m7, m8, m9, m10⟩ := HA1.out
  obtain ⟨n0, n1, n2, n3, n4, n5, n6, n7, n8, n9, n10⟩ := HA1'.out
  go_wp2_with fail
  refine (eqTable m.N m.N m.S m.S _).mono ?_
  rintro e w2 ⟨rfl, hb2⟩
  rw [show decide (m.N = m.N ∧ m.S = m.S) = true from decide_eq_true ⟨rfl, rfl⟩]
  have HB2 : Hid (Below w.heap.size w w2) := HB1.out.trans (hb2.mono HB1.out.size)
  have HA2 : Hid (Mb w2 w.heap.size m ra va ma rc vc mc) := HA1.out.below hb2
  have HA2' : Hid (Mb w2 (w.heap.size + 1) m ra' va' ma' rc' vc' mc') := HA1'.out.below hb2
  clear hb2 HA1 HA1' HB1 m0 n0 m1 n1 m2 n2 m3 n3 m4 n4 m5 n5 m6 n6 m7 n7 m8 n8 m9 n9 m10 n10
  obtain ⟨m0, m1, m2, m3, m4, m5, m6, m7, m8, m9, m10⟩ := HA2.out
  obtain ⟨n0, n1, n2, n3, n4, n5, n6, n7, n8, n9, n10⟩ := HA2'.out
  go_wp2_with fail
  refine (eqIntB _ va va' m.vals vc vc' (H.out.vals.below HB2.out) (H'.out.vals.below HB2.out)).mono ?_
  rintro e w3 ⟨rfl, hb3⟩
  have HB3 : Hid (Below w.heap.size w w3) := HB2.out.trans (hb3.mono HB2.out.size)
  have HA3 : Hid (Mb w3 w.heap.size m ra va ma rc vc mc) := HA2.out.below hb3
  have HA3' : Hid (Mb w3 (w.heap.size + 1) m ra' va' ma' rc' vc' mc') := HA2'.out.below hb3
  clear hb3 HA2 HA2' HB2 m0 n0 m1 n1 m2 n2 m3 n3 m4 n4 m5 n5 m6 n6 m7 n7 m8 n8 m9 n9 m10 n10
  obtain ⟨m0, m1, m2, m3, m4, m5, m6, m7, m8, m9, m10⟩ := HA3.out
  obtain ⟨n0, n1, n2, n3, n4, n5, n6, n7, n8, n9, n10⟩ := HA3'.out
  go_wp2_with fail
  refine (eqSeenS _ ma ma' m.memo mc mc' (H.out.memo.below HB3.out) (H'.out.memo.below HB3.out)).mono ?_
  rintro e w4 ⟨rfl, hb4⟩
  have HB4 : Hid (Below w.heap.size w w4) := HB3.out.trans (hb4.mono HB3.out.size)
  clear hb4
  go_wp2
  go_ret
  exact ⟨rfl, HB4.out⟩

set_option maxRecDepth 100000 in
set_option maxHeartbeats 4000000 in
theorem szMachineK (w : World) (m : Mc) (ra va ma : Option Addr) (rc vc mc : Nat) (h : Mr w m ra va ma) (hS : m.S.size ≤ maxLen) (hk : ∀ x ∈ m.memo, x.k.size ≤ maxLen) :
    Calls Try.prog 12 #[mval m ra va ma rc vc mc, .int .i64 1048576] w fun e w' => ∃ r : Int, e = .returned (.int .i64 r) ∧ -1 ≤ r ∧ r ≤ 1048576 ∧ (0 ≤ r → m.row.length ≤ 1048576 ∧ m.S.size ≤ 1048576 ∧ m.vals.length ≤ 1048576 ∧ m.memo.length ≤ 1048576 ∧ ∀ x ∈ m.memo, x.k.size ≤ 1048576) ∧ Below w.heap.size w w' := by
  have H : Hid (Mr w m ra va ma) := h
  have HK : Hid (∀ x ∈ m.memo, x.k.size ≤ maxLen) := hk
  have HSz : Hid (m.S.size ≤ maxLen) := hS
  have h1 := h.row.1
  have h2 := h.vals.1
  have HR1 : Hid (m.row.length ≤ maxLen) := h1
  have HV1 : Hid (m.vals.length ≤ maxLen) := h2
  clear h hk hS h1 h2
  have HA : Hid (Mb (w.alloc (.cells #[.slice ra m.row.length rc, .int .i64 m.N, .string m.S, .int .i64 m.room, .slice va m.vals.length vc, .int .i64 m.ret, .bool m.over, .int .i64 m.steps, .int .i64 m.looks, .int .i64 m.hits, .slice ma m.memo.length mc] 28)) w.heap.size m ra va ma rc vc mc) := Mb.made _ _ _ _ _ _ _ _ _
  have HB0 : Hid (Below w.heap.size w (w.alloc (.cells #[.slice ra m.row.length rc, .int .i64 m.N, .string m.S, .int .i64 m.room, .slice va m.vals.length vc, .int .i64 m.ret, .bool m.over, .int .i64 m.steps, .int .i64 m.looks, .int .i64 m.hits, .slice ma m.memo.length mc] 28))) := (Below.refl _ _).alloc (Nat.le_refl _) _
  by_cases c1 : (m.row.length : Int) ≤ 1048576
  rotate_left
  · go_enter Try.func12, Try.ntmps12
    go_wp2_with fail
    refine (szBoolS _ ra _ rc _ (by omega) (by omega) HR1.out).mono ?_
    rw [if_neg (by omega)]
    rintro e w2 ⟨rfl, rfl⟩
    go_wp2
    go_ret
    exact ⟨-1, rfl, by omega, by omega, fun h => by omega, HB0.out⟩
  have q1 : ¬ 1048576 - (m.row.length : Int) < 0 := by omega
  go_enter Try.func12, Try.ntmps12
  go_wp2_with fail
  refine (szBoolS _ ra _ rc _ (by omega) (by omega) HR1.out).mono ?_
  rw [if_pos c1]
  rintro e w1 ⟨rfl, hw1⟩
  obtain ⟨x1, hx1⟩ : ∃ x1 : Int, x1 = 1048576 - (m.row.length : Int) := ⟨_, rfl⟩
  rw [← hx1] at q1 ⊢
  have a1 : 0 ≤ x1 := by omega
  have b1 : x1 ≤ 1048576 := by omega
  have C1 : Hid ((m.row.length : Int) ≤ 1048576) := c1
  have HB1 : Hid (Below w.heap.size w w1) := by rw [hw1]; exact HB0.out
  have HA1 : Hid (Mb w1 w.heap.size m ra va ma rc vc mc) := by rw [hw1]; exact HA.out
  clear hx1 c1 hw1 HB0 HA
  obtain ⟨m0, m1, m2, m3, m4, m5, m6, m7, m8, m9, m10⟩ := HA1.out
  by_cases c2 : (m.S.size : Int) ≤ x1
  rotate_left
  · go_wp2_with fail
    refine (szTable m.N m.S x1 _ a1 b1 HSz.out).mono ?_
    rw [if_neg (by omega)]
    rintro e w2 ⟨rfl, hb2⟩
    have HB2 : Hid (Below w.heap.size w w2) := HB1.out.trans (hb2.mono HB1.out.size)
    clear hb2
    go_wp2
    go_ret
    exact ⟨-1, rfl, by omega, by omega, fun h => by omega, HB2.out⟩
  have q2 : ¬ x1 - (m.S.size : Int) < 0 := by omega
  go_wp2_with fail
  refine (szTable m.N m.S x1 _ a1 b1 HSz.out).mono ?_
  rw [if_pos c2]
  rintro e w2 ⟨rfl, hb2⟩
  obtain ⟨x2, hx2⟩ : ∃ x2 : Int, x2 = x1 - (m.S.size : Int) := ⟨_, rfl⟩
  rw [← hx2] at q2 ⊢
  have a2 : 0 ≤ x2 := by omega
  have b2 : x2 ≤ 1048576 := by omega
  have C2 : Hid ((m.S.size : Int) ≤ 1048576) := Int.le_trans c2 b1
  have HB2 : Hid (Below w.heap.size w w2) := HB1.out.trans (hb2.mono HB1.out.size)
  have HA2 : Hid (Mb w2 w.heap.size m ra va ma rc vc mc) := HA1.out.below hb2
  clear hx2 c2 hb2 HB1 HA1 m0 m1 m2 m3 m4 m5 m6 m7 m8 m9 m10
  obtain ⟨m0, m1, m2, m3, m4, m5, m6, m7, m8, m9, m10⟩ := HA2.out
  by_cases c3 : (m.vals.length : Int) ≤ x2
  rotate_left
  · go_wp2_with fail
    refine (szIntS _ va _ vc _ a2 b2 HV1.out).mono ?_
    rw [if_neg (by omega)]
    rintro e w3 ⟨rfl, rfl⟩
    go_wp2
    go_ret
    exact ⟨-1, rfl, by omega, by omega, fun h => by omega, HB2.out⟩
  have q3 : ¬ x2 - (m.vals.length : Int) < 0 := by omega
  go_wp2_with fail
  refine (szIntS _ va _ vc _ a2 b2 HV1.out).mono ?_
  rw [if_pos c3]
  rintro e w3 ⟨rfl, hw3⟩
  have hw3' := hw3.symm
  subst hw3'
  clear hw3
  obtain ⟨x3, hx3⟩ : ∃ x3 : Int, x3 = x2 - (m.vals.length : Int) := ⟨_, rfl⟩
  rw [← hx3] at q3 ⊢
  have a3 : 0 ≤ x3 := by omega
  have b3 : x3 ≤ 1048576 := by omega
  have C3 : Hid ((m.vals.length : Int) ≤ 1048576) := Int.le_trans c3 b2
  clear hx3 c3
  go_wp2_with fail
  refine (szSeenK _ ma m.memo mc x3 (H.out.memo.below HB2.out) a3 b3 HK.out).mono ?_
  rintro e w4 ⟨r, rfl, hr0, hr1, hr2, hb4⟩
  have HR2 : Hid (0 ≤ r → (m.memo.length : Int) ≤ 1048576 ∧ ∀ x ∈ m.memo, x.k.size ≤ 1048576) := hr2
  have HB4 : Hid (Below w.heap.size w w4) := HB2.out.trans (hb4.mono HB2.out.size)
  clear hb4 hr2
  by_cases c4 : r < 0
  · go_wp2
    go_ret
    exact ⟨-1, rfl, by omega, by omega, fun h => by omega, HB4.out⟩
  · go_wp2
    go_ret
    have d1 := C1.out
    have d2 := C2.out
    have d3 := C3.out
    obtain ⟨d4, d5⟩ := HR2.out (by omega)
    exact ⟨r, rfl, by omega, by omega, fun _ => ⟨by omega, by omega, by omega, by omega, d5⟩, HB4.out⟩
theorem szMachine (w : World) (m : Mc) (ra va ma : Option Addr) (rc vc mc : Nat) (h : Mr w m ra va ma) (hS : m.S.size ≤ maxLen) (hk : ∀ x ∈ m.memo, x.k.size ≤ maxLen) :
    Calls Try.prog 12 #[mval m ra va ma rc vc mc, .int .i64 1048576] w fun e w' => ∃ r : Int, e = .returned (.int .i64 r) ∧ -1 ≤ r ∧ r ≤ 1048576 ∧ (0 ≤ r → m.row.length ≤ 1048576 ∧ m.S.size ≤ 1048576 ∧ m.vals.length ≤ 1048576 ∧ m.memo.length ≤ 1048576) ∧ Below w.heap.size w w' :=
  (szMachineK w m ra va ma rc vc mc h hS hk).mono fun e w' k => by
    obtain ⟨r, h1, h2, h3, h4, h5⟩ := k
    exact ⟨r, h1, h2, h3, fun h => ⟨(h4 h).1, (h4 h).2.1, (h4 h).2.2.1, (h4 h).2.2.2.1⟩, h5⟩


/-- A block of cells that may be written. -/
def Mf (W : World) (b : Nat) (L : List Value) : Prop := ∀ i (h : i < L.length), W.cell? ⟨b, i, none⟩ = some L[i] ∧ W.frozen? ⟨b, i, none⟩ = false
theorem Mf.lt {W : World} {b : Nat} {L : List Value} (h : Mf W b L) (hl : 0 < L.length) : b < W.heap.size := World.block_lt_of_cell? _ _ (h 0 hl).1
theorem Mf.kept {W W' : World} {b : Nat} {L : List Value} (h : Mf W b L) {S : Nat → Prop} (k : Kept S W W') (hs : ¬ S b) : Mf W' b L := fun i hi => by
  have hb := h.lt (Nat.lt_of_le_of_lt (Nat.zero_le _) hi)
  exact ⟨by rw [k.cell (p := ⟨b, i, none⟩) hb hs]; exact (h i hi).1, by rw [k.frozen (p := ⟨b, i, none⟩) hb hs]; exact (h i hi).2⟩
theorem Mf.below {W W' : World} {b : Nat} {L : List Value} (h : Mf W b L) (k : Below W.heap.size W W') : Mf W' b L := h.kept (S := fun _ => False) (Kept.ofBelow k) (fun h => h)
theorem Mf.alloc {W : World} {b : Nat} {L : List Value} (h : Mf W b L) (o : Obj) : Mf (W.alloc o) b L := h.kept (S := fun _ => False) ((Kept.refl _ _).alloc _) (fun h => h)
theorem Mf.set {W : World} {b : Nat} {L : List Value} (h : Mf W b L) (i : Nat) (v : Value) : Mf (W.setCell ⟨b, i, none⟩ v) b (L.set i v) := fun j hj => by
  have hj' : j < L.length := by simpa using hj
  refine ⟨?_, by rw [World.frozen?_setCell]; exact (h j hj').2⟩
  by_cases e : i = j
  · subst e
    rw [set_same (h i hj').1]
    simp
  · rw [set_other (by simp), (h j hj').1]
    simp [e]
theorem Mf.other {W : World} {b c : Nat} {L : List Value} (h : Mf W b L) (hc : b ≠ c) (i : Nat) (v : Value) : Mf (W.setCell ⟨c, i, none⟩ v) b L := fun j hj => by
  refine ⟨?_, by rw [World.frozen?_setCell]; exact (h j hj).2⟩
  rw [set_other (by simp)]
  exact (h j hj).1
theorem Mf.made (W : World) (A : Array Value) (T : Nat) : Mf (W.alloc (.cells A T)) W.heap.size A.toList := fun i hi => by
  refine ⟨?_, by simp⟩
  rw [World.cell?_alloc_new]
  have : i < A.size := by simpa using hi
  simp [this]
structure Mz (W : World) (b : Nat) (v0 v1 v2 v3 v4 v5 v6 v7 v8 v9 v10 : Value) : Prop where
  c0 : W.cell? ⟨b, 0, none⟩ = some v0
  c1 : W.cell? ⟨b, 1, none⟩ = some v1
  c2 : W.cell? ⟨b, 2, none⟩ = some v2
  c3 : W.cell? ⟨b, 3, none⟩ = some v3
  c4 : W.cell? ⟨b, 4, none⟩ = some v4
  c5 : W.cell? ⟨b, 5, none⟩ = some v5
  c6 : W.cell? ⟨b, 6, none⟩ = some v6
  c7 : W.cell? ⟨b, 7, none⟩ = some v7
  c8 : W.cell? ⟨b, 8, none⟩ = some v8
  c9 : W.cell? ⟨b, 9, none⟩ = some v9
  c10 : W.cell? ⟨b, 10, none⟩ = some v10
  z0 : W.frozen? ⟨b, 0, none⟩ = false
  z1 : W.frozen? ⟨b, 1, none⟩ = false
  z2 : W.frozen? ⟨b, 2, none⟩ = false
  z3 : W.frozen? ⟨b, 3, none⟩ = false
  z4 : W.frozen? ⟨b, 4, none⟩ = false
  z5 : W.frozen? ⟨b, 5, none⟩ = false
  z6 : W.frozen? ⟨b, 6, none⟩ = false
  z7 : W.frozen? ⟨b, 7, none⟩ = false
  z8 : W.frozen? ⟨b, 8, none⟩ = false
  z9 : W.frozen? ⟨b, 9, none⟩ = false
  z10 : W.frozen? ⟨b, 10, none⟩ = false
theorem Mf.all {W : World} {b : Nat} {v0 v1 v2 v3 v4 v5 v6 v7 v8 v9 v10 : Value} (h : Mf W b [v0, v1, v2, v3, v4, v5, v6, v7, v8, v9, v10]) : Mz W b v0 v1 v2 v3 v4 v5 v6 v7 v8 v9 v10 :=
  ⟨(h 0 (by simp)).1, (h 1 (by simp)).1, (h 2 (by simp)).1, (h 3 (by simp)).1, (h 4 (by simp)).1, (h 5 (by simp)).1, (h 6 (by simp)).1, (h 7 (by simp)).1, (h 8 (by simp)).1, (h 9 (by simp)).1, (h 10 (by simp)).1, (h 0 (by simp)).2, (h 1 (by simp)).2, (h 2 (by simp)).2, (h 3 (by simp)).2, (h 4 (by simp)).2, (h 5 (by simp)).2, (h 6 (by simp)).2, (h 7 (by simp)).2, (h 8 (by simp)).2, (h 9 (by simp)).2, (h 10 (by simp)).2⟩
theorem Mz.mf {W : World} {b : Nat} {v0 v1 v2 v3 v4 v5 v6 v7 v8 v9 v10 : Value} (h : Mz W b v0 v1 v2 v3 v4 v5 v6 v7 v8 v9 v10) : Mf W b [v0, v1, v2, v3, v4, v5, v6, v7, v8, v9, v10] := fun i hi => by
  match i, hi with
  | 0, _ => exact ⟨h.c0, h.z0⟩
  | 1, _ => exact ⟨h.c1, h.z1⟩
  | 2, _ => exact ⟨h.c2, h.z2⟩
  | 3, _ => exact ⟨h.c3, h.z3⟩
  | 4, _ => exact ⟨h.c4, h.z4⟩
  | 5, _ => exact ⟨h.c5, h.z5⟩
  | 6, _ => exact ⟨h.c6, h.z6⟩
  | 7, _ => exact ⟨h.c7, h.z7⟩
  | 8, _ => exact ⟨h.c8, h.z8⟩
  | 9, _ => exact ⟨h.c9, h.z9⟩
  | 10, _ => exact ⟨h.c10, h.z10⟩
theorem Mf.mb {W : World} {b : Nat} {m : Mc} {ra va ma : Option Addr} {rc vc mc : Nat} (h : Mf W b [.slice ra m.row.length rc, .int .i64 m.N, .string m.S, .int .i64 m.room, .slice va m.vals.length vc, .int .i64 m.ret, .bool m.over, .int .i64 m.steps, .int .i64 m.looks, .int .i64 m.hits, .slice ma m.memo.length mc]) : Mb W b m ra va ma rc vc mc :=
  ⟨(h 0 (by simp)).1, (h 1 (by simp)).1, (h 2 (by simp)).1, (h 3 (by simp)).1, (h 4 (by simp)).1, (h 5 (by simp)).1, (h 6 (by simp)).1, (h 7 (by simp)).1, (h 8 (by simp)).1, (h 9 (by simp)).1, (h 10 (by simp)).1⟩

end Go.Proofs.Ytmhambifbimndaa.Mx0
