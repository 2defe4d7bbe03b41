/- What is left of the program's machine; MachineLeft of both. Written by tools/gen_mi5.py. -/
import Derived.Test.YtldeakifeifgdaaMi4
import Derived.Test.YtldeakifeifgdaaMm1
namespace Go.Proofs.Ytldeakifeifgdaa.Mi5
open Go.RowKit
open Ta0 Ta1 Ta2 Ta3 Tc2 Tc5 Td2 Te1 Te3 Mc0 Mm0 Mm1 Mm2 Mx0 Mi4
open Nd0 (Kept Ints set_other set_same lt_of_cell)
open Ss0 (bs bs_size bs_ext)
open Ss1 (tl bs_tl)
set_option linter.unusedVariables false

theorem plc_pl (vb : List Bool) : ∀ k, k ≤ vb.length → plc (vb.map bi) k = pl (vb.take k) := by
  intro k
  induction k with
  | zero => intro _; simp [plc, pl]
  | succ k ih =>
    intro h
    have hk : k < vb.length := by omega
    show 2 * plc (vb.map bi) k + ((vb.map bi).getD k 0).toNat = _
    rw [ih (by omega), take_bit hk, pl_snoc]
    have : (vb.map bi).getD k 0 = bi vb[k] := by simp [List.getD, hk]
    rw [this]
    simp [bi]
theorem bits_ok (vb : List Bool) : ∀ i, i < (vb.map bi).length → bitB ((vb.map bi).getD i 0) = true := fun i hi => by
  have hi2 : i < vb.length := by simpa using hi
  have : (vb.map bi).getD i 0 = bi vb[i] := by simp [List.getD, hi2]
  rw [this]
  cases vb[i] <;> rfl
theorem pl_lt (vb : List Bool) : pl vb < 2 ^ vb.length := by
  have h := plc_lt (l := vb.map bi) (k := vb.length) (fun i hi => bits_ok vb i (by rw [List.length_map]; exact hi))
  rw [plc_pl vb _ (Nat.le_refl _), List.take_length] at h
  exact h
theorem cut_tab {n : Nat} (F : Nat → Bool) (vb : List Bool) (hk : vb.length ≤ n) : ((tab n F).take ((pl vb + 1) * 2 ^ (n - vb.length))).drop (pl vb * 2 ^ (n - vb.length)) = tab (n - vb.length) (lft n F vb) := by
  have hp := pl_lt vb
  have hle : (pl vb + 1) * 2 ^ (n - vb.length) ≤ 2 ^ n := by
    rw [show n = vb.length + (n - vb.length) by omega, Nat.pow_add, show vb.length + (n - vb.length) - vb.length = n - vb.length by omega]
    exact Nat.mul_le_mul_right _ hp
  have h1 : (pl vb + 1) * 2 ^ (n - vb.length) = pl vb * 2 ^ (n - vb.length) + 2 ^ (n - vb.length) := by rw [Nat.add_mul, Nat.one_mul]
  apply List.ext_getElem
  · rw [List.length_drop, List.length_take, tab_length, tab_length, Nat.min_eq_left hle, h1, Nat.add_sub_cancel_left]
  · intro i h2 h3
    rw [List.getElem_drop, List.getElem_take, tab_get, tab_get]
    rfl
theorem cut_le {n : Nat} (vb : List Bool) (hk : vb.length ≤ n) : (pl vb + 1) * 2 ^ (n - vb.length) ≤ 2 ^ n := by
  rw [show n = vb.length + (n - vb.length) by omega, Nat.pow_add, show vb.length + (n - vb.length) - vb.length = n - vb.length by omega]
  exact Nat.mul_le_mul_right _ (pl_lt vb)
set_option maxRecDepth 100000 in
set_option maxHeartbeats 4000000 in
theorem iLeft (n : Nat) (F : Nat → Bool) (vb : List Bool) (m : Mc) (ra va ma : Option Addr) (rc vc mc : Nat) (w : World) (hn : n ≤ 12) (hN : m.N = (n : Int)) (hS : m.S = bs (tab n F)) (hv : m.vals = vb.map bi) (hk : vb.length ≤ n) (hI : Ints w va m.vals) :
    Calls Try.prog 47 #[mval m ra va ma rc vc mc] w fun e w' => e = .returned (tv ((n - vb.length : Nat) : Int) (bs (tab (n - vb.length) (lft n F vb)))) ∧ Below w.heap.size w w' := by
  have hlv : m.vals.length = vb.length := by rw [hv, List.length_map]
  have HPL : Hid (∀ W, Below w.heap.size w W → Calls Try.prog 53 #[.slice va m.vals.length vc] W fun e w' => e = .returned (.tuple #[.int .i64 ((pl vb : Nat) : Int), .bool true]) ∧ w' = W) := fun W hb => by
    refine (iPlaceOf va m.vals vc W (by omega) (hI.below hb)).mono ?_
    rintro e w' ⟨h, rfl⟩
    refine ⟨?_, rfl⟩
    rcases h with ⟨_, rfl⟩ | ⟨⟨i, hi, hb⟩, _⟩
    · rw [hlv, hv, plc_pl vb _ (Nat.le_refl _), List.take_length]
    · rw [hv] at hi hb
      rw [bits_ok vb i hi] at hb
      cases hb
  have HEX : Hid (m.S.extract (pl vb * 2 ^ (n - vb.length)) ((pl vb + 1) * 2 ^ (n - vb.length)) = bs (tab (n - vb.length) (lft n F vb))) := by
    show _ = _
    rw [hS, bs_ext, cut_tab F vb hk]
  have hp1 := pl_lt vb
  have hp2 := cut_le vb hk
  have hp3 := (p12 hn).2
  have hp4 : pl vb < 4096 := by
    have := Nat.pow_le_pow_right (n := 2) (by omega) hk
    omega
  have hsz : m.S.size = 2 ^ n := by rw [hS, bs_size, tab_length]
  have hmul : pl vb * 2 ^ (n - vb.length) ≤ (pl vb + 1) * 2 ^ (n - vb.length) := Nat.mul_le_mul_right _ (by omega)
  have hw1 : IntKind.i64.wrap ((pl vb : Int) * 2 ^ (n - vb.length)) = ((pl vb * 2 ^ (n - vb.length) : Nat) : Int) := by
    rw [show (pl vb : Int) * 2 ^ (n - vb.length) = ((pl vb * 2 ^ (n - vb.length) : Nat) : Int) by push_cast; rfl, IntKind.wrap_i64] <;> omega
  have hw2 : IntKind.i64.wrap (((pl vb : Int) + 1) * 2 ^ (n - vb.length)) = (((pl vb + 1) * 2 ^ (n - vb.length) : Nat) : Int) := by
    rw [show ((pl vb : Int) + 1) * 2 ^ (n - vb.length) = (((pl vb + 1) * 2 ^ (n - vb.length) : Nat) : Int) by push_cast; rfl, IntKind.wrap_i64] <;> omega
  have hsub : m.N - (m.vals.length : Int) = ((n - vb.length : Nat) : Int) := by rw [hN, hlv]; omega
  have HSUB : Hid (m.N - (m.vals.length : Int) = ((n - vb.length : Nat) : Int)) := hsub
  have hN0 : 0 ≤ m.N := by omega
  have hN1 : m.N ≤ 12 := by omega
  have hv1 : m.vals.length ≤ 12 := by omega
  have he12 : n - vb.length ≤ 12 := by omega
  have hA2 : pl vb * 2 ^ (n - vb.length) ≤ m.S.size := by omega
  have hB2 : (pl vb + 1) * 2 ^ (n - vb.length) ≤ m.S.size := by omega
  have hsz2 : m.S.size ≤ 4096 := by omega
  clear hsz hp1 hp2 hp3 hI hv hS hN hlv
  generalize n - vb.length = e at *
  generalize bs (tab e (lft n F vb)) = T at *
  generalize pl vb = y at *
  generalize hA : y * 2 ^ e = A at *
  generalize hB : (y + 1) * 2 ^ e = B at *
  clear hA hB
  obtain ⟨W0, hW0⟩ : ∃ W0, W0 = ((w.alloc (.cells #[.slice ra m.row.length rc, .int .i64 m.N, .string m.S, .int .i64 m.room, .slice va m.vals.length vc, .int .i64 m.ret, .bool m.over, .int .i64 m.steps, .int .i64 m.looks, .int .i64 m.hits, .slice ma m.memo.length mc] 34)).alloc (.cells #[.int .i64 0, .string ⟨#[]⟩] 31)) := ⟨_, rfl⟩
  have HE0 : Hid (((w.alloc (.cells #[.slice ra m.row.length rc, .int .i64 m.N, .string m.S, .int .i64 m.room, .slice va m.vals.length vc, .int .i64 m.ret, .bool m.over, .int .i64 m.steps, .int .i64 m.looks, .int .i64 m.hits, .slice ma m.memo.length mc] 34)).alloc (.cells #[.int .i64 0, .string ⟨#[]⟩] 31)) = W0) := hW0.symm
  have HB0 : Hid (Below w.heap.size w W0) := by rw [hW0]; exact ((Below.refl _ _).alloc (Nat.le_refl _) _).alloc (by simp) _
  have HA0 : Hid (Mb W0 w.heap.size m ra va ma rc vc mc) := by rw [hW0]; exact (Mb.made _ _ _ _ _ _ _ _ _).alloc _
  have HL0 : Hid (Lay W0 (w.heap.size + 1) (.int .i64 0) (.string ⟨#[]⟩)) := by
    rw [hW0]
    have h1 := Lay.made (w.alloc (.cells #[.slice ra m.row.length rc, .int .i64 m.N, .string m.S, .int .i64 m.room, .slice va m.vals.length vc, .int .i64 m.ret, .bool m.over, .int .i64 m.steps, .int .i64 m.looks, .int .i64 m.hits, .slice ma m.memo.length mc] 34)) (.int .i64 0) (.string ⟨#[]⟩) 31
    have h2 : (w.alloc (.cells #[.slice ra m.row.length rc, .int .i64 m.N, .string m.S, .int .i64 m.room, .slice va m.vals.length vc, .int .i64 m.ret, .bool m.over, .int .i64 m.steps, .int .i64 m.looks, .int .i64 m.hits, .slice ma m.memo.length mc] 34)).heap.size = w.heap.size + 1 := by simp
    rw [h2] at h1
    exact h1
  clear hW0
  go_enter Try.func47, Try.ntmps47
  go_upto_region 1 with fail
  rw [HE0.out]
  clear HE0
  obtain ⟨m0, m1, m2, m3, m4, m5, m6, m7, m8, m9, m10⟩ := HA0.out
  obtain ⟨y0, y1, z0, z1⟩ := HL0.out
  go_wp2_with fail
  refine (HPL.out _ HB0.out).mono ?_
  rintro _ w2 ⟨rfl, hw⟩
  have hw' := hw.symm
  clear hw
  subst hw'
  go_wp2_with fail
  go_region
  rw [HEX.out]
  obtain ⟨W2, hW2, hL2, hB2'⟩ := finT HL0.out HB0.out (Nat.le_succ _) (.int .i64 (e : Int)) (.string T)
  rw [← hW2]
  have u0 := hL2.c0
  have u1 := hL2.c1
  clear m0 m1 m2 m3 m4 m5 m6 m7 m8 m9 m10 y0 y1 z0 z1 hW2
  go_wp2
  exact bodyPost_ret (v := tv (e : Int) T) (by simp [results, Try.results47, go_sem, u0, u1]) rfl ⟨rfl, hB2'.drew⟩

set_option maxRecDepth 100000 in
set_option maxHeartbeats 4000000 in
theorem sMLeft0 (m : Mc) (ra va ma : Option Addr) (rc vc mc : Nat) (w : World) (hS : m.S.size ≤ 1048576) (hR : Mr w m ra va ma) (h1 : mokB m = false) :
    Calls Try.prog 23 #[mval m ra va ma rc vc mc] w fun e w' => e = .returned (.tuple #[tv 0 ⟨#[]⟩, .bool false]) ∧ Below w.heap.size w w' := by
  have HOK : Hid (∀ W, Below w.heap.size w W → Calls Try.prog 8 #[mval m ra va ma rc vc mc] W fun e w' => e = .returned (.bool false) ∧ Below W.heap.size W w') := fun W hb => by
    have := sMachineOk m ra va ma rc vc mc W hS (hR.below hb)
    rwa [h1] at this
  clear hS hR h1
  obtain ⟨W0, hW0⟩ : ∃ W0, W0 = ((w.alloc (.cells #[.slice ra m.row.length rc, .int .i64 m.N, .string m.S, .int .i64 m.room, .slice va m.vals.length vc, .int .i64 m.ret, .bool m.over, .int .i64 m.steps, .int .i64 m.looks, .int .i64 m.hits, .slice ma m.memo.length mc] 34)).alloc (.cells #[.int .i64 0, .string ⟨#[]⟩] 31)) := ⟨_, rfl⟩
  have HE0 : Hid (((w.alloc (.cells #[.slice ra m.row.length rc, .int .i64 m.N, .string m.S, .int .i64 m.room, .slice va m.vals.length vc, .int .i64 m.ret, .bool m.over, .int .i64 m.steps, .int .i64 m.looks, .int .i64 m.hits, .slice ma m.memo.length mc] 34)).alloc (.cells #[.int .i64 0, .string ⟨#[]⟩] 31)) = W0) := hW0.symm
  have HB0 : Hid (Below w.heap.size w W0) := by rw [hW0]; exact ((Below.refl _ _).alloc (Nat.le_refl _) _).alloc (by simp) _
  have HA0 : Hid (Mb W0 w.heap.size m ra va ma rc vc mc) := by rw [hW0]; exact (Mb.made _ _ _ _ _ _ _ _ _).alloc _
  have HL0 : Hid (Lay W0 (w.heap.size + 1) (.int .i64 0) (.string ⟨#[]⟩)) := by
    rw [hW0]
    have h1 := Lay.made (w.alloc (.cells #[.slice ra m.row.length rc, .int .i64 m.N, .string m.S, .int .i64 m.room, .slice va m.vals.length vc, .int .i64 m.ret, .bool m.over, .int .i64 m.steps, .int .i64 m.looks, .int .i64 m.hits, .slice ma m.memo.length mc] 34)) (.int .i64 0) (.string ⟨#[]⟩) 31
    have h2 : (w.alloc (.cells #[.slice ra m.row.length rc, .int .i64 m.N, .string m.S, .int .i64 m.room, .slice va m.vals.length vc, .int .i64 m.ret, .bool m.over, .int .i64 m.steps, .int .i64 m.looks, .int .i64 m.hits, .slice ma m.memo.length mc] 34)).heap.size = w.heap.size + 1 := by simp
    rw [h2] at h1
    exact h1
  clear hW0
  go_enter Try.func23, Try.ntmps23
  go_upto_region 1 with fail
  rw [HE0.out]
  clear HE0
  obtain ⟨m0, m1, m2, m3, m4, m5, m6, m7, m8, m9, m10⟩ := HA0.out
  go_wp2_with fail
  refine (HOK.out _ HB0.out).mono ?_
  rintro e w1 ⟨rfl, hb1⟩
  have HB1 : Hid (Below w.heap.size w w1) := HB0.out.trans (hb1.mono HB0.out.size)
  have HL1 : Hid (Lay w1 (w.heap.size + 1) (.int .i64 0) (.string ⟨#[]⟩)) := HL0.out.below hb1
  clear hb1 m0 m1 m2 m3 m4 m5 m6 m7 m8 m9 m10
  obtain ⟨y0, y1, z0, z1⟩ := HL1.out
  go_wp2
  obtain ⟨W2, hW2, hL2, hB2⟩ := finT HL1.out HB1.out (Nat.le_succ _) (.int .i64 0) (.string ⟨#[]⟩)
  rw [← hW2]
  obtain ⟨u0, u1, _, _⟩ := hL2
  exact bodyPost_ret (v := .tuple #[tv 0 ⟨#[]⟩, .bool false]) (by simp [results, Try.results23, go_sem, u0, u1]) rfl ⟨rfl, hB2⟩

set_option maxRecDepth 100000 in
set_option maxHeartbeats 4000000 in
theorem sMLeft1 (n : Nat) (F : Nat → Bool) (vb : List Bool) (m : Mc) (ra va ma : Option Addr) (rc vc mc : Nat) (w : World) (hS : m.S.size ≤ 1048576) (hR : Mr w m ra va ma) (h1 : mokB m = true) (hn : n ≤ 12) (hN : m.N = (n : Int)) (hS2 : m.S = bs (tab n F)) (hv : m.vals = vb.map bi) (hl : vb.length ≤ n) :
    Calls Try.prog 23 #[mval m ra va ma rc vc mc] w fun e w' => e = .returned (.tuple #[tv ((n - vb.length : Nat) : Int) (bs (tab (n - vb.length) (lft n F vb))), .bool true]) ∧ Below w.heap.size w w' := by
  have HOK : Hid (∀ W, Below w.heap.size w W → Calls Try.prog 8 #[mval m ra va ma rc vc mc] W fun e w' => e = .returned (.bool true) ∧ Below W.heap.size W w') := fun W hb => by
    have := sMachineOk m ra va ma rc vc mc W hS (hR.below hb)
    rwa [h1] at this
  have HLF : Hid (∀ W, Below w.heap.size w W → Calls Try.prog 46 #[mval m ra va ma rc vc mc] W fun e w' => e = .returned (tv ((n - vb.length : Nat) : Int) (bs (tab (n - vb.length) (lft n F vb)))) ∧ Below W.heap.size W w') := fun W hb => sLeft n F vb m ra va ma rc vc mc W hn hN hS2 hv hl (hR.vals.below hb)
  clear hS hR h1 hN hS2 hv
  generalize bs (tab (n - vb.length) (lft n F vb)) = T at *
  generalize ((n - vb.length : Nat) : Int) = e at *
  obtain ⟨W0, hW0⟩ : ∃ W0, W0 = ((w.alloc (.cells #[.slice ra m.row.length rc, .int .i64 m.N, .string m.S, .int .i64 m.room, .slice va m.vals.length vc, .int .i64 m.ret, .bool m.over, .int .i64 m.steps, .int .i64 m.looks, .int .i64 m.hits, .slice ma m.memo.length mc] 34)).alloc (.cells #[.int .i64 0, .string ⟨#[]⟩] 31)) := ⟨_, rfl⟩
  have HE0 : Hid (((w.alloc (.cells #[.slice ra m.row.length rc, .int .i64 m.N, .string m.S, .int .i64 m.room, .slice va m.vals.length vc, .int .i64 m.ret, .bool m.over, .int .i64 m.steps, .int .i64 m.looks, .int .i64 m.hits, .slice ma m.memo.length mc] 34)).alloc (.cells #[.int .i64 0, .string ⟨#[]⟩] 31)) = W0) := hW0.symm
  have HB0 : Hid (Below w.heap.size w W0) := by rw [hW0]; exact ((Below.refl _ _).alloc (Nat.le_refl _) _).alloc (by simp) _
  have HA0 : Hid (Mb W0 w.heap.size m ra va ma rc vc mc) := by rw [hW0]; exact (Mb.made _ _ _ _ _ _ _ _ _).alloc _
  have HL0 : Hid (Lay W0 (w.heap.size + 1) (.int .i64 0) (.string ⟨#[]⟩)) := by
    rw [hW0]
    have h1 := Lay.made (w.alloc (.cells #[.slice ra m.row.length rc, .int .i64 m.N, .string m.S, .int .i64 m.room, .slice va m.vals.length vc, .int .i64 m.ret, .bool m.over, .int .i64 m.steps, .int .i64 m.looks, .int .i64 m.hits, .slice ma m.memo.length mc] 34)) (.int .i64 0) (.string ⟨#[]⟩) 31
    have h2 : (w.alloc (.cells #[.slice ra m.row.length rc, .int .i64 m.N, .string m.S, .int .i64 m.room, .slice va m.vals.length vc, .int .i64 m.ret, .bool m.over, .int .i64 m.steps, .int .i64 m.looks, .int .i64 m.hits, .slice ma m.memo.length mc] 34)).heap.size = w.heap.size + 1 := by simp
    rw [h2] at h1
    exact h1
  clear hW0
  go_enter Try.func23, Try.ntmps23
  go_upto_region 1 with fail
  rw [HE0.out]
  clear HE0
  obtain ⟨m0, m1, m2, m3, m4, m5, m6, m7, m8, m9, m10⟩ := HA0.out
  go_wp2_with fail
  refine (HOK.out _ HB0.out).mono ?_
  rintro _ w1 ⟨rfl, hb1⟩
  have HB1 : Hid (Below w.heap.size w w1) := HB0.out.trans (hb1.mono HB0.out.size)
  have HA1 : Hid (Mb w1 w.heap.size m ra va ma rc vc mc) := HA0.out.below hb1
  have HL1 : Hid (Lay w1 (w.heap.size + 1) (.int .i64 0) (.string ⟨#[]⟩)) := HL0.out.below hb1
  clear hb1 m0 m1 m2 m3 m4 m5 m6 m7 m8 m9 m10
  obtain ⟨m0, m1, m2, m3, m4, m5, m6, m7, m8, m9, m10⟩ := HA1.out
  go_wp2_with fail
  refine (HLF.out _ HB1.out).mono ?_
  rintro _ w2 ⟨rfl, hb2⟩
  have HB2 : Hid (Below w.heap.size w w2) := HB1.out.trans (hb2.mono HB1.out.size)
  have HL2 : Hid (Lay w2 (w.heap.size + 1) (.int .i64 0) (.string ⟨#[]⟩)) := HL1.out.below hb2
  clear hb2 m0 m1 m2 m3 m4 m5 m6 m7 m8 m9 m10
  obtain ⟨y0, y1, z0, z1⟩ := HL2.out
  go_wp2
  obtain ⟨W2, hW2, hL2, hB2⟩ := finT HL2.out HB2.out (Nat.le_succ _) (.int .i64 e) (.string T)
  rw [← hW2]
  obtain ⟨u0, u1, _, _⟩ := hL2
  exact bodyPost_ret (v := .tuple #[tv e T, .bool true]) (by simp [results, Try.results23, go_sem, u0, u1]) rfl ⟨rfl, hB2⟩

set_option maxRecDepth 100000 in
set_option maxHeartbeats 4000000 in
theorem iMLeft0 (m : Mc) (ra va ma : Option Addr) (rc vc mc : Nat) (w : World) (hS : m.S.size ≤ 1048576) (hR : Mr w m ra va ma) (hk : ∀ x ∈ m.memo, x.k.size ≤ maxLen) (h1 : mokB m = false) :
    Calls Try.prog 24 #[mval m ra va ma rc vc mc] w fun e w' => e = .returned (.tuple #[tv 0 ⟨#[]⟩, .bool false]) ∧ Below w.heap.size w w' := by
  have HOK : Hid (∀ W, Below w.heap.size w W → Calls Try.prog 10 #[mval m ra va ma rc vc mc] W fun e w' => e = .returned (.bool false) ∧ Below W.heap.size W w') := fun W hb => by
    have := iMachineOk m ra va ma rc vc mc W hS (hR.below hb) hk
    rwa [h1] at this
  clear hS hR hk h1
  obtain ⟨W0, hW0⟩ : ∃ W0, W0 = ((w.alloc (.cells #[.slice ra m.row.length rc, .int .i64 m.N, .string m.S, .int .i64 m.room, .slice va m.vals.length vc, .int .i64 m.ret, .bool m.over, .int .i64 m.steps, .int .i64 m.looks, .int .i64 m.hits, .slice ma m.memo.length mc] 34)).alloc (.cells #[.int .i64 0, .string ⟨#[]⟩] 31)) := ⟨_, rfl⟩
  have HE0 : Hid (((w.alloc (.cells #[.slice ra m.row.length rc, .int .i64 m.N, .string m.S, .int .i64 m.room, .slice va m.vals.length vc, .int .i64 m.ret, .bool m.over, .int .i64 m.steps, .int .i64 m.looks, .int .i64 m.hits, .slice ma m.memo.length mc] 34)).alloc (.cells #[.int .i64 0, .string ⟨#[]⟩] 31)) = W0) := hW0.symm
  have HB0 : Hid (Below w.heap.size w W0) := by rw [hW0]; exact ((Below.refl _ _).alloc (Nat.le_refl _) _).alloc (by simp) _
  have HA0 : Hid (Mb W0 w.heap.size m ra va ma rc vc mc) := by rw [hW0]; exact (Mb.made _ _ _ _ _ _ _ _ _).alloc _
  have HL0 : Hid (Lay W0 (w.heap.size + 1) (.int .i64 0) (.string ⟨#[]⟩)) := by
    rw [hW0]
    have h1 := Lay.made (w.alloc (.cells #[.slice ra m.row.length rc, .int .i64 m.N, .string m.S, .int .i64 m.room, .slice va m.vals.length vc, .int .i64 m.ret, .bool m.over, .int .i64 m.steps, .int .i64 m.looks, .int .i64 m.hits, .slice ma m.memo.length mc] 34)) (.int .i64 0) (.string ⟨#[]⟩) 31
    have h2 : (w.alloc (.cells #[.slice ra m.row.length rc, .int .i64 m.N, .string m.S, .int .i64 m.room, .slice va m.vals.length vc, .int .i64 m.ret, .bool m.over, .int .i64 m.steps, .int .i64 m.looks, .int .i64 m.hits, .slice ma m.memo.length mc] 34)).heap.size = w.heap.size + 1 := by simp
    rw [h2] at h1
    exact h1
  clear hW0
  go_enter Try.func24, Try.ntmps24
  go_upto_region 1 with fail
  rw [HE0.out]
  clear HE0
  obtain ⟨m0, m1, m2, m3, m4, m5, m6, m7, m8, m9, m10⟩ := HA0.out
  go_wp2_with fail
  refine (HOK.out _ HB0.out).mono ?_
  rintro e w1 ⟨rfl, hb1⟩
  have HB1 : Hid (Below w.heap.size w w1) := HB0.out.trans (hb1.mono HB0.out.size)
  have HL1 : Hid (Lay w1 (w.heap.size + 1) (.int .i64 0) (.string ⟨#[]⟩)) := HL0.out.below hb1
  clear hb1 m0 m1 m2 m3 m4 m5 m6 m7 m8 m9 m10
  obtain ⟨y0, y1, z0, z1⟩ := HL1.out
  go_wp2
  obtain ⟨W2, hW2, hL2, hB2⟩ := finT HL1.out HB1.out (Nat.le_succ _) (.int .i64 0) (.string ⟨#[]⟩)
  rw [← hW2]
  obtain ⟨u0, u1, _, _⟩ := hL2
  exact bodyPost_ret (v := .tuple #[tv 0 ⟨#[]⟩, .bool false]) (by simp [results, Try.results24, go_sem, u0, u1]) rfl ⟨rfl, hB2⟩

set_option maxRecDepth 100000 in
set_option maxHeartbeats 4000000 in
theorem iMLeft1 (n : Nat) (F : Nat → Bool) (vb : List Bool) (m : Mc) (ra va ma : Option Addr) (rc vc mc : Nat) (w : World) (hS : m.S.size ≤ 1048576) (hR : Mr w m ra va ma) (hk : ∀ x ∈ m.memo, x.k.size ≤ maxLen) (h1 : mokB m = true) (hn : n ≤ 12) (hN : m.N = (n : Int)) (hS2 : m.S = bs (tab n F)) (hv : m.vals = vb.map bi) (hl : vb.length ≤ n) :
    Calls Try.prog 24 #[mval m ra va ma rc vc mc] w fun e w' => e = .returned (.tuple #[tv ((n - vb.length : Nat) : Int) (bs (tab (n - vb.length) (lft n F vb))), .bool true]) ∧ Below w.heap.size w w' := by
  have HOK : Hid (∀ W, Below w.heap.size w W → Calls Try.prog 10 #[mval m ra va ma rc vc mc] W fun e w' => e = .returned (.bool true) ∧ Below W.heap.size W w') := fun W hb => by
    have := iMachineOk m ra va ma rc vc mc W hS (hR.below hb) hk
    rwa [h1] at this
  have HLF : Hid (∀ W, Below w.heap.size w W → Calls Try.prog 47 #[mval m ra va ma rc vc mc] W fun e w' => e = .returned (tv ((n - vb.length : Nat) : Int) (bs (tab (n - vb.length) (lft n F vb)))) ∧ Below W.heap.size W w') := fun W hb => iLeft n F vb m ra va ma rc vc mc W hn hN hS2 hv hl (hR.vals.below hb)
  clear hS hR hk h1 hN hS2 hv
  generalize bs (tab (n - vb.length) (lft n F vb)) = T at *
  generalize ((n - vb.length : Nat) : Int) = e at *
  obtain ⟨W0, hW0⟩ : ∃ W0, W0 = ((w.alloc (.cells #[.slice ra m.row.length rc, .int .i64 m.N, .string m.S, .int .i64 m.room, .slice va m.vals.length vc, .int .i64 m.ret, .bool m.over, .int .i64 m.steps, .int .i64 m.looks, .int .i64 m.hits, .slice ma m.memo.length mc] 34)).alloc (.cells #[.int .i64 0, .string ⟨#[]⟩] 31)) := ⟨_, rfl⟩
  have HE0 : Hid (((w.alloc (.cells #[.slice ra m.row.length rc, .int .i64 m.N, .string m.S, .int .i64 m.room, .slice va m.vals.length vc, .int .i64 m.ret, .bool m.over, .int .i64 m.steps, .int .i64 m.looks, .int .i64 m.hits, .slice ma m.memo.length mc] 34)).alloc (.cells #[.int .i64 0, .string ⟨#[]⟩] 31)) = W0) := hW0.symm
  have HB0 : Hid (Below w.heap.size w W0) := by rw [hW0]; exact ((Below.refl _ _).alloc (Nat.le_refl _) _).alloc (by simp) _
  have HA0 : Hid (Mb W0 w.heap.size m ra va ma rc vc mc) := by rw [hW0]; exact (Mb.made _ _ _ _ _ _ _ _ _).alloc _
  have HL0 : Hid (Lay W0 (w.heap.size + 1) (.int .i64 0) (.string ⟨#[]⟩)) := by
    rw [hW0]
    have h1 := Lay.made (w.alloc (.cells #[.slice ra m.row.length rc, .int .i64 m.N, .string m.S, .int .i64 m.room, .slice va m.vals.length vc, .int .i64 m.ret, .bool m.over, .int .i64 m.steps, .int .i64 m.looks, .int .i64 m.hits, .slice ma m.memo.length mc] 34)) (.int .i64 0) (.string ⟨#[]⟩) 31
    have h2 : (w.alloc (.cells #[.slice ra m.row.length rc, .int .i64 m.N, .string m.S, .int .i64 m.room, .slice va m.vals.length vc, .int .i64 m.ret, .bool m.over, .int .i64 m.steps, .int .i64 m.looks, .int .i64 m.hits, .slice ma m.memo.length mc] 34)).heap.size = w.heap.size + 1 := by simp
    rw [h2] at h1
    exact h1
  clear hW0
  go_enter Try.func24, Try.ntmps24
  go_upto_region 1 with fail
  rw [HE0.out]
  clear HE0
  obtain ⟨m0, m1, m2, m3, m4, m5, m6, m7, m8, m9, m10⟩ := HA0.out
  go_wp2_with fail
  refine (HOK.out _ HB0.out).mono ?_
  rintro _ w1 ⟨rfl, hb1⟩
  have HB1 : Hid (Below w.heap.size w w1) := HB0.out.trans (hb1.mono HB0.out.size)
  have HA1 : Hid (Mb w1 w.heap.size m ra va ma rc vc mc) := HA0.out.below hb1
  have HL1 : Hid (Lay w1 (w.heap.size + 1) (.int .i64 0) (.string ⟨#[]⟩)) := HL0.out.below hb1
  clear hb1 m0 m1 m2 m3 m4 m5 m6 m7 m8 m9 m10
  obtain ⟨m0, m1, m2, m3, m4, m5, m6, m7, m8, m9, m10⟩ := HA1.out
  go_wp2_with fail
  refine (HLF.out _ HB1.out).mono ?_
  rintro _ w2 ⟨rfl, hb2⟩
  have HB2 : Hid (Below w.heap.size w w2) := HB1.out.trans (hb2.mono HB1.out.size)
  have HL2 : Hid (Lay w2 (w.heap.size + 1) (.int .i64 0) (.string ⟨#[]⟩)) := HL1.out.below hb2
  clear hb2 m0 m1 m2 m3 m4 m5 m6 m7 m8 m9 m10
  obtain ⟨y0, y1, z0, z1⟩ := HL2.out
  go_wp2
  obtain ⟨W2, hW2, hL2, hB2⟩ := finT HL2.out HB2.out (Nat.le_succ _) (.int .i64 e) (.string T)
  rw [← hW2]
  obtain ⟨u0, u1, _, _⟩ := hL2
  exact bodyPost_ret (v := .tuple #[tv e T, .bool true]) (by simp [results, Try.results24, go_sem, u0, u1]) rfl ⟨rfl, hB2⟩

/-- A row of bits as flags. -/
theorem bits_of (l : List Int) (h : ∀ x ∈ l, 0 ≤ x ∧ x ≤ 1) : ∃ vb : List Bool, l = vb.map bi := by
  refine ⟨l.map (fun x => decide (x = 1)), ?_⟩
  rw [List.map_map]
  conv => lhs; rw [← List.map_id l]
  apply List.map_congr_left
  intro x hx
  have := h x hx
  have hx2 : x = 0 ∨ x = 1 := by omega
  rcases hx2 with rfl | rfl <;> rfl
theorem left_both (m : Mc) (hS : m.S.size ≤ 1048576) (hk : ∀ x ∈ m.memo, x.k.size ≤ maxLen) : ∃ (N : Int) (S : ByteArray) (b : Bool),
    (∀ (ra va ma : Option Addr) (rc vc mc : Nat) (w : World), Mr w m ra va ma → Calls Try.prog 23 #[mval m ra va ma rc vc mc] w fun e w' => e = .returned (.tuple #[tv N S, .bool b]) ∧ Below w.heap.size w w') ∧
    (∀ (ra va ma : Option Addr) (rc vc mc : Nat) (w : World), Mr w m ra va ma → Calls Try.prog 24 #[mval m ra va ma rc vc mc] w fun e w' => e = .returned (.tuple #[tv N S, .bool b]) ∧ Below w.heap.size w w') := by
  cases h : mokB m
  · exact ⟨0, ⟨#[]⟩, false, fun ra va ma rc vc mc w hR => sMLeft0 m ra va ma rc vc mc w hS hR h, fun ra va ma rc vc mc w hR => iMLeft0 m ra va ma rc vc mc w hS hR hk h⟩
  · have hok : Mok m := by
      have := h
      unfold mokB at this
      simpa using this
    obtain ⟨n, F, hn, hN, h3⟩ := tok_tab hok.tab
    have hS2 : m.S = bs (tab n F) := by rw [← bs_tl m.S, h3]
    obtain ⟨vb, hvb⟩ := bits_of m.vals hok.bits
    have hl : vb.length ≤ n := by
      have := hok.vals
      rw [hvb, List.length_map] at this
      omega
    exact ⟨_, _, true, fun ra va ma rc vc mc w hR => sMLeft1 n F vb m ra va ma rc vc mc w hS hR h hn hN hS2 hvb hl, fun ra va ma rc vc mc w hR => iMLeft1 n F vb m ra va ma rc vc mc w hS hR hk h hn hN hS2 hvb hl⟩

end Go.Proofs.Ytldeakifeifgdaa.Mi5
