/- The model's ReadKey. -/
import Derived.Deep.RegionHeld3
import Derived.Test.YtmjmnfegaoegjaaGreatDoorPkLD36
namespace Go.Proofs.YtmjmnfegaoegjaaGreatDoor.Zk2
open Go.RowKit
open Nd0 (lt_of_cell)
open Ta1 (tab tokB tok_tab tab_length)
open Tc2 (tv sTableOk)
open Tc5 (Lay)
open Td2 (finT)
open Ss0 (bs bs_size)
open Ss1 (tl tl_bs bs_tl tl_length tl_ext tl_take tl_get numI sNum)
open Tk0 (keyL sKey)
open Zk0 Zt0 Zk1
set_option linter.unusedVariables false

theorem cut_stop {c : UInt8} {s : List UInt8} {k : Nat} (h : ∀ d ∈ s.take k, d ≠ c) (hk : k < s.length) (hc : s[k] = c) : cutF c s = s.take k ∧ cutS c s = s.drop (k + 1) := by
  have e : s = s.take k ++ c :: s.drop (k + 1) := by
    rw [← hc, List.getElem_cons_drop, List.take_append_drop]
  have := cut_app c (s.take k) (s.drop (k + 1)) h
  rw [← e] at this
  exact this
theorem cut_none {c : UInt8} {s : List UInt8} (h : ∀ d ∈ s, d ≠ c) : cutF c s = s := by
  unfold cutF
  induction s with
  | nil => rfl
  | cons a l ih =>
    rw [List.takeWhile_cons_of_pos (p := fun x => x != c) (bne_iff_ne.2 (h a (by simp))), ih (fun d hd => h d (by simp [hd]))]

set_option maxRecDepth 100000 in
set_option maxHeartbeats 4000000 in
theorem sReadKey (S : ByteArray) (w : World) (hs : S.size ≤ 1048576) :
    Calls Tryz.prog 59 #[.string S] w fun e w' => RkP S e ∧ Below w.heap.size w w' := by
  obtain ⟨X0, hX0⟩ : ∃ X, X = w.alloc (.cells #[.int .i64 0, .string ⟨#[]⟩] 26) := ⟨_, rfl⟩
  have b0 : Below w.heap.size w X0 := by rw [hX0]; exact (Below.refl _ _).alloc (Nat.le_refl _) _
  have HB0 : Hid (Below w.heap.size w X0) := b0
  have HR0 : Hid (Lay X0 w.heap.size (.int .i64 0) (.string ⟨#[]⟩)) := by rw [hX0]; exact Lay.made _ _ _ _
  have hE : w.alloc (.cells #[.int .i64 0, .string ⟨#[]⟩] 26) = X0 := hX0.symm
  have HMR : Hid (mkB (tl S) = rkB (tl S)) := mk_rk _
  clear hX0 b0
  go_enter Tryz.func59, Tryz.ntmps59
  go_upto_region 1 with fail
  clear hE
  go_wp2
  go_loop [4] (fun i => ∃ k : Nat, k ≤ S.size ∧ i = .int .i64 k ∧ ∀ c ∈ (tl S).take k, c ≠ 58) (fun i => S.size - (intOf i).toNat)
  case atStart => exact ⟨0, Nat.zero_le _, rfl, fun c hc => by simp at hc⟩
  case round =>
    obtain ⟨k, hk, rfl, hc⟩ := hrel
    have HC : Hid (∀ c ∈ (tl S).take k, c ≠ 58) := hc
    clear hc
    by_cases hlt : k < S.size
    rotate_left
    · have hkz : ¬ (k : Int) < (S.size : Int) := by omega
      have hke : ((k : Int) == (S.size : Int)) = true := by rw [show k = S.size by omega]; simp
      have HF : Hid (rkB (tl S) = false) := by
        show _ = _
        rw [← HMR.out]
        unfold mkB
        have h1 := HC.out
        rw [List.take_of_length_le (by rw [tl_length]; omega)] at h1
        rw [cut_none h1]
        simp
      have HFN : Hid _ := finT HR0.out HB0.out (Nat.le_refl _) (.int .i64 0) (.string ⟨#[]⟩)
      obtain ⟨r0, r1, r2, r3⟩ := HR0.out
      by_cases h2 : (2 : Int) < (k : Int)
      · go_wp2
        obtain ⟨W, hW, hz, hbz⟩ := HFN.out
        rw [← hW]
        obtain ⟨z0, z1, _, _⟩ := hz
        exact bodyPost_ret (v := .tuple #[tv 0 ⟨#[]⟩, .bool false]) (by simp [results, Tryz.results59, go_sem, z0, z1]) rfl ⟨RkP.no HF.out, hbz⟩
      · go_wp2
        obtain ⟨W, hW, hz, hbz⟩ := HFN.out
        rw [← hW]
        obtain ⟨z0, z1, _, _⟩ := hz
        exact bodyPost_ret (v := .tuple #[tv 0 ⟨#[]⟩, .bool false]) (by simp [results, Tryz.results59, go_sem, z0, z1]) rfl ⟨RkP.no HF.out, hbz⟩
    have hkz : (k : Int) < (S.size : Int) := by omega
    by_cases h8 : S[k] = 58
    rotate_left
    · have b8 : ((S[k].toNat : Int) != 58) = true := bne_iff_ne.2 fun e => h8 (UInt8.toNat_inj.1 (by have : (58 : UInt8).toNat = 58 := rfl; omega))
      have HX : Hid (∀ c ∈ (tl S).take (k + 1), c ≠ 58) := by
        intro c hc
        rw [tl_take S k hlt] at hc
        rcases List.mem_append.1 hc with h | h
        · exact HC.out c h
        · rw [List.mem_singleton.1 h]; exact h8
      clear h8
      go_wp2
      go_round
      case rel => exact ⟨k + 1, by omega, by go_num, HX.out⟩
      case measure => simp [intOf]; omega
    have b8 : ((S[k].toNat : Int) != 58) = false := by rw [h8]; rfl
    obtain ⟨hcf, hcs⟩ := cut_stop HC.out (by rw [tl_length]; exact hlt) (by rw [← tl_get S k hlt]; exact h8)
    clear h8
    have hke : ((k : Int) == (S.size : Int)) = false := beq_eq_false_iff_ne.2 (by omega)
    by_cases h2 : (2 : Int) < (k : Int)
    · have HF : Hid (rkB (tl S) = false) := by
        show _ = _
        rw [← HMR.out]
        unfold mkB
        rw [hcf, decide_eq_false (by rw [List.length_take, tl_length]; omega)]
        rfl
      have HFN : Hid _ := finT HR0.out HB0.out (Nat.le_refl _) (.int .i64 0) (.string ⟨#[]⟩)
      clear hcf hcs
      obtain ⟨r0, r1, r2, r3⟩ := HR0.out
      go_wp2
      obtain ⟨W, hW, hz, hbz⟩ := HFN.out
      rw [← hW]
      obtain ⟨z0, z1, _, _⟩ := hz
      exact bodyPost_ret (v := .tuple #[tv 0 ⟨#[]⟩, .bool false]) (by simp [results, Tryz.results59, go_sem, z0, z1]) rfl ⟨RkP.no HF.out, hbz⟩
    have hx0 : tl (S.extract 0 k) = cutF 58 (tl S) := by rw [hcf, tl_ext]; simp
    have hy0 : S.extract (k + 1) S.size = bs (cutS 58 (tl S)) := by
      rw [← bs_tl (S.extract (k + 1) S.size), tl_ext, hcs, List.take_of_length_le (by rw [tl_length]; exact Nat.le_refl _)]
    have HNU : Hid (∀ W, Calls Tryz.prog 98 #[.string (S.extract 0 k)] W fun e w' => e = .returned (.int .i64 (numI (cutF 58 (tl S)))) ∧ w' = W) := fun W => by
      have := sNum (S.extract 0 k) W (by simp [ByteArray.size_extract]; omega)
      rw [hx0] at this
      exact this
    have hl2 : (cutS 58 (tl S)).length ≤ 1048576 := by have := cutS_le 58 (tl S); rw [tl_length] at this; omega
    have HTO : Hid (∀ W, Calls Tryz.prog 87 #[tv (numI (cutF 58 (tl S))) (bs (cutS 58 (tl S)))] W fun e w' => e = .returned (.bool (tokB (numI (cutF 58 (tl S))) (cutS 58 (tl S)))) ∧ Below W.heap.size W w') := fun W => by
      have := sTableOk (numI (cutF 58 (tl S))) (bs (cutS 58 (tl S))) W (by rw [bs_size]; exact hl2)
      rw [tl_bs] at this
      exact this
    obtain ⟨tb, htb⟩ : ∃ b, b = tokB (numI (cutF 58 (tl S))) (cutS 58 (tl S)) := ⟨_, rfl⟩
    have HK : Hid (rkB (tl S) = (tb && decide (keyL (numI (cutF 58 (tl S))).toNat (cutS 58 (tl S)) = tl S))) := by
      show _ = _
      rw [← HMR.out, htb]
      unfold mkB
      rw [decide_eq_true (by rw [hcf, List.length_take, tl_length]; omega)]
      rfl
    have HKY : Hid (tb = true → ∀ W, Calls Tryz.prog 37 #[tv (numI (cutF 58 (tl S))) (bs (cutS 58 (tl S)))] W fun e w' => e = .returned (.string (bs (keyL (numI (cutF 58 (tl S))).toNat (cutS 58 (tl S))))) ∧ Below W.heap.size W w') := fun ht W => by
      rw [htb] at ht
      obtain ⟨n, F, hn, hN, hl⟩ := tok_tab ht
      rw [hN, hl, Int.toNat_natCast]
      exact sKey n F W hn
    rw [← htb] at HTO
    have HNE : Hid (rkB (tl S) = true → numI (cutF 58 (tl S)) = rkN (tl S)) := fun h => by
      obtain ⟨n, F, hn, e⟩ := rk_of h
      rw [e, (mk_key F hn).2, (rk_key F hn).2.1]
    clear htb hl2 hx0 hcf hcs
    obtain ⟨N, hN⟩ : ∃ N, N = numI (cutF 58 (tl S)) := ⟨_, rfl⟩
    obtain ⟨Y, hY⟩ : ∃ Y, Y = bs (cutS 58 (tl S)) := ⟨_, rfl⟩
    have HY : Hid (Y = bs (cutS 58 (tl S))) := hY
    rw [← hY] at hy0
    obtain ⟨KS, hKS⟩ : ∃ K, K = bs (keyL (numI (cutF 58 (tl S))).toNat (cutS 58 (tl S))) := ⟨_, rfl⟩
    have HKS : Hid (KS = bs (keyL (numI (cutF 58 (tl S))).toNat (cutS 58 (tl S)))) := hKS
    rw [← hN] at HNU HNE
    rw [← hY, ← hN] at HTO
    rw [← hKS, ← hY, ← hN] at HKY
    clear hN hY hKS
    have hw1 : wrap64 ((k : Int) + 1) = (k : Int) + 1 := by unfold wrap64; omega
    have hw2 : IntKind.i64.wrap ((k : Int) + 1) = (k : Int) + 1 := by rw [IntKind.wrap_i64]; omega
    go_upto_region 6 with fail
    go_region_with ((go_at_call 98; refine (HNU.out _).mono ?_; rintro e w3 ⟨rfl, hw3⟩; have hw3' := hw3.symm; clear hw3; subst hw3'))
    all_goals
      obtain ⟨W3, hW3⟩ : ∃ X, X = (X0.alloc (.cells #[.int .i64 N, .string Y] 26)).drew := ⟨_, rfl⟩
      obtain ⟨q, hq⟩ : ∃ q, q = X0.heap.size := ⟨_, rfl⟩
      have hb : Below X0.heap.size X0 W3 := by rw [hW3]; exact ((Below.refl _ _).alloc (Nat.le_refl _) _).drew
      have HT3 : Hid (Lay W3 q (.int .i64 N) (.string Y)) := by
        have h1 := Lay.made X0 (.int .i64 N) (.string Y) 26
        rw [hW3, hq]
        exact ⟨h1.c0, h1.c1, h1.f0, h1.f1⟩
      have HB3 : Hid (Below w.heap.size w W3) := HB0.out.trans (hb.mono HB0.out.size)
      have HR3 : Hid (Lay W3 w.heap.size (.int .i64 0) (.string ⟨#[]⟩)) := HR0.out.below hb
      rw [← hW3, ← hq]
      clear hb hW3 hq
      obtain ⟨t0, t1, _, _⟩ := HT3.out
      go_wp2_with fail
      clear t0 t1
      refine (HTO.out _).mono ?_
      rintro e w4 ⟨rfl, hb⟩
      have HB4 : Hid (Below w.heap.size w w4) := HB3.out.trans (hb.mono HB3.out.size)
      have HR4 : Hid (Lay w4 w.heap.size (.int .i64 0) (.string ⟨#[]⟩)) := HR3.out.below hb
      have HT4 : Hid (Lay w4 q (.int .i64 N) (.string Y)) := HT3.out.below hb
      clear hb HB3 HR3 HT3
      cases tb
      · have HF : Hid (rkB (tl S) = false) := by show _ = _; rw [HK.out]; rfl
        have HFN : Hid _ := finT HR4.out HB4.out (Nat.le_refl _) (.int .i64 0) (.string ⟨#[]⟩)
        obtain ⟨r0, r1, r2, r3⟩ := HR4.out
        go_wp2
        obtain ⟨W, hW, hz, hbz⟩ := HFN.out
        rw [← hW]
        obtain ⟨z0, z1, _, _⟩ := hz
        exact bodyPost_ret (v := .tuple #[tv 0 ⟨#[]⟩, .bool false]) (by simp [results, Tryz.results59, go_sem, z0, z1]) rfl ⟨RkP.no HF.out, hbz⟩
      have HKY2 : Hid _ := HKY.out rfl
      obtain ⟨t0, t1, _, _⟩ := HT4.out
      go_wp2_with fail
      clear t0 t1
      refine (HKY2.out _).mono ?_
      rintro e w5 ⟨rfl, hb⟩
      have HB5 : Hid (Below w.heap.size w w5) := HB4.out.trans (hb.mono HB4.out.size)
      have HR5 : Hid (Lay w5 w.heap.size (.int .i64 0) (.string ⟨#[]⟩)) := HR4.out.below hb
      have HT5 : Hid (Lay w5 q (.int .i64 N) (.string Y)) := HT4.out.below hb
      clear hb HB4 HR4 HT4
      by_cases hkk : keyL (numI (cutF 58 (tl S))).toNat (cutS 58 (tl S)) = tl S
      · have HF : Hid (rkB (tl S) = true) := by show _ = _; rw [HK.out, decide_eq_true hkk]; rfl
        have hne : (KS.toList == S.toList) = true := Ss1.eqb_true (by rw [HKS.out, tl_bs, hkk])
        have HFN : Hid _ := finT HR5.out HB5.out (Nat.le_refl _) (.int .i64 N) (.string Y)
        clear hkk
        obtain ⟨t0, t1, _, _⟩ := HT5.out
        obtain ⟨r0, r1, r2, r3⟩ := HR5.out
        have hq1 := HT5.out.lt
        go_wp2
        obtain ⟨W, hW, hz, hbz⟩ := HFN.out
        rw [← hW]
        obtain ⟨z0, z1, _, _⟩ := hz
        exact bodyPost_ret (v := .tuple #[tv N Y, .bool true]) (by simp [results, Tryz.results59, go_sem, z0, z1]) rfl ⟨RkP.yes HF.out (HNE.out HF.out) HY.out, hbz⟩
      · have HF : Hid (rkB (tl S) = false) := by show _ = _; rw [HK.out, decide_eq_false hkk]; rfl
        have hne : (KS.toList == S.toList) = false := Ss1.eqb_false (by rw [HKS.out, tl_bs]; exact hkk)
        have HFN : Hid _ := finT HR5.out HB5.out (Nat.le_refl _) (.int .i64 0) (.string ⟨#[]⟩)
        clear hkk
        obtain ⟨r0, r1, r2, r3⟩ := HR5.out
        go_wp2
        obtain ⟨W, hW, hz, hbz⟩ := HFN.out
        rw [← hW]
        obtain ⟨z0, z1, _, _⟩ := hz
        exact bodyPost_ret (v := .tuple #[tv 0 ⟨#[]⟩, .bool false]) (by simp [results, Tryz.results59, go_sem, z0, z1]) rfl ⟨RkP.no HF.out, hbz⟩
end Go.Proofs.YtmjmnfegaoegjaaGreatDoor.Zk2
