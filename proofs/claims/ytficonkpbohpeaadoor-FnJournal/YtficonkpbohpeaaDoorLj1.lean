/- The law FnJournal. -/
import Derived.Lib.QuietBelow
import Derived.BigQuiet
import Derived.Test.YtficonkpbohpeaaDoorLj0
import Derived.Test.YtficonkpbohpeaaDoorJd1
import Derived.Test.YtficonkpbohpeaaDoorPkT43
namespace Go.Proofs.YtficonkpbohpeaaDoor.Lj1
open Go.RowKit
open Go.Sort (grow)
open Nd0 (Kept)
open Tx0 Jn0 Jn2 Jn6 Jn7 Jm0 Lj0 Lw4
open Dr0 (Bytes)
open Jx3 (Rw)
open Ss0 (bs bs_size bs_app)
open Ss1 (tl tl_bs bs_tl tl_length)
open Zt0 (TabZ)
open Tk0 (TabK)
set_option linter.unusedVariables false

set_option maxRecDepth 100000 in
set_option maxHeartbeats 4000000 in
theorem lawJournal (w : World) (hT : TabZ w) (a : Option Addr) (len cap : Nat) (hb : Bytes w a len) :
    Calls Tryd.prog 3 #[.slice a len cap] w fun e w' => e = .returned (.bool true) ∧ Below w.heap.size w w' := by
  have HB : Hid (Bytes w a len) := hb
  have HTB : Hid (TabZ w) := hT
  clear hb hT
  by_cases hs : 1048576 < len
  · go_enter Tryd.func3, Tryd.ntmps3
    go_wp2_with fail
    refine (lbig _ a len cap true (by simp; omega)).mono ?_
    rintro e w' ⟨rfl, rfl⟩
    go_wp2
    go_ret
    exact ⟨rfl, Below.refl _ _⟩
  go_enter Tryd.func3, Tryd.ntmps3
  go_wp2_with fail
  refine (lbig _ a len cap false (by simp; omega)).mono ?_
  rintro e w0 ⟨rfl, rfl⟩
  go_wp2_with fail
  refine (Jd1.drawAppend _ a len cap HB.out).mono ?_
  rintro e w1 ⟨⟨J, S, rfl, hJ, hS⟩, hb1⟩
  have HB1 : Hid (Below w0.heap.size w0 w1) := hb1
  clear hb1
  have hM := more hJ hS
  obtain ⟨T, hTT⟩ : ∃ T, T = bs (cat (rcs (tl J))) := ⟨_, rfl⟩
  obtain ⟨K, hKK⟩ : ∃ K, K = T ++ rcd S := ⟨_, rfl⟩
  obtain ⟨L, hL⟩ : ∃ L, L = rcs (tl J) := ⟨_, rfl⟩
  have HTI : Hid (∀ W, TabZ W → Calls Tryd.prog 14 #[.string J] W fun e w' => e = .returned (.string T) ∧ Below W.heap.size W w') := fun W hW => by rw [hTT]; exact iTidy J W hW (by omega)
  rw [← hTT, ← hKK, ← hL] at hM
  obtain ⟨n, hn⟩ : ∃ n, n = L.length := ⟨_, rfl⟩
  obtain ⟨p, hp⟩ : ∃ p, p = endN (tl J) := ⟨_, rfl⟩
  obtain ⟨f, hf⟩ : ∃ f, f = fl L := ⟨_, rfl⟩
  obtain ⟨f2, hf2⟩ : ∃ f, f = fl (L ++ [tl S]) := ⟨_, rfl⟩
  have hsm := small_len J
  rw [← hL, ← hn, ← hp] at hsm
  obtain ⟨hn1, hp1⟩ := hsm
  have HFF : Hid (∀ j, j < n → f2 j = f j) := fun j hj => by rw [hf, hf2]; exact fl_app (by omega)
  have HRS : Hid (∀ W, Calls Tryd.prog 13 #[.string J] W fun e w' => Rw W.heap.size n p f w' e ∧ Below W.heap.size W w') := fun W => by
    rw [hn, hp, hf, hL]
    exact (sRecords J W (by omega)).mono fun e w' h => ⟨Rw.of h.1, h.2⟩
  have HRI : Hid (∀ W, TabZ W → Calls Tryd.prog 12 #[.string J] W fun e w' => Rw W.heap.size n p f w' e ∧ Below W.heap.size W w') := fun W hW => by
    rw [hn, hp, hf, hL]
    exact (iRecords J W hW (by omega)).mono fun e w' h => ⟨Rw.of h.1, h.2⟩
  have hsz := hM.size
  obtain ⟨hz1, hz2, hz3⟩ := hsz
  have HRK : Hid (∀ W, TabZ W → Calls Tryd.prog 12 #[.string K] W fun e w' => Rw W.heap.size (n + 1) K.size f2 w' e ∧ Below W.heap.size W w') := fun W hW => by
    have h1 := (iRecords K W hW (by omega)).mono (R' := fun e w' => Rw W.heap.size (rcs (tl K)).length (endN (tl K)) (fl (rcs (tl K))) w' e ∧ Below W.heap.size W w') fun e w' h => ⟨Rw.of h.1, h.2⟩
    rw [hM.rcs2, hM.end2, List.length_append, ← hn, ← hf2] at h1
    exact h1
  have HLK : Hid (∀ W, TabZ W → Calls Tryd.prog 16 #[.string K] W fun e w' => e = .returned (.tuple #[.string S, .bool true]) ∧ Below W.heap.size W w') := fun W hW => by
    have h1 := iLast K W hW (by omega)
    rw [hM.rcs2, hM.last, decide_eq_true (by simp)] at h1
    exact h1
  have HAP : Hid (∀ W, TabK W → Calls Tryd.prog 15 #[.string T, .string S] W fun e w' => e = .returned (.tuple #[.string K, .bool true]) ∧ Below W.heap.size W w') := fun W hW => by
    have h1 := iAppend T S W (by omega) (by unfold maxLen; omega) hW
    rw [hM.app.1, hM.app.2] at h1
    exact h1
  have HRC : Hid (∀ W, TabK W → Calls Tryd.prog 17 #[.string S] W fun e w' => e = .returned (.string (rcd S)) ∧ Below W.heap.size W w') := fun W hW => iRecord S W (by unfold maxLen; omega) hW
  have hcut : J.extract 0 p = T := by rw [hp]; exact hM.cut
  have hsum := hM.sum
  clear hM hTT hKK hL hf hf2 hn hp
  obtain ⟨R, hR⟩ : ∃ R, R = rcd S := ⟨_, rfl⟩
  rw [← hR] at HRC hsum hz3
  clear hR
  have hpz : (p : Int) ≤ (J.size : Int) := by omega
  have HSUM : Hid (T ++ R = K) := hsum
  have HCUT : Hid (J.extract 0 p = T) := hcut
  clear hsum hcut
  -- Records of both
  go_wp2_with fail
  refine (HRI.out _ (HTB.out.below HB1.out)).mono ?_
  rintro e w2 ⟨⟨g1, c1, rfl, hg, hgB⟩, hb⟩
  have HB2 : Hid (Below w0.heap.size w0 w2) := HB1.out.trans (hb.mono HB1.out.size)
  have HA2 : Hid (Sw w2 g1 n f) := hg
  clear hb hg hgB HRI HB1
  go_wp2_with fail
  refine (HRS.out _).mono ?_
  rintro e w3 ⟨⟨g2, c2, rfl, hg, hgB⟩, hb⟩
  have HB3 : Hid (Below w0.heap.size w0 w3) := HB2.out.trans (hb.mono HB2.out.size)
  have HA3 : Hid (Sw w3 g1 n f) := HA2.out.below hb
  have HC3 : Hid (Sw w3 g2 n f) := hg
  clear hb hg hgB HRS HB2 HA2
  have hcut := HCUT.out
  have hnn : ((n : Int) == (n : Int)) = true := by simp
  have hpp : ((p : Int) == (p : Int)) = true := by simp
  have htt : (T.toList == T.toList) = true := by simp
  have HQ1 : Hid (∀ d os, Calls Tryd.prog 14 #[.string J] (grow (redrawn w3 d) os) fun e w'' => e = .returned (.string T) ∧ ∃ p : Regrown, w'' = grow (redrawn w3 p.d) p.os) := fun d os => Calls.regrown_of (HTI.out _ (HTB.out.below (HB3.out.trans ((below_regrown w3 d os).mono HB3.out.size))))
  go_wp2_with fail
  refine wp_region_quiet_below (by kernel_rfl) (by kernel_rfl) ?_
  iterate 18 (go_big_quiet_step ((go_at_call 14; exact HQ1.out _ _)))
  refine wpQuiet_nil ?_
  intro w4 hw9
  have hb4 : Below w3.heap.size w3 w4 := by obtain ⟨pp, hw8⟩ := hw9; subst hw8; exact below_regrown w3 pp.d pp.os
  have HB4 : Hid (Below w0.heap.size w0 w4) := HB3.out.trans (hb4.mono HB3.out.size)
  have HA4 : Hid (Sw w4 g1 n f) := HA3.out.below hb4
  have HC4 : Hid (Sw w4 g2 n f) := HC3.out.below hb4
  clear hw9 hb4 HQ1 HB3 HA3 HC3
  go_wp2_with fail
  refine (HTI.out _ (HTB.out.below HB4.out)).mono ?_
  rintro e w5 ⟨rfl, hb⟩
  have HB5 : Hid (Below w0.heap.size w0 w5) := HB4.out.trans (hb.mono HB4.out.size)
  have HA5 : Hid (Sw w5 g1 n f) := HA4.out.below hb
  have HC5 : Hid (Sw w5 g2 n f) := HC4.out.below hb
  clear hb HB4 HA4 HC4 HTI
  go_wp2_with fail
  refine (HAP.out _ (HTB.out.below HB5.out).pow).mono ?_
  rintro e w6 ⟨rfl, hb⟩
  have HB6 : Hid (Below w0.heap.size w0 w6) := HB5.out.trans (hb.mono HB5.out.size)
  have HA6 : Hid (Sw w6 g1 n f) := HA5.out.below hb
  have HC6 : Hid (Sw w6 g2 n f) := HC5.out.below hb
  clear hb HB5 HA5 HC5 HAP
  obtain ⟨m, hm⟩ : ∃ m, m = n + 1 := ⟨_, rfl⟩
  have HMN : Hid (m = n + 1) := hm
  rw [← hm] at HRK
  clear hm
  go_wp2_with fail
  refine (HRK.out _ (HTB.out.below HB6.out)).mono ?_
  rintro e w7 ⟨⟨g3, c3, rfl, hg, hgB⟩, hb⟩
  have HB7 : Hid (Below w0.heap.size w0 w7) := HB6.out.trans (hb.mono HB6.out.size)
  have HA7 : Hid (Sw w7 g1 n f) := HA6.out.below hb
  have HC7 : Hid (Sw w7 g2 n f) := HC6.out.below hb
  have HD7 : Hid (Sw w7 g3 m f2) := hg
  clear hb hg hgB HB6 HA6 HC6 HRK
  go_wp2_with fail
  refine (HLK.out _ (HTB.out.below HB7.out)).mono ?_
  rintro e w8 ⟨rfl, hb⟩
  have HB8 : Hid (Below w0.heap.size w0 w8) := HB7.out.trans (hb.mono HB7.out.size)
  have HA8 : Hid (Sw w8 g1 n f) := HA7.out.below hb
  have HC8 : Hid (Sw w8 g2 n f) := HC7.out.below hb
  have HD8 : Hid (Sw w8 g3 m f2) := HD7.out.below hb
  clear hb HB7 HA7 HC7 HD7 HLK
  have HQ2 : Hid (∀ d os, Calls Tryd.prog 17 #[.string S] (grow (redrawn w8 d) os) fun e w'' => e = .returned (.string R) ∧ ∃ p : Regrown, w'' = grow (redrawn w8 p.d) p.os) := fun d os => Calls.regrown_of (HRC.out _ (HTB.out.below (HB8.out.trans ((below_regrown w8 d os).mono HB8.out.size))).pow)
  have hss : (S.toList == S.toList) = true := by simp
  have hkk : (K.toList == K.toList) = true := by simp
  have hmw : IntKind.i64.wrap ((n : Int) + 1) = (m : Int) := by rw [IntKind.wrap_i64]; have := HMN.out; omega
  have hmm : ((m : Int) == (m : Int)) = true := by simp
  have hksz : ((K.size : Int) == (K.size : Int)) = true := by simp
  have hsum := HSUM.out
  have htr : ¬ 9223372036854775807 < T.size + R.size := by omega
  go_wp2_with fail
  refine wp_region_quiet_below (by kernel_rfl) (by kernel_rfl) ?_
  iterate 35 (go_big_quiet_step ((go_at_call 17; exact HQ2.out _ _)))
  refine wpQuiet_nil ?_
  intro w9 hw9
  have hb9 : Below w8.heap.size w8 w9 := by obtain ⟨pp, hw8⟩ := hw9; subst hw8; exact below_regrown w8 pp.d pp.os
  have HB9 : Hid (Below w0.heap.size w0 w9) := HB8.out.trans (hb9.mono HB8.out.size)
  have HA9 : Hid (Sw w9 g1 n f) := HA8.out.below hb9
  have HC9 : Hid (Sw w9 g2 n f) := HC8.out.below hb9
  have HD9 : Hid (Sw w9 g3 m f2) := HD8.out.below hb9
  clear hw9 hb9 HQ2 HB8 HA8 HC8 HD8
  go_wp2
  go_loopw [15] (fun i wr => ∃ k : Nat, k ≤ n ∧ i = .int .i64 k ∧ Below w9.heap.size w9 wr) (fun i _ => n - (intOf i).toNat)
  case atStart => exact ⟨0, Nat.zero_le _, rfl, Below.refl _ _⟩
  case round =>
    obtain ⟨k, hk, rfl, hbr⟩ := hrel
    have HBR : Hid (Below w9.heap.size w9 wr) := hbr
    by_cases hkn : k < n
    · have hkz : (k : Int) < (n : Int) := by omega
      have hkm : (k : Int) < (m : Int) := by have := HMN.out; omega
      have a1 := ((HA9.out.below hbr).2 k hkn).1
      have a2 := ((HC9.out.below hbr).2 k hkn).1
      have a3 := ((HD9.out.below hbr).2 k (by omega)).1
      rw [HFF.out k hkn] at a3
      clear hbr
      generalize f k = M at a1 a2 a3
      have hMM : (M.toList == M.toList) = true := by simp
      go_wp2_with fail
      go_quiet (fail)
      go_wp2
      go_roundw
      case rel => exact ⟨k + 1, by omega, by go_num, Tc2.below_drewN HBR.out _⟩
      case measure => simp [intOf]; omega
    · have hkz : ¬ (k : Int) < (n : Int) := by omega
      clear hbr
      go_wp2
      go_ret
      exact ⟨rfl, HB9.out.trans (HBR.out.mono HB9.out.size)⟩
end Go.Proofs.YtficonkpbohpeaaDoor.Lj1
