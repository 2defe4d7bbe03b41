/- The law FnTorn. -/
import Derived.Test.YtficonkpbohpeaaDoorLj0
import Derived.Test.YtficonkpbohpeaaDoorJd1
import Derived.Test.YtficonkpbohpeaaDoorPkT43
namespace Go.Proofs.YtficonkpbohpeaaDoor.Lj2
open Go.RowKit
open Nd0 (Kept)
open Tx0 Jn0 Jn2 Jn6 Jn7 Jm0 Lj0 Lw4
open Jn1 (trn sTorn iTorn)
open Dr0 (Bytes)
open Jx3 (Rw)
open Ss0 (bs bs_size bs_app)
open Ss1 (tl tl_bs bs_tl tl_length tl_ext)
open Zt0 (TabZ)
set_option linter.unusedVariables false

/-- What is left of a tidy journal that is cut off. -/
structure Cu (T U : ByteArray) (L : List (List UInt8)) (n : Int) (k : Nat) : Prop where
  whole : rcs (tl T) = L
  wend : endN (tl T) = T.size
  tidy : bs (cat (rcs (tl T))) = T
  part : rcs (tl U) = L.take k
  le : k ≤ L.length
  pend : endN (tl U) ≤ T.size
  three : (k = L.length ∧ (T.size : Int) ≤ n) ∨ (k = L.length ∧ ¬ (T.size : Int) ≤ n ∧ L.length = 0) ∨ (k ≠ L.length ∧ ¬ (T.size : Int) ≤ n ∧ L.length ≠ 0)
  usz : U.size ≤ T.size
theorem cut {L : List (List UInt8)} (hS : Small L) (n : Int) : ∃ k, Cu (bs (cat L)) (trn (bs (cat L)) n) L n k := by
  obtain ⟨k, h1, h2, h3⟩ := rcs_take hS (min (max n 0) ((bs (cat L)).size : Int)).toNat
  have hw : rcs (tl (bs (cat L))) = L := by rw [tl_bs]; exact rcs_cat hS
  have hu : tl (trn (bs (cat L)) n) = (cat L).take (min (max n 0) ((bs (cat L)).size : Int)).toNat := by
    unfold trn
    rw [tl_ext, List.drop_zero, tl_bs]
  have hus : (trn (bs (cat L)) n).size ≤ (bs (cat L)).size := by
    rw [← tl_length, hu, List.length_take, bs_size]; omega
  refine ⟨k, hw, ?_, ?_, ?_, h1, ?_, ?_, hus⟩
  · unfold endN; rw [hw, bs_size]
  · rw [hw]
  · rw [hu]; exact h2
  · have := (small_len (trn (bs (cat L)) n)).2; omega
  · have hz := bs_size (cat L)
    by_cases hn : ((bs (cat L)).size : Int) ≤ n
    · exact .inl ⟨h3.2 (.inl (by omega)), hn⟩
    · by_cases hl : L.length = 0
      · exact .inr (.inl ⟨h3.2 (.inr hl), hn, hl⟩)
      · refine .inr (.inr ⟨fun e => ?_, hn, hl⟩)
        have := cat_len L
        rcases h3.1 e with e2 | e2
        · omega
        · omega

set_option maxRecDepth 100000 in
set_option maxHeartbeats 4000000 in
theorem lawTorn (w : World) (hT : TabZ w) (a : Option Addr) (len cap : Nat) (hb : Bytes w a len) :
    Calls Tryd.prog 4 #[.slice a len cap] w fun e w' => e = .returned (.bool true) ∧ Below w.heap.size w w' := by
  have HB : Hid (Bytes w a len) := hb
  have HTB : Hid (TabZ w) := hT
  clear hb hT
  by_cases hs : 1048576 < len
  · go_enter Tryd.func4, Tryd.ntmps4
    go_wp2_with fail
    refine (lbig _ a len cap true (by simp; omega)).mono ?_
    rintro e w' ⟨rfl, rfl⟩
    go_wp2
    go_ret
    exact ⟨rfl, Below.refl _ _⟩
  go_enter Tryd.func4, Tryd.ntmps4
  go_wp2_with fail
  refine (lbig _ a len cap false (by simp; omega)).mono ?_
  rintro e w0 ⟨rfl, rfl⟩
  go_wp2_with fail
  refine (Jd1.drawTorn _ a len cap HB.out).mono ?_
  rintro e w1 ⟨⟨J, n, rfl, hJ⟩, hb1⟩
  have HB1 : Hid (Below w0.heap.size w0 w1) := hb1
  clear hb1
  obtain ⟨L, hL⟩ : ∃ L, L = rcs (tl J) := ⟨_, rfl⟩
  obtain ⟨T, hTT⟩ : ∃ T, T = bs (cat L) := ⟨_, rfl⟩
  obtain ⟨U, hU⟩ : ∃ U, U = trn T n := ⟨_, rfl⟩
  obtain ⟨V, hV⟩ : ∃ V, V = trn J n := ⟨_, rfl⟩
  obtain ⟨k, hC⟩ := cut (rcs_is (tl J)).1 n
  rw [← hL, ← hTT, ← hU] at hC
  have hTs : T.size ≤ J.size := by rw [hTT, bs_size, hL]; exact (small_len J).2
  have hUs := hC.usz
  have HTJ : Hid (∀ W, TabZ W → Calls Tryd.prog 14 #[.string J] W fun e w' => e = .returned (.string T) ∧ Below W.heap.size W w') := fun W hW => by rw [hTT, hL]; exact iTidy J W hW (by omega)
  have HTT : Hid (∀ W, TabZ W → Calls Tryd.prog 14 #[.string T] W fun e w' => e = .returned (.string T) ∧ Below W.heap.size W w') := fun W hW => by
    have := iTidy T W hW (by omega)
    rw [hC.tidy] at this
    exact this
  have HSV : Hid (∀ W, Calls Tryd.prog 20 #[.string J, .int .i64 n] W fun e w' => e = .returned (.string V) ∧ w' = W) := fun W => by rw [hV]; exact sTorn J n W (by unfold maxLen; omega)
  have HIV : Hid (∀ W, Calls Tryd.prog 19 #[.string J, .int .i64 n] W fun e w' => e = .returned (.string V) ∧ w' = W) := fun W => by rw [hV]; exact iTorn J n W (by unfold maxLen; omega)
  have HIU : Hid (∀ W, Calls Tryd.prog 19 #[.string T, .int .i64 n] W fun e w' => e = .returned (.string U) ∧ w' = W) := fun W => by rw [hU]; exact iTorn T n W (by unfold maxLen; omega)
  obtain ⟨N, hN⟩ : ∃ n, n = L.length := ⟨_, rfl⟩
  obtain ⟨q, hq⟩ : ∃ p, p = endN (tl U) := ⟨_, rfl⟩
  obtain ⟨f, hf⟩ : ∃ f, f = fl L := ⟨_, rfl⟩
  obtain ⟨f2, hf2⟩ : ∃ f, f = fl (L.take k) := ⟨_, rfl⟩
  have hkN : k ≤ N := by rw [hN]; exact hC.le
  have HFF : Hid (∀ j, j < k → f2 j = f j) := fun j hj => by
    rw [hf, hf2]
    unfold fl
    rw [List.getD_eq_getElem?_getD, List.getD_eq_getElem?_getD, List.getElem?_take_of_lt hj]
  have HRT : Hid (∀ W, TabZ W → Calls Tryd.prog 12 #[.string T] W fun e w' => Rw W.heap.size N T.size f w' e ∧ Below W.heap.size W w') := fun W hW => by
    have h1 := (iRecords T W hW (by omega)).mono (R' := fun e w' => Rw W.heap.size (rcs (tl T)).length (endN (tl T)) (fl (rcs (tl T))) w' e ∧ Below W.heap.size W w') fun e w' h => ⟨Rw.of h.1, h.2⟩
    rw [hC.whole, hC.wend, ← hN, ← hf] at h1
    exact h1
  have HRU : Hid (∀ W, TabZ W → Calls Tryd.prog 12 #[.string U] W fun e w' => Rw W.heap.size k q f2 w' e ∧ Below W.heap.size W w') := fun W hW => by
    have h1 := (iRecords U W hW (by omega)).mono (R' := fun e w' => Rw W.heap.size (rcs (tl U)).length (endN (tl U)) (fl (rcs (tl U))) w' e ∧ Below W.heap.size W w') fun e w' h => ⟨Rw.of h.1, h.2⟩
    rw [hC.part, ← hq, List.length_take, Nat.min_eq_left hC.le, ← hf2] at h1
    exact h1
  have hqT : ¬ (T.size : Int) < (q : Int) := by rw [hq]; have := hC.pend; omega
  have H3 := hC.three
  rw [← hN] at H3
  have HTR : Hid _ := H3
  have hkz : ¬ (N : Int) < (k : Int) := by omega
  have hN1 : N ≤ 1000 := by rw [hN, hL]; have := (small_len J).1; omega
  have hTz : T.size ≤ 1000 := by omega
  clear H3 hC hTT hL hU hV hf hf2 hN hq hTs hUs
  go_wp2_with fail
  refine (HIV.out _).mono ?_
  rintro e w2 ⟨rfl, rfl⟩
  go_wp2_with fail
  refine (HSV.out _).mono ?_
  rintro e w3 ⟨rfl, rfl⟩
  clear HIV HSV
  go_wp2_with fail
  refine (HTJ.out _ (HTB.out.below HB1.out)).mono ?_
  rintro e w4 ⟨rfl, hb⟩
  have HB4 : Hid (Below w0.heap.size w0 w4) := HB1.out.trans (hb.mono HB1.out.size)
  clear hb HB1
  go_wp2_with fail
  refine (HRT.out _ (HTB.out.below HB4.out)).mono ?_
  rintro e w5 ⟨⟨g1, c1, rfl, hg, hgB⟩, hb⟩
  have HB5 : Hid (Below w0.heap.size w0 w5) := HB4.out.trans (hb.mono HB4.out.size)
  have HA5 : Hid (Sw w5 g1 N f) := hg
  clear hb hg hgB HB4 HRT
  go_wp2_with fail
  refine (HTJ.out _ (HTB.out.below HB5.out)).mono ?_
  rintro e w6 ⟨rfl, hb⟩
  have HB6 : Hid (Below w0.heap.size w0 w6) := HB5.out.trans (hb.mono HB5.out.size)
  have HA6 : Hid (Sw w6 g1 N f) := HA5.out.below hb
  clear hb HB5 HA5
  go_wp2_with fail
  refine (HIU.out _).mono ?_
  rintro e w7 ⟨rfl, rfl⟩
  go_wp2_with fail
  refine (HRU.out _ (HTB.out.below HB6.out)).mono ?_
  rintro e w8 ⟨⟨g2, c2, rfl, hg, hgB⟩, hb⟩
  have HB8 : Hid (Below w0.heap.size w0 w8) := HB6.out.trans (hb.mono HB6.out.size)
  have HA8 : Hid (Sw w8 g1 N f) := HA6.out.below hb
  have HC8 : Hid (Sw w8 g2 k f2) := hg
  clear hb hg hgB HB6 HA6 HRU HIU
  go_wp2_with fail
  refine (HTJ.out _ (HTB.out.below HB8.out)).mono ?_
  rintro e w9 ⟨rfl, hb⟩
  have HB9 : Hid (Below w0.heap.size w0 w9) := HB8.out.trans (hb.mono HB8.out.size)
  have HA9 : Hid (Sw w9 g1 N f) := HA8.out.below hb
  have HC9 : Hid (Sw w9 g2 k f2) := HC8.out.below hb
  clear hb HB8 HA8 HC8
  go_wp2
  go_loopw [10] (fun i wr => ∃ m : Nat, m ≤ k ∧ i = .int .i64 m ∧ Below w9.heap.size w9 wr) (fun i _ => k - (intOf i).toNat)
  case atStart => exact ⟨0, Nat.zero_le _, rfl, Below.refl _ _⟩
  case round =>
    obtain ⟨m, hm, rfl, hbr⟩ := hrel
    have HBR : Hid (Below w9.heap.size w9 wr) := hbr
    by_cases hmk : m < k
    · have hmz : (m : Int) < (k : Int) := by omega
      have hmN : (m : Int) < (N : Int) := by omega
      have a1 := ((HA9.out.below hbr).2 m (by omega)).1
      have a2 := ((HC9.out.below hbr).2 m hmk).1
      rw [HFF.out m hmk] at a2
      clear hbr
      generalize f m = M at a1 a2
      have hMM : (M.toList == M.toList) = true := by simp
      go_wp2_with fail
      go_quiet (fail)
      go_wp2
      go_roundw
      case rel => exact ⟨m + 1, by omega, by go_num, Tc2.below_drewN HBR.out _⟩
      case measure => simp [intOf]; omega
    · have hmz : ¬ (m : Int) < (k : Int) := by omega
      have HBX : Hid (Below w0.heap.size w0 wr) := HB9.out.trans (hbr.mono HB9.out.size)
      clear hbr HBR HA9 HC9 HB9 HFF
      have htt : (T.toList == T.toList) = true := by simp
      rcases HTR.out with ⟨hk, h1⟩ | ⟨hk, h1, h2⟩ | ⟨hk, h1, h2⟩
      · have hkk : ((k : Int) == (N : Int)) = true := by rw [hk]; simp
        clear hk
        go_wp2_with fail
        refine (HTJ.out _ (HTB.out.below HBX.out)).mono ?_
        rintro e x1 ⟨rfl, hb⟩
        have HBY : Hid (Below w0.heap.size w0 x1) := HBX.out.trans (hb.mono HBX.out.size)
        clear hb
        go_wp2_with fail
        refine (HTT.out _ (HTB.out.below HBY.out)).mono ?_
        rintro e x2 ⟨rfl, hb⟩
        have HBZ : Hid (Below w0.heap.size w0 x2) := HBY.out.trans (hb.mono HBY.out.size)
        clear hb
        go_wp2_with fail
        refine (HTJ.out _ (HTB.out.below HBZ.out)).mono ?_
        rintro e x3 ⟨rfl, hb⟩
        have HBV : Hid (Below w0.heap.size w0 x3) := HBZ.out.trans (hb.mono HBZ.out.size)
        clear hb
        go_wp2
        go_ret
        exact ⟨rfl, HBV.out⟩
      · have hkk : ((k : Int) == (N : Int)) = true := by rw [hk]; simp
        have hnn : ((N : Int) == 0) = true := by rw [h2]; rfl
        clear hk h2
        go_wp2_with fail
        refine (HTJ.out _ (HTB.out.below HBX.out)).mono ?_
        rintro e x1 ⟨rfl, hb⟩
        have HBY : Hid (Below w0.heap.size w0 x1) := HBX.out.trans (hb.mono HBX.out.size)
        clear hb
        go_wp2_with fail
        refine (HTT.out _ (HTB.out.below HBY.out)).mono ?_
        rintro e x2 ⟨rfl, hb⟩
        have HBZ : Hid (Below w0.heap.size w0 x2) := HBY.out.trans (hb.mono HBY.out.size)
        clear hb
        go_wp2_with fail
        refine (HTJ.out _ (HTB.out.below HBZ.out)).mono ?_
        rintro e x3 ⟨rfl, hb⟩
        have HBV : Hid (Below w0.heap.size w0 x3) := HBZ.out.trans (hb.mono HBZ.out.size)
        clear hb
        go_wp2
        go_ret
        exact ⟨rfl, HBV.out⟩
      · have hkk : ((k : Int) == (N : Int)) = false := beq_eq_false_iff_ne.2 (by omega)
        have hnn : ((N : Int) == 0) = false := beq_eq_false_iff_ne.2 (by omega)
        clear hk h2
        go_wp2_with fail
        refine (HTJ.out _ (HTB.out.below HBX.out)).mono ?_
        rintro e x1 ⟨rfl, hb⟩
        have HBY : Hid (Below w0.heap.size w0 x1) := HBX.out.trans (hb.mono HBX.out.size)
        clear hb
        go_wp2_with fail
        refine (HTT.out _ (HTB.out.below HBY.out)).mono ?_
        rintro e x2 ⟨rfl, hb⟩
        have HBZ : Hid (Below w0.heap.size w0 x2) := HBY.out.trans (hb.mono HBY.out.size)
        clear hb
        go_wp2_with fail
        refine (HTJ.out _ (HTB.out.below HBZ.out)).mono ?_
        rintro e x3 ⟨rfl, hb⟩
        have HBV : Hid (Below w0.heap.size w0 x3) := HBZ.out.trans (hb.mono HBZ.out.size)
        clear hb
        go_wp2
        go_ret
        exact ⟨Ws1.ret_bool (by simp; omega), HBV.out⟩
end Go.Proofs.YtficonkpbohpeaaDoor.Lj2
