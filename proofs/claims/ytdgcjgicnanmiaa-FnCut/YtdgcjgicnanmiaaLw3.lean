/- The walk of the law FnCut. -/
import Derived.Test.YtdgcjgicnanmiaaLw1
import Derived.Test.YtdgcjgicnanmiaaPl3
namespace Go.Proofs.Ytdgcjgicnanmiaa.Lw3
open Go.RowKit
open Dr0 Dr1 Dr2 Dr3 Pl1 Pl2 Pl3 Wd1 Wd2 Wd3 Wd4 Wd5 Lw0 Lw1
set_option linter.unusedVariables false

set_option maxRecDepth 100000 in
set_option maxHeartbeats 4000000 in
theorem cuts (w : World) (a : Option Addr) (len cap : Nat) (hb : Bytes w a len) :
    Calls Try.prog 5 #[.slice a len cap] w fun e w' => e = .returned (.bool true) ∧ Below w.heap.size w w' := by
  have HB : Hid (Bytes w a len) := hb
  clear hb
  by_cases hs : 1048576 < len
  · go_enter Try.func5, Try.ntmps5
    go_wp2_with fail
    refine (lbig _ a len cap true (by simp; omega)).mono ?_
    rintro e w' ⟨rfl, rfl⟩
    go_wp2
    go_ret
    exact ⟨rfl, Below.refl _ _⟩
  go_enter Try.func5, Try.ntmps5
  go_wp2_with fail
  refine (lbig _ a len cap false (by simp; omega)).mono ?_
  rintro e w' ⟨rfl, rfl⟩
  go_wp2_with fail
  refine (drawJoin _ a len cap HB.out).mono ?_
  rintro e w1 ⟨⟨m, x, v, y, hm1, hm2, hv1, hv2, rfl⟩, hbl⟩
  have HL : Hid (Below w'.heap.size w' w1) := hbl
  have HB1 : Hid (Bytes w1 a len) := HB.out.below hbl
  clear hbl HB
  cases hx : wok m x
  · have n1 : vJoin m x v y = 0 := join_none (.inl hx)
    go_wp2_with (first | (go_at_call 22; refine (sWordOk _ _ _).mono ?_; rintro e w' ⟨rfl, rfl⟩) | (go_at_call 37; refine (iJoin _ _ _ _ _).mono ?_; rintro e w' ⟨rfl, rfl⟩))
    go_ret
    exact ⟨rfl, HL.out⟩
  cases hy : wok v y
  · have n1 : vJoin m x v y = 0 := join_none (.inr (.inl hy))
    go_wp2_with (first | (go_at_call 22; refine (sWordOk _ _ _).mono ?_; rintro e w' ⟨rfl, rfl⟩) | (go_at_call 37; refine (iJoin _ _ _ _ _).mono ?_; rintro e w' ⟨rfl, rfl⟩))
    go_ret
    exact ⟨rfl, HL.out⟩
  by_cases hmv : m + v ≤ 8
  · obtain ⟨j1, j2, j3, j4⟩ := join_facts hx hy hmv
    obtain ⟨h1, h2, h3, h4⟩ := wok_iff.1 hx
    go_wp2_with (first | (go_at_call 22; refine (sWordOk _ _ _).mono ?_; rintro e w' ⟨rfl, rfl⟩) | (go_at_call 37; refine (iJoin _ _ _ _ _).mono ?_; rintro e w' ⟨rfl, rfl⟩) | (go_at_call 32; refine (iWordOk _ _ _).mono ?_; rintro e w' ⟨rfl, rfl⟩) | (go_at_call 38; refine (iSlice _ _ _ _ _ (WalkArith.wf_i64 (by omega))).mono ?_; rintro e w' ⟨rfl, rfl⟩))
    refine (lat _ a len cap _ (by omega) (by omega) HB1.out (by omega)).mono ?_
    rintro e w2 ⟨⟨t, rfl, ht0, ht1⟩, rfl⟩
    clear j1 j2 j3 j4
    have k0 : 0 ≤ t % (m + 2) := Int.emod_nonneg _ (by omega)
    have k1 : t % (m + 2) < m + 2 := Int.emod_lt_of_pos _ (by omega)
    by_cases hk : t % (m + 2) < m
    · have hlt : t % (m + 2) < p2 m.toNat := by have := lt_p2 m.toNat; omega
      obtain ⟨g1, g2⟩ := shl_pow hx k0 hk hlt
      have f1 : (vShl m x (t % (m + 2)) == vMul m x (p2 (t % (m + 2)).toNat)) = true := by rw [beq_iff_eq]; exact g1
      have f2 : (vShr m x (t % (m + 2)) == vDiv m x (p2 (t % (m + 2)).toNat)) = true := by rw [beq_iff_eq]; exact g2
      clear g1 g2
      go_wp2_with (first | (go_at_call 28; refine (lpow _ _ (by omega) (by omega)).mono ?_; rintro e w' ⟨rfl, rfl⟩) | (go_at_call 25; refine (iMul _ _ _ _).mono ?_; rintro e w' ⟨rfl, rfl⟩) | (go_at_call 26; refine (iDiv _ _ _ _).mono ?_; rintro e w' ⟨rfl, rfl⟩) | (go_at_call 39; refine (iShl _ _ _ _).mono ?_; rintro e w' ⟨rfl, rfl⟩) | (go_at_call 40; refine (iShr _ _ _ _).mono ?_; rintro e w' ⟨rfl, rfl⟩))
      go_ret
      exact ⟨rfl, HL.out⟩
    · obtain ⟨g1, g2⟩ := shl_far (a := x) (show m ≤ t % (m + 2) by omega)
      by_cases hf : p2 m.toNat ≤ t % (m + 2)
      all_goals
        go_wp2_with (first | (go_at_call 28; refine (lpow _ _ (by omega) (by omega)).mono ?_; rintro e w' ⟨rfl, rfl⟩) | (go_at_call 25; refine (iMul _ _ _ _).mono ?_; rintro e w' ⟨rfl, rfl⟩) | (go_at_call 26; refine (iDiv _ _ _ _).mono ?_; rintro e w' ⟨rfl, rfl⟩) | (go_at_call 39; refine (iShl _ _ _ _).mono ?_; rintro e w' ⟨rfl, rfl⟩) | (go_at_call 40; refine (iShr _ _ _ _).mono ?_; rintro e w' ⟨rfl, rfl⟩))
        go_ret
        exact ⟨rfl, HL.out⟩
  · have n1 : vJoin m x v y = 0 := join_none (.inr (.inr hmv))
    go_wp2_with (first | (go_at_call 22; refine (sWordOk _ _ _).mono ?_; rintro e w' ⟨rfl, rfl⟩) | (go_at_call 37; refine (iJoin _ _ _ _ _).mono ?_; rintro e w' ⟨rfl, rfl⟩))
    go_ret
    exact ⟨rfl, HL.out⟩

end Go.Proofs.Ytdgcjgicnanmiaa.Lw3
