/- The walk of the law FnWords. -/
import Derived.Test.YtdgcjgicnanmiaaLw0
import Derived.Test.YtdgcjgicnanmiaaPl2
namespace Go.Proofs.Ytdgcjgicnanmiaa.Lw1
open Go.RowKit
open Dr0 Dr1 Dr2 Dr3 Pl1 Pl2 Wd1 Wd2 Wd3 Wd4 Wd5 Lw0
set_option linter.unusedVariables false

theorem below_drewN {B : Nat} {u w : World} (h : Below B u w) (n : Nat) : Below B u (w.drewN n) := ⟨h.os, h.tape, h.output, h.size, h.block⟩

set_option maxRecDepth 100000 in
set_option maxHeartbeats 4000000 in
theorem words (w : World) (a : Option Addr) (len cap : Nat) (hb : Bytes w a len) :
    Calls Try.prog 3 #[.slice a len cap] w fun e w' => e = .returned (.bool true) ∧ Below w.heap.size w w' := by
  have HB : Hid (Bytes w a len) := hb
  clear hb
  by_cases hs : 1048576 < len
  · go_enter Try.func3, Try.ntmps3
    go_wp2_with fail
    refine (lbig _ a len cap true (by simp; omega)).mono ?_
    rintro e w' ⟨rfl, rfl⟩
    go_wp2
    go_ret
    exact ⟨rfl, Below.refl _ _⟩
  go_enter Try.func3, Try.ntmps3
  go_wp2_with fail
  refine (lbig _ a len cap false (by simp; omega)).mono ?_
  rintro e w' ⟨rfl, rfl⟩
  go_wp2_with fail
  refine (drawAdd _ a len cap HB.out).mono ?_
  rintro e w1 ⟨⟨m, x, y, rfl⟩, hbl⟩
  have HL : Hid (Below w'.heap.size w' w1) := hbl
  have HB1 : Hid (Bytes w1 a len) := HB.out.below hbl
  clear hbl HB
  cases hxy : (wok m x && wok m y)
  · obtain ⟨n1, n2, n3, n4, n5, _⟩ := none_two hxy
    have hA : wok m x = false ∨ wok m x = true ∧ wok m y = false := by
      revert hxy; cases wok m x <;> cases wok m y <;> simp
    clear hxy
    rcases hA with hA | ⟨hA, hA'⟩
    all_goals
      go_wp2_with (first | (go_at_call 22; refine (sWordOk _ _ _).mono ?_; rintro e w' ⟨rfl, rfl⟩) | (go_at_call 23; refine (iAdd _ _ _ _).mono ?_; rintro e w' ⟨rfl, rfl⟩) | (go_at_call 24; refine (iSub _ _ _ _).mono ?_; rintro e w' ⟨rfl, rfl⟩) | (go_at_call 25; refine (iMul _ _ _ _).mono ?_; rintro e w' ⟨rfl, rfl⟩) | (go_at_call 26; refine (iDiv _ _ _ _).mono ?_; rintro e w' ⟨rfl, rfl⟩) | (go_at_call 27; refine (iLess _ _ _ _).mono ?_; rintro e w' ⟨rfl, rfl⟩))
      go_ret
      exact ⟨rfl, HL.out⟩
  · rw [Bool.and_eq_true] at hxy
    obtain ⟨hA, hA'⟩ := hxy
    obtain ⟨h1, h2, h3, h4⟩ := wok_iff.1 hA
    obtain ⟨_, _, h5, h6⟩ := wok_iff.1 hA'
    have hp := p2_two h1
    have hq := p2_le m.toNat (by omega)
    go_wp2_with (first | (go_at_call 22; refine (sWordOk _ _ _).mono ?_; rintro e w' ⟨rfl, rfl⟩) | (go_at_call 28; refine (lpow _ _ (by omega) (by omega)).mono ?_; rintro e w' ⟨rfl, rfl⟩))
    refine (lat _ a len cap _ (by omega) (by omega) HB1.out (by omega)).mono ?_
    rintro e w2 ⟨⟨t, rfl, ht0, ht1⟩, rfl⟩
    have ht : t % p2 m.toNat = t % p2 m.toNat := rfl
    clear ht
    obtain ⟨c0, c1⟩ := emod_le (a := t) m.toNat
    have hC : wok m (t % p2 m.toNat) = true := wok_mod t h1 h2
    have f1 : (vSub m (vAdd m x y) y != x) = false := by rw [bne_eq_false_iff_eq]; exact sub_add hA hA'
    have f2 : (vMul m x (vAdd m y (t % p2 m.toNat)) != vAdd m (vMul m x y) (vMul m x (t % p2 m.toNat))) = false := by rw [bne_eq_false_iff_eq]; exact mul_add hA hA' hC
    have f3 : (vAdd m x y != vAdd m y x) = false := by rw [bne_eq_false_iff_eq]; exact add_comm
    have f4 : (vFlip m x == vSub m (vSub m 0 x) 1) = true := by rw [beq_iff_eq]; exact flip_sub hA
    have f5 : (vFlip m (vFlip m x) == x) = true := by rw [beq_iff_eq]; exact flip_flip hA
    have f6 : wok m (vMul m x y) = true := wok_mul hA hA'
    have f7 : 1 % p2 m.toNat = 1 := Int.emod_eq_of_lt (by omega) (by omega)
    by_cases hz : y = 0
    · subst hz
      obtain ⟨d1, d2⟩ := div_zero hA hA' rfl
      go_wp2_with (first | (go_at_call 23; refine (iAdd _ _ _ _).mono ?_; rintro e w' ⟨rfl, rfl⟩) | (go_at_call 24; refine (iSub _ _ _ _).mono ?_; rintro e w' ⟨rfl, rfl⟩) | (go_at_call 25; refine (iMul _ _ _ _).mono ?_; rintro e w' ⟨rfl, rfl⟩) | (go_at_call 26; refine (iDiv _ _ _ _).mono ?_; rintro e w' ⟨rfl, rfl⟩) | (go_at_call 30; refine (iRem _ _ _ _).mono ?_; rintro e w' ⟨rfl, rfl⟩))
      go_quiet ((first | (go_at_call 31; exact Calls.quiet_of_same (iFlip _ _ _)) | (go_at_call 24; exact Calls.quiet_of_same (iSub _ _ _ _)) | (go_at_call 25; exact Calls.quiet_of_same (iMul _ _ _ _)) | (go_at_call 32; exact Calls.quiet_of_same (iWordOk _ _ _))))
      go_wp2
      go_ret
      exact ⟨rfl, below_drewN HL.out _⟩
    · obtain ⟨d1, d2, d3, d4, d5⟩ := div_rem hA hA' hz
      obtain ⟨d6, d7⟩ := mul_bd d3 d4 h5 (show y ≤ 255 by omega)
      have f8 : (vDiv m x y * y + vRem m x y != x) = false := by rw [bne_eq_false_iff_eq]; exact d1
      have f9 : (y != 0) = true := by simpa using hz
      have f10 : (y == 0) = false := by simpa using hz
      clear d1
      go_wp2_with (first | (go_at_call 23; refine (iAdd _ _ _ _).mono ?_; rintro e w' ⟨rfl, rfl⟩) | (go_at_call 24; refine (iSub _ _ _ _).mono ?_; rintro e w' ⟨rfl, rfl⟩) | (go_at_call 25; refine (iMul _ _ _ _).mono ?_; rintro e w' ⟨rfl, rfl⟩) | (go_at_call 26; refine (iDiv _ _ _ _).mono ?_; rintro e w' ⟨rfl, rfl⟩) | (go_at_call 30; refine (iRem _ _ _ _).mono ?_; rintro e w' ⟨rfl, rfl⟩))
      go_quiet ((first | (go_at_call 31; exact Calls.quiet_of_same (iFlip _ _ _)) | (go_at_call 24; exact Calls.quiet_of_same (iSub _ _ _ _)) | (go_at_call 25; exact Calls.quiet_of_same (iMul _ _ _ _)) | (go_at_call 32; exact Calls.quiet_of_same (iWordOk _ _ _))))
      go_wp2
      go_ret
      exact ⟨rfl, below_drewN HL.out _⟩

end Go.Proofs.Ytdgcjgicnanmiaa.Lw1
