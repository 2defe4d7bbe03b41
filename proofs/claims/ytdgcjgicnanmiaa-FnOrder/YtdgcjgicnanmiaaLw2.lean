/- The walk of the law FnOrder. -/
import Derived.Test.YtdgcjgicnanmiaaLw1
import Derived.Test.YtdgcjgicnanmiaaPl3
namespace Go.Proofs.Ytdgcjgicnanmiaa.Lw2
open Go.RowKit
open Dr0 Dr1 Dr2 Dr3 Pl1 Pl2 Pl3 Wd1 Wd2 Wd3 Wd4 Wd5 Lw0 Lw1
set_option linter.unusedVariables false

set_option maxRecDepth 100000 in
set_option maxHeartbeats 4000000 in
theorem order (w : World) (a : Option Addr) (len cap : Nat) (hb : Bytes w a len) :
    Calls Try.prog 4 #[.slice a len cap] w fun e w' => e = .returned (.bool true) ∧ Below w.heap.size w w' := by
  have HB : Hid (Bytes w a len) := hb
  clear hb
  by_cases hs : 1048576 < len
  · go_enter Try.func4, Try.ntmps4
    go_wp2_with fail
    refine (lbig _ a len cap true (by simp; omega)).mono ?_
    rintro e w' ⟨rfl, rfl⟩
    go_wp2
    go_ret
    exact ⟨rfl, Below.refl _ _⟩
  go_enter Try.func4, Try.ntmps4
  go_wp2_with fail
  refine (lbig _ a len cap false (by simp; omega)).mono ?_
  rintro e w' ⟨rfl, rfl⟩
  go_wp2_with fail
  refine (drawLess _ a len cap HB.out).mono ?_
  rintro e w1 ⟨⟨m, x, y, rfl⟩, hbl⟩
  have HL : Hid (Below w'.heap.size w' w1) := hbl
  clear hbl HB
  cases hxy : (wok m x && wok m y)
  · obtain ⟨_, _, _, _, _, n6⟩ := none_two hxy
    have hA : wok m x = false ∨ wok m x = true ∧ wok m y = false := by
      revert hxy; cases wok m x <;> cases wok m y <;> simp
    clear hxy
    rcases hA with hA | ⟨hA, hA'⟩
    all_goals
      go_wp2_with (first | (go_at_call 22; refine (sWordOk _ _ _).mono ?_; rintro e w' ⟨rfl, rfl⟩) | (go_at_call 34; refine (iLessSigned _ _ _ _).mono ?_; rintro e w' ⟨rfl, rfl⟩))
      go_ret
      exact ⟨rfl, HL.out⟩
  · rw [Bool.and_eq_true] at hxy
    obtain ⟨hA, hA'⟩ := hxy
    obtain ⟨h1, h2, h3, h4⟩ := wok_iff.1 hA
    obtain ⟨_, _, h5, h6⟩ := wok_iff.1 hA'
    have hp := p2_two h1
    have hq := p2_le m.toNat (by omega)
    have he := half_two h1
    have HE : Hid (p2 m.toNat = 2 * p2 (m.toNat - 1)) := he
    have hh1 : 1 ≤ p2 (m.toNat - 1) := p2_pos _
    have hh2 : p2 (m.toNat - 1) ≤ 128 := by omega
    clear he
    obtain ⟨s1, s2, s3⟩ := sgn_bd hA
    obtain ⟨l1, l2⟩ := less_bd m x y
    obtain ⟨l3, l4⟩ := less_bd m y x
    have f1 : (vLessSigned m x y == vLess m (vAdd m x (p2 (m.toNat - 1))) (vAdd m y (p2 (m.toNat - 1)))) = true := by rw [beq_iff_eq]; exact lessSigned_eq hA hA'
    by_cases hz : x = y
    · subst hz
      have f2 : vLess m x x = 0 := less_self
      go_wp2_with (first | (go_at_call 22; refine (sWordOk _ _ _).mono ?_; rintro e w' ⟨rfl, rfl⟩) | (go_at_call 34; refine (iLessSigned _ _ _ _).mono ?_; rintro e w' ⟨rfl, rfl⟩) | (go_at_call 27; refine (iLess _ _ _ _).mono ?_; rintro e w' ⟨rfl, rfl⟩) | (go_at_call 35; refine (iSigned _ _ _).mono ?_; rintro e w' ⟨rfl, rfl⟩) | (go_at_call 23; refine (iAdd _ _ _ _).mono ?_; rintro e w' ⟨rfl, rfl⟩) | (go_at_call 28; refine (lpow _ _ (by omega) (by omega)).mono ?_; rintro e w' ⟨rfl, rfl⟩))
      go_ret
      exact ⟨rfl, HL.out⟩
    · have f2 : (vLess m x y + vLess m y x != 1) = false := by rw [bne_eq_false_iff_eq]; exact less_one hA hA' hz
      have f3 : (x == y) = false := by simpa using hz
      have f4 : (x != y) = true := by simpa using hz
      go_wp2_with (first | (go_at_call 22; refine (sWordOk _ _ _).mono ?_; rintro e w' ⟨rfl, rfl⟩) | (go_at_call 34; refine (iLessSigned _ _ _ _).mono ?_; rintro e w' ⟨rfl, rfl⟩) | (go_at_call 27; refine (iLess _ _ _ _).mono ?_; rintro e w' ⟨rfl, rfl⟩) | (go_at_call 35; refine (iSigned _ _ _).mono ?_; rintro e w' ⟨rfl, rfl⟩) | (go_at_call 23; refine (iAdd _ _ _ _).mono ?_; rintro e w' ⟨rfl, rfl⟩) | (go_at_call 28; refine (lpow _ _ (by omega) (by omega)).mono ?_; rintro e w' ⟨rfl, rfl⟩))
      go_ret
      exact ⟨rfl, HL.out⟩

end Go.Proofs.Ytdgcjgicnanmiaa.Lw2
