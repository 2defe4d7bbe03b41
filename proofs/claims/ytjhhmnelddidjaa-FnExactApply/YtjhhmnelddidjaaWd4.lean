/- Walks of chapter 1, third part: shifts, flips and orders of words, in the program and in its model. -/
import Derived.Test.YtjhhmnelddidjaaWd3
namespace Go.Proofs.Ytjhhmnelddidjaa.Wd4
open Go.RowKit
open Pl1 Wd1 Wd2 Wd3
set_option linter.unusedVariables false

theorem shl_zero (a : Int) {m b : Int} (h1 : 1 ≤ m) (h : m ≤ b) : a * p2 b.toNat % p2 m.toNat = 0 := by
  have e : p2 b.toNat = p2 m.toNat * p2 (b - m).toNat := by
    unfold p2; rw [← Int.pow_add, show m.toNat + (b - m).toNat = b.toNat by omega]
  rw [e, ← Int.mul_assoc, Int.mul_comm a, Int.mul_assoc]
  exact Int.mul_emod_right _ _
theorem shr_zero {a m b : Int} (h0 : 0 ≤ a) (h : m ≤ b) (ha : a < p2 m.toNat) : a / p2 b.toNat = 0 := by
  have := p2_mono (show m.toNat ≤ b.toNat by omega)
  exact Int.ediv_eq_zero_of_lt h0 (by omega)

set_option maxHeartbeats 400000 in
theorem iShl (m a b : Int) (w : World) :
    Calls Try.prog 58 #[.int .i64 m, .int .i64 a, .int .i64 b] w fun e w' => e = .returned (.int .i64 (vShl m a b)) ∧ w' = w := by
  cases h : (wok m a && wok m b)
  · have HV : Hid (vShl m a b = 0) := by show vShl m a b = 0; simp [vShl, h]
    go_enter Try.func58, Try.ntmps58
    go_wp2_with (go_at_call 74; refine (iTwo _ _ _ _).mono ?_; rintro e w' ⟨rfl, rfl⟩)
    go_ret
    exact ⟨ret_int HV.out.symm, rfl⟩
  · obtain ⟨h1, h2, h3, h4, h5, h6, h7⟩ := two_iff h
    by_cases hb : b ≤ 7
    · have HV : Hid (vShl m a b = a * p2 b.toNat % p2 m.toNat) := by
        show vShl m a b = _
        unfold vShl; rw [h, if_pos rfl]
        by_cases hc : m ≤ b
        · rw [if_pos hc, shl_zero a h1 hc]
        · rw [if_neg hc]
      have hm := emod_le (a := a * p2 b.toNat) m.toNat
      go_enter Try.func58, Try.ntmps58
      go_wp2_with (first | (go_at_call 74; refine (iTwo _ _ _ _).mono ?_; rintro e w' ⟨rfl, rfl⟩) | (go_at_call 80; refine (up a _ m _ h3 (by omega) h5 (by omega) h1 h2).mono ?_; rintro e w' ⟨rfl, rfl⟩))
      go_ret
      exact ⟨ret_int HV.out.symm, rfl⟩
    · have HV : Hid (vShl m a b = 0) := by
        show vShl m a b = _
        unfold vShl; rw [h, if_pos rfl, if_pos (by omega)]
      go_enter Try.func58, Try.ntmps58
      go_wp2_with (first | (go_at_call 74; refine (iTwo _ _ _ _).mono ?_; rintro e w' ⟨rfl, rfl⟩) | (go_at_call 80; refine (upFar a _ m _ h3 (by omega) (by omega) h1 h2).mono ?_; rintro e w' ⟨rfl, rfl⟩))
      go_ret
      exact ⟨ret_int HV.out.symm, rfl⟩

set_option maxHeartbeats 400000 in
theorem sShl (m a b : Int) (w : World) :
    Calls Try.prog 22 #[.int .i64 m, .int .i64 a, .int .i64 b] w fun e w' => e = .returned (.int .i64 (vShl m a b)) ∧ w' = w := by
  cases h : (wok m a && wok m b)
  · have HV : Hid (vShl m a b = 0) := by show vShl m a b = 0; simp [vShl, h]
    go_enter Try.func22, Try.ntmps22
    go_wp2_with (go_at_call 39; refine (sTwo _ _ _ _).mono ?_; rintro e w' ⟨rfl, rfl⟩)
    go_ret
    exact ⟨ret_int HV.out.symm, rfl⟩
  · obtain ⟨h1, h2, h3, h4, h5, h6, h7⟩ := two_iff h
    have hp := p2_pos m.toNat
    by_cases hc : m ≤ b
    · have HV : Hid (vShl m a b = 0) := by
        show vShl m a b = _
        unfold vShl; rw [h, if_pos rfl, if_pos hc]
      go_enter Try.func22, Try.ntmps22
      go_wp2_with (go_at_call 39; refine (sTwo _ _ _ _).mono ?_; rintro e w' ⟨rfl, rfl⟩)
      go_ret
      exact ⟨ret_int HV.out.symm, rfl⟩
    · have HV : Hid (vShl m a b = a * p2 b.toNat % p2 m.toNat) := by
        show vShl m a b = _
        unfold vShl; rw [h, if_pos rfl, if_neg hc]
      have hq := p2_pos b.toNat
      have hr := p2_mono (show b.toNat ≤ 7 by omega)
      have hr7 : p2 7 = 128 := rfl
      obtain ⟨hb1, hb2⟩ := mul_bd h3 (show a ≤ 255 by omega) (show 0 ≤ p2 b.toNat by omega) (by omega)
      go_enter Try.func22, Try.ntmps22
      go_wp2_with (first | (go_at_call 39; refine (sTwo _ _ _ _).mono ?_; rintro e w' ⟨rfl, rfl⟩) | (go_at_call 27; refine (spow _ _ (by omega) (by omega)).mono ?_; rintro e w' ⟨rfl, rfl⟩))
      go_ret
      exact ⟨ret_int HV.out.symm, rfl⟩

set_option maxHeartbeats 400000 in
theorem iShr (m a b : Int) (w : World) :
    Calls Try.prog 60 #[.int .i64 m, .int .i64 a, .int .i64 b] w fun e w' => e = .returned (.int .i64 (vShr m a b)) ∧ w' = w := by
  cases h : (wok m a && wok m b)
  · have HV : Hid (vShr m a b = 0) := by show vShr m a b = 0; simp [vShr, h]
    go_enter Try.func60, Try.ntmps60
    go_wp2_with (go_at_call 74; refine (iTwo _ _ _ _).mono ?_; rintro e w' ⟨rfl, rfl⟩)
    go_ret
    exact ⟨ret_int HV.out.symm, rfl⟩
  · obtain ⟨h1, h2, h3, h4, h5, h6, h7⟩ := two_iff h
    by_cases hb : b ≤ 7
    · have HV : Hid (vShr m a b = a / p2 b.toNat) := by
        show vShr m a b = _
        unfold vShr; rw [h, if_pos rfl]
        by_cases hc : m ≤ b
        · rw [if_pos hc, shr_zero h3 hc h4]
        · rw [if_neg hc]
      obtain ⟨hd1, hd2⟩ := div_bd h3 (show 0 ≤ p2 b.toNat by have := p2_pos b.toNat; omega)
      go_enter Try.func60, Try.ntmps60
      go_wp2_with (first | (go_at_call 74; refine (iTwo _ _ _ _).mono ?_; rintro e w' ⟨rfl, rfl⟩) | (go_at_call 81; refine (down a _ _ h3 (by omega) h5 (by omega)).mono ?_; rintro e w' ⟨rfl, rfl⟩))
      go_ret
      exact ⟨ret_int HV.out.symm, rfl⟩
    · have HV : Hid (vShr m a b = 0) := by
        show vShr m a b = _
        unfold vShr; rw [h, if_pos rfl, if_pos (by omega)]
      go_enter Try.func60, Try.ntmps60
      go_wp2_with (first | (go_at_call 74; refine (iTwo _ _ _ _).mono ?_; rintro e w' ⟨rfl, rfl⟩) | (go_at_call 81; refine (downFar a _ _ h3 (by omega) (by omega)).mono ?_; rintro e w' ⟨rfl, rfl⟩))
      go_ret
      exact ⟨ret_int HV.out.symm, rfl⟩

set_option maxHeartbeats 400000 in
theorem sShr (m a b : Int) (w : World) :
    Calls Try.prog 23 #[.int .i64 m, .int .i64 a, .int .i64 b] w fun e w' => e = .returned (.int .i64 (vShr m a b)) ∧ w' = w := by
  cases h : (wok m a && wok m b)
  · have HV : Hid (vShr m a b = 0) := by show vShr m a b = 0; simp [vShr, h]
    go_enter Try.func23, Try.ntmps23
    go_wp2_with (go_at_call 39; refine (sTwo _ _ _ _).mono ?_; rintro e w' ⟨rfl, rfl⟩)
    go_ret
    exact ⟨ret_int HV.out.symm, rfl⟩
  · obtain ⟨h1, h2, h3, h4, h5, h6, h7⟩ := two_iff h
    have hp := p2_pos m.toNat
    by_cases hc : m ≤ b
    · have HV : Hid (vShr m a b = 0) := by
        show vShr m a b = _
        unfold vShr; rw [h, if_pos rfl, if_pos hc]
      go_enter Try.func23, Try.ntmps23
      go_wp2_with (go_at_call 39; refine (sTwo _ _ _ _).mono ?_; rintro e w' ⟨rfl, rfl⟩)
      go_ret
      exact ⟨ret_int HV.out.symm, rfl⟩
    · have HV : Hid (vShr m a b = a / p2 b.toNat) := by
        show vShr m a b = _
        unfold vShr; rw [h, if_pos rfl, if_neg hc]
      have hq := p2_pos b.toNat
      obtain ⟨hd1, hd2⟩ := div_bd h3 (show 0 ≤ p2 b.toNat by omega)
      go_enter Try.func23, Try.ntmps23
      go_wp2_with (first | (go_at_call 39; refine (sTwo _ _ _ _).mono ?_; rintro e w' ⟨rfl, rfl⟩) | (go_at_call 27; refine (spow _ _ (by omega) (by omega)).mono ?_; rintro e w' ⟨rfl, rfl⟩))
      go_ret
      exact ⟨ret_int HV.out.symm, rfl⟩

set_option maxHeartbeats 400000 in
theorem iFlip (m a : Int) (w : World) :
    Calls Try.prog 43 #[.int .i64 m, .int .i64 a] w fun e w' => e = .returned (.int .i64 (vFlip m a)) ∧ w' = w := by
  cases h : wok m a
  · have HV : Hid (vFlip m a = 0) := by show vFlip m a = 0; simp [vFlip, h]
    go_enter Try.func43, Try.ntmps43
    go_wp2_with (go_at_call 37; refine (iWordOk _ _ _).mono ?_; rintro e w' ⟨rfl, rfl⟩)
    go_ret
    exact ⟨ret_int HV.out.symm, rfl⟩
  · obtain ⟨h1, h2, h3, h4, h7⟩ := one_iff h
    have HV : Hid (vFlip m a = p2 m.toNat - 1 - a) := by show vFlip m a = _; simp [vFlip, h]
    go_enter Try.func43, Try.ntmps43
    go_wp2_with (first | (go_at_call 37; refine (iWordOk _ _ _).mono ?_; rintro e w' ⟨rfl, rfl⟩) | (go_at_call 73; refine (flip a m _ h3 h4 h1 h2).mono ?_; rintro e w' ⟨rfl, rfl⟩))
    go_ret
    exact ⟨ret_int HV.out.symm, rfl⟩

set_option maxHeartbeats 400000 in
theorem sFlip (m a : Int) (w : World) :
    Calls Try.prog 16 #[.int .i64 m, .int .i64 a] w fun e w' => e = .returned (.int .i64 (vFlip m a)) ∧ w' = w := by
  cases h : wok m a
  · have HV : Hid (vFlip m a = 0) := by show vFlip m a = 0; simp [vFlip, h]
    go_enter Try.func16, Try.ntmps16
    go_wp2_with (go_at_call 34; refine (sWordOk _ _ _).mono ?_; rintro e w' ⟨rfl, rfl⟩)
    go_ret
    exact ⟨ret_int HV.out.symm, rfl⟩
  · obtain ⟨h1, h2, h3, h4, h7⟩ := one_iff h
    have HV : Hid (vFlip m a = p2 m.toNat - 1 - a) := by show vFlip m a = _; simp [vFlip, h]
    go_enter Try.func16, Try.ntmps16
    go_wp2_with (first | (go_at_call 34; refine (sWordOk _ _ _).mono ?_; rintro e w' ⟨rfl, rfl⟩) | (go_at_call 27; refine (spow _ _ (by omega) (by omega)).mono ?_; rintro e w' ⟨rfl, rfl⟩))
    go_ret
    exact ⟨ret_int HV.out.symm, rfl⟩

set_option maxHeartbeats 400000 in
theorem sSigned (m a : Int) (w : World) :
    Calls Try.prog 40 #[.int .i64 m, .int .i64 a] w fun e w' => e = .returned (.int .i64 (vSigned m a)) ∧ w' = w := by
  cases h : wok m a
  · have HV : Hid (vSigned m a = 0) := by show vSigned m a = 0; simp [vSigned, h]
    go_enter Try.func40, Try.ntmps40
    go_wp2_with (go_at_call 34; refine (sWordOk _ _ _).mono ?_; rintro e w' ⟨rfl, rfl⟩)
    go_ret
    exact ⟨ret_int HV.out.symm, rfl⟩
  · obtain ⟨h1, h2, h3, h4, h7⟩ := one_iff h
    have hq := p2_pos m.toNat
    by_cases hs : p2 (m - 1).toNat ≤ a
    · have HV : Hid (vSigned m a = a - p2 m.toNat) := by show vSigned m a = _; simp only [vSigned, h, if_pos]; exact sgn_pos hs
      have hs2 : p2 (m.toNat - 1) ≤ a := by rw [show m.toNat - 1 = (m - 1).toNat by omega]; exact hs
      have hr := p2_pos (m - 1).toNat
      go_enter Try.func40, Try.ntmps40
      go_wp2_with (first | (go_at_call 34; refine (sWordOk _ _ _).mono ?_; rintro e w' ⟨rfl, rfl⟩) | (go_at_call 27; refine (spow _ _ (by omega) (by omega)).mono ?_; rintro e w' ⟨rfl, rfl⟩))
      go_ret
      exact ⟨ret_int HV.out.symm, rfl⟩
    · have HV : Hid (vSigned m a = a) := by show vSigned m a = _; simp only [vSigned, h, if_pos]; exact sgn_neg hs
      have hs2 : ¬ p2 (m.toNat - 1) ≤ a := by rw [show m.toNat - 1 = (m - 1).toNat by omega]; exact hs
      have hr := p2_pos (m - 1).toNat
      go_enter Try.func40, Try.ntmps40
      go_wp2_with (first | (go_at_call 34; refine (sWordOk _ _ _).mono ?_; rintro e w' ⟨rfl, rfl⟩) | (go_at_call 27; refine (spow _ _ (by omega) (by omega)).mono ?_; rintro e w' ⟨rfl, rfl⟩))
      go_ret
      exact ⟨ret_int HV.out.symm, rfl⟩

set_option maxHeartbeats 400000 in
theorem iOne (b : Bool) (w : World) :
    Calls Try.prog 62 #[.bool b] w fun e w' => e = .returned (.int .i64 (if b then 1 else 0)) ∧ w' = w := by
  cases b
  all_goals
    go_enter Try.func62, Try.ntmps62
    go_wp2
    go_ret
    exact ⟨rfl, rfl⟩

set_option maxHeartbeats 400000 in
theorem sOne (b : Bool) (w : World) :
    Calls Try.prog 24 #[.bool b] w fun e w' => e = .returned (.int .i64 (if b then 1 else 0)) ∧ w' = w := by
  cases b
  all_goals
    go_enter Try.func24, Try.ntmps24
    go_wp2
    go_ret
    exact ⟨rfl, rfl⟩

end Go.Proofs.Ytjhhmnelddidjaa.Wd4
