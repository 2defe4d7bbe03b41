/- Walks of chapter 1, second part: division, shifts, flips, orders, joins and slices of words, in the program and in its model. -/
import Derived.Test.YtjhhmnelddidjaaWd2
namespace Go.Proofs.Ytjhhmnelddidjaa.Wd3
open Go.RowKit
open Pl1 Wd1 Wd2
set_option linter.unusedVariables false

theorem div_bd {a b : Int} (ha : 0 ≤ a) (hb : 0 ≤ b) : 0 ≤ a / b ∧ a / b ≤ a := ⟨Int.ediv_nonneg ha hb, Int.ediv_le_self _ ha⟩
theorem rem_bd {a b : Int} (ha : 0 ≤ a) (hb : 0 ≤ b) (hz : ¬ b = 0) : 0 ≤ a % b ∧ a % b < b := ⟨Int.emod_nonneg _ hz, Int.emod_lt_of_pos _ (by omega)⟩

set_option maxHeartbeats 400000 in
theorem iDiv (m a b : Int) (w : World) :
    Calls Try.prog 54 #[.int .i64 m, .int .i64 a, .int .i64 b] w fun e w' => e = .returned (.int .i64 (vDiv m a b)) ∧ w' = w := by
  cases h : (wok m a && wok m b)
  · have HV : Hid (vDiv m a b = 0) := by show vDiv m a b = 0; simp [vDiv, h]
    go_enter Try.func54, Try.ntmps54
    go_wp2_with (go_at_call 74; refine (iTwo _ _ _ _).mono ?_; rintro e w' ⟨rfl, rfl⟩)
    go_ret
    exact ⟨ret_int HV.out.symm, rfl⟩
  · obtain ⟨h1, h2, h3, h4, h5, h6, h7⟩ := two_iff h
    by_cases hz : b = 0
    · subst hz
      have HV : Hid (vDiv m a 0 = p2 m.toNat - 1) := by show vDiv m a 0 = _; unfold vDiv; rw [h]; rfl
      have hp := p2_pos m.toNat
      go_enter Try.func54, Try.ntmps54
      go_wp2_with (first | (go_at_call 74; refine (iTwo _ _ _ _).mono ?_; rintro e w' ⟨rfl, rfl⟩) | (go_at_call 78; refine (over a _ m _ h3 (by omega) h5 (by omega) h1 h2).mono ?_; rintro e w' ⟨rfl, rfl⟩))
      all_goals
        go_ret
        exact ⟨ret_int HV.out.symm, rfl⟩
    · have HV : Hid (vDiv m a b = a / b) := by show vDiv m a b = _; simp [vDiv, h, hz]
      have hp := p2_pos m.toNat
      have hz' : (b == 0) = false := by simpa using hz
      obtain ⟨hd1, hd2⟩ := div_bd h3 h5
      go_enter Try.func54, Try.ntmps54
      go_wp2_with (first | (go_at_call 74; refine (iTwo _ _ _ _).mono ?_; rintro e w' ⟨rfl, rfl⟩) | (go_at_call 78; refine (over a _ m _ h3 (by omega) h5 (by omega) h1 h2).mono ?_; rintro e w' ⟨rfl, rfl⟩))
      all_goals
        go_ret
        exact ⟨ret_int HV.out.symm, rfl⟩

set_option maxHeartbeats 400000 in
theorem iRem (m a b : Int) (w : World) :
    Calls Try.prog 56 #[.int .i64 m, .int .i64 a, .int .i64 b] w fun e w' => e = .returned (.int .i64 (vRem m a b)) ∧ w' = w := by
  cases h : (wok m a && wok m b)
  · have HV : Hid (vRem m a b = 0) := by show vRem m a b = 0; simp [vRem, h]
    go_enter Try.func56, Try.ntmps56
    go_wp2_with (go_at_call 74; refine (iTwo _ _ _ _).mono ?_; rintro e w' ⟨rfl, rfl⟩)
    go_ret
    exact ⟨ret_int HV.out.symm, rfl⟩
  · obtain ⟨h1, h2, h3, h4, h5, h6, h7⟩ := two_iff h
    by_cases hz : b = 0
    · subst hz
      have HV : Hid (vRem m a 0 = a) := by show vRem m a 0 = _; unfold vRem; rw [h]; rfl
      have hp := p2_pos m.toNat
      go_enter Try.func56, Try.ntmps56
      go_wp2_with (first | (go_at_call 74; refine (iTwo _ _ _ _).mono ?_; rintro e w' ⟨rfl, rfl⟩) | (go_at_call 79; refine (rest a _ _ h3 (by omega) h5 (by omega)).mono ?_; rintro e w' ⟨rfl, rfl⟩))
      all_goals
        go_ret
        exact ⟨ret_int HV.out.symm, rfl⟩
    · have HV : Hid (vRem m a b = a % b) := by show vRem m a b = _; simp [vRem, h, hz]
      have hp := p2_pos m.toNat
      have hz' : (b == 0) = false := by simpa using hz
      obtain ⟨hd1, hd2⟩ := rem_bd h3 h5 hz
      go_enter Try.func56, Try.ntmps56
      go_wp2_with (first | (go_at_call 74; refine (iTwo _ _ _ _).mono ?_; rintro e w' ⟨rfl, rfl⟩) | (go_at_call 79; refine (rest a _ _ h3 (by omega) h5 (by omega)).mono ?_; rintro e w' ⟨rfl, rfl⟩))
      all_goals
        go_ret
        exact ⟨ret_int HV.out.symm, rfl⟩

set_option maxHeartbeats 400000 in
theorem sDiv (m a b : Int) (w : World) :
    Calls Try.prog 20 #[.int .i64 m, .int .i64 a, .int .i64 b] w fun e w' => e = .returned (.int .i64 (vDiv m a b)) ∧ w' = w := by
  cases h : (wok m a && wok m b)
  · have HV : Hid (vDiv m a b = 0) := by show vDiv m a b = 0; simp [vDiv, h]
    go_enter Try.func20, Try.ntmps20
    go_wp2_with (go_at_call 39; refine (sTwo _ _ _ _).mono ?_; rintro e w' ⟨rfl, rfl⟩)
    go_ret
    exact ⟨ret_int HV.out.symm, rfl⟩
  · obtain ⟨h1, h2, h3, h4, h5, h6, h7⟩ := two_iff h
    by_cases hz : b = 0
    · subst hz
      have HV : Hid (vDiv m a 0 = p2 m.toNat - 1) := by show vDiv m a 0 = _; unfold vDiv; rw [h]; rfl
      have hp := p2_pos m.toNat
      go_enter Try.func20, Try.ntmps20
      go_wp2_with (first | (go_at_call 39; refine (sTwo _ _ _ _).mono ?_; rintro e w' ⟨rfl, rfl⟩) | (go_at_call 27; refine (spow _ _ (by omega) (by omega)).mono ?_; rintro e w' ⟨rfl, rfl⟩))
      all_goals
        go_ret
        exact ⟨ret_int HV.out.symm, rfl⟩
    · have HV : Hid (vDiv m a b = a / b) := by show vDiv m a b = _; simp [vDiv, h, hz]
      have hp := p2_pos m.toNat
      have hz' : (b == 0) = false := by simpa using hz
      obtain ⟨hd1, hd2⟩ := div_bd h3 h5
      go_enter Try.func20, Try.ntmps20
      go_wp2_with (first | (go_at_call 39; refine (sTwo _ _ _ _).mono ?_; rintro e w' ⟨rfl, rfl⟩) | (go_at_call 27; refine (spow _ _ (by omega) (by omega)).mono ?_; rintro e w' ⟨rfl, rfl⟩))
      all_goals
        go_ret
        exact ⟨ret_int HV.out.symm, rfl⟩

set_option maxHeartbeats 400000 in
theorem sRem (m a b : Int) (w : World) :
    Calls Try.prog 21 #[.int .i64 m, .int .i64 a, .int .i64 b] w fun e w' => e = .returned (.int .i64 (vRem m a b)) ∧ w' = w := by
  cases h : (wok m a && wok m b)
  · have HV : Hid (vRem m a b = 0) := by show vRem m a b = 0; simp [vRem, h]
    go_enter Try.func21, Try.ntmps21
    go_wp2_with (go_at_call 39; refine (sTwo _ _ _ _).mono ?_; rintro e w' ⟨rfl, rfl⟩)
    go_ret
    exact ⟨ret_int HV.out.symm, rfl⟩
  · obtain ⟨h1, h2, h3, h4, h5, h6, h7⟩ := two_iff h
    by_cases hz : b = 0
    · subst hz
      have HV : Hid (vRem m a 0 = a) := by show vRem m a 0 = _; unfold vRem; rw [h]; rfl
      have hp := p2_pos m.toNat
      go_enter Try.func21, Try.ntmps21
      go_wp2_with (first | (go_at_call 39; refine (sTwo _ _ _ _).mono ?_; rintro e w' ⟨rfl, rfl⟩) | fail)
      all_goals
        go_ret
        exact ⟨ret_int HV.out.symm, rfl⟩
    · have HV : Hid (vRem m a b = a % b) := by show vRem m a b = _; simp [vRem, h, hz]
      have hp := p2_pos m.toNat
      have hz' : (b == 0) = false := by simpa using hz
      obtain ⟨hd1, hd2⟩ := rem_bd h3 h5 hz
      go_enter Try.func21, Try.ntmps21
      go_wp2_with (first | (go_at_call 39; refine (sTwo _ _ _ _).mono ?_; rintro e w' ⟨rfl, rfl⟩) | fail)
      all_goals
        go_ret
        exact ⟨ret_int HV.out.symm, rfl⟩

end Go.Proofs.Ytjhhmnelddidjaa.Wd3
