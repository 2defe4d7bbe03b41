/- Walks of chapter 1: the operations on words, in the program and in its model: each answers the same plain function. -/
import Derived.Test.YtjhhmnelddidjaaWd1
namespace Go.Proofs.Ytjhhmnelddidjaa.Wd2
open Go.RowKit
open Pl1 Wd1
set_option linter.unusedVariables false

theorem two_iff {m a b : Int} (h : (wok m a && wok m b) = true) : 1 ≤ m ∧ m ≤ 8 ∧ 0 ≤ a ∧ a < p2 m.toNat ∧ 0 ≤ b ∧ b < p2 m.toNat ∧ p2 m.toNat ≤ 256 := by
  rw [Bool.and_eq_true] at h
  obtain ⟨h1, h2, h3, h4⟩ := wok_iff.1 h.1
  obtain ⟨_, _, h5, h6⟩ := wok_iff.1 h.2
  exact ⟨h1, h2, h3, h4, h5, h6, p2_le _ (by omega)⟩
theorem one_iff {m a : Int} (h : wok m a = true) : 1 ≤ m ∧ m ≤ 8 ∧ 0 ≤ a ∧ a < p2 m.toNat ∧ p2 m.toNat ≤ 256 := by
  obtain ⟨h1, h2, h3, h4⟩ := wok_iff.1 h
  exact ⟨h1, h2, h3, h4, p2_le _ (by omega)⟩

set_option maxHeartbeats 400000 in
theorem iAdd (m a b : Int) (w : World) :
    Calls Try.prog 48 #[.int .i64 m, .int .i64 a, .int .i64 b] w fun e w' => e = .returned (.int .i64 (vAdd m a b)) ∧ w' = w := by
  cases h : (wok m a && wok m b)
  · have HV : Hid (vAdd m a b = 0) := by show vAdd m a b = 0; simp [vAdd, h]
    go_enter Try.func48, Try.ntmps48
    go_wp2_with (go_at_call 74; refine (iTwo _ _ _ _).mono ?_; rintro e w' ⟨rfl, rfl⟩)
    go_ret
    exact ⟨ret_int HV.out.symm, rfl⟩
  · obtain ⟨h1, h2, h3, h4, h5, h6, h7⟩ := two_iff h
    have HV : Hid (vAdd m a b = (a + b) % p2 m.toNat) := by show vAdd m a b = _; simp [vAdd, h]
    have hm := emod_le (a := (a + b)) m.toNat
    go_enter Try.func48, Try.ntmps48
    go_wp2_with (first | (go_at_call 74; refine (iTwo _ _ _ _).mono ?_; rintro e w' ⟨rfl, rfl⟩) | (go_at_call 75; refine (plus a b m _ h3 (by omega) h5 (by omega) h1 h2).mono ?_; rintro e w' ⟨rfl, rfl⟩))
    go_ret
    exact ⟨ret_int HV.out.symm, rfl⟩

set_option maxHeartbeats 400000 in
theorem iSub (m a b : Int) (w : World) :
    Calls Try.prog 50 #[.int .i64 m, .int .i64 a, .int .i64 b] w fun e w' => e = .returned (.int .i64 (vSub m a b)) ∧ w' = w := by
  cases h : (wok m a && wok m b)
  · have HV : Hid (vSub m a b = 0) := by show vSub m a b = 0; simp [vSub, h]
    go_enter Try.func50, Try.ntmps50
    go_wp2_with (go_at_call 74; refine (iTwo _ _ _ _).mono ?_; rintro e w' ⟨rfl, rfl⟩)
    go_ret
    exact ⟨ret_int HV.out.symm, rfl⟩
  · obtain ⟨h1, h2, h3, h4, h5, h6, h7⟩ := two_iff h
    have HV : Hid (vSub m a b = (a - b) % p2 m.toNat) := by show vSub m a b = _; simp [vSub, h]
    have hm := emod_le (a := (a - b)) m.toNat
    go_enter Try.func50, Try.ntmps50
    go_wp2_with (first | (go_at_call 74; refine (iTwo _ _ _ _).mono ?_; rintro e w' ⟨rfl, rfl⟩) | (go_at_call 76; refine (minus a b m _ h3 (by omega) h5 (by omega) h1 h2).mono ?_; rintro e w' ⟨rfl, rfl⟩))
    go_ret
    exact ⟨ret_int HV.out.symm, rfl⟩

set_option maxHeartbeats 400000 in
theorem iMul (m a b : Int) (w : World) :
    Calls Try.prog 52 #[.int .i64 m, .int .i64 a, .int .i64 b] w fun e w' => e = .returned (.int .i64 (vMul m a b)) ∧ w' = w := by
  cases h : (wok m a && wok m b)
  · have HV : Hid (vMul m a b = 0) := by show vMul m a b = 0; simp [vMul, h]
    go_enter Try.func52, Try.ntmps52
    go_wp2_with (go_at_call 74; refine (iTwo _ _ _ _).mono ?_; rintro e w' ⟨rfl, rfl⟩)
    go_ret
    exact ⟨ret_int HV.out.symm, rfl⟩
  · obtain ⟨h1, h2, h3, h4, h5, h6, h7⟩ := two_iff h
    have HV : Hid (vMul m a b = a * b % p2 m.toNat) := by show vMul m a b = _; simp [vMul, h]
    have hm := emod_le (a := a * b) m.toNat
    go_enter Try.func52, Try.ntmps52
    go_wp2_with (first | (go_at_call 74; refine (iTwo _ _ _ _).mono ?_; rintro e w' ⟨rfl, rfl⟩) | (go_at_call 77; refine (times a b m _ h3 (by omega) h5 (by omega) h1 h2).mono ?_; rintro e w' ⟨rfl, rfl⟩))
    go_ret
    exact ⟨ret_int HV.out.symm, rfl⟩

set_option maxHeartbeats 400000 in
theorem sAdd (m a b : Int) (w : World) :
    Calls Try.prog 17 #[.int .i64 m, .int .i64 a, .int .i64 b] w fun e w' => e = .returned (.int .i64 (vAdd m a b)) ∧ w' = w := by
  cases h : (wok m a && wok m b)
  · have HV : Hid (vAdd m a b = 0) := by show vAdd m a b = 0; simp [vAdd, h]
    go_enter Try.func17, Try.ntmps17
    go_wp2_with (go_at_call 39; refine (sTwo _ _ _ _).mono ?_; rintro e w' ⟨rfl, rfl⟩)
    go_ret
    exact ⟨ret_int HV.out.symm, rfl⟩
  · obtain ⟨h1, h2, h3, h4, h5, h6, h7⟩ := two_iff h
    have HV : Hid (vAdd m a b = (a + b) % p2 m.toNat) := by show vAdd m a b = _; simp [vAdd, h]
    have hp := p2_pos m.toNat
    go_enter Try.func17, Try.ntmps17
    go_wp2_with (first | (go_at_call 39; refine (sTwo _ _ _ _).mono ?_; rintro e w' ⟨rfl, rfl⟩) | (go_at_call 27; refine (spow _ _ (by omega) (by omega)).mono ?_; rintro e w' ⟨rfl, rfl⟩))
    go_ret
    exact ⟨ret_int HV.out.symm, rfl⟩

set_option maxHeartbeats 400000 in
theorem sSub (m a b : Int) (w : World) :
    Calls Try.prog 18 #[.int .i64 m, .int .i64 a, .int .i64 b] w fun e w' => e = .returned (.int .i64 (vSub m a b)) ∧ w' = w := by
  cases h : (wok m a && wok m b)
  · have HV : Hid (vSub m a b = 0) := by show vSub m a b = 0; simp [vSub, h]
    go_enter Try.func18, Try.ntmps18
    go_wp2_with (go_at_call 39; refine (sTwo _ _ _ _).mono ?_; rintro e w' ⟨rfl, rfl⟩)
    go_ret
    exact ⟨ret_int HV.out.symm, rfl⟩
  · obtain ⟨h1, h2, h3, h4, h5, h6, h7⟩ := two_iff h
    have HV : Hid (vSub m a b = (a + p2 m.toNat - b) % p2 m.toNat) := by show vSub m a b = _; rw [sub_spec]; simp [vSub, h]
    have hp := p2_pos m.toNat
    go_enter Try.func18, Try.ntmps18
    go_wp2_with (first | (go_at_call 39; refine (sTwo _ _ _ _).mono ?_; rintro e w' ⟨rfl, rfl⟩) | (go_at_call 27; refine (spow _ _ (by omega) (by omega)).mono ?_; rintro e w' ⟨rfl, rfl⟩))
    go_ret
    exact ⟨ret_int HV.out.symm, rfl⟩

set_option maxHeartbeats 400000 in
theorem sMul (m a b : Int) (w : World) :
    Calls Try.prog 19 #[.int .i64 m, .int .i64 a, .int .i64 b] w fun e w' => e = .returned (.int .i64 (vMul m a b)) ∧ w' = w := by
  cases h : (wok m a && wok m b)
  · have HV : Hid (vMul m a b = 0) := by show vMul m a b = 0; simp [vMul, h]
    go_enter Try.func19, Try.ntmps19
    go_wp2_with (go_at_call 39; refine (sTwo _ _ _ _).mono ?_; rintro e w' ⟨rfl, rfl⟩)
    go_ret
    exact ⟨ret_int HV.out.symm, rfl⟩
  · obtain ⟨h1, h2, h3, h4, h5, h6, h7⟩ := two_iff h
    have HV : Hid (vMul m a b = a * b % p2 m.toNat) := by show vMul m a b = _; simp [vMul, h]
    have hp := p2_pos m.toNat
    obtain ⟨hb1, hb2⟩ := mul_bd h3 (by omega) h5 (by omega)
    go_enter Try.func19, Try.ntmps19
    go_wp2_with (first | (go_at_call 39; refine (sTwo _ _ _ _).mono ?_; rintro e w' ⟨rfl, rfl⟩) | (go_at_call 27; refine (spow _ _ (by omega) (by omega)).mono ?_; rintro e w' ⟨rfl, rfl⟩))
    go_ret
    exact ⟨ret_int HV.out.symm, rfl⟩

end Go.Proofs.Ytjhhmnelddidjaa.Wd2
