/- Small texts of mine, one behind the other. -/
import Derived.Test.YtejgcchkhljnjaaGreatPkFO15
/- Walks of chapter 1: the operations on words, in the program and in its model: each answers the same plain function. -/
namespace Go.Proofs.YtejgcchkhljnjaaGreat.Wd2
open Go.RowKit
open Pl1 Wd1
set_option linter.unusedVariables false

theorem two_iff {m a b : Int} (h : (wok m a && wok m b) = true) : 1 ≤ m ∧ m ≤ 8 ∧ 0 ≤ a ∧ a < p2 m.toNat ∧ 0 ≤ b ∧ b < p2 m.toNat ∧ p2 m.toNat ≤ 256 := by
  rw [Bool.and_eq_true] at h
  obtain ⟨h1, h2, h3, h4⟩ := wok_iff.1 h.1
  obtain ⟨_, _, h5, h6⟩ := wok_iff.1 h.2
  exact ⟨h1, h2, h3, h4, h5, h6, p2_le _ (by omega)⟩
theorem one_iff {m a : Int} (h : wok m a = true) : 1 ≤ m ∧ m ≤ 8 ∧ 0 ≤ a ∧ a < p2 m.toNat ∧ p2 m.toNat ≤ 256 := by
  obtain ⟨h1, h2, h3, h4⟩ := wok_iff.1 h
  exact ⟨h1, h2, h3, h4, p2_le _ (by omega)⟩

set_option maxHeartbeats 400000 in
theorem iAdd (m a b : Int) (w : World) :
    Calls Tryz.prog 170 #[.int .i64 m, .int .i64 a, .int .i64 b] w fun e w' => e = .returned (.int .i64 (vAdd m a b)) ∧ w' = w := by
  cases h : (wok m a && wok m b)
  · have HV : Hid (vAdd m a b = 0) := by show vAdd m a b = 0; simp [vAdd, h]
    go_enter Tryz.func170, Tryz.ntmps170
    go_wp2_with (go_at_call 200; refine (iTwo _ _ _ _).mono ?_; rintro e w' ⟨rfl, rfl⟩)
    go_ret
    exact ⟨ret_int HV.out.symm, rfl⟩
  · obtain ⟨h1, h2, h3, h4, h5, h6, h7⟩ := two_iff h
    have HV : Hid (vAdd m a b = (a + b) % p2 m.toNat) := by show vAdd m a b = _; simp [vAdd, h]
    have hm := emod_le (a := (a + b)) m.toNat
    go_enter Tryz.func170, Tryz.ntmps170
    go_wp2_with (first | (go_at_call 200; refine (iTwo _ _ _ _).mono ?_; rintro e w' ⟨rfl, rfl⟩) | (go_at_call 201; refine (plus a b m _ h3 (by omega) h5 (by omega) h1 h2).mono ?_; rintro e w' ⟨rfl, rfl⟩))
    go_ret
    exact ⟨ret_int HV.out.symm, rfl⟩

set_option maxHeartbeats 400000 in
theorem iSub (m a b : Int) (w : World) :
    Calls Tryz.prog 172 #[.int .i64 m, .int .i64 a, .int .i64 b] w fun e w' => e = .returned (.int .i64 (vSub m a b)) ∧ w' = w := by
  cases h : (wok m a && wok m b)
  · have HV : Hid (vSub m a b = 0) := by show vSub m a b = 0; simp [vSub, h]
    go_enter Tryz.func172, Tryz.ntmps172
    go_wp2_with (go_at_call 200; refine (iTwo _ _ _ _).mono ?_; rintro e w' ⟨rfl, rfl⟩)
    go_ret
    exact ⟨ret_int HV.out.symm, rfl⟩
  · obtain ⟨h1, h2, h3, h4, h5, h6, h7⟩ := two_iff h
    have HV : Hid (vSub m a b = (a - b) % p2 m.toNat) := by show vSub m a b = _; simp [vSub, h]
    have hm := emod_le (a := (a - b)) m.toNat
    go_enter Tryz.func172, Tryz.ntmps172
    go_wp2_with (first | (go_at_call 200; refine (iTwo _ _ _ _).mono ?_; rintro e w' ⟨rfl, rfl⟩) | (go_at_call 202; refine (minus a b m _ h3 (by omega) h5 (by omega) h1 h2).mono ?_; rintro e w' ⟨rfl, rfl⟩))
    go_ret
    exact ⟨ret_int HV.out.symm, rfl⟩

set_option maxHeartbeats 400000 in
theorem iMul (m a b : Int) (w : World) :
    Calls Tryz.prog 174 #[.int .i64 m, .int .i64 a, .int .i64 b] w fun e w' => e = .returned (.int .i64 (vMul m a b)) ∧ w' = w := by
  cases h : (wok m a && wok m b)
  · have HV : Hid (vMul m a b = 0) := by show vMul m a b = 0; simp [vMul, h]
    go_enter Tryz.func174, Tryz.ntmps174
    go_wp2_with (go_at_call 200; refine (iTwo _ _ _ _).mono ?_; rintro e w' ⟨rfl, rfl⟩)
    go_ret
    exact ⟨ret_int HV.out.symm, rfl⟩
  · obtain ⟨h1, h2, h3, h4, h5, h6, h7⟩ := two_iff h
    have HV : Hid (vMul m a b = a * b % p2 m.toNat) := by show vMul m a b = _; simp [vMul, h]
    have hm := emod_le (a := a * b) m.toNat
    go_enter Tryz.func174, Tryz.ntmps174
    go_wp2_with (first | (go_at_call 200; refine (iTwo _ _ _ _).mono ?_; rintro e w' ⟨rfl, rfl⟩) | (go_at_call 203; refine (times a b m _ h3 (by omega) h5 (by omega) h1 h2).mono ?_; rintro e w' ⟨rfl, rfl⟩))
    go_ret
    exact ⟨ret_int HV.out.symm, rfl⟩

set_option maxHeartbeats 400000 in
theorem sAdd (m a b : Int) (w : World) :
    Calls Tryz.prog 101 #[.int .i64 m, .int .i64 a, .int .i64 b] w fun e w' => e = .returned (.int .i64 (vAdd m a b)) ∧ w' = w := by
  cases h : (wok m a && wok m b)
  · have HV : Hid (vAdd m a b = 0) := by show vAdd m a b = 0; simp [vAdd, h]
    go_enter Tryz.func101, Tryz.ntmps101
    go_wp2_with (go_at_call 147; refine (sTwo _ _ _ _).mono ?_; rintro e w' ⟨rfl, rfl⟩)
    go_ret
    exact ⟨ret_int HV.out.symm, rfl⟩
  · obtain ⟨h1, h2, h3, h4, h5, h6, h7⟩ := two_iff h
    have HV : Hid (vAdd m a b = (a + b) % p2 m.toNat) := by show vAdd m a b = _; simp [vAdd, h]
    have hp := p2_pos m.toNat
    go_enter Tryz.func101, Tryz.ntmps101
    go_wp2_with (first | (go_at_call 147; refine (sTwo _ _ _ _).mono ?_; rintro e w' ⟨rfl, rfl⟩) | (go_at_call 111; refine (spow _ _ (by omega) (by omega)).mono ?_; rintro e w' ⟨rfl, rfl⟩))
    go_ret
    exact ⟨ret_int HV.out.symm, rfl⟩

set_option maxHeartbeats 400000 in
theorem sSub (m a b : Int) (w : World) :
    Calls Tryz.prog 102 #[.int .i64 m, .int .i64 a, .int .i64 b] w fun e w' => e = .returned (.int .i64 (vSub m a b)) ∧ w' = w := by
  cases h : (wok m a && wok m b)
  · have HV : Hid (vSub m a b = 0) := by show vSub m a b = 0; simp [vSub, h]
    go_enter Tryz.func102, Tryz.ntmps102
    go_wp2_with (go_at_call 147; refine (sTwo _ _ _ _).mono ?_; rintro e w' ⟨rfl, rfl⟩)
    go_ret
    exact ⟨ret_int HV.out.symm, rfl⟩
  · obtain ⟨h1, h2, h3, h4, h5, h6, h7⟩ := two_iff h
    have HV : Hid (vSub m a b = (a + p2 m.toNat - b) % p2 m.toNat) := by show vSub m a b = _; rw [sub_spec]; simp [vSub, h]
    have hp := p2_pos m.toNat
    go_enter Tryz.func102, Tryz.ntmps102
    go_wp2_with (first | (go_at_call 147; refine (sTwo _ _ _ _).mono ?_; rintro e w' ⟨rfl, rfl⟩) | (go_at_call 111; refine (spow _ _ (by omega) (by omega)).mono ?_; rintro e w' ⟨rfl, rfl⟩))
    go_ret
    exact ⟨ret_int HV.out.symm, rfl⟩

set_option maxHeartbeats 400000 in
theorem sMul (m a b : Int) (w : World) :
    Calls Tryz.prog 103 #[.int .i64 m, .int .i64 a, .int .i64 b] w fun e w' => e = .returned (.int .i64 (vMul m a b)) ∧ w' = w := by
  cases h : (wok m a && wok m b)
  · have HV : Hid (vMul m a b = 0) := by show vMul m a b = 0; simp [vMul, h]
    go_enter Tryz.func103, Tryz.ntmps103
    go_wp2_with (go_at_call 147; refine (sTwo _ _ _ _).mono ?_; rintro e w' ⟨rfl, rfl⟩)
    go_ret
    exact ⟨ret_int HV.out.symm, rfl⟩
  · obtain ⟨h1, h2, h3, h4, h5, h6, h7⟩ := two_iff h
    have HV : Hid (vMul m a b = a * b % p2 m.toNat) := by show vMul m a b = _; simp [vMul, h]
    have hp := p2_pos m.toNat
    obtain ⟨hb1, hb2⟩ := mul_bd h3 (by omega) h5 (by omega)
    go_enter Tryz.func103, Tryz.ntmps103
    go_wp2_with (first | (go_at_call 147; refine (sTwo _ _ _ _).mono ?_; rintro e w' ⟨rfl, rfl⟩) | (go_at_call 111; refine (spow _ _ (by omega) (by omega)).mono ?_; rintro e w' ⟨rfl, rfl⟩))
    go_ret
    exact ⟨ret_int HV.out.symm, rfl⟩

end Go.Proofs.YtejgcchkhljnjaaGreat.Wd2

/- Walks of chapter 1, second part: division, shifts, flips, orders, joins and slices of words, in the program and in its model. -/
namespace Go.Proofs.YtejgcchkhljnjaaGreat.Wd3
open Go.RowKit
open Pl1 Wd1 Wd2
set_option linter.unusedVariables false

theorem div_bd {a b : Int} (ha : 0 ≤ a) (hb : 0 ≤ b) : 0 ≤ a / b ∧ a / b ≤ a := ⟨Int.ediv_nonneg ha hb, Int.ediv_le_self _ ha⟩
theorem rem_bd {a b : Int} (ha : 0 ≤ a) (hb : 0 ≤ b) (hz : ¬ b = 0) : 0 ≤ a % b ∧ a % b < b := ⟨Int.emod_nonneg _ hz, Int.emod_lt_of_pos _ (by omega)⟩

set_option maxHeartbeats 400000 in
theorem iDiv (m a b : Int) (w : World) :
    Calls Tryz.prog 176 #[.int .i64 m, .int .i64 a, .int .i64 b] w fun e w' => e = .returned (.int .i64 (vDiv m a b)) ∧ w' = w := by
  cases h : (wok m a && wok m b)
  · have HV : Hid (vDiv m a b = 0) := by show vDiv m a b = 0; simp [vDiv, h]
    go_enter Tryz.func176, Tryz.ntmps176
    go_wp2_with (go_at_call 200; refine (iTwo _ _ _ _).mono ?_; rintro e w' ⟨rfl, rfl⟩)
    go_ret
    exact ⟨ret_int HV.out.symm, rfl⟩
  · obtain ⟨h1, h2, h3, h4, h5, h6, h7⟩ := two_iff h
    by_cases hz : b = 0
    · subst hz
      have HV : Hid (vDiv m a 0 = p2 m.toNat - 1) := by show vDiv m a 0 = _; unfold vDiv; rw [h]; rfl
      have hp := p2_pos m.toNat
      go_enter Tryz.func176, Tryz.ntmps176
      go_wp2_with (first | (go_at_call 200; refine (iTwo _ _ _ _).mono ?_; rintro e w' ⟨rfl, rfl⟩) | (go_at_call 204; refine (over a _ m _ h3 (by omega) h5 (by omega) h1 h2).mono ?_; rintro e w' ⟨rfl, rfl⟩))
      all_goals
        go_ret
        exact ⟨ret_int HV.out.symm, rfl⟩
    · have HV : Hid (vDiv m a b = a / b) := by show vDiv m a b = _; simp [vDiv, h, hz]
      have hp := p2_pos m.toNat
      have hz' : (b == 0) = false := by simpa using hz
      obtain ⟨hd1, hd2⟩ := div_bd h3 h5
      go_enter Tryz.func176, Tryz.ntmps176
      go_wp2_with (first | (go_at_call 200; refine (iTwo _ _ _ _).mono ?_; rintro e w' ⟨rfl, rfl⟩) | (go_at_call 204; refine (over a _ m _ h3 (by omega) h5 (by omega) h1 h2).mono ?_; rintro e w' ⟨rfl, rfl⟩))
      all_goals
        go_ret
        exact ⟨ret_int HV.out.symm, rfl⟩

set_option maxHeartbeats 400000 in
theorem iRem (m a b : Int) (w : World) :
    Calls Tryz.prog 178 #[.int .i64 m, .int .i64 a, .int .i64 b] w fun e w' => e = .returned (.int .i64 (vRem m a b)) ∧ w' = w := by
  cases h : (wok m a && wok m b)
  · have HV : Hid (vRem m a b = 0) := by show vRem m a b = 0; simp [vRem, h]
    go_enter Tryz.func178, Tryz.ntmps178
    go_wp2_with (go_at_call 200; refine (iTwo _ _ _ _).mono ?_; rintro e w' ⟨rfl, rfl⟩)
    go_ret
    exact ⟨ret_int HV.out.symm, rfl⟩
  · obtain ⟨h1, h2, h3, h4, h5, h6, h7⟩ := two_iff h
    by_cases hz : b = 0
    · subst hz
      have HV : Hid (vRem m a 0 = a) := by show vRem m a 0 = _; unfold vRem; rw [h]; rfl
      have hp := p2_pos m.toNat
      go_enter Tryz.func178, Tryz.ntmps178
      go_wp2_with (first | (go_at_call 200; refine (iTwo _ _ _ _).mono ?_; rintro e w' ⟨rfl, rfl⟩) | (go_at_call 205; refine (rest a _ _ h3 (by omega) h5 (by omega)).mono ?_; rintro e w' ⟨rfl, rfl⟩))
      all_goals
        go_ret
        exact ⟨ret_int HV.out.symm, rfl⟩
    · have HV : Hid (vRem m a b = a % b) := by show vRem m a b = _; simp [vRem, h, hz]
      have hp := p2_pos m.toNat
      have hz' : (b == 0) = false := by simpa using hz
      obtain ⟨hd1, hd2⟩ := rem_bd h3 h5 hz
      go_enter Tryz.func178, Tryz.ntmps178
      go_wp2_with (first | (go_at_call 200; refine (iTwo _ _ _ _).mono ?_; rintro e w' ⟨rfl, rfl⟩) | (go_at_call 205; refine (rest a _ _ h3 (by omega) h5 (by omega)).mono ?_; rintro e w' ⟨rfl, rfl⟩))
      all_goals
        go_ret
        exact ⟨ret_int HV.out.symm, rfl⟩

set_option maxHeartbeats 400000 in
theorem sDiv (m a b : Int) (w : World) :
    Calls Tryz.prog 104 #[.int .i64 m, .int .i64 a, .int .i64 b] w fun e w' => e = .returned (.int .i64 (vDiv m a b)) ∧ w' = w := by
  cases h : (wok m a && wok m b)
  · have HV : Hid (vDiv m a b = 0) := by show vDiv m a b = 0; simp [vDiv, h]
    go_enter Tryz.func104, Tryz.ntmps104
    go_wp2_with (go_at_call 147; refine (sTwo _ _ _ _).mono ?_; rintro e w' ⟨rfl, rfl⟩)
    go_ret
    exact ⟨ret_int HV.out.symm, rfl⟩
  · obtain ⟨h1, h2, h3, h4, h5, h6, h7⟩ := two_iff h
    by_cases hz : b = 0
    · subst hz
      have HV : Hid (vDiv m a 0 = p2 m.toNat - 1) := by show vDiv m a 0 = _; unfold vDiv; rw [h]; rfl
      have hp := p2_pos m.toNat
      go_enter Tryz.func104, Tryz.ntmps104
      go_wp2_with (first | (go_at_call 147; refine (sTwo _ _ _ _).mono ?_; rintro e w' ⟨rfl, rfl⟩) | (go_at_call 111; refine (spow _ _ (by omega) (by omega)).mono ?_; rintro e w' ⟨rfl, rfl⟩))
      all_goals
        go_ret
        exact ⟨ret_int HV.out.symm, rfl⟩
    · have HV : Hid (vDiv m a b = a / b) := by show vDiv m a b = _; simp [vDiv, h, hz]
      have hp := p2_pos m.toNat
      have hz' : (b == 0) = false := by simpa using hz
      obtain ⟨hd1, hd2⟩ := div_bd h3 h5
      go_enter Tryz.func104, Tryz.ntmps104
      go_wp2_with (first | (go_at_call 147; refine (sTwo _ _ _ _).mono ?_; rintro e w' ⟨rfl, rfl⟩) | (go_at_call 111; refine (spow _ _ (by omega) (by omega)).mono ?_; rintro e w' ⟨rfl, rfl⟩))
      all_goals
        go_ret
        exact ⟨ret_int HV.out.symm, rfl⟩

set_option maxHeartbeats 400000 in
theorem sRem (m a b : Int) (w : World) :
    Calls Tryz.prog 105 #[.int .i64 m, .int .i64 a, .int .i64 b] w fun e w' => e = .returned (.int .i64 (vRem m a b)) ∧ w' = w := by
  cases h : (wok m a && wok m b)
  · have HV : Hid (vRem m a b = 0) := by show vRem m a b = 0; simp [vRem, h]
    go_enter Tryz.func105, Tryz.ntmps105
    go_wp2_with (go_at_call 147; refine (sTwo _ _ _ _).mono ?_; rintro e w' ⟨rfl, rfl⟩)
    go_ret
    exact ⟨ret_int HV.out.symm, rfl⟩
  · obtain ⟨h1, h2, h3, h4, h5, h6, h7⟩ := two_iff h
    by_cases hz : b = 0
    · subst hz
      have HV : Hid (vRem m a 0 = a) := by show vRem m a 0 = _; unfold vRem; rw [h]; rfl
      have hp := p2_pos m.toNat
      go_enter Tryz.func105, Tryz.ntmps105
      go_wp2_with (first | (go_at_call 147; refine (sTwo _ _ _ _).mono ?_; rintro e w' ⟨rfl, rfl⟩) | fail)
      all_goals
        go_ret
        exact ⟨ret_int HV.out.symm, rfl⟩
    · have HV : Hid (vRem m a b = a % b) := by show vRem m a b = _; simp [vRem, h, hz]
      have hp := p2_pos m.toNat
      have hz' : (b == 0) = false := by simpa using hz
      obtain ⟨hd1, hd2⟩ := rem_bd h3 h5 hz
      go_enter Tryz.func105, Tryz.ntmps105
      go_wp2_with (first | (go_at_call 147; refine (sTwo _ _ _ _).mono ?_; rintro e w' ⟨rfl, rfl⟩) | fail)
      all_goals
        go_ret
        exact ⟨ret_int HV.out.symm, rfl⟩

end Go.Proofs.YtejgcchkhljnjaaGreat.Wd3

/- Walks of chapter 1, third part: shifts, flips and orders of words, in the program and in its model. -/
namespace Go.Proofs.YtejgcchkhljnjaaGreat.Wd4
open Go.RowKit
open Pl1 Wd1 Wd2 Wd3
set_option linter.unusedVariables false

theorem shl_zero (a : Int) {m b : Int} (h1 : 1 ≤ m) (h : m ≤ b) : a * p2 b.toNat % p2 m.toNat = 0 := by
  have e : p2 b.toNat = p2 m.toNat * p2 (b - m).toNat := by
    unfold p2; rw [← Int.pow_add, show m.toNat + (b - m).toNat = b.toNat by omega]
  rw [e, ← Int.mul_assoc, Int.mul_comm a, Int.mul_assoc]
  exact Int.mul_emod_right _ _
theorem shr_zero {a m b : Int} (h0 : 0 ≤ a) (h : m ≤ b) (ha : a < p2 m.toNat) : a / p2 b.toNat = 0 := by
  have := p2_mono (show m.toNat ≤ b.toNat by omega)
  exact Int.ediv_eq_zero_of_lt h0 (by omega)

set_option maxHeartbeats 400000 in
theorem iShl (m a b : Int) (w : World) :
    Calls Tryz.prog 180 #[.int .i64 m, .int .i64 a, .int .i64 b] w fun e w' => e = .returned (.int .i64 (vShl m a b)) ∧ w' = w := by
  cases h : (wok m a && wok m b)
  · have HV : Hid (vShl m a b = 0) := by show vShl m a b = 0; simp [vShl, h]
    go_enter Tryz.func180, Tryz.ntmps180
    go_wp2_with (go_at_call 200; refine (iTwo _ _ _ _).mono ?_; rintro e w' ⟨rfl, rfl⟩)
    go_ret
    exact ⟨ret_int HV.out.symm, rfl⟩
  · obtain ⟨h1, h2, h3, h4, h5, h6, h7⟩ := two_iff h
    by_cases hb : b ≤ 7
    · have HV : Hid (vShl m a b = a * p2 b.toNat % p2 m.toNat) := by
        show vShl m a b = _
        unfold vShl; rw [h, if_pos rfl]
        by_cases hc : m ≤ b
        · rw [if_pos hc, shl_zero a h1 hc]
        · rw [if_neg hc]
      have hm := emod_le (a := a * p2 b.toNat) m.toNat
      go_enter Tryz.func180, Tryz.ntmps180
      go_wp2_with (first | (go_at_call 200; refine (iTwo _ _ _ _).mono ?_; rintro e w' ⟨rfl, rfl⟩) | (go_at_call 206; refine (up a _ m _ h3 (by omega) h5 (by omega) h1 h2).mono ?_; rintro e w' ⟨rfl, rfl⟩))
      go_ret
      exact ⟨ret_int HV.out.symm, rfl⟩
    · have HV : Hid (vShl m a b = 0) := by
        show vShl m a b = _
        unfold vShl; rw [h, if_pos rfl, if_pos (by omega)]
      go_enter Tryz.func180, Tryz.ntmps180
      go_wp2_with (first | (go_at_call 200; refine (iTwo _ _ _ _).mono ?_; rintro e w' ⟨rfl, rfl⟩) | (go_at_call 206; refine (upFar a _ m _ h3 (by omega) (by omega) h1 h2).mono ?_; rintro e w' ⟨rfl, rfl⟩))
      go_ret
      exact ⟨ret_int HV.out.symm, rfl⟩

set_option maxHeartbeats 400000 in
theorem sShl (m a b : Int) (w : World) :
    Calls Tryz.prog 106 #[.int .i64 m, .int .i64 a, .int .i64 b] w fun e w' => e = .returned (.int .i64 (vShl m a b)) ∧ w' = w := by
  cases h : (wok m a && wok m b)
  · have HV : Hid (vShl m a b = 0) := by show vShl m a b = 0; simp [vShl, h]
    go_enter Tryz.func106, Tryz.ntmps106
    go_wp2_with (go_at_call 147; refine (sTwo _ _ _ _).mono ?_; rintro e w' ⟨rfl, rfl⟩)
    go_ret
    exact ⟨ret_int HV.out.symm, rfl⟩
  · obtain ⟨h1, h2, h3, h4, h5, h6, h7⟩ := two_iff h
    have hp := p2_pos m.toNat
    by_cases hc : m ≤ b
    · have HV : Hid (vShl m a b = 0) := by
        show vShl m a b = _
        unfold vShl; rw [h, if_pos rfl, if_pos hc]
      go_enter Tryz.func106, Tryz.ntmps106
      go_wp2_with (go_at_call 147; refine (sTwo _ _ _ _).mono ?_; rintro e w' ⟨rfl, rfl⟩)
      go_ret
      exact ⟨ret_int HV.out.symm, rfl⟩
    · have HV : Hid (vShl m a b = a * p2 b.toNat % p2 m.toNat) := by
        show vShl m a b = _
        unfold vShl; rw [h, if_pos rfl, if_neg hc]
      have hq := p2_pos b.toNat
      have hr := p2_mono (show b.toNat ≤ 7 by omega)
      have hr7 : p2 7 = 128 := rfl
      obtain ⟨hb1, hb2⟩ := mul_bd h3 (show a ≤ 255 by omega) (show 0 ≤ p2 b.toNat by omega) (by omega)
      go_enter Tryz.func106, Tryz.ntmps106
      go_wp2_with (first | (go_at_call 147; refine (sTwo _ _ _ _).mono ?_; rintro e w' ⟨rfl, rfl⟩) | (go_at_call 111; refine (spow _ _ (by omega) (by omega)).mono ?_; rintro e w' ⟨rfl, rfl⟩))
      go_ret
      exact ⟨ret_int HV.out.symm, rfl⟩

set_option maxHeartbeats 400000 in
theorem iShr (m a b : Int) (w : World) :
    Calls Tryz.prog 182 #[.int .i64 m, .int .i64 a, .int .i64 b] w fun e w' => e = .returned (.int .i64 (vShr m a b)) ∧ w' = w := by
  cases h : (wok m a && wok m b)
  · have HV : Hid (vShr m a b = 0) := by show vShr m a b = 0; simp [vShr, h]
    go_enter Tryz.func182, Tryz.ntmps182
    go_wp2_with (go_at_call 200; refine (iTwo _ _ _ _).mono ?_; rintro e w' ⟨rfl, rfl⟩)
    go_ret
    exact ⟨ret_int HV.out.symm, rfl⟩
  · obtain ⟨h1, h2, h3, h4, h5, h6, h7⟩ := two_iff h
    by_cases hb : b ≤ 7
    · have HV : Hid (vShr m a b = a / p2 b.toNat) := by
        show vShr m a b = _
        unfold vShr; rw [h, if_pos rfl]
        by_cases hc : m ≤ b
        · rw [if_pos hc, shr_zero h3 hc h4]
        · rw [if_neg hc]
      obtain ⟨hd1, hd2⟩ := div_bd h3 (show 0 ≤ p2 b.toNat by have := p2_pos b.toNat; omega)
      go_enter Tryz.func182, Tryz.ntmps182
      go_wp2_with (first | (go_at_call 200; refine (iTwo _ _ _ _).mono ?_; rintro e w' ⟨rfl, rfl⟩) | (go_at_call 207; refine (down a _ _ h3 (by omega) h5 (by omega)).mono ?_; rintro e w' ⟨rfl, rfl⟩))
      go_ret
      exact ⟨ret_int HV.out.symm, rfl⟩
    · have HV : Hid (vShr m a b = 0) := by
        show vShr m a b = _
        unfold vShr; rw [h, if_pos rfl, if_pos (by omega)]
      go_enter Tryz.func182, Tryz.ntmps182
      go_wp2_with (first | (go_at_call 200; refine (iTwo _ _ _ _).mono ?_; rintro e w' ⟨rfl, rfl⟩) | (go_at_call 207; refine (downFar a _ _ h3 (by omega) (by omega)).mono ?_; rintro e w' ⟨rfl, rfl⟩))
      go_ret
      exact ⟨ret_int HV.out.symm, rfl⟩

set_option maxHeartbeats 400000 in
theorem sShr (m a b : Int) (w : World) :
    Calls Tryz.prog 107 #[.int .i64 m, .int .i64 a, .int .i64 b] w fun e w' => e = .returned (.int .i64 (vShr m a b)) ∧ w' = w := by
  cases h : (wok m a && wok m b)
  · have HV : Hid (vShr m a b = 0) := by show vShr m a b = 0; simp [vShr, h]
    go_enter Tryz.func107, Tryz.ntmps107
    go_wp2_with (go_at_call 147; refine (sTwo _ _ _ _).mono ?_; rintro e w' ⟨rfl, rfl⟩)
    go_ret
    exact ⟨ret_int HV.out.symm, rfl⟩
  · obtain ⟨h1, h2, h3, h4, h5, h6, h7⟩ := two_iff h
    have hp := p2_pos m.toNat
    by_cases hc : m ≤ b
    · have HV : Hid (vShr m a b = 0) := by
        show vShr m a b = _
        unfold vShr; rw [h, if_pos rfl, if_pos hc]
      go_enter Tryz.func107, Tryz.ntmps107
      go_wp2_with (go_at_call 147; refine (sTwo _ _ _ _).mono ?_; rintro e w' ⟨rfl, rfl⟩)
      go_ret
      exact ⟨ret_int HV.out.symm, rfl⟩
    · have HV : Hid (vShr m a b = a / p2 b.toNat) := by
        show vShr m a b = _
        unfold vShr; rw [h, if_pos rfl, if_neg hc]
      have hq := p2_pos b.toNat
      obtain ⟨hd1, hd2⟩ := div_bd h3 (show 0 ≤ p2 b.toNat by omega)
      go_enter Tryz.func107, Tryz.ntmps107
      go_wp2_with (first | (go_at_call 147; refine (sTwo _ _ _ _).mono ?_; rintro e w' ⟨rfl, rfl⟩) | (go_at_call 111; refine (spow _ _ (by omega) (by omega)).mono ?_; rintro e w' ⟨rfl, rfl⟩))
      go_ret
      exact ⟨ret_int HV.out.symm, rfl⟩

set_option maxHeartbeats 400000 in
theorem iFlip (m a : Int) (w : World) :
    Calls Tryz.prog 165 #[.int .i64 m, .int .i64 a] w fun e w' => e = .returned (.int .i64 (vFlip m a)) ∧ w' = w := by
  cases h : wok m a
  · have HV : Hid (vFlip m a = 0) := by show vFlip m a = 0; simp [vFlip, h]
    go_enter Tryz.func165, Tryz.ntmps165
    go_wp2_with (go_at_call 151; refine (iWordOk _ _ _).mono ?_; rintro e w' ⟨rfl, rfl⟩)
    go_ret
    exact ⟨ret_int HV.out.symm, rfl⟩
  · obtain ⟨h1, h2, h3, h4, h7⟩ := one_iff h
    have HV : Hid (vFlip m a = p2 m.toNat - 1 - a) := by show vFlip m a = _; simp [vFlip, h]
    go_enter Tryz.func165, Tryz.ntmps165
    go_wp2_with (first | (go_at_call 151; refine (iWordOk _ _ _).mono ?_; rintro e w' ⟨rfl, rfl⟩) | (go_at_call 199; refine (flip a m _ h3 h4 h1 h2).mono ?_; rintro e w' ⟨rfl, rfl⟩))
    go_ret
    exact ⟨ret_int HV.out.symm, rfl⟩

set_option maxHeartbeats 400000 in
theorem sFlip (m a : Int) (w : World) :
    Calls Tryz.prog 100 #[.int .i64 m, .int .i64 a] w fun e w' => e = .returned (.int .i64 (vFlip m a)) ∧ w' = w := by
  cases h : wok m a
  · have HV : Hid (vFlip m a = 0) := by show vFlip m a = 0; simp [vFlip, h]
    go_enter Tryz.func100, Tryz.ntmps100
    go_wp2_with (go_at_call 139; refine (sWordOk _ _ _).mono ?_; rintro e w' ⟨rfl, rfl⟩)
    go_ret
    exact ⟨ret_int HV.out.symm, rfl⟩
  · obtain ⟨h1, h2, h3, h4, h7⟩ := one_iff h
    have HV : Hid (vFlip m a = p2 m.toNat - 1 - a) := by show vFlip m a = _; simp [vFlip, h]
    go_enter Tryz.func100, Tryz.ntmps100
    go_wp2_with (first | (go_at_call 139; refine (sWordOk _ _ _).mono ?_; rintro e w' ⟨rfl, rfl⟩) | (go_at_call 111; refine (spow _ _ (by omega) (by omega)).mono ?_; rintro e w' ⟨rfl, rfl⟩))
    go_ret
    exact ⟨ret_int HV.out.symm, rfl⟩

set_option maxHeartbeats 400000 in
theorem sSigned (m a : Int) (w : World) :
    Calls Tryz.prog 148 #[.int .i64 m, .int .i64 a] w fun e w' => e = .returned (.int .i64 (vSigned m a)) ∧ w' = w := by
  cases h : wok m a
  · have HV : Hid (vSigned m a = 0) := by show vSigned m a = 0; simp [vSigned, h]
    go_enter Tryz.func148, Tryz.ntmps148
    go_wp2_with (go_at_call 139; refine (sWordOk _ _ _).mono ?_; rintro e w' ⟨rfl, rfl⟩)
    go_ret
    exact ⟨ret_int HV.out.symm, rfl⟩
  · obtain ⟨h1, h2, h3, h4, h7⟩ := one_iff h
    have hq := p2_pos m.toNat
    by_cases hs : p2 (m - 1).toNat ≤ a
    · have HV : Hid (vSigned m a = a - p2 m.toNat) := by show vSigned m a = _; simp only [vSigned, h, if_pos]; exact sgn_pos hs
      have hs2 : p2 (m.toNat - 1) ≤ a := by rw [show m.toNat - 1 = (m - 1).toNat by omega]; exact hs
      have hr := p2_pos (m - 1).toNat
      go_enter Tryz.func148, Tryz.ntmps148
      go_wp2_with (first | (go_at_call 139; refine (sWordOk _ _ _).mono ?_; rintro e w' ⟨rfl, rfl⟩) | (go_at_call 111; refine (spow _ _ (by omega) (by omega)).mono ?_; rintro e w' ⟨rfl, rfl⟩))
      go_ret
      exact ⟨ret_int HV.out.symm, rfl⟩
    · have HV : Hid (vSigned m a = a) := by show vSigned m a = _; simp only [vSigned, h, if_pos]; exact sgn_neg hs
      have hs2 : ¬ p2 (m.toNat - 1) ≤ a := by rw [show m.toNat - 1 = (m - 1).toNat by omega]; exact hs
      have hr := p2_pos (m - 1).toNat
      go_enter Tryz.func148, Tryz.ntmps148
      go_wp2_with (first | (go_at_call 139; refine (sWordOk _ _ _).mono ?_; rintro e w' ⟨rfl, rfl⟩) | (go_at_call 111; refine (spow _ _ (by omega) (by omega)).mono ?_; rintro e w' ⟨rfl, rfl⟩))
      go_ret
      exact ⟨ret_int HV.out.symm, rfl⟩

set_option maxHeartbeats 400000 in
theorem iOne (b : Bool) (w : World) :
    Calls Tryz.prog 152 #[.bool b] w fun e w' => e = .returned (.int .i64 (if b then 1 else 0)) ∧ w' = w := by
  cases b
  all_goals
    go_enter Tryz.func152, Tryz.ntmps152
    go_wp2
    go_ret
    exact ⟨rfl, rfl⟩

set_option maxHeartbeats 400000 in
theorem sOne (b : Bool) (w : World) :
    Calls Tryz.prog 108 #[.bool b] w fun e w' => e = .returned (.int .i64 (if b then 1 else 0)) ∧ w' = w := by
  cases b
  all_goals
    go_enter Tryz.func108, Tryz.ntmps108
    go_wp2
    go_ret
    exact ⟨rfl, rfl⟩

end Go.Proofs.YtejgcchkhljnjaaGreat.Wd4
