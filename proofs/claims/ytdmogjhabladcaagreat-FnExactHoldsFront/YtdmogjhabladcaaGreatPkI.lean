/- Small texts of mine, one behind the other. -/
import Derived.Test.YtdmogjhabladcaaGreatRows
import Derived.WalkKit
import Derived.WalkSpells
import Derived.WalkLawsBesides
import Derived.Deep.QuietTactic
import Derived.BigQuiet
import Derived.Test.YtdmogjhabladcaaGreatPkA
/- Walks of chapter 1: the small functions on words, in the program and in its model. -/
namespace Go.Proofs.YtdmogjhabladcaaGreat.Wd1
open Go.RowKit
open Pl1
set_option linter.unusedVariables false

theorem ret_int {k : IntKind} {a b : Int} (h : a = b) : Ending.returned (.int k a) = .returned (.int k b) := by rw [h]
theorem ret_bool {a b : Bool} (h : a = b) : Ending.returned (.bool a) = .returned (.bool b) := by rw [h]

set_option maxHeartbeats 400000 in
theorem spow (m : Int) (w : World) (h0 : 0 ≤ m) (h1 : m ≤ 8) :
    Calls Tryz.prog 91 #[.int .i64 m] w fun e w' => e = .returned (.int .i64 (p2 m.toNat)) ∧ w' = w := by
  obtain ⟨n, rfl⟩ := Int.eq_ofNat_of_zero_le h0
  rw [Int.toNat_natCast]
  go_enter Tryz.func91, Tryz.ntmps91
  go_wp2
  go_loop [3, 4] (fun x i => ∃ k : Nat, k ≤ n ∧ i = .int .i64 k ∧ x = .int .i64 (p2 k)) (fun _ i => n - (intOf i).toNat)
  case atStart => exact ⟨0, Nat.zero_le _, rfl, rfl⟩
  case round =>
    obtain ⟨k, hk, rfl, rfl⟩ := hrel
    have hp := p2_pos k
    have hl := p2_le k (by omega)
    by_cases hlt : k < n
    · go_wp2
      go_round
      case rel => exact ⟨k + 1, by omega, by go_num, by rw [p2_succ]⟩
      case measure => simp [intOf]; omega
    · go_wp2
      go_ret
      have : k = n := by omega
      subst this
      exact ⟨rfl, rfl⟩

set_option maxHeartbeats 400000 in
theorem mask (m : Int) (w : World) (h0 : 1 ≤ m) (h1 : m ≤ 8) :
    Calls Tryz.prog 182 #[.int .i64 m] w fun e w' => e = .returned (.int .u8 (p2 m.toNat - 1)) ∧ w' = w := by
  rcases eight h0 h1 with rfl | rfl | rfl | rfl | rfl | rfl | rfl | rfl
  all_goals
    go_enter Tryz.func182, Tryz.ntmps182
    go_wp2
    go_ret
    exact ⟨rfl, rfl⟩

set_option maxHeartbeats 400000 in
theorem cut (a m : Int) (w : World) (ha : 0 ≤ a) (hb : a ≤ 255) (h0 : 1 ≤ m) (h1 : m ≤ 8) :
    Calls Tryz.prog 181 #[.int .u8 a, .int .i64 m] w fun e w' => e = .returned (.int .u8 (a % p2 m.toNat)) ∧ w' = w := by
  have hm := and_mask a m.toNat ha hb (by omega)
  go_enter Tryz.func181, Tryz.ntmps181
  go_wp2_with (go_at_call 182; refine (mask m _ h0 h1).mono ?_; rintro e w' ⟨rfl, rfl⟩)
  go_ret
  exact ⟨rfl, rfl⟩

set_option maxHeartbeats 400000 in
theorem sIn (x a b : Int) (w : World) :
    Calls Tryz.prog 44 #[.int .i64 x, .int .i64 a, .int .i64 b] w fun e w' => e = .returned (.bool (decide (a ≤ x ∧ x ≤ b))) ∧ w' = w := by
  by_cases h1 : a ≤ x <;> by_cases h2 : x ≤ b
  all_goals
    go_enter Tryz.func44, Tryz.ntmps44
    go_wp2
    go_ret
    exact ⟨ret_bool (by simp <;> omega), rfl⟩

set_option maxHeartbeats 400000 in
theorem sWordOk (m a : Int) (w : World) :
    Calls Tryz.prog 85 #[.int .i64 m, .int .i64 a] w fun e w' => e = .returned (.bool (wok m a)) ∧ w' = w := by
  by_cases h : 1 ≤ m ∧ m ≤ 8
  · have hp := p2_pos m.toNat
    have hl := p2_le m.toNat (by omega)
    have hd : decide (1 ≤ m ∧ m ≤ 8) = true := by simpa using h
    go_enter Tryz.func85, Tryz.ntmps85
    go_wp2_with (first | (go_at_call 44; refine (sIn _ _ _ _).mono ?_; rintro e w' ⟨rfl, rfl⟩) | (go_at_call 91; refine (spow m _ (by omega) (by omega)).mono ?_; rintro e w' ⟨rfl, rfl⟩))
    go_ret
    exact ⟨ret_bool (by rw [Bool.eq_iff_iff]; simp [wok]; omega), rfl⟩
  · have hd : decide (1 ≤ m ∧ m ≤ 8) = false := by simpa using h
    go_enter Tryz.func85, Tryz.ntmps85
    go_wp2_with (go_at_call 44; refine (sIn _ _ _ _).mono ?_; rintro e w' ⟨rfl, rfl⟩)
    go_ret
    exact ⟨ret_bool (by unfold wok; symm; rw [decide_eq_false_iff_not]; omega), rfl⟩

set_option maxHeartbeats 400000 in
theorem sTwo (m a b : Int) (w : World) :
    Calls Tryz.prog 169 #[.int .i64 m, .int .i64 a, .int .i64 b] w fun e w' => e = .returned (.bool (wok m a && wok m b)) ∧ w' = w := by
  cases hA : wok m a
  all_goals
    go_enter Tryz.func169, Tryz.ntmps169
    go_wp2_with (go_at_call 85; refine (sWordOk _ _ _).mono ?_; rintro e w' ⟨rfl, rfl⟩)
    go_ret
    exact ⟨ret_bool (by simp), rfl⟩

set_option maxHeartbeats 400000 in
theorem iWidthOk (m : Int) (w : World) :
    Calls Tryz.prog 93 #[.int .i64 m] w fun e w' => e = .returned (.bool (decide (1 ≤ m ∧ m ≤ 8))) ∧ w' = w := by
  by_cases h1 : 1 ≤ m <;> by_cases h2 : m ≤ 8
  all_goals
    go_enter Tryz.func93, Tryz.ntmps93
    go_wp2
    go_ret
    exact ⟨ret_bool (by simp <;> omega), rfl⟩

set_option maxHeartbeats 400000 in
theorem iWordOk (m a : Int) (w : World) :
    Calls Tryz.prog 54 #[.int .i64 m, .int .i64 a] w fun e w' => e = .returned (.bool (wok m a)) ∧ w' = w := by
  by_cases h : 1 ≤ m ∧ m ≤ 8
  · have hd : decide (1 ≤ m ∧ m ≤ 8) = true := by simpa using h
    by_cases ha : 0 ≤ a
    all_goals
      go_enter Tryz.func54, Tryz.ntmps54
      go_wp2_with (go_at_call 93; refine (iWidthOk _ _).mono ?_; rintro e w' ⟨rfl, rfl⟩)
      go_ret
      exact ⟨ret_bool (by rw [Bool.eq_iff_iff]; try rw [wrap_p2 _ (by omega)]
                          simp [wok]; omega), rfl⟩
  · have hd : decide (1 ≤ m ∧ m ≤ 8) = false := by simpa using h
    go_enter Tryz.func54, Tryz.ntmps54
    go_wp2_with (go_at_call 93; refine (iWidthOk _ _).mono ?_; rintro e w' ⟨rfl, rfl⟩)
    go_ret
    exact ⟨ret_bool (by unfold wok; symm; rw [decide_eq_false_iff_not]; omega), rfl⟩

set_option maxHeartbeats 400000 in
theorem iTwo (m a b : Int) (w : World) :
    Calls Tryz.prog 172 #[.int .i64 m, .int .i64 a, .int .i64 b] w fun e w' => e = .returned (.bool (wok m a && wok m b)) ∧ w' = w := by
  cases hA : wok m a
  all_goals
    go_enter Tryz.func172, Tryz.ntmps172
    go_wp2_with (go_at_call 54; refine (iWordOk _ _ _).mono ?_; rintro e w' ⟨rfl, rfl⟩)
    go_ret
    exact ⟨ret_bool (by simp), rfl⟩

set_option maxHeartbeats 400000 in
theorem plus (a b m : Int) (w : World) (ha : 0 ≤ a) (ha' : a ≤ 255) (hb : 0 ≤ b) (hb' : b ≤ 255) (h0 : 1 ≤ m) (h1 : m ≤ 8) :
    Calls Tryz.prog 173 #[.int .u8 a, .int .i64 m, .int .u8 b] w fun e w' => e = .returned (.int .u8 ((a + b) % p2 m.toNat)) ∧ w' = w := by
  go_enter Tryz.func173, Tryz.ntmps173
  go_wp2_with (go_at_call 181; refine (cut _ m _ (by omega) (by omega) h0 h1).mono ?_; rintro e w' ⟨rfl, rfl⟩)
  go_ret
  exact ⟨ret_int (mod256 _ _ (by omega)), rfl⟩

set_option maxHeartbeats 400000 in
theorem minus (a b m : Int) (w : World) (ha : 0 ≤ a) (ha' : a ≤ 255) (hb : 0 ≤ b) (hb' : b ≤ 255) (h0 : 1 ≤ m) (h1 : m ≤ 8) :
    Calls Tryz.prog 174 #[.int .u8 a, .int .i64 m, .int .u8 b] w fun e w' => e = .returned (.int .u8 ((a - b) % p2 m.toNat)) ∧ w' = w := by
  go_enter Tryz.func174, Tryz.ntmps174
  go_wp2_with (go_at_call 181; refine (cut _ m _ (by omega) (by omega) h0 h1).mono ?_; rintro e w' ⟨rfl, rfl⟩)
  go_ret
  exact ⟨ret_int (mod256 _ _ (by omega)), rfl⟩

set_option maxHeartbeats 400000 in
theorem times (a b m : Int) (w : World) (ha : 0 ≤ a) (ha' : a ≤ 255) (hb : 0 ≤ b) (hb' : b ≤ 255) (h0 : 1 ≤ m) (h1 : m ≤ 8) :
    Calls Tryz.prog 175 #[.int .u8 a, .int .i64 m, .int .u8 b] w fun e w' => e = .returned (.int .u8 (a * b % p2 m.toNat)) ∧ w' = w := by
  go_enter Tryz.func175, Tryz.ntmps175
  go_wp2_with (go_at_call 181; refine (cut _ m _ (by omega) (by omega) h0 h1).mono ?_; rintro e w' ⟨rfl, rfl⟩)
  go_ret
  exact ⟨ret_int (mod256 _ _ (by omega)), rfl⟩

set_option maxHeartbeats 400000 in
theorem over (a b m : Int) (w : World) (ha : 0 ≤ a) (ha' : a ≤ 255) (hb : 0 ≤ b) (hb' : b ≤ 255) (h0 : 1 ≤ m) (h1 : m ≤ 8) :
    Calls Tryz.prog 176 #[.int .u8 a, .int .i64 m, .int .u8 b] w fun e w' => e = .returned (.int .u8 (if b = 0 then p2 m.toNat - 1 else a / b)) ∧ w' = w := by
  by_cases hz : b = 0
  · subst hz
    go_enter Tryz.func176, Tryz.ntmps176
    go_wp2_with (go_at_call 182; refine (mask m _ h0 h1).mono ?_; rintro e w' ⟨rfl, rfl⟩)
    go_ret
    exact ⟨rfl, rfl⟩
  · have hz' : (b == 0) = false := by simpa using hz
    go_enter Tryz.func176, Tryz.ntmps176
    go_wp2
    go_ret
    exact ⟨rfl, rfl⟩

set_option maxHeartbeats 400000 in
theorem rest (a b : Int) (w : World) (ha : 0 ≤ a) (ha' : a ≤ 255) (hb : 0 ≤ b) (hb' : b ≤ 255) :
    Calls Tryz.prog 177 #[.int .u8 a, .int .u8 b] w fun e w' => e = .returned (.int .u8 (if b = 0 then a else a % b)) ∧ w' = w := by
  by_cases hz : b = 0
  · subst hz
    go_enter Tryz.func177, Tryz.ntmps177
    go_wp2
    go_ret
    exact ⟨rfl, rfl⟩
  · have hz' : (b == 0) = false := by simpa using hz
    go_enter Tryz.func177, Tryz.ntmps177
    go_wp2
    go_ret
    exact ⟨rfl, rfl⟩

set_option maxHeartbeats 400000 in
theorem up (a b m : Int) (w : World) (ha : 0 ≤ a) (ha' : a ≤ 255) (hb : 0 ≤ b) (hb' : b ≤ 7) (h0 : 1 ≤ m) (h1 : m ≤ 8) :
    Calls Tryz.prog 178 #[.int .u8 a, .int .i64 m, .int .u8 b] w fun e w' => e = .returned (.int .u8 (a * p2 b.toNat % p2 m.toNat)) ∧ w' = w := by
  go_enter Tryz.func178, Tryz.ntmps178
  go_wp2_with (go_at_call 181; refine (cut _ m _ (by omega) (by omega) h0 h1).mono ?_; rintro e w' ⟨rfl, rfl⟩)
  go_ret
  exact ⟨ret_int (mod256 _ _ (by omega)), rfl⟩

set_option maxHeartbeats 400000 in
theorem upFar (a b m : Int) (w : World) (ha : 0 ≤ a) (ha' : a ≤ 255) (hb : 8 ≤ b) (h0 : 1 ≤ m) (h1 : m ≤ 8) :
    Calls Tryz.prog 178 #[.int .u8 a, .int .i64 m, .int .u8 b] w fun e w' => e = .returned (.int .u8 0) ∧ w' = w := by
  have hs := shl8 a b .u8 hb
  go_enter Tryz.func178, Tryz.ntmps178
  go_wp2_with (go_at_call 181; refine (cut _ m _ (by omega) (by omega) h0 h1).mono ?_; rintro e w' ⟨rfl, rfl⟩)
  go_ret
  exact ⟨ret_int (by simp), rfl⟩

set_option maxHeartbeats 400000 in
theorem down (a b : Int) (w : World) (ha : 0 ≤ a) (ha' : a ≤ 255) (hb : 0 ≤ b) (hb' : b ≤ 7) :
    Calls Tryz.prog 179 #[.int .u8 a, .int .u8 b] w fun e w' => e = .returned (.int .u8 (a / p2 b.toNat)) ∧ w' = w := by
  go_enter Tryz.func179, Tryz.ntmps179
  go_wp2
  go_ret
  exact ⟨rfl, rfl⟩

set_option maxHeartbeats 400000 in
theorem downFar (a b : Int) (w : World) (ha : 0 ≤ a) (ha' : a ≤ 255) (hb : 8 ≤ b) :
    Calls Tryz.prog 179 #[.int .u8 a, .int .u8 b] w fun e w' => e = .returned (.int .u8 0) ∧ w' = w := by
  have hs := shr8 a b .u8 hb ha ha'
  go_enter Tryz.func179, Tryz.ntmps179
  go_wp2
  go_ret
  exact ⟨rfl, rfl⟩

set_option maxHeartbeats 400000 in
theorem flip (a m : Int) (w : World) (ha : 0 ≤ a) (ha' : a < p2 m.toNat) (h0 : 1 ≤ m) (h1 : m ≤ 8) :
    Calls Tryz.prog 171 #[.int .u8 a, .int .i64 m] w fun e w' => e = .returned (.int .u8 (p2 m.toNat - 1 - a)) ∧ w' = w := by
  have hl := p2_le m.toNat (by omega)
  have hx := xor255 a ha (by omega)
  have HF : Hid ((255 - a) % p2 m.toNat = p2 m.toNat - 1 - a) := flip_spec a _ (by omega) ha ha'
  go_enter Tryz.func171, Tryz.ntmps171
  go_wp2_with (go_at_call 181; refine (cut _ m _ (by omega) (by omega) h0 h1).mono ?_; rintro e w' ⟨rfl, rfl⟩)
  go_ret
  exact ⟨ret_int HF.out, rfl⟩

set_option maxHeartbeats 400000 in
theorem signed (a m : Int) (w : World) (ha : 0 ≤ a) (ha' : a < p2 m.toNat) (h0 : 1 ≤ m) (h1 : m ≤ 8) :
    Calls Tryz.prog 180 #[.int .u8 a, .int .i64 m] w fun e w' => e = .returned (.int .i64 (sgn m a)) ∧ w' = w := by
  have hp := p2_le m.toNat (by omega)
  have hq := p2_pos m.toNat
  have HW : Hid (wrap64 (2 ^ m.toNat) = p2 m.toNat) := wrap_p2 _ (by omega)
  by_cases hs : p2 (m - 1).toNat ≤ a
  · have hd : (a / 2 ^ (m.toNat - 1) == 0) = false := sgn_hi h0 hs
    have HS : Hid (sgn m a = a - p2 m.toNat) := sgn_pos hs
    clear hs
    go_enter Tryz.func180, Tryz.ntmps180
    go_wp2
    go_ret
    exact ⟨ret_int (by rw [HS.out, HW.out]; unfold wrap64; omega), rfl⟩
  · have hd : (a / 2 ^ (m.toNat - 1) == 0) = true := sgn_lo h0 ha hs
    have HS : Hid (sgn m a = a) := sgn_neg hs
    clear hs
    go_enter Tryz.func180, Tryz.ntmps180
    go_wp2
    go_ret
    exact ⟨ret_int (by rw [HS.out]), rfl⟩

end Go.Proofs.YtdmogjhabladcaaGreat.Wd1

/- Walks of chapter 1: the operations on words, in the program and in its model: each answers the same plain function. -/
namespace Go.Proofs.YtdmogjhabladcaaGreat.Wd2
open Go.RowKit
open Pl1 Wd1
set_option linter.unusedVariables false

theorem two_iff {m a b : Int} (h : (wok m a && wok m b) = true) : 1 ≤ m ∧ m ≤ 8 ∧ 0 ≤ a ∧ a < p2 m.toNat ∧ 0 ≤ b ∧ b < p2 m.toNat ∧ p2 m.toNat ≤ 256 := by
  rw [Bool.and_eq_true] at h
  obtain ⟨h1, h2, h3, h4⟩ := wok_iff.1 h.1
  obtain ⟨_, _, h5, h6⟩ := wok_iff.1 h.2
  exact ⟨h1, h2, h3, h4, h5, h6, p2_le _ (by omega)⟩
theorem one_iff {m a : Int} (h : wok m a = true) : 1 ≤ m ∧ m ≤ 8 ∧ 0 ≤ a ∧ a < p2 m.toNat ∧ p2 m.toNat ≤ 256 := by
  obtain ⟨h1, h2, h3, h4⟩ := wok_iff.1 h
  exact ⟨h1, h2, h3, h4, p2_le _ (by omega)⟩

set_option maxHeartbeats 400000 in
theorem iAdd (m a b : Int) (w : World) :
    Calls Tryz.prog 147 #[.int .i64 m, .int .i64 a, .int .i64 b] w fun e w' => e = .returned (.int .i64 (vAdd m a b)) ∧ w' = w := by
  cases h : (wok m a && wok m b)
  · have HV : Hid (vAdd m a b = 0) := by show vAdd m a b = 0; simp [vAdd, h]
    go_enter Tryz.func147, Tryz.ntmps147
    go_wp2_with (go_at_call 172; refine (iTwo _ _ _ _).mono ?_; rintro e w' ⟨rfl, rfl⟩)
    go_ret
    exact ⟨ret_int HV.out.symm, rfl⟩
  · obtain ⟨h1, h2, h3, h4, h5, h6, h7⟩ := two_iff h
    have HV : Hid (vAdd m a b = (a + b) % p2 m.toNat) := by show vAdd m a b = _; simp [vAdd, h]
    have hm := emod_le (a := (a + b)) m.toNat
    go_enter Tryz.func147, Tryz.ntmps147
    go_wp2_with (first | (go_at_call 172; refine (iTwo _ _ _ _).mono ?_; rintro e w' ⟨rfl, rfl⟩) | (go_at_call 173; refine (plus a b m _ h3 (by omega) h5 (by omega) h1 h2).mono ?_; rintro e w' ⟨rfl, rfl⟩))
    go_ret
    exact ⟨ret_int HV.out.symm, rfl⟩

set_option maxHeartbeats 400000 in
theorem iSub (m a b : Int) (w : World) :
    Calls Tryz.prog 149 #[.int .i64 m, .int .i64 a, .int .i64 b] w fun e w' => e = .returned (.int .i64 (vSub m a b)) ∧ w' = w := by
  cases h : (wok m a && wok m b)
  · have HV : Hid (vSub m a b = 0) := by show vSub m a b = 0; simp [vSub, h]
    go_enter Tryz.func149, Tryz.ntmps149
    go_wp2_with (go_at_call 172; refine (iTwo _ _ _ _).mono ?_; rintro e w' ⟨rfl, rfl⟩)
    go_ret
    exact ⟨ret_int HV.out.symm, rfl⟩
  · obtain ⟨h1, h2, h3, h4, h5, h6, h7⟩ := two_iff h
    have HV : Hid (vSub m a b = (a - b) % p2 m.toNat) := by show vSub m a b = _; simp [vSub, h]
    have hm := emod_le (a := (a - b)) m.toNat
    go_enter Tryz.func149, Tryz.ntmps149
    go_wp2_with (first | (go_at_call 172; refine (iTwo _ _ _ _).mono ?_; rintro e w' ⟨rfl, rfl⟩) | (go_at_call 174; refine (minus a b m _ h3 (by omega) h5 (by omega) h1 h2).mono ?_; rintro e w' ⟨rfl, rfl⟩))
    go_ret
    exact ⟨ret_int HV.out.symm, rfl⟩

set_option maxHeartbeats 400000 in
theorem iMul (m a b : Int) (w : World) :
    Calls Tryz.prog 151 #[.int .i64 m, .int .i64 a, .int .i64 b] w fun e w' => e = .returned (.int .i64 (vMul m a b)) ∧ w' = w := by
  cases h : (wok m a && wok m b)
  · have HV : Hid (vMul m a b = 0) := by show vMul m a b = 0; simp [vMul, h]
    go_enter Tryz.func151, Tryz.ntmps151
    go_wp2_with (go_at_call 172; refine (iTwo _ _ _ _).mono ?_; rintro e w' ⟨rfl, rfl⟩)
    go_ret
    exact ⟨ret_int HV.out.symm, rfl⟩
  · obtain ⟨h1, h2, h3, h4, h5, h6, h7⟩ := two_iff h
    have HV : Hid (vMul m a b = a * b % p2 m.toNat) := by show vMul m a b = _; simp [vMul, h]
    have hm := emod_le (a := a * b) m.toNat
    go_enter Tryz.func151, Tryz.ntmps151
    go_wp2_with (first | (go_at_call 172; refine (iTwo _ _ _ _).mono ?_; rintro e w' ⟨rfl, rfl⟩) | (go_at_call 175; refine (times a b m _ h3 (by omega) h5 (by omega) h1 h2).mono ?_; rintro e w' ⟨rfl, rfl⟩))
    go_ret
    exact ⟨ret_int HV.out.symm, rfl⟩

set_option maxHeartbeats 400000 in
theorem sAdd (m a b : Int) (w : World) :
    Calls Tryz.prog 129 #[.int .i64 m, .int .i64 a, .int .i64 b] w fun e w' => e = .returned (.int .i64 (vAdd m a b)) ∧ w' = w := by
  cases h : (wok m a && wok m b)
  · have HV : Hid (vAdd m a b = 0) := by show vAdd m a b = 0; simp [vAdd, h]
    go_enter Tryz.func129, Tryz.ntmps129
    go_wp2_with (go_at_call 169; refine (sTwo _ _ _ _).mono ?_; rintro e w' ⟨rfl, rfl⟩)
    go_ret
    exact ⟨ret_int HV.out.symm, rfl⟩
  · obtain ⟨h1, h2, h3, h4, h5, h6, h7⟩ := two_iff h
    have HV : Hid (vAdd m a b = (a + b) % p2 m.toNat) := by show vAdd m a b = _; simp [vAdd, h]
    have hp := p2_pos m.toNat
    go_enter Tryz.func129, Tryz.ntmps129
    go_wp2_with (first | (go_at_call 169; refine (sTwo _ _ _ _).mono ?_; rintro e w' ⟨rfl, rfl⟩) | (go_at_call 91; refine (spow _ _ (by omega) (by omega)).mono ?_; rintro e w' ⟨rfl, rfl⟩))
    go_ret
    exact ⟨ret_int HV.out.symm, rfl⟩

set_option maxHeartbeats 400000 in
theorem sSub (m a b : Int) (w : World) :
    Calls Tryz.prog 130 #[.int .i64 m, .int .i64 a, .int .i64 b] w fun e w' => e = .returned (.int .i64 (vSub m a b)) ∧ w' = w := by
  cases h : (wok m a && wok m b)
  · have HV : Hid (vSub m a b = 0) := by show vSub m a b = 0; simp [vSub, h]
    go_enter Tryz.func130, Tryz.ntmps130
    go_wp2_with (go_at_call 169; refine (sTwo _ _ _ _).mono ?_; rintro e w' ⟨rfl, rfl⟩)
    go_ret
    exact ⟨ret_int HV.out.symm, rfl⟩
  · obtain ⟨h1, h2, h3, h4, h5, h6, h7⟩ := two_iff h
    have HV : Hid (vSub m a b = (a + p2 m.toNat - b) % p2 m.toNat) := by show vSub m a b = _; rw [sub_spec]; simp [vSub, h]
    have hp := p2_pos m.toNat
    go_enter Tryz.func130, Tryz.ntmps130
    go_wp2_with (first | (go_at_call 169; refine (sTwo _ _ _ _).mono ?_; rintro e w' ⟨rfl, rfl⟩) | (go_at_call 91; refine (spow _ _ (by omega) (by omega)).mono ?_; rintro e w' ⟨rfl, rfl⟩))
    go_ret
    exact ⟨ret_int HV.out.symm, rfl⟩

set_option maxHeartbeats 400000 in
theorem sMul (m a b : Int) (w : World) :
    Calls Tryz.prog 131 #[.int .i64 m, .int .i64 a, .int .i64 b] w fun e w' => e = .returned (.int .i64 (vMul m a b)) ∧ w' = w := by
  cases h : (wok m a && wok m b)
  · have HV : Hid (vMul m a b = 0) := by show vMul m a b = 0; simp [vMul, h]
    go_enter Tryz.func131, Tryz.ntmps131
    go_wp2_with (go_at_call 169; refine (sTwo _ _ _ _).mono ?_; rintro e w' ⟨rfl, rfl⟩)
    go_ret
    exact ⟨ret_int HV.out.symm, rfl⟩
  · obtain ⟨h1, h2, h3, h4, h5, h6, h7⟩ := two_iff h
    have HV : Hid (vMul m a b = a * b % p2 m.toNat) := by show vMul m a b = _; simp [vMul, h]
    have hp := p2_pos m.toNat
    obtain ⟨hb1, hb2⟩ := mul_bd h3 (by omega) h5 (by omega)
    go_enter Tryz.func131, Tryz.ntmps131
    go_wp2_with (first | (go_at_call 169; refine (sTwo _ _ _ _).mono ?_; rintro e w' ⟨rfl, rfl⟩) | (go_at_call 91; refine (spow _ _ (by omega) (by omega)).mono ?_; rintro e w' ⟨rfl, rfl⟩))
    go_ret
    exact ⟨ret_int HV.out.symm, rfl⟩

end Go.Proofs.YtdmogjhabladcaaGreat.Wd2

/- Walks of chapter 1, second part: division, shifts, flips, orders, joins and slices of words, in the program and in its model. -/
namespace Go.Proofs.YtdmogjhabladcaaGreat.Wd3
open Go.RowKit
open Pl1 Wd1 Wd2
set_option linter.unusedVariables false

theorem div_bd {a b : Int} (ha : 0 ≤ a) (hb : 0 ≤ b) : 0 ≤ a / b ∧ a / b ≤ a := ⟨Int.ediv_nonneg ha hb, Int.ediv_le_self _ ha⟩
theorem rem_bd {a b : Int} (ha : 0 ≤ a) (hb : 0 ≤ b) (hz : ¬ b = 0) : 0 ≤ a % b ∧ a % b < b := ⟨Int.emod_nonneg _ hz, Int.emod_lt_of_pos _ (by omega)⟩

set_option maxHeartbeats 400000 in
theorem iDiv (m a b : Int) (w : World) :
    Calls Tryz.prog 153 #[.int .i64 m, .int .i64 a, .int .i64 b] w fun e w' => e = .returned (.int .i64 (vDiv m a b)) ∧ w' = w := by
  cases h : (wok m a && wok m b)
  · have HV : Hid (vDiv m a b = 0) := by show vDiv m a b = 0; simp [vDiv, h]
    go_enter Tryz.func153, Tryz.ntmps153
    go_wp2_with (go_at_call 172; refine (iTwo _ _ _ _).mono ?_; rintro e w' ⟨rfl, rfl⟩)
    go_ret
    exact ⟨ret_int HV.out.symm, rfl⟩
  · obtain ⟨h1, h2, h3, h4, h5, h6, h7⟩ := two_iff h
    by_cases hz : b = 0
    · subst hz
      have HV : Hid (vDiv m a 0 = p2 m.toNat - 1) := by show vDiv m a 0 = _; unfold vDiv; rw [h]; rfl
      have hp := p2_pos m.toNat
      go_enter Tryz.func153, Tryz.ntmps153
      go_wp2_with (first | (go_at_call 172; refine (iTwo _ _ _ _).mono ?_; rintro e w' ⟨rfl, rfl⟩) | (go_at_call 176; refine (over a _ m _ h3 (by omega) h5 (by omega) h1 h2).mono ?_; rintro e w' ⟨rfl, rfl⟩))
      all_goals
        go_ret
        exact ⟨ret_int HV.out.symm, rfl⟩
    · have HV : Hid (vDiv m a b = a / b) := by show vDiv m a b = _; simp [vDiv, h, hz]
      have hp := p2_pos m.toNat
      have hz' : (b == 0) = false := by simpa using hz
      obtain ⟨hd1, hd2⟩ := div_bd h3 h5
      go_enter Tryz.func153, Tryz.ntmps153
      go_wp2_with (first | (go_at_call 172; refine (iTwo _ _ _ _).mono ?_; rintro e w' ⟨rfl, rfl⟩) | (go_at_call 176; refine (over a _ m _ h3 (by omega) h5 (by omega) h1 h2).mono ?_; rintro e w' ⟨rfl, rfl⟩))
      all_goals
        go_ret
        exact ⟨ret_int HV.out.symm, rfl⟩

set_option maxHeartbeats 400000 in
theorem iRem (m a b : Int) (w : World) :
    Calls Tryz.prog 155 #[.int .i64 m, .int .i64 a, .int .i64 b] w fun e w' => e = .returned (.int .i64 (vRem m a b)) ∧ w' = w := by
  cases h : (wok m a && wok m b)
  · have HV : Hid (vRem m a b = 0) := by show vRem m a b = 0; simp [vRem, h]
    go_enter Tryz.func155, Tryz.ntmps155
    go_wp2_with (go_at_call 172; refine (iTwo _ _ _ _).mono ?_; rintro e w' ⟨rfl, rfl⟩)
    go_ret
    exact ⟨ret_int HV.out.symm, rfl⟩
  · obtain ⟨h1, h2, h3, h4, h5, h6, h7⟩ := two_iff h
    by_cases hz : b = 0
    · subst hz
      have HV : Hid (vRem m a 0 = a) := by show vRem m a 0 = _; unfold vRem; rw [h]; rfl
      have hp := p2_pos m.toNat
      go_enter Tryz.func155, Tryz.ntmps155
      go_wp2_with (first | (go_at_call 172; refine (iTwo _ _ _ _).mono ?_; rintro e w' ⟨rfl, rfl⟩) | (go_at_call 177; refine (rest a _ _ h3 (by omega) h5 (by omega)).mono ?_; rintro e w' ⟨rfl, rfl⟩))
      all_goals
        go_ret
        exact ⟨ret_int HV.out.symm, rfl⟩
    · have HV : Hid (vRem m a b = a % b) := by show vRem m a b = _; simp [vRem, h, hz]
      have hp := p2_pos m.toNat
      have hz' : (b == 0) = false := by simpa using hz
      obtain ⟨hd1, hd2⟩ := rem_bd h3 h5 hz
      go_enter Tryz.func155, Tryz.ntmps155
      go_wp2_with (first | (go_at_call 172; refine (iTwo _ _ _ _).mono ?_; rintro e w' ⟨rfl, rfl⟩) | (go_at_call 177; refine (rest a _ _ h3 (by omega) h5 (by omega)).mono ?_; rintro e w' ⟨rfl, rfl⟩))
      all_goals
        go_ret
        exact ⟨ret_int HV.out.symm, rfl⟩

set_option maxHeartbeats 400000 in
theorem sDiv (m a b : Int) (w : World) :
    Calls Tryz.prog 132 #[.int .i64 m, .int .i64 a, .int .i64 b] w fun e w' => e = .returned (.int .i64 (vDiv m a b)) ∧ w' = w := by
  cases h : (wok m a && wok m b)
  · have HV : Hid (vDiv m a b = 0) := by show vDiv m a b = 0; simp [vDiv, h]
    go_enter Tryz.func132, Tryz.ntmps132
    go_wp2_with (go_at_call 169; refine (sTwo _ _ _ _).mono ?_; rintro e w' ⟨rfl, rfl⟩)
    go_ret
    exact ⟨ret_int HV.out.symm, rfl⟩
  · obtain ⟨h1, h2, h3, h4, h5, h6, h7⟩ := two_iff h
    by_cases hz : b = 0
    · subst hz
      have HV : Hid (vDiv m a 0 = p2 m.toNat - 1) := by show vDiv m a 0 = _; unfold vDiv; rw [h]; rfl
      have hp := p2_pos m.toNat
      go_enter Tryz.func132, Tryz.ntmps132
      go_wp2_with (first | (go_at_call 169; refine (sTwo _ _ _ _).mono ?_; rintro e w' ⟨rfl, rfl⟩) | (go_at_call 91; refine (spow _ _ (by omega) (by omega)).mono ?_; rintro e w' ⟨rfl, rfl⟩))
      all_goals
        go_ret
        exact ⟨ret_int HV.out.symm, rfl⟩
    · have HV : Hid (vDiv m a b = a / b) := by show vDiv m a b = _; simp [vDiv, h, hz]
      have hp := p2_pos m.toNat
      have hz' : (b == 0) = false := by simpa using hz
      obtain ⟨hd1, hd2⟩ := div_bd h3 h5
      go_enter Tryz.func132, Tryz.ntmps132
      go_wp2_with (first | (go_at_call 169; refine (sTwo _ _ _ _).mono ?_; rintro e w' ⟨rfl, rfl⟩) | (go_at_call 91; refine (spow _ _ (by omega) (by omega)).mono ?_; rintro e w' ⟨rfl, rfl⟩))
      all_goals
        go_ret
        exact ⟨ret_int HV.out.symm, rfl⟩

set_option maxHeartbeats 400000 in
theorem sRem (m a b : Int) (w : World) :
    Calls Tryz.prog 133 #[.int .i64 m, .int .i64 a, .int .i64 b] w fun e w' => e = .returned (.int .i64 (vRem m a b)) ∧ w' = w := by
  cases h : (wok m a && wok m b)
  · have HV : Hid (vRem m a b = 0) := by show vRem m a b = 0; simp [vRem, h]
    go_enter Tryz.func133, Tryz.ntmps133
    go_wp2_with (go_at_call 169; refine (sTwo _ _ _ _).mono ?_; rintro e w' ⟨rfl, rfl⟩)
    go_ret
    exact ⟨ret_int HV.out.symm, rfl⟩
  · obtain ⟨h1, h2, h3, h4, h5, h6, h7⟩ := two_iff h
    by_cases hz : b = 0
    · subst hz
      have HV : Hid (vRem m a 0 = a) := by show vRem m a 0 = _; unfold vRem; rw [h]; rfl
      have hp := p2_pos m.toNat
      go_enter Tryz.func133, Tryz.ntmps133
      go_wp2_with (first | (go_at_call 169; refine (sTwo _ _ _ _).mono ?_; rintro e w' ⟨rfl, rfl⟩) | fail)
      all_goals
        go_ret
        exact ⟨ret_int HV.out.symm, rfl⟩
    · have HV : Hid (vRem m a b = a % b) := by show vRem m a b = _; simp [vRem, h, hz]
      have hp := p2_pos m.toNat
      have hz' : (b == 0) = false := by simpa using hz
      obtain ⟨hd1, hd2⟩ := rem_bd h3 h5 hz
      go_enter Tryz.func133, Tryz.ntmps133
      go_wp2_with (first | (go_at_call 169; refine (sTwo _ _ _ _).mono ?_; rintro e w' ⟨rfl, rfl⟩) | fail)
      all_goals
        go_ret
        exact ⟨ret_int HV.out.symm, rfl⟩

end Go.Proofs.YtdmogjhabladcaaGreat.Wd3

/- Walks of chapter 1, third part: shifts, flips and orders of words, in the program and in its model. -/
namespace Go.Proofs.YtdmogjhabladcaaGreat.Wd4
open Go.RowKit
open Pl1 Wd1 Wd2 Wd3
set_option linter.unusedVariables false

theorem shl_zero (a : Int) {m b : Int} (h1 : 1 ≤ m) (h : m ≤ b) : a * p2 b.toNat % p2 m.toNat = 0 := by
  have e : p2 b.toNat = p2 m.toNat * p2 (b - m).toNat := by
    unfold p2; rw [← Int.pow_add, show m.toNat + (b - m).toNat = b.toNat by omega]
  rw [e, ← Int.mul_assoc, Int.mul_comm a, Int.mul_assoc]
  exact Int.mul_emod_right _ _
theorem shr_zero {a m b : Int} (h0 : 0 ≤ a) (h : m ≤ b) (ha : a < p2 m.toNat) : a / p2 b.toNat = 0 := by
  have := p2_mono (show m.toNat ≤ b.toNat by omega)
  exact Int.ediv_eq_zero_of_lt h0 (by omega)

set_option maxHeartbeats 400000 in
theorem iShl (m a b : Int) (w : World) :
    Calls Tryz.prog 157 #[.int .i64 m, .int .i64 a, .int .i64 b] w fun e w' => e = .returned (.int .i64 (vShl m a b)) ∧ w' = w := by
  cases h : (wok m a && wok m b)
  · have HV : Hid (vShl m a b = 0) := by show vShl m a b = 0; simp [vShl, h]
    go_enter Tryz.func157, Tryz.ntmps157
    go_wp2_with (go_at_call 172; refine (iTwo _ _ _ _).mono ?_; rintro e w' ⟨rfl, rfl⟩)
    go_ret
    exact ⟨ret_int HV.out.symm, rfl⟩
  · obtain ⟨h1, h2, h3, h4, h5, h6, h7⟩ := two_iff h
    by_cases hb : b ≤ 7
    · have HV : Hid (vShl m a b = a * p2 b.toNat % p2 m.toNat) := by
        show vShl m a b = _
        unfold vShl; rw [h, if_pos rfl]
        by_cases hc : m ≤ b
        · rw [if_pos hc, shl_zero a h1 hc]
        · rw [if_neg hc]
      have hm := emod_le (a := a * p2 b.toNat) m.toNat
      go_enter Tryz.func157, Tryz.ntmps157
      go_wp2_with (first | (go_at_call 172; refine (iTwo _ _ _ _).mono ?_; rintro e w' ⟨rfl, rfl⟩) | (go_at_call 178; refine (up a _ m _ h3 (by omega) h5 (by omega) h1 h2).mono ?_; rintro e w' ⟨rfl, rfl⟩))
      go_ret
      exact ⟨ret_int HV.out.symm, rfl⟩
    · have HV : Hid (vShl m a b = 0) := by
        show vShl m a b = _
        unfold vShl; rw [h, if_pos rfl, if_pos (by omega)]
      go_enter Tryz.func157, Tryz.ntmps157
      go_wp2_with (first | (go_at_call 172; refine (iTwo _ _ _ _).mono ?_; rintro e w' ⟨rfl, rfl⟩) | (go_at_call 178; refine (upFar a _ m _ h3 (by omega) (by omega) h1 h2).mono ?_; rintro e w' ⟨rfl, rfl⟩))
      go_ret
      exact ⟨ret_int HV.out.symm, rfl⟩

set_option maxHeartbeats 400000 in
theorem sShl (m a b : Int) (w : World) :
    Calls Tryz.prog 134 #[.int .i64 m, .int .i64 a, .int .i64 b] w fun e w' => e = .returned (.int .i64 (vShl m a b)) ∧ w' = w := by
  cases h : (wok m a && wok m b)
  · have HV : Hid (vShl m a b = 0) := by show vShl m a b = 0; simp [vShl, h]
    go_enter Tryz.func134, Tryz.ntmps134
    go_wp2_with (go_at_call 169; refine (sTwo _ _ _ _).mono ?_; rintro e w' ⟨rfl, rfl⟩)
    go_ret
    exact ⟨ret_int HV.out.symm, rfl⟩
  · obtain ⟨h1, h2, h3, h4, h5, h6, h7⟩ := two_iff h
    have hp := p2_pos m.toNat
    by_cases hc : m ≤ b
    · have HV : Hid (vShl m a b = 0) := by
        show vShl m a b = _
        unfold vShl; rw [h, if_pos rfl, if_pos hc]
      go_enter Tryz.func134, Tryz.ntmps134
      go_wp2_with (go_at_call 169; refine (sTwo _ _ _ _).mono ?_; rintro e w' ⟨rfl, rfl⟩)
      go_ret
      exact ⟨ret_int HV.out.symm, rfl⟩
    · have HV : Hid (vShl m a b = a * p2 b.toNat % p2 m.toNat) := by
        show vShl m a b = _
        unfold vShl; rw [h, if_pos rfl, if_neg hc]
      have hq := p2_pos b.toNat
      have hr := p2_mono (show b.toNat ≤ 7 by omega)
      have hr7 : p2 7 = 128 := rfl
      obtain ⟨hb1, hb2⟩ := mul_bd h3 (show a ≤ 255 by omega) (show 0 ≤ p2 b.toNat by omega) (by omega)
      go_enter Tryz.func134, Tryz.ntmps134
      go_wp2_with (first | (go_at_call 169; refine (sTwo _ _ _ _).mono ?_; rintro e w' ⟨rfl, rfl⟩) | (go_at_call 91; refine (spow _ _ (by omega) (by omega)).mono ?_; rintro e w' ⟨rfl, rfl⟩))
      go_ret
      exact ⟨ret_int HV.out.symm, rfl⟩

set_option maxHeartbeats 400000 in
theorem iShr (m a b : Int) (w : World) :
    Calls Tryz.prog 159 #[.int .i64 m, .int .i64 a, .int .i64 b] w fun e w' => e = .returned (.int .i64 (vShr m a b)) ∧ w' = w := by
  cases h : (wok m a && wok m b)
  · have HV : Hid (vShr m a b = 0) := by show vShr m a b = 0; simp [vShr, h]
    go_enter Tryz.func159, Tryz.ntmps159
    go_wp2_with (go_at_call 172; refine (iTwo _ _ _ _).mono ?_; rintro e w' ⟨rfl, rfl⟩)
    go_ret
    exact ⟨ret_int HV.out.symm, rfl⟩
  · obtain ⟨h1, h2, h3, h4, h5, h6, h7⟩ := two_iff h
    by_cases hb : b ≤ 7
    · have HV : Hid (vShr m a b = a / p2 b.toNat) := by
        show vShr m a b = _
        unfold vShr; rw [h, if_pos rfl]
        by_cases hc : m ≤ b
        · rw [if_pos hc, shr_zero h3 hc h4]
        · rw [if_neg hc]
      obtain ⟨hd1, hd2⟩ := div_bd h3 (show 0 ≤ p2 b.toNat by have := p2_pos b.toNat; omega)
      go_enter Tryz.func159, Tryz.ntmps159
      go_wp2_with (first | (go_at_call 172; refine (iTwo _ _ _ _).mono ?_; rintro e w' ⟨rfl, rfl⟩) | (go_at_call 179; refine (down a _ _ h3 (by omega) h5 (by omega)).mono ?_; rintro e w' ⟨rfl, rfl⟩))
      go_ret
      exact ⟨ret_int HV.out.symm, rfl⟩
    · have HV : Hid (vShr m a b = 0) := by
        show vShr m a b = _
        unfold vShr; rw [h, if_pos rfl, if_pos (by omega)]
      go_enter Tryz.func159, Tryz.ntmps159
      go_wp2_with (first | (go_at_call 172; refine (iTwo _ _ _ _).mono ?_; rintro e w' ⟨rfl, rfl⟩) | (go_at_call 179; refine (downFar a _ _ h3 (by omega) (by omega)).mono ?_; rintro e w' ⟨rfl, rfl⟩))
      go_ret
      exact ⟨ret_int HV.out.symm, rfl⟩

set_option maxHeartbeats 400000 in
theorem sShr (m a b : Int) (w : World) :
    Calls Tryz.prog 135 #[.int .i64 m, .int .i64 a, .int .i64 b] w fun e w' => e = .returned (.int .i64 (vShr m a b)) ∧ w' = w := by
  cases h : (wok m a && wok m b)
  · have HV : Hid (vShr m a b = 0) := by show vShr m a b = 0; simp [vShr, h]
    go_enter Tryz.func135, Tryz.ntmps135
    go_wp2_with (go_at_call 169; refine (sTwo _ _ _ _).mono ?_; rintro e w' ⟨rfl, rfl⟩)
    go_ret
    exact ⟨ret_int HV.out.symm, rfl⟩
  · obtain ⟨h1, h2, h3, h4, h5, h6, h7⟩ := two_iff h
    have hp := p2_pos m.toNat
    by_cases hc : m ≤ b
    · have HV : Hid (vShr m a b = 0) := by
        show vShr m a b = _
        unfold vShr; rw [h, if_pos rfl, if_pos hc]
      go_enter Tryz.func135, Tryz.ntmps135
      go_wp2_with (go_at_call 169; refine (sTwo _ _ _ _).mono ?_; rintro e w' ⟨rfl, rfl⟩)
      go_ret
      exact ⟨ret_int HV.out.symm, rfl⟩
    · have HV : Hid (vShr m a b = a / p2 b.toNat) := by
        show vShr m a b = _
        unfold vShr; rw [h, if_pos rfl, if_neg hc]
      have hq := p2_pos b.toNat
      obtain ⟨hd1, hd2⟩ := div_bd h3 (show 0 ≤ p2 b.toNat by omega)
      go_enter Tryz.func135, Tryz.ntmps135
      go_wp2_with (first | (go_at_call 169; refine (sTwo _ _ _ _).mono ?_; rintro e w' ⟨rfl, rfl⟩) | (go_at_call 91; refine (spow _ _ (by omega) (by omega)).mono ?_; rintro e w' ⟨rfl, rfl⟩))
      go_ret
      exact ⟨ret_int HV.out.symm, rfl⟩

set_option maxHeartbeats 400000 in
theorem iFlip (m a : Int) (w : World) :
    Calls Tryz.prog 142 #[.int .i64 m, .int .i64 a] w fun e w' => e = .returned (.int .i64 (vFlip m a)) ∧ w' = w := by
  cases h : wok m a
  · have HV : Hid (vFlip m a = 0) := by show vFlip m a = 0; simp [vFlip, h]
    go_enter Tryz.func142, Tryz.ntmps142
    go_wp2_with (go_at_call 54; refine (iWordOk _ _ _).mono ?_; rintro e w' ⟨rfl, rfl⟩)
    go_ret
    exact ⟨ret_int HV.out.symm, rfl⟩
  · obtain ⟨h1, h2, h3, h4, h7⟩ := one_iff h
    have HV : Hid (vFlip m a = p2 m.toNat - 1 - a) := by show vFlip m a = _; simp [vFlip, h]
    go_enter Tryz.func142, Tryz.ntmps142
    go_wp2_with (first | (go_at_call 54; refine (iWordOk _ _ _).mono ?_; rintro e w' ⟨rfl, rfl⟩) | (go_at_call 171; refine (flip a m _ h3 h4 h1 h2).mono ?_; rintro e w' ⟨rfl, rfl⟩))
    go_ret
    exact ⟨ret_int HV.out.symm, rfl⟩

set_option maxHeartbeats 400000 in
theorem sFlip (m a : Int) (w : World) :
    Calls Tryz.prog 128 #[.int .i64 m, .int .i64 a] w fun e w' => e = .returned (.int .i64 (vFlip m a)) ∧ w' = w := by
  cases h : wok m a
  · have HV : Hid (vFlip m a = 0) := by show vFlip m a = 0; simp [vFlip, h]
    go_enter Tryz.func128, Tryz.ntmps128
    go_wp2_with (go_at_call 85; refine (sWordOk _ _ _).mono ?_; rintro e w' ⟨rfl, rfl⟩)
    go_ret
    exact ⟨ret_int HV.out.symm, rfl⟩
  · obtain ⟨h1, h2, h3, h4, h7⟩ := one_iff h
    have HV : Hid (vFlip m a = p2 m.toNat - 1 - a) := by show vFlip m a = _; simp [vFlip, h]
    go_enter Tryz.func128, Tryz.ntmps128
    go_wp2_with (first | (go_at_call 85; refine (sWordOk _ _ _).mono ?_; rintro e w' ⟨rfl, rfl⟩) | (go_at_call 91; refine (spow _ _ (by omega) (by omega)).mono ?_; rintro e w' ⟨rfl, rfl⟩))
    go_ret
    exact ⟨ret_int HV.out.symm, rfl⟩

set_option maxHeartbeats 400000 in
theorem sSigned (m a : Int) (w : World) :
    Calls Tryz.prog 170 #[.int .i64 m, .int .i64 a] w fun e w' => e = .returned (.int .i64 (vSigned m a)) ∧ w' = w := by
  cases h : wok m a
  · have HV : Hid (vSigned m a = 0) := by show vSigned m a = 0; simp [vSigned, h]
    go_enter Tryz.func170, Tryz.ntmps170
    go_wp2_with (go_at_call 85; refine (sWordOk _ _ _).mono ?_; rintro e w' ⟨rfl, rfl⟩)
    go_ret
    exact ⟨ret_int HV.out.symm, rfl⟩
  · obtain ⟨h1, h2, h3, h4, h7⟩ := one_iff h
    have hq := p2_pos m.toNat
    by_cases hs : p2 (m - 1).toNat ≤ a
    · have HV : Hid (vSigned m a = a - p2 m.toNat) := by show vSigned m a = _; simp only [vSigned, h, if_pos]; exact sgn_pos hs
      have hs2 : p2 (m.toNat - 1) ≤ a := by rw [show m.toNat - 1 = (m - 1).toNat by omega]; exact hs
      have hr := p2_pos (m - 1).toNat
      go_enter Tryz.func170, Tryz.ntmps170
      go_wp2_with (first | (go_at_call 85; refine (sWordOk _ _ _).mono ?_; rintro e w' ⟨rfl, rfl⟩) | (go_at_call 91; refine (spow _ _ (by omega) (by omega)).mono ?_; rintro e w' ⟨rfl, rfl⟩))
      go_ret
      exact ⟨ret_int HV.out.symm, rfl⟩
    · have HV : Hid (vSigned m a = a) := by show vSigned m a = _; simp only [vSigned, h, if_pos]; exact sgn_neg hs
      have hs2 : ¬ p2 (m.toNat - 1) ≤ a := by rw [show m.toNat - 1 = (m - 1).toNat by omega]; exact hs
      have hr := p2_pos (m - 1).toNat
      go_enter Tryz.func170, Tryz.ntmps170
      go_wp2_with (first | (go_at_call 85; refine (sWordOk _ _ _).mono ?_; rintro e w' ⟨rfl, rfl⟩) | (go_at_call 91; refine (spow _ _ (by omega) (by omega)).mono ?_; rintro e w' ⟨rfl, rfl⟩))
      go_ret
      exact ⟨ret_int HV.out.symm, rfl⟩

set_option maxHeartbeats 400000 in
theorem iOne (b : Bool) (w : World) :
    Calls Tryz.prog 70 #[.bool b] w fun e w' => e = .returned (.int .i64 (if b then 1 else 0)) ∧ w' = w := by
  cases b
  all_goals
    go_enter Tryz.func70, Tryz.ntmps70
    go_wp2
    go_ret
    exact ⟨rfl, rfl⟩

set_option maxHeartbeats 400000 in
theorem sOne (b : Bool) (w : World) :
    Calls Tryz.prog 136 #[.bool b] w fun e w' => e = .returned (.int .i64 (if b then 1 else 0)) ∧ w' = w := by
  cases b
  all_goals
    go_enter Tryz.func136, Tryz.ntmps136
    go_wp2
    go_ret
    exact ⟨rfl, rfl⟩

end Go.Proofs.YtdmogjhabladcaaGreat.Wd4

/- Walks of chapter 1, fourth part: orders, joins and slices of words, in the program and in its model. -/
namespace Go.Proofs.YtdmogjhabladcaaGreat.Wd5
open Go.RowKit
open Pl1 Wd1 Wd2 Wd3 Wd4
set_option linter.unusedVariables false

theorem less_of {p q : Bool} {x y : Int} (h : (p && decide (x < y)) = q) : (if p && decide (x < y) then (1 : Int) else 0) = if q then 1 else 0 := by rw [h]

set_option maxHeartbeats 400000 in
theorem iLess (m a b : Int) (w : World) :
    Calls Tryz.prog 162 #[.int .i64 m, .int .i64 a, .int .i64 b] w fun e w' => e = .returned (.int .i64 (vLess m a b)) ∧ w' = w := by
  cases h : (wok m a && wok m b)
  · have HV : Hid (vLess m a b = 0) := by show vLess m a b = 0; simp only [vLess, h]; rfl
    go_enter Tryz.func162, Tryz.ntmps162
    go_wp2_with (first | (go_at_call 172; refine (iTwo _ _ _ _).mono ?_; rintro e w' ⟨rfl, rfl⟩) | (go_at_call 70; refine (iOne _ _).mono ?_; rintro e w' ⟨rfl, rfl⟩))
    go_ret
    exact ⟨ret_int HV.out.symm, rfl⟩
  · by_cases hl : a < b
    · have HV : Hid (vLess m a b = 1) := by show vLess m a b = 1; simp only [vLess, h, hl]; rfl
      go_enter Tryz.func162, Tryz.ntmps162
      go_wp2_with (first | (go_at_call 172; refine (iTwo _ _ _ _).mono ?_; rintro e w' ⟨rfl, rfl⟩) | (go_at_call 70; refine (iOne _ _).mono ?_; rintro e w' ⟨rfl, rfl⟩))
      go_ret
      exact ⟨ret_int HV.out.symm, rfl⟩
    · have HV : Hid (vLess m a b = 0) := by show vLess m a b = 0; simp only [vLess, h, hl]; rfl
      go_enter Tryz.func162, Tryz.ntmps162
      go_wp2_with (first | (go_at_call 172; refine (iTwo _ _ _ _).mono ?_; rintro e w' ⟨rfl, rfl⟩) | (go_at_call 70; refine (iOne _ _).mono ?_; rintro e w' ⟨rfl, rfl⟩))
      go_ret
      exact ⟨ret_int HV.out.symm, rfl⟩

set_option maxHeartbeats 400000 in
theorem iLessSigned (m a b : Int) (w : World) :
    Calls Tryz.prog 164 #[.int .i64 m, .int .i64 a, .int .i64 b] w fun e w' => e = .returned (.int .i64 (vLessSigned m a b)) ∧ w' = w := by
  cases h : (wok m a && wok m b)
  · have HV : Hid (vLessSigned m a b = 0) := by show vLessSigned m a b = 0; simp only [vLessSigned, h]; rfl
    go_enter Tryz.func164, Tryz.ntmps164
    go_wp2_with (first | (go_at_call 172; refine (iTwo _ _ _ _).mono ?_; rintro e w' ⟨rfl, rfl⟩) | (go_at_call 70; refine (iOne _ _).mono ?_; rintro e w' ⟨rfl, rfl⟩))
    go_ret
    exact ⟨ret_int HV.out.symm, rfl⟩
  · obtain ⟨h1, h2, h3, h4, h5, h6, h7⟩ := two_iff h
    have ea : vSigned m a = sgn m a := by rw [Bool.and_eq_true] at h; simp [vSigned, h.1]
    have eb : vSigned m b = sgn m b := by rw [Bool.and_eq_true] at h; simp [vSigned, h.2]
    by_cases hl : sgn m a < sgn m b
    · have HV : Hid (vLessSigned m a b = 1) := by show vLessSigned m a b = 1; simp only [vLessSigned, ea, eb, h, hl]; rfl
      clear ea eb
      go_enter Tryz.func164, Tryz.ntmps164
      go_wp2_with (first | (go_at_call 172; refine (iTwo _ _ _ _).mono ?_; rintro e w' ⟨rfl, rfl⟩) | (go_at_call 70; refine (iOne _ _).mono ?_; rintro e w' ⟨rfl, rfl⟩) | (go_at_call 180; refine (signed _ m _ (by omega) (by omega) h1 h2).mono ?_; rintro e w' ⟨rfl, rfl⟩))
      go_ret
      exact ⟨ret_int HV.out.symm, rfl⟩
    · have HV : Hid (vLessSigned m a b = 0) := by show vLessSigned m a b = 0; simp only [vLessSigned, ea, eb, h, hl]; rfl
      clear ea eb
      go_enter Tryz.func164, Tryz.ntmps164
      go_wp2_with (first | (go_at_call 172; refine (iTwo _ _ _ _).mono ?_; rintro e w' ⟨rfl, rfl⟩) | (go_at_call 70; refine (iOne _ _).mono ?_; rintro e w' ⟨rfl, rfl⟩) | (go_at_call 180; refine (signed _ m _ (by omega) (by omega) h1 h2).mono ?_; rintro e w' ⟨rfl, rfl⟩))
      go_ret
      exact ⟨ret_int HV.out.symm, rfl⟩

set_option maxHeartbeats 400000 in
theorem sLess (m a b : Int) (w : World) :
    Calls Tryz.prog 137 #[.int .i64 m, .int .i64 a, .int .i64 b] w fun e w' => e = .returned (.int .i64 (vLess m a b)) ∧ w' = w := by
  cases h : (wok m a && wok m b)
  · have HV : Hid (vLess m a b = 0) := by show vLess m a b = 0; simp only [vLess, h]; rfl
    go_enter Tryz.func137, Tryz.ntmps137
    go_wp2_with (first | (go_at_call 169; refine (sTwo _ _ _ _).mono ?_; rintro e w' ⟨rfl, rfl⟩) | (go_at_call 136; refine (sOne _ _).mono ?_; rintro e w' ⟨rfl, rfl⟩))
    go_ret
    exact ⟨ret_int HV.out.symm, rfl⟩
  · by_cases hl : a < b
    · have HV : Hid (vLess m a b = 1) := by show vLess m a b = 1; simp only [vLess, h, hl]; rfl
      go_enter Tryz.func137, Tryz.ntmps137
      go_wp2_with (first | (go_at_call 169; refine (sTwo _ _ _ _).mono ?_; rintro e w' ⟨rfl, rfl⟩) | (go_at_call 136; refine (sOne _ _).mono ?_; rintro e w' ⟨rfl, rfl⟩))
      go_ret
      exact ⟨ret_int HV.out.symm, rfl⟩
    · have HV : Hid (vLess m a b = 0) := by show vLess m a b = 0; simp only [vLess, h, hl]; rfl
      go_enter Tryz.func137, Tryz.ntmps137
      go_wp2_with (first | (go_at_call 169; refine (sTwo _ _ _ _).mono ?_; rintro e w' ⟨rfl, rfl⟩) | (go_at_call 136; refine (sOne _ _).mono ?_; rintro e w' ⟨rfl, rfl⟩))
      go_ret
      exact ⟨ret_int HV.out.symm, rfl⟩

set_option maxHeartbeats 400000 in
theorem sLessSigned (m a b : Int) (w : World) :
    Calls Tryz.prog 138 #[.int .i64 m, .int .i64 a, .int .i64 b] w fun e w' => e = .returned (.int .i64 (vLessSigned m a b)) ∧ w' = w := by
  cases h : (wok m a && wok m b)
  · have HV : Hid (vLessSigned m a b = 0) := by show vLessSigned m a b = 0; simp only [vLessSigned, h]; rfl
    go_enter Tryz.func138, Tryz.ntmps138
    go_wp2_with (first | (go_at_call 169; refine (sTwo _ _ _ _).mono ?_; rintro e w' ⟨rfl, rfl⟩) | (go_at_call 136; refine (sOne _ _).mono ?_; rintro e w' ⟨rfl, rfl⟩))
    go_ret
    exact ⟨ret_int HV.out.symm, rfl⟩
  · obtain ⟨h1, h2, h3, h4, h5, h6, h7⟩ := two_iff h
    by_cases hl : vSigned m a < vSigned m b
    · have HV : Hid (vLessSigned m a b = 1) := by show vLessSigned m a b = 1; simp only [vLessSigned, h, hl]; rfl
      skip
      go_enter Tryz.func138, Tryz.ntmps138
      go_wp2_with (first | (go_at_call 169; refine (sTwo _ _ _ _).mono ?_; rintro e w' ⟨rfl, rfl⟩) | (go_at_call 136; refine (sOne _ _).mono ?_; rintro e w' ⟨rfl, rfl⟩) | (go_at_call 170; refine (sSigned _ _ _).mono ?_; rintro e w' ⟨rfl, rfl⟩))
      go_ret
      exact ⟨ret_int HV.out.symm, rfl⟩
    · have HV : Hid (vLessSigned m a b = 0) := by show vLessSigned m a b = 0; simp only [vLessSigned, h, hl]; rfl
      skip
      go_enter Tryz.func138, Tryz.ntmps138
      go_wp2_with (first | (go_at_call 169; refine (sTwo _ _ _ _).mono ?_; rintro e w' ⟨rfl, rfl⟩) | (go_at_call 136; refine (sOne _ _).mono ?_; rintro e w' ⟨rfl, rfl⟩) | (go_at_call 170; refine (sSigned _ _ _).mono ?_; rintro e w' ⟨rfl, rfl⟩))
      go_ret
      exact ⟨ret_int HV.out.symm, rfl⟩

theorem wrap_sub {m n : Int} (h1 : 1 ≤ m) (h2 : m ≤ 8) (hn : 0 ≤ n) (hw : (Lit.int .i64 n).wf = true) : wrap64 (m - n) = m - n := by
  have : n ≤ 9223372036854775807 := by
    simp [Lit.wf, IntKind.min, IntKind.max, IntKind.signed, IntKind.bits] at hw; omega
  unfold wrap64; omega

set_option maxHeartbeats 400000 in
theorem iSlice (m a l n : Int) (w : World) (hwn : (Lit.int .i64 n).wf = true) :
    Calls Tryz.prog 167 #[.int .i64 m, .int .i64 a, .int .i64 l, .int .i64 n] w fun e w' => e = .returned (.int .i64 (vSlice m a l n)) ∧ w' = w := by
  cases h : wok m a
  · clear hwn
    have HV : Hid (vSlice m a l n = 0) := by show vSlice m a l n = 0; simp [vSlice, h]
    go_enter Tryz.func167, Tryz.ntmps167
    go_wp2_with (go_at_call 54; refine (iWordOk _ _ _).mono ?_; rintro e w' ⟨rfl, rfl⟩)
    go_ret
    exact ⟨ret_int HV.out.symm, rfl⟩
  · obtain ⟨h1, h2, h3, h4, h7⟩ := one_iff h
    by_cases hn : n < 1
    · clear hwn
      have HV : Hid (vSlice m a l n = 0) := by show vSlice m a l n = 0; unfold vSlice; rw [if_neg]; simp; omega
      go_enter Tryz.func167, Tryz.ntmps167
      go_wp2_with (go_at_call 54; refine (iWordOk _ _ _).mono ?_; rintro e w' ⟨rfl, rfl⟩)
      go_ret
      exact ⟨ret_int HV.out.symm, rfl⟩
    · have hw := wrap_sub h1 h2 (show 0 ≤ n by omega) hwn
      clear hwn
      by_cases hl : l < 0
      · have HV : Hid (vSlice m a l n = 0) := by show vSlice m a l n = 0; unfold vSlice; rw [if_neg]; simp; omega
        go_enter Tryz.func167, Tryz.ntmps167
        go_wp2_with (go_at_call 54; refine (iWordOk _ _ _).mono ?_; rintro e w' ⟨rfl, rfl⟩)
        go_ret
        exact ⟨ret_int HV.out.symm, rfl⟩
      · by_cases hs : m - n < l
        · have HV : Hid (vSlice m a l n = 0) := by show vSlice m a l n = 0; unfold vSlice; rw [if_neg]; simp; omega
          go_enter Tryz.func167, Tryz.ntmps167
          go_wp2_with (go_at_call 54; refine (iWordOk _ _ _).mono ?_; rintro e w' ⟨rfl, rfl⟩)
          go_ret
          exact ⟨ret_int HV.out.symm, rfl⟩
        · have HV : Hid (vSlice m a l n = a / p2 l.toNat % p2 n.toNat) := by
            show vSlice m a l n = _
            unfold vSlice; rw [if_pos]; simp [h]; omega
          clear hw
          obtain ⟨hd1, hd2⟩ := div_bd h3 (show 0 ≤ p2 l.toNat by have := p2_pos l.toNat; omega)
          have hm := emod_le (a := a / p2 l.toNat) n.toNat
          have hk := p2_le n.toNat (by omega)
          go_enter Tryz.func167, Tryz.ntmps167
          go_wp2_with (first | (go_at_call 54; refine (iWordOk _ _ _).mono ?_; rintro e w' ⟨rfl, rfl⟩) | (go_at_call 179; refine (down a _ _ h3 (by omega) (by omega) (by omega)).mono ?_; rintro e w' ⟨rfl, rfl⟩) | (go_at_call 181; refine (cut _ n _ (by omega) (by omega) (by omega) (by omega)).mono ?_; rintro e w' ⟨rfl, rfl⟩))
          go_ret
          exact ⟨ret_int HV.out.symm, rfl⟩

set_option maxHeartbeats 400000 in
theorem sSlice (m a l n : Int) (w : World) (hwl : (Lit.int .i64 l).wf = true) :
    Calls Tryz.prog 139 #[.int .i64 m, .int .i64 a, .int .i64 l, .int .i64 n] w fun e w' => e = .returned (.int .i64 (vSlice m a l n)) ∧ ∃ k, w' = w.drewN k := by
  cases h : wok m a
  · clear hwl
    have HV : Hid (vSlice m a l n = 0) := by show vSlice m a l n = 0; simp [vSlice, h]
    go_enter Tryz.func139, Tryz.ntmps139
    go_wp2_with (go_at_call 85; refine (sWordOk _ _ _).mono ?_; rintro e w' ⟨rfl, rfl⟩)
    go_ret
    exact ⟨ret_int HV.out.symm, 0, rfl⟩
  · obtain ⟨h1, h2, h3, h4, h7⟩ := one_iff h
    by_cases hl : l < 0
    · clear hwl
      have HV : Hid (vSlice m a l n = 0) := by show vSlice m a l n = 0; unfold vSlice; rw [if_neg]; simp; omega
      go_enter Tryz.func139, Tryz.ntmps139
      go_wp2_with (go_at_call 85; refine (sWordOk _ _ _).mono ?_; rintro e w' ⟨rfl, rfl⟩)
      go_ret
      exact ⟨ret_int HV.out.symm, 0, rfl⟩
    · have hw := wrap_sub h1 h2 (show 0 ≤ l by omega) hwl
      clear hwl
      by_cases hs : 1 ≤ n ∧ n ≤ m - l
      · have hd : decide (1 ≤ n ∧ n ≤ m - l) = true := by simpa using hs
        have HV : Hid (vSlice m a l n = a / p2 l.toNat % p2 n.toNat) := by
          show vSlice m a l n = _
          unfold vSlice; rw [if_pos]; simp [h]; omega
        obtain ⟨hs1, hs2⟩ := hs
        clear hw
        have hq := p2_pos l.toNat
        have hr := p2_pos n.toNat
        obtain ⟨hd1, hd2⟩ := div_bd h3 (show 0 ≤ p2 l.toNat by omega)
        go_enter Tryz.func139, Tryz.ntmps139
        go_wp2_with (first | (go_at_call 85; refine (sWordOk _ _ _).mono ?_; rintro e w' ⟨rfl, rfl⟩) | (go_at_call 44; refine (sIn _ _ _ _).mono ?_; rintro e w' ⟨rfl, rfl⟩) | (go_at_call 91; refine (spow _ _ (by omega) (by omega)).mono ?_; rintro e w' ⟨rfl, rfl⟩))
        go_quiet ((go_at_call 91; exact Calls.quiet_of_same (spow _ _ (by omega) (by omega))))
        go_wp2
        go_ret
        exact ⟨ret_int HV.out.symm, _, rfl⟩
      · have hd : decide (1 ≤ n ∧ n ≤ m - l) = false := by simpa using hs
        have HV : Hid (vSlice m a l n = 0) := by show vSlice m a l n = 0; unfold vSlice; rw [if_neg]; simp; omega
        go_enter Tryz.func139, Tryz.ntmps139
        go_wp2_with (first | (go_at_call 85; refine (sWordOk _ _ _).mono ?_; rintro e w' ⟨rfl, rfl⟩) | (go_at_call 44; refine (sIn _ _ _ _).mono ?_; rintro e w' ⟨rfl, rfl⟩))
        go_ret
        exact ⟨ret_int HV.out.symm, 0, rfl⟩

end Go.Proofs.YtdmogjhabladcaaGreat.Wd5
