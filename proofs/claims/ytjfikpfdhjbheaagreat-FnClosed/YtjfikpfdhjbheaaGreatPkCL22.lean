/- Small texts of mine, one behind the other. -/
import Derived.Test.YtjfikpfdhjbheaaGreatRows
import Derived.WalkKit
import Derived.WalkSpells
import Derived.WalkLawsBesides
import Derived.Test.YtjfikpfdhjbheaaGreatPkCL1
/- Walks of chapter 1: the small functions on words, in the program and in its model. -/
namespace Go.Proofs.YtjfikpfdhjbheaaGreat.Wd1
open Go.RowKit
open Pl1
set_option linter.unusedVariables false

theorem ret_int {k : IntKind} {a b : Int} (h : a = b) : Ending.returned (.int k a) = .returned (.int k b) := by rw [h]
theorem ret_bool {a b : Bool} (h : a = b) : Ending.returned (.bool a) = .returned (.bool b) := by rw [h]

set_option maxHeartbeats 400000 in
theorem spow (m : Int) (w : World) (h0 : 0 ≤ m) (h1 : m ≤ 8) :
    Calls Tryz.prog 107 #[.int .i64 m] w fun e w' => e = .returned (.int .i64 (p2 m.toNat)) ∧ w' = w := by
  obtain ⟨n, rfl⟩ := Int.eq_ofNat_of_zero_le h0
  rw [Int.toNat_natCast]
  go_enter Tryz.func107, Tryz.ntmps107
  go_wp2
  go_loop [3, 4] (fun x i => ∃ k : Nat, k ≤ n ∧ i = .int .i64 k ∧ x = .int .i64 (p2 k)) (fun _ i => n - (intOf i).toNat)
  case atStart => exact ⟨0, Nat.zero_le _, rfl, rfl⟩
  case round =>
    obtain ⟨k, hk, rfl, rfl⟩ := hrel
    have hp := p2_pos k
    have hl := p2_le k (by omega)
    by_cases hlt : k < n
    · go_wp2
      go_round
      case rel => exact ⟨k + 1, by omega, by go_num, by rw [p2_succ]⟩
      case measure => simp [intOf]; omega
    · go_wp2
      go_ret
      have : k = n := by omega
      subst this
      exact ⟨rfl, rfl⟩

set_option maxHeartbeats 400000 in
theorem mask (m : Int) (w : World) (h0 : 1 ≤ m) (h1 : m ≤ 8) :
    Calls Tryz.prog 174 #[.int .i64 m] w fun e w' => e = .returned (.int .u8 (p2 m.toNat - 1)) ∧ w' = w := by
  rcases eight h0 h1 with rfl | rfl | rfl | rfl | rfl | rfl | rfl | rfl
  all_goals
    go_enter Tryz.func174, Tryz.ntmps174
    go_wp2
    go_ret
    exact ⟨rfl, rfl⟩

set_option maxHeartbeats 400000 in
theorem cut (a m : Int) (w : World) (ha : 0 ≤ a) (hb : a ≤ 255) (h0 : 1 ≤ m) (h1 : m ≤ 8) :
    Calls Tryz.prog 173 #[.int .u8 a, .int .i64 m] w fun e w' => e = .returned (.int .u8 (a % p2 m.toNat)) ∧ w' = w := by
  have hm := and_mask a m.toNat ha hb (by omega)
  go_enter Tryz.func173, Tryz.ntmps173
  go_wp2_with (go_at_call 174; refine (mask m _ h0 h1).mono ?_; rintro e w' ⟨rfl, rfl⟩)
  go_ret
  exact ⟨rfl, rfl⟩

set_option maxHeartbeats 400000 in
theorem sIn (x a b : Int) (w : World) :
    Calls Tryz.prog 70 #[.int .i64 x, .int .i64 a, .int .i64 b] w fun e w' => e = .returned (.bool (decide (a ≤ x ∧ x ≤ b))) ∧ w' = w := by
  by_cases h1 : a ≤ x <;> by_cases h2 : x ≤ b
  all_goals
    go_enter Tryz.func70, Tryz.ntmps70
    go_wp2
    go_ret
    exact ⟨ret_bool (by simp <;> omega), rfl⟩

set_option maxHeartbeats 400000 in
theorem sWordOk (m a : Int) (w : World) :
    Calls Tryz.prog 95 #[.int .i64 m, .int .i64 a] w fun e w' => e = .returned (.bool (wok m a)) ∧ w' = w := by
  by_cases h : 1 ≤ m ∧ m ≤ 8
  · have hp := p2_pos m.toNat
    have hl := p2_le m.toNat (by omega)
    have hd : decide (1 ≤ m ∧ m ≤ 8) = true := by simpa using h
    go_enter Tryz.func95, Tryz.ntmps95
    go_wp2_with (first | (go_at_call 70; refine (sIn _ _ _ _).mono ?_; rintro e w' ⟨rfl, rfl⟩) | (go_at_call 107; refine (spow m _ (by omega) (by omega)).mono ?_; rintro e w' ⟨rfl, rfl⟩))
    go_ret
    exact ⟨ret_bool (by rw [Bool.eq_iff_iff]; simp [wok]; omega), rfl⟩
  · have hd : decide (1 ≤ m ∧ m ≤ 8) = false := by simpa using h
    go_enter Tryz.func95, Tryz.ntmps95
    go_wp2_with (go_at_call 70; refine (sIn _ _ _ _).mono ?_; rintro e w' ⟨rfl, rfl⟩)
    go_ret
    exact ⟨ret_bool (by unfold wok; symm; rw [decide_eq_false_iff_not]; omega), rfl⟩

set_option maxHeartbeats 400000 in
theorem sTwo (m a b : Int) (w : World) :
    Calls Tryz.prog 120 #[.int .i64 m, .int .i64 a, .int .i64 b] w fun e w' => e = .returned (.bool (wok m a && wok m b)) ∧ w' = w := by
  cases hA : wok m a
  all_goals
    go_enter Tryz.func120, Tryz.ntmps120
    go_wp2_with (go_at_call 95; refine (sWordOk _ _ _).mono ?_; rintro e w' ⟨rfl, rfl⟩)
    go_ret
    exact ⟨ret_bool (by simp), rfl⟩

set_option maxHeartbeats 400000 in
theorem iWidthOk (m : Int) (w : World) :
    Calls Tryz.prog 84 #[.int .i64 m] w fun e w' => e = .returned (.bool (decide (1 ≤ m ∧ m ≤ 8))) ∧ w' = w := by
  by_cases h1 : 1 ≤ m <;> by_cases h2 : m ≤ 8
  all_goals
    go_enter Tryz.func84, Tryz.ntmps84
    go_wp2
    go_ret
    exact ⟨ret_bool (by simp <;> omega), rfl⟩

set_option maxHeartbeats 400000 in
theorem iWordOk (m a : Int) (w : World) :
    Calls Tryz.prog 91 #[.int .i64 m, .int .i64 a] w fun e w' => e = .returned (.bool (wok m a)) ∧ w' = w := by
  by_cases h : 1 ≤ m ∧ m ≤ 8
  · have hd : decide (1 ≤ m ∧ m ≤ 8) = true := by simpa using h
    by_cases ha : 0 ≤ a
    all_goals
      go_enter Tryz.func91, Tryz.ntmps91
      go_wp2_with (go_at_call 84; refine (iWidthOk _ _).mono ?_; rintro e w' ⟨rfl, rfl⟩)
      go_ret
      exact ⟨ret_bool (by rw [Bool.eq_iff_iff]; try rw [wrap_p2 _ (by omega)]
                          simp [wok]; omega), rfl⟩
  · have hd : decide (1 ≤ m ∧ m ≤ 8) = false := by simpa using h
    go_enter Tryz.func91, Tryz.ntmps91
    go_wp2_with (go_at_call 84; refine (iWidthOk _ _).mono ?_; rintro e w' ⟨rfl, rfl⟩)
    go_ret
    exact ⟨ret_bool (by unfold wok; symm; rw [decide_eq_false_iff_not]; omega), rfl⟩

set_option maxHeartbeats 400000 in
theorem iTwo (m a b : Int) (w : World) :
    Calls Tryz.prog 164 #[.int .i64 m, .int .i64 a, .int .i64 b] w fun e w' => e = .returned (.bool (wok m a && wok m b)) ∧ w' = w := by
  cases hA : wok m a
  all_goals
    go_enter Tryz.func164, Tryz.ntmps164
    go_wp2_with (go_at_call 91; refine (iWordOk _ _ _).mono ?_; rintro e w' ⟨rfl, rfl⟩)
    go_ret
    exact ⟨ret_bool (by simp), rfl⟩

set_option maxHeartbeats 400000 in
theorem plus (a b m : Int) (w : World) (ha : 0 ≤ a) (ha' : a ≤ 255) (hb : 0 ≤ b) (hb' : b ≤ 255) (h0 : 1 ≤ m) (h1 : m ≤ 8) :
    Calls Tryz.prog 165 #[.int .u8 a, .int .i64 m, .int .u8 b] w fun e w' => e = .returned (.int .u8 ((a + b) % p2 m.toNat)) ∧ w' = w := by
  go_enter Tryz.func165, Tryz.ntmps165
  go_wp2_with (go_at_call 173; refine (cut _ m _ (by omega) (by omega) h0 h1).mono ?_; rintro e w' ⟨rfl, rfl⟩)
  go_ret
  exact ⟨ret_int (mod256 _ _ (by omega)), rfl⟩

set_option maxHeartbeats 400000 in
theorem minus (a b m : Int) (w : World) (ha : 0 ≤ a) (ha' : a ≤ 255) (hb : 0 ≤ b) (hb' : b ≤ 255) (h0 : 1 ≤ m) (h1 : m ≤ 8) :
    Calls Tryz.prog 166 #[.int .u8 a, .int .i64 m, .int .u8 b] w fun e w' => e = .returned (.int .u8 ((a - b) % p2 m.toNat)) ∧ w' = w := by
  go_enter Tryz.func166, Tryz.ntmps166
  go_wp2_with (go_at_call 173; refine (cut _ m _ (by omega) (by omega) h0 h1).mono ?_; rintro e w' ⟨rfl, rfl⟩)
  go_ret
  exact ⟨ret_int (mod256 _ _ (by omega)), rfl⟩

set_option maxHeartbeats 400000 in
theorem times (a b m : Int) (w : World) (ha : 0 ≤ a) (ha' : a ≤ 255) (hb : 0 ≤ b) (hb' : b ≤ 255) (h0 : 1 ≤ m) (h1 : m ≤ 8) :
    Calls Tryz.prog 167 #[.int .u8 a, .int .i64 m, .int .u8 b] w fun e w' => e = .returned (.int .u8 (a * b % p2 m.toNat)) ∧ w' = w := by
  go_enter Tryz.func167, Tryz.ntmps167
  go_wp2_with (go_at_call 173; refine (cut _ m _ (by omega) (by omega) h0 h1).mono ?_; rintro e w' ⟨rfl, rfl⟩)
  go_ret
  exact ⟨ret_int (mod256 _ _ (by omega)), rfl⟩

set_option maxHeartbeats 400000 in
theorem over (a b m : Int) (w : World) (ha : 0 ≤ a) (ha' : a ≤ 255) (hb : 0 ≤ b) (hb' : b ≤ 255) (h0 : 1 ≤ m) (h1 : m ≤ 8) :
    Calls Tryz.prog 168 #[.int .u8 a, .int .i64 m, .int .u8 b] w fun e w' => e = .returned (.int .u8 (if b = 0 then p2 m.toNat - 1 else a / b)) ∧ w' = w := by
  by_cases hz : b = 0
  · subst hz
    go_enter Tryz.func168, Tryz.ntmps168
    go_wp2_with (go_at_call 174; refine (mask m _ h0 h1).mono ?_; rintro e w' ⟨rfl, rfl⟩)
    go_ret
    exact ⟨rfl, rfl⟩
  · have hz' : (b == 0) = false := by simpa using hz
    go_enter Tryz.func168, Tryz.ntmps168
    go_wp2
    go_ret
    exact ⟨rfl, rfl⟩

set_option maxHeartbeats 400000 in
theorem rest (a b : Int) (w : World) (ha : 0 ≤ a) (ha' : a ≤ 255) (hb : 0 ≤ b) (hb' : b ≤ 255) :
    Calls Tryz.prog 169 #[.int .u8 a, .int .u8 b] w fun e w' => e = .returned (.int .u8 (if b = 0 then a else a % b)) ∧ w' = w := by
  by_cases hz : b = 0
  · subst hz
    go_enter Tryz.func169, Tryz.ntmps169
    go_wp2
    go_ret
    exact ⟨rfl, rfl⟩
  · have hz' : (b == 0) = false := by simpa using hz
    go_enter Tryz.func169, Tryz.ntmps169
    go_wp2
    go_ret
    exact ⟨rfl, rfl⟩

set_option maxHeartbeats 400000 in
theorem up (a b m : Int) (w : World) (ha : 0 ≤ a) (ha' : a ≤ 255) (hb : 0 ≤ b) (hb' : b ≤ 7) (h0 : 1 ≤ m) (h1 : m ≤ 8) :
    Calls Tryz.prog 170 #[.int .u8 a, .int .i64 m, .int .u8 b] w fun e w' => e = .returned (.int .u8 (a * p2 b.toNat % p2 m.toNat)) ∧ w' = w := by
  go_enter Tryz.func170, Tryz.ntmps170
  go_wp2_with (go_at_call 173; refine (cut _ m _ (by omega) (by omega) h0 h1).mono ?_; rintro e w' ⟨rfl, rfl⟩)
  go_ret
  exact ⟨ret_int (mod256 _ _ (by omega)), rfl⟩

set_option maxHeartbeats 400000 in
theorem upFar (a b m : Int) (w : World) (ha : 0 ≤ a) (ha' : a ≤ 255) (hb : 8 ≤ b) (h0 : 1 ≤ m) (h1 : m ≤ 8) :
    Calls Tryz.prog 170 #[.int .u8 a, .int .i64 m, .int .u8 b] w fun e w' => e = .returned (.int .u8 0) ∧ w' = w := by
  have hs := shl8 a b .u8 hb
  go_enter Tryz.func170, Tryz.ntmps170
  go_wp2_with (go_at_call 173; refine (cut _ m _ (by omega) (by omega) h0 h1).mono ?_; rintro e w' ⟨rfl, rfl⟩)
  go_ret
  exact ⟨ret_int (by simp), rfl⟩

set_option maxHeartbeats 400000 in
theorem down (a b : Int) (w : World) (ha : 0 ≤ a) (ha' : a ≤ 255) (hb : 0 ≤ b) (hb' : b ≤ 7) :
    Calls Tryz.prog 171 #[.int .u8 a, .int .u8 b] w fun e w' => e = .returned (.int .u8 (a / p2 b.toNat)) ∧ w' = w := by
  go_enter Tryz.func171, Tryz.ntmps171
  go_wp2
  go_ret
  exact ⟨rfl, rfl⟩

set_option maxHeartbeats 400000 in
theorem downFar (a b : Int) (w : World) (ha : 0 ≤ a) (ha' : a ≤ 255) (hb : 8 ≤ b) :
    Calls Tryz.prog 171 #[.int .u8 a, .int .u8 b] w fun e w' => e = .returned (.int .u8 0) ∧ w' = w := by
  have hs := shr8 a b .u8 hb ha ha'
  go_enter Tryz.func171, Tryz.ntmps171
  go_wp2
  go_ret
  exact ⟨rfl, rfl⟩

set_option maxHeartbeats 400000 in
theorem flip (a m : Int) (w : World) (ha : 0 ≤ a) (ha' : a < p2 m.toNat) (h0 : 1 ≤ m) (h1 : m ≤ 8) :
    Calls Tryz.prog 163 #[.int .u8 a, .int .i64 m] w fun e w' => e = .returned (.int .u8 (p2 m.toNat - 1 - a)) ∧ w' = w := by
  have hl := p2_le m.toNat (by omega)
  have hx := xor255 a ha (by omega)
  have HF : Hid ((255 - a) % p2 m.toNat = p2 m.toNat - 1 - a) := flip_spec a _ (by omega) ha ha'
  go_enter Tryz.func163, Tryz.ntmps163
  go_wp2_with (go_at_call 173; refine (cut _ m _ (by omega) (by omega) h0 h1).mono ?_; rintro e w' ⟨rfl, rfl⟩)
  go_ret
  exact ⟨ret_int HF.out, rfl⟩

set_option maxHeartbeats 400000 in
theorem signed (a m : Int) (w : World) (ha : 0 ≤ a) (ha' : a < p2 m.toNat) (h0 : 1 ≤ m) (h1 : m ≤ 8) :
    Calls Tryz.prog 172 #[.int .u8 a, .int .i64 m] w fun e w' => e = .returned (.int .i64 (sgn m a)) ∧ w' = w := by
  have hp := p2_le m.toNat (by omega)
  have hq := p2_pos m.toNat
  have HW : Hid (wrap64 (2 ^ m.toNat) = p2 m.toNat) := wrap_p2 _ (by omega)
  by_cases hs : p2 (m - 1).toNat ≤ a
  · have hd : (a / 2 ^ (m.toNat - 1) == 0) = false := sgn_hi h0 hs
    have HS : Hid (sgn m a = a - p2 m.toNat) := sgn_pos hs
    clear hs
    go_enter Tryz.func172, Tryz.ntmps172
    go_wp2
    go_ret
    exact ⟨ret_int (by rw [HS.out, HW.out]; unfold wrap64; omega), rfl⟩
  · have hd : (a / 2 ^ (m.toNat - 1) == 0) = true := sgn_lo h0 ha hs
    have HS : Hid (sgn m a = a) := sgn_neg hs
    clear hs
    go_enter Tryz.func172, Tryz.ntmps172
    go_wp2
    go_ret
    exact ⟨ret_int (by rw [HS.out]), rfl⟩

end Go.Proofs.YtjfikpfdhjbheaaGreat.Wd1

/- Walks of chapter 1: the operations on words, in the program and in its model: each answers the same plain function. -/
namespace Go.Proofs.YtjfikpfdhjbheaaGreat.Wd2
open Go.RowKit
open Pl1 Wd1
set_option linter.unusedVariables false

theorem two_iff {m a b : Int} (h : (wok m a && wok m b) = true) : 1 ≤ m ∧ m ≤ 8 ∧ 0 ≤ a ∧ a < p2 m.toNat ∧ 0 ≤ b ∧ b < p2 m.toNat ∧ p2 m.toNat ≤ 256 := by
  rw [Bool.and_eq_true] at h
  obtain ⟨h1, h2, h3, h4⟩ := wok_iff.1 h.1
  obtain ⟨_, _, h5, h6⟩ := wok_iff.1 h.2
  exact ⟨h1, h2, h3, h4, h5, h6, p2_le _ (by omega)⟩
theorem one_iff {m a : Int} (h : wok m a = true) : 1 ≤ m ∧ m ≤ 8 ∧ 0 ≤ a ∧ a < p2 m.toNat ∧ p2 m.toNat ≤ 256 := by
  obtain ⟨h1, h2, h3, h4⟩ := wok_iff.1 h
  exact ⟨h1, h2, h3, h4, p2_le _ (by omega)⟩

set_option maxHeartbeats 400000 in
theorem iAdd (m a b : Int) (w : World) :
    Calls Tryz.prog 138 #[.int .i64 m, .int .i64 a, .int .i64 b] w fun e w' => e = .returned (.int .i64 (vAdd m a b)) ∧ w' = w := by
  cases h : (wok m a && wok m b)
  · have HV : Hid (vAdd m a b = 0) := by show vAdd m a b = 0; simp [vAdd, h]
    go_enter Tryz.func138, Tryz.ntmps138
    go_wp2_with (go_at_call 164; refine (iTwo _ _ _ _).mono ?_; rintro e w' ⟨rfl, rfl⟩)
    go_ret
    exact ⟨ret_int HV.out.symm, rfl⟩
  · obtain ⟨h1, h2, h3, h4, h5, h6, h7⟩ := two_iff h
    have HV : Hid (vAdd m a b = (a + b) % p2 m.toNat) := by show vAdd m a b = _; simp [vAdd, h]
    have hm := emod_le (a := (a + b)) m.toNat
    go_enter Tryz.func138, Tryz.ntmps138
    go_wp2_with (first | (go_at_call 164; refine (iTwo _ _ _ _).mono ?_; rintro e w' ⟨rfl, rfl⟩) | (go_at_call 165; refine (plus a b m _ h3 (by omega) h5 (by omega) h1 h2).mono ?_; rintro e w' ⟨rfl, rfl⟩))
    go_ret
    exact ⟨ret_int HV.out.symm, rfl⟩

set_option maxHeartbeats 400000 in
theorem iSub (m a b : Int) (w : World) :
    Calls Tryz.prog 140 #[.int .i64 m, .int .i64 a, .int .i64 b] w fun e w' => e = .returned (.int .i64 (vSub m a b)) ∧ w' = w := by
  cases h : (wok m a && wok m b)
  · have HV : Hid (vSub m a b = 0) := by show vSub m a b = 0; simp [vSub, h]
    go_enter Tryz.func140, Tryz.ntmps140
    go_wp2_with (go_at_call 164; refine (iTwo _ _ _ _).mono ?_; rintro e w' ⟨rfl, rfl⟩)
    go_ret
    exact ⟨ret_int HV.out.symm, rfl⟩
  · obtain ⟨h1, h2, h3, h4, h5, h6, h7⟩ := two_iff h
    have HV : Hid (vSub m a b = (a - b) % p2 m.toNat) := by show vSub m a b = _; simp [vSub, h]
    have hm := emod_le (a := (a - b)) m.toNat
    go_enter Tryz.func140, Tryz.ntmps140
    go_wp2_with (first | (go_at_call 164; refine (iTwo _ _ _ _).mono ?_; rintro e w' ⟨rfl, rfl⟩) | (go_at_call 166; refine (minus a b m _ h3 (by omega) h5 (by omega) h1 h2).mono ?_; rintro e w' ⟨rfl, rfl⟩))
    go_ret
    exact ⟨ret_int HV.out.symm, rfl⟩

set_option maxHeartbeats 400000 in
theorem iMul (m a b : Int) (w : World) :
    Calls Tryz.prog 142 #[.int .i64 m, .int .i64 a, .int .i64 b] w fun e w' => e = .returned (.int .i64 (vMul m a b)) ∧ w' = w := by
  cases h : (wok m a && wok m b)
  · have HV : Hid (vMul m a b = 0) := by show vMul m a b = 0; simp [vMul, h]
    go_enter Tryz.func142, Tryz.ntmps142
    go_wp2_with (go_at_call 164; refine (iTwo _ _ _ _).mono ?_; rintro e w' ⟨rfl, rfl⟩)
    go_ret
    exact ⟨ret_int HV.out.symm, rfl⟩
  · obtain ⟨h1, h2, h3, h4, h5, h6, h7⟩ := two_iff h
    have HV : Hid (vMul m a b = a * b % p2 m.toNat) := by show vMul m a b = _; simp [vMul, h]
    have hm := emod_le (a := a * b) m.toNat
    go_enter Tryz.func142, Tryz.ntmps142
    go_wp2_with (first | (go_at_call 164; refine (iTwo _ _ _ _).mono ?_; rintro e w' ⟨rfl, rfl⟩) | (go_at_call 167; refine (times a b m _ h3 (by omega) h5 (by omega) h1 h2).mono ?_; rintro e w' ⟨rfl, rfl⟩))
    go_ret
    exact ⟨ret_int HV.out.symm, rfl⟩

set_option maxHeartbeats 400000 in
theorem sAdd (m a b : Int) (w : World) :
    Calls Tryz.prog 97 #[.int .i64 m, .int .i64 a, .int .i64 b] w fun e w' => e = .returned (.int .i64 (vAdd m a b)) ∧ w' = w := by
  cases h : (wok m a && wok m b)
  · have HV : Hid (vAdd m a b = 0) := by show vAdd m a b = 0; simp [vAdd, h]
    go_enter Tryz.func97, Tryz.ntmps97
    go_wp2_with (go_at_call 120; refine (sTwo _ _ _ _).mono ?_; rintro e w' ⟨rfl, rfl⟩)
    go_ret
    exact ⟨ret_int HV.out.symm, rfl⟩
  · obtain ⟨h1, h2, h3, h4, h5, h6, h7⟩ := two_iff h
    have HV : Hid (vAdd m a b = (a + b) % p2 m.toNat) := by show vAdd m a b = _; simp [vAdd, h]
    have hp := p2_pos m.toNat
    go_enter Tryz.func97, Tryz.ntmps97
    go_wp2_with (first | (go_at_call 120; refine (sTwo _ _ _ _).mono ?_; rintro e w' ⟨rfl, rfl⟩) | (go_at_call 107; refine (spow _ _ (by omega) (by omega)).mono ?_; rintro e w' ⟨rfl, rfl⟩))
    go_ret
    exact ⟨ret_int HV.out.symm, rfl⟩

set_option maxHeartbeats 400000 in
theorem sSub (m a b : Int) (w : World) :
    Calls Tryz.prog 98 #[.int .i64 m, .int .i64 a, .int .i64 b] w fun e w' => e = .returned (.int .i64 (vSub m a b)) ∧ w' = w := by
  cases h : (wok m a && wok m b)
  · have HV : Hid (vSub m a b = 0) := by show vSub m a b = 0; simp [vSub, h]
    go_enter Tryz.func98, Tryz.ntmps98
    go_wp2_with (go_at_call 120; refine (sTwo _ _ _ _).mono ?_; rintro e w' ⟨rfl, rfl⟩)
    go_ret
    exact ⟨ret_int HV.out.symm, rfl⟩
  · obtain ⟨h1, h2, h3, h4, h5, h6, h7⟩ := two_iff h
    have HV : Hid (vSub m a b = (a + p2 m.toNat - b) % p2 m.toNat) := by show vSub m a b = _; rw [sub_spec]; simp [vSub, h]
    have hp := p2_pos m.toNat
    go_enter Tryz.func98, Tryz.ntmps98
    go_wp2_with (first | (go_at_call 120; refine (sTwo _ _ _ _).mono ?_; rintro e w' ⟨rfl, rfl⟩) | (go_at_call 107; refine (spow _ _ (by omega) (by omega)).mono ?_; rintro e w' ⟨rfl, rfl⟩))
    go_ret
    exact ⟨ret_int HV.out.symm, rfl⟩

set_option maxHeartbeats 400000 in
theorem sMul (m a b : Int) (w : World) :
    Calls Tryz.prog 99 #[.int .i64 m, .int .i64 a, .int .i64 b] w fun e w' => e = .returned (.int .i64 (vMul m a b)) ∧ w' = w := by
  cases h : (wok m a && wok m b)
  · have HV : Hid (vMul m a b = 0) := by show vMul m a b = 0; simp [vMul, h]
    go_enter Tryz.func99, Tryz.ntmps99
    go_wp2_with (go_at_call 120; refine (sTwo _ _ _ _).mono ?_; rintro e w' ⟨rfl, rfl⟩)
    go_ret
    exact ⟨ret_int HV.out.symm, rfl⟩
  · obtain ⟨h1, h2, h3, h4, h5, h6, h7⟩ := two_iff h
    have HV : Hid (vMul m a b = a * b % p2 m.toNat) := by show vMul m a b = _; simp [vMul, h]
    have hp := p2_pos m.toNat
    obtain ⟨hb1, hb2⟩ := mul_bd h3 (by omega) h5 (by omega)
    go_enter Tryz.func99, Tryz.ntmps99
    go_wp2_with (first | (go_at_call 120; refine (sTwo _ _ _ _).mono ?_; rintro e w' ⟨rfl, rfl⟩) | (go_at_call 107; refine (spow _ _ (by omega) (by omega)).mono ?_; rintro e w' ⟨rfl, rfl⟩))
    go_ret
    exact ⟨ret_int HV.out.symm, rfl⟩

end Go.Proofs.YtjfikpfdhjbheaaGreat.Wd2

/- Walks of chapter 1, second part: division, shifts, flips, orders, joins and slices of words, in the program and in its model. -/
namespace Go.Proofs.YtjfikpfdhjbheaaGreat.Wd3
open Go.RowKit
open Pl1 Wd1 Wd2
set_option linter.unusedVariables false

theorem div_bd {a b : Int} (ha : 0 ≤ a) (hb : 0 ≤ b) : 0 ≤ a / b ∧ a / b ≤ a := ⟨Int.ediv_nonneg ha hb, Int.ediv_le_self _ ha⟩
theorem rem_bd {a b : Int} (ha : 0 ≤ a) (hb : 0 ≤ b) (hz : ¬ b = 0) : 0 ≤ a % b ∧ a % b < b := ⟨Int.emod_nonneg _ hz, Int.emod_lt_of_pos _ (by omega)⟩

set_option maxHeartbeats 400000 in
theorem iDiv (m a b : Int) (w : World) :
    Calls Tryz.prog 144 #[.int .i64 m, .int .i64 a, .int .i64 b] w fun e w' => e = .returned (.int .i64 (vDiv m a b)) ∧ w' = w := by
  cases h : (wok m a && wok m b)
  · have HV : Hid (vDiv m a b = 0) := by show vDiv m a b = 0; simp [vDiv, h]
    go_enter Tryz.func144, Tryz.ntmps144
    go_wp2_with (go_at_call 164; refine (iTwo _ _ _ _).mono ?_; rintro e w' ⟨rfl, rfl⟩)
    go_ret
    exact ⟨ret_int HV.out.symm, rfl⟩
  · obtain ⟨h1, h2, h3, h4, h5, h6, h7⟩ := two_iff h
    by_cases hz : b = 0
    · subst hz
      have HV : Hid (vDiv m a 0 = p2 m.toNat - 1) := by show vDiv m a 0 = _; unfold vDiv; rw [h]; rfl
      have hp := p2_pos m.toNat
      go_enter Tryz.func144, Tryz.ntmps144
      go_wp2_with (first | (go_at_call 164; refine (iTwo _ _ _ _).mono ?_; rintro e w' ⟨rfl, rfl⟩) | (go_at_call 168; refine (over a _ m _ h3 (by omega) h5 (by omega) h1 h2).mono ?_; rintro e w' ⟨rfl, rfl⟩))
      all_goals
        go_ret
        exact ⟨ret_int HV.out.symm, rfl⟩
    · have HV : Hid (vDiv m a b = a / b) := by show vDiv m a b = _; simp [vDiv, h, hz]
      have hp := p2_pos m.toNat
      have hz' : (b == 0) = false := by simpa using hz
      obtain ⟨hd1, hd2⟩ := div_bd h3 h5
      go_enter Tryz.func144, Tryz.ntmps144
      go_wp2_with (first | (go_at_call 164; refine (iTwo _ _ _ _).mono ?_; rintro e w' ⟨rfl, rfl⟩) | (go_at_call 168; refine (over a _ m _ h3 (by omega) h5 (by omega) h1 h2).mono ?_; rintro e w' ⟨rfl, rfl⟩))
      all_goals
        go_ret
        exact ⟨ret_int HV.out.symm, rfl⟩

set_option maxHeartbeats 400000 in
theorem iRem (m a b : Int) (w : World) :
    Calls Tryz.prog 146 #[.int .i64 m, .int .i64 a, .int .i64 b] w fun e w' => e = .returned (.int .i64 (vRem m a b)) ∧ w' = w := by
  cases h : (wok m a && wok m b)
  · have HV : Hid (vRem m a b = 0) := by show vRem m a b = 0; simp [vRem, h]
    go_enter Tryz.func146, Tryz.ntmps146
    go_wp2_with (go_at_call 164; refine (iTwo _ _ _ _).mono ?_; rintro e w' ⟨rfl, rfl⟩)
    go_ret
    exact ⟨ret_int HV.out.symm, rfl⟩
  · obtain ⟨h1, h2, h3, h4, h5, h6, h7⟩ := two_iff h
    by_cases hz : b = 0
    · subst hz
      have HV : Hid (vRem m a 0 = a) := by show vRem m a 0 = _; unfold vRem; rw [h]; rfl
      have hp := p2_pos m.toNat
      go_enter Tryz.func146, Tryz.ntmps146
      go_wp2_with (first | (go_at_call 164; refine (iTwo _ _ _ _).mono ?_; rintro e w' ⟨rfl, rfl⟩) | (go_at_call 169; refine (rest a _ _ h3 (by omega) h5 (by omega)).mono ?_; rintro e w' ⟨rfl, rfl⟩))
      all_goals
        go_ret
        exact ⟨ret_int HV.out.symm, rfl⟩
    · have HV : Hid (vRem m a b = a % b) := by show vRem m a b = _; simp [vRem, h, hz]
      have hp := p2_pos m.toNat
      have hz' : (b == 0) = false := by simpa using hz
      obtain ⟨hd1, hd2⟩ := rem_bd h3 h5 hz
      go_enter Tryz.func146, Tryz.ntmps146
      go_wp2_with (first | (go_at_call 164; refine (iTwo _ _ _ _).mono ?_; rintro e w' ⟨rfl, rfl⟩) | (go_at_call 169; refine (rest a _ _ h3 (by omega) h5 (by omega)).mono ?_; rintro e w' ⟨rfl, rfl⟩))
      all_goals
        go_ret
        exact ⟨ret_int HV.out.symm, rfl⟩

set_option maxHeartbeats 400000 in
theorem sDiv (m a b : Int) (w : World) :
    Calls Tryz.prog 100 #[.int .i64 m, .int .i64 a, .int .i64 b] w fun e w' => e = .returned (.int .i64 (vDiv m a b)) ∧ w' = w := by
  cases h : (wok m a && wok m b)
  · have HV : Hid (vDiv m a b = 0) := by show vDiv m a b = 0; simp [vDiv, h]
    go_enter Tryz.func100, Tryz.ntmps100
    go_wp2_with (go_at_call 120; refine (sTwo _ _ _ _).mono ?_; rintro e w' ⟨rfl, rfl⟩)
    go_ret
    exact ⟨ret_int HV.out.symm, rfl⟩
  · obtain ⟨h1, h2, h3, h4, h5, h6, h7⟩ := two_iff h
    by_cases hz : b = 0
    · subst hz
      have HV : Hid (vDiv m a 0 = p2 m.toNat - 1) := by show vDiv m a 0 = _; unfold vDiv; rw [h]; rfl
      have hp := p2_pos m.toNat
      go_enter Tryz.func100, Tryz.ntmps100
      go_wp2_with (first | (go_at_call 120; refine (sTwo _ _ _ _).mono ?_; rintro e w' ⟨rfl, rfl⟩) | (go_at_call 107; refine (spow _ _ (by omega) (by omega)).mono ?_; rintro e w' ⟨rfl, rfl⟩))
      all_goals
        go_ret
        exact ⟨ret_int HV.out.symm, rfl⟩
    · have HV : Hid (vDiv m a b = a / b) := by show vDiv m a b = _; simp [vDiv, h, hz]
      have hp := p2_pos m.toNat
      have hz' : (b == 0) = false := by simpa using hz
      obtain ⟨hd1, hd2⟩ := div_bd h3 h5
      go_enter Tryz.func100, Tryz.ntmps100
      go_wp2_with (first | (go_at_call 120; refine (sTwo _ _ _ _).mono ?_; rintro e w' ⟨rfl, rfl⟩) | (go_at_call 107; refine (spow _ _ (by omega) (by omega)).mono ?_; rintro e w' ⟨rfl, rfl⟩))
      all_goals
        go_ret
        exact ⟨ret_int HV.out.symm, rfl⟩

set_option maxHeartbeats 400000 in
theorem sRem (m a b : Int) (w : World) :
    Calls Tryz.prog 101 #[.int .i64 m, .int .i64 a, .int .i64 b] w fun e w' => e = .returned (.int .i64 (vRem m a b)) ∧ w' = w := by
  cases h : (wok m a && wok m b)
  · have HV : Hid (vRem m a b = 0) := by show vRem m a b = 0; simp [vRem, h]
    go_enter Tryz.func101, Tryz.ntmps101
    go_wp2_with (go_at_call 120; refine (sTwo _ _ _ _).mono ?_; rintro e w' ⟨rfl, rfl⟩)
    go_ret
    exact ⟨ret_int HV.out.symm, rfl⟩
  · obtain ⟨h1, h2, h3, h4, h5, h6, h7⟩ := two_iff h
    by_cases hz : b = 0
    · subst hz
      have HV : Hid (vRem m a 0 = a) := by show vRem m a 0 = _; unfold vRem; rw [h]; rfl
      have hp := p2_pos m.toNat
      go_enter Tryz.func101, Tryz.ntmps101
      go_wp2_with (first | (go_at_call 120; refine (sTwo _ _ _ _).mono ?_; rintro e w' ⟨rfl, rfl⟩) | fail)
      all_goals
        go_ret
        exact ⟨ret_int HV.out.symm, rfl⟩
    · have HV : Hid (vRem m a b = a % b) := by show vRem m a b = _; simp [vRem, h, hz]
      have hp := p2_pos m.toNat
      have hz' : (b == 0) = false := by simpa using hz
      obtain ⟨hd1, hd2⟩ := rem_bd h3 h5 hz
      go_enter Tryz.func101, Tryz.ntmps101
      go_wp2_with (first | (go_at_call 120; refine (sTwo _ _ _ _).mono ?_; rintro e w' ⟨rfl, rfl⟩) | fail)
      all_goals
        go_ret
        exact ⟨ret_int HV.out.symm, rfl⟩

end Go.Proofs.YtjfikpfdhjbheaaGreat.Wd3
