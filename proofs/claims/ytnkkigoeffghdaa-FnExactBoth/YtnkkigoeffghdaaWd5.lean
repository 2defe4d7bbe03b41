/- Walks of chapter 1, fourth part: orders, joins and slices of words, in the program and in its model. -/
import Derived.Deep.QuietTactic
import Derived.BigQuiet
import Derived.Test.YtnkkigoeffghdaaPk1528
namespace Go.Proofs.Ytnkkigoeffghdaa.Wd5
open Go.RowKit
open Pl1 Wd1 Wd2 Wd3 Wd4
set_option linter.unusedVariables false

theorem less_of {p q : Bool} {x y : Int} (h : (p && decide (x < y)) = q) : (if p && decide (x < y) then (1 : Int) else 0) = if q then 1 else 0 := by rw [h]

set_option maxHeartbeats 400000 in
theorem iLess (m a b : Int) (w : World) :
    Calls Try.prog 161 #[.int .i64 m, .int .i64 a, .int .i64 b] w fun e w' => e = .returned (.int .i64 (vLess m a b)) ∧ w' = w := by
  cases h : (wok m a && wok m b)
  · have HV : Hid (vLess m a b = 0) := by show vLess m a b = 0; simp only [vLess, h]; rfl
    go_enter Try.func161, Try.ntmps161
    go_wp2_with (first | (go_at_call 171; refine (iTwo _ _ _ _).mono ?_; rintro e w' ⟨rfl, rfl⟩) | (go_at_call 49; refine (iOne _ _).mono ?_; rintro e w' ⟨rfl, rfl⟩))
    go_ret
    exact ⟨ret_int HV.out.symm, rfl⟩
  · by_cases hl : a < b
    · have HV : Hid (vLess m a b = 1) := by show vLess m a b = 1; simp only [vLess, h, hl]; rfl
      go_enter Try.func161, Try.ntmps161
      go_wp2_with (first | (go_at_call 171; refine (iTwo _ _ _ _).mono ?_; rintro e w' ⟨rfl, rfl⟩) | (go_at_call 49; refine (iOne _ _).mono ?_; rintro e w' ⟨rfl, rfl⟩))
      go_ret
      exact ⟨ret_int HV.out.symm, rfl⟩
    · have HV : Hid (vLess m a b = 0) := by show vLess m a b = 0; simp only [vLess, h, hl]; rfl
      go_enter Try.func161, Try.ntmps161
      go_wp2_with (first | (go_at_call 171; refine (iTwo _ _ _ _).mono ?_; rintro e w' ⟨rfl, rfl⟩) | (go_at_call 49; refine (iOne _ _).mono ?_; rintro e w' ⟨rfl, rfl⟩))
      go_ret
      exact ⟨ret_int HV.out.symm, rfl⟩

set_option maxHeartbeats 400000 in
theorem iLessSigned (m a b : Int) (w : World) :
    Calls Try.prog 163 #[.int .i64 m, .int .i64 a, .int .i64 b] w fun e w' => e = .returned (.int .i64 (vLessSigned m a b)) ∧ w' = w := by
  cases h : (wok m a && wok m b)
  · have HV : Hid (vLessSigned m a b = 0) := by show vLessSigned m a b = 0; simp only [vLessSigned, h]; rfl
    go_enter Try.func163, Try.ntmps163
    go_wp2_with (first | (go_at_call 171; refine (iTwo _ _ _ _).mono ?_; rintro e w' ⟨rfl, rfl⟩) | (go_at_call 49; refine (iOne _ _).mono ?_; rintro e w' ⟨rfl, rfl⟩))
    go_ret
    exact ⟨ret_int HV.out.symm, rfl⟩
  · obtain ⟨h1, h2, h3, h4, h5, h6, h7⟩ := two_iff h
    have ea : vSigned m a = sgn m a := by rw [Bool.and_eq_true] at h; simp [vSigned, h.1]
    have eb : vSigned m b = sgn m b := by rw [Bool.and_eq_true] at h; simp [vSigned, h.2]
    by_cases hl : sgn m a < sgn m b
    · have HV : Hid (vLessSigned m a b = 1) := by show vLessSigned m a b = 1; simp only [vLessSigned, ea, eb, h, hl]; rfl
      clear ea eb
      go_enter Try.func163, Try.ntmps163
      go_wp2_with (first | (go_at_call 171; refine (iTwo _ _ _ _).mono ?_; rintro e w' ⟨rfl, rfl⟩) | (go_at_call 49; refine (iOne _ _).mono ?_; rintro e w' ⟨rfl, rfl⟩) | (go_at_call 179; refine (signed _ m _ (by omega) (by omega) h1 h2).mono ?_; rintro e w' ⟨rfl, rfl⟩))
      go_ret
      exact ⟨ret_int HV.out.symm, rfl⟩
    · have HV : Hid (vLessSigned m a b = 0) := by show vLessSigned m a b = 0; simp only [vLessSigned, ea, eb, h, hl]; rfl
      clear ea eb
      go_enter Try.func163, Try.ntmps163
      go_wp2_with (first | (go_at_call 171; refine (iTwo _ _ _ _).mono ?_; rintro e w' ⟨rfl, rfl⟩) | (go_at_call 49; refine (iOne _ _).mono ?_; rintro e w' ⟨rfl, rfl⟩) | (go_at_call 179; refine (signed _ m _ (by omega) (by omega) h1 h2).mono ?_; rintro e w' ⟨rfl, rfl⟩))
      go_ret
      exact ⟨ret_int HV.out.symm, rfl⟩

set_option maxHeartbeats 400000 in
theorem sLess (m a b : Int) (w : World) :
    Calls Try.prog 107 #[.int .i64 m, .int .i64 a, .int .i64 b] w fun e w' => e = .returned (.int .i64 (vLess m a b)) ∧ w' = w := by
  cases h : (wok m a && wok m b)
  · have HV : Hid (vLess m a b = 0) := by show vLess m a b = 0; simp only [vLess, h]; rfl
    go_enter Try.func107, Try.ntmps107
    go_wp2_with (first | (go_at_call 131; refine (sTwo _ _ _ _).mono ?_; rintro e w' ⟨rfl, rfl⟩) | (go_at_call 106; refine (sOne _ _).mono ?_; rintro e w' ⟨rfl, rfl⟩))
    go_ret
    exact ⟨ret_int HV.out.symm, rfl⟩
  · by_cases hl : a < b
    · have HV : Hid (vLess m a b = 1) := by show vLess m a b = 1; simp only [vLess, h, hl]; rfl
      go_enter Try.func107, Try.ntmps107
      go_wp2_with (first | (go_at_call 131; refine (sTwo _ _ _ _).mono ?_; rintro e w' ⟨rfl, rfl⟩) | (go_at_call 106; refine (sOne _ _).mono ?_; rintro e w' ⟨rfl, rfl⟩))
      go_ret
      exact ⟨ret_int HV.out.symm, rfl⟩
    · have HV : Hid (vLess m a b = 0) := by show vLess m a b = 0; simp only [vLess, h, hl]; rfl
      go_enter Try.func107, Try.ntmps107
      go_wp2_with (first | (go_at_call 131; refine (sTwo _ _ _ _).mono ?_; rintro e w' ⟨rfl, rfl⟩) | (go_at_call 106; refine (sOne _ _).mono ?_; rintro e w' ⟨rfl, rfl⟩))
      go_ret
      exact ⟨ret_int HV.out.symm, rfl⟩

set_option maxHeartbeats 400000 in
theorem sLessSigned (m a b : Int) (w : World) :
    Calls Try.prog 108 #[.int .i64 m, .int .i64 a, .int .i64 b] w fun e w' => e = .returned (.int .i64 (vLessSigned m a b)) ∧ w' = w := by
  cases h : (wok m a && wok m b)
  · have HV : Hid (vLessSigned m a b = 0) := by show vLessSigned m a b = 0; simp only [vLessSigned, h]; rfl
    go_enter Try.func108, Try.ntmps108
    go_wp2_with (first | (go_at_call 131; refine (sTwo _ _ _ _).mono ?_; rintro e w' ⟨rfl, rfl⟩) | (go_at_call 106; refine (sOne _ _).mono ?_; rintro e w' ⟨rfl, rfl⟩))
    go_ret
    exact ⟨ret_int HV.out.symm, rfl⟩
  · obtain ⟨h1, h2, h3, h4, h5, h6, h7⟩ := two_iff h
    by_cases hl : vSigned m a < vSigned m b
    · have HV : Hid (vLessSigned m a b = 1) := by show vLessSigned m a b = 1; simp only [vLessSigned, h, hl]; rfl
      skip
      go_enter Try.func108, Try.ntmps108
      go_wp2_with (first | (go_at_call 131; refine (sTwo _ _ _ _).mono ?_; rintro e w' ⟨rfl, rfl⟩) | (go_at_call 106; refine (sOne _ _).mono ?_; rintro e w' ⟨rfl, rfl⟩) | (go_at_call 132; refine (sSigned _ _ _).mono ?_; rintro e w' ⟨rfl, rfl⟩))
      go_ret
      exact ⟨ret_int HV.out.symm, rfl⟩
    · have HV : Hid (vLessSigned m a b = 0) := by show vLessSigned m a b = 0; simp only [vLessSigned, h, hl]; rfl
      skip
      go_enter Try.func108, Try.ntmps108
      go_wp2_with (first | (go_at_call 131; refine (sTwo _ _ _ _).mono ?_; rintro e w' ⟨rfl, rfl⟩) | (go_at_call 106; refine (sOne _ _).mono ?_; rintro e w' ⟨rfl, rfl⟩) | (go_at_call 132; refine (sSigned _ _ _).mono ?_; rintro e w' ⟨rfl, rfl⟩))
      go_ret
      exact ⟨ret_int HV.out.symm, rfl⟩

theorem wrap_sub {m n : Int} (h1 : 1 ≤ m) (h2 : m ≤ 8) (hn : 0 ≤ n) (hw : (Lit.int .i64 n).wf = true) : wrap64 (m - n) = m - n := by
  have : n ≤ 9223372036854775807 := by
    simp [Lit.wf, IntKind.min, IntKind.max, IntKind.signed, IntKind.bits] at hw; omega
  unfold wrap64; omega

set_option maxHeartbeats 400000 in
theorem iSlice (m a l n : Int) (w : World) (hwn : (Lit.int .i64 n).wf = true) :
    Calls Try.prog 166 #[.int .i64 m, .int .i64 a, .int .i64 l, .int .i64 n] w fun e w' => e = .returned (.int .i64 (vSlice m a l n)) ∧ w' = w := by
  cases h : wok m a
  · clear hwn
    have HV : Hid (vSlice m a l n = 0) := by show vSlice m a l n = 0; simp [vSlice, h]
    go_enter Try.func166, Try.ntmps166
    go_wp2_with (go_at_call 138; refine (iWordOk _ _ _).mono ?_; rintro e w' ⟨rfl, rfl⟩)
    go_ret
    exact ⟨ret_int HV.out.symm, rfl⟩
  · obtain ⟨h1, h2, h3, h4, h7⟩ := one_iff h
    by_cases hn : n < 1
    · clear hwn
      have HV : Hid (vSlice m a l n = 0) := by show vSlice m a l n = 0; unfold vSlice; rw [if_neg]; simp; omega
      go_enter Try.func166, Try.ntmps166
      go_wp2_with (go_at_call 138; refine (iWordOk _ _ _).mono ?_; rintro e w' ⟨rfl, rfl⟩)
      go_ret
      exact ⟨ret_int HV.out.symm, rfl⟩
    · have hw := wrap_sub h1 h2 (show 0 ≤ n by omega) hwn
      clear hwn
      by_cases hl : l < 0
      · have HV : Hid (vSlice m a l n = 0) := by show vSlice m a l n = 0; unfold vSlice; rw [if_neg]; simp; omega
        go_enter Try.func166, Try.ntmps166
        go_wp2_with (go_at_call 138; refine (iWordOk _ _ _).mono ?_; rintro e w' ⟨rfl, rfl⟩)
        go_ret
        exact ⟨ret_int HV.out.symm, rfl⟩
      · by_cases hs : m - n < l
        · have HV : Hid (vSlice m a l n = 0) := by show vSlice m a l n = 0; unfold vSlice; rw [if_neg]; simp; omega
          go_enter Try.func166, Try.ntmps166
          go_wp2_with (go_at_call 138; refine (iWordOk _ _ _).mono ?_; rintro e w' ⟨rfl, rfl⟩)
          go_ret
          exact ⟨ret_int HV.out.symm, rfl⟩
        · have HV : Hid (vSlice m a l n = a / p2 l.toNat % p2 n.toNat) := by
            show vSlice m a l n = _
            unfold vSlice; rw [if_pos]; simp [h]; omega
          clear hw
          obtain ⟨hd1, hd2⟩ := div_bd h3 (show 0 ≤ p2 l.toNat by have := p2_pos l.toNat; omega)
          have hm := emod_le (a := a / p2 l.toNat) n.toNat
          have hk := p2_le n.toNat (by omega)
          go_enter Try.func166, Try.ntmps166
          go_wp2_with (first | (go_at_call 138; refine (iWordOk _ _ _).mono ?_; rintro e w' ⟨rfl, rfl⟩) | (go_at_call 178; refine (down a _ _ h3 (by omega) (by omega) (by omega)).mono ?_; rintro e w' ⟨rfl, rfl⟩) | (go_at_call 180; refine (cut _ n _ (by omega) (by omega) (by omega) (by omega)).mono ?_; rintro e w' ⟨rfl, rfl⟩))
          go_ret
          exact ⟨ret_int HV.out.symm, rfl⟩

set_option maxHeartbeats 400000 in
theorem sSlice (m a l n : Int) (w : World) (hwl : (Lit.int .i64 l).wf = true) :
    Calls Try.prog 110 #[.int .i64 m, .int .i64 a, .int .i64 l, .int .i64 n] w fun e w' => e = .returned (.int .i64 (vSlice m a l n)) ∧ ∃ k, w' = w.drewN k := by
  cases h : wok m a
  · clear hwl
    have HV : Hid (vSlice m a l n = 0) := by show vSlice m a l n = 0; simp [vSlice, h]
    go_enter Try.func110, Try.ntmps110
    go_wp2_with (go_at_call 130; refine (sWordOk _ _ _).mono ?_; rintro e w' ⟨rfl, rfl⟩)
    go_ret
    exact ⟨ret_int HV.out.symm, 0, rfl⟩
  · obtain ⟨h1, h2, h3, h4, h7⟩ := one_iff h
    by_cases hl : l < 0
    · clear hwl
      have HV : Hid (vSlice m a l n = 0) := by show vSlice m a l n = 0; unfold vSlice; rw [if_neg]; simp; omega
      go_enter Try.func110, Try.ntmps110
      go_wp2_with (go_at_call 130; refine (sWordOk _ _ _).mono ?_; rintro e w' ⟨rfl, rfl⟩)
      go_ret
      exact ⟨ret_int HV.out.symm, 0, rfl⟩
    · have hw := wrap_sub h1 h2 (show 0 ≤ l by omega) hwl
      clear hwl
      by_cases hs : 1 ≤ n ∧ n ≤ m - l
      · have hd : decide (1 ≤ n ∧ n ≤ m - l) = true := by simpa using hs
        have HV : Hid (vSlice m a l n = a / p2 l.toNat % p2 n.toNat) := by
          show vSlice m a l n = _
          unfold vSlice; rw [if_pos]; simp [h]; omega
        obtain ⟨hs1, hs2⟩ := hs
        clear hw
        have hq := p2_pos l.toNat
        have hr := p2_pos n.toNat
        obtain ⟨hd1, hd2⟩ := div_bd h3 (show 0 ≤ p2 l.toNat by omega)
        go_enter Try.func110, Try.ntmps110
        go_wp2_with (first | (go_at_call 130; refine (sWordOk _ _ _).mono ?_; rintro e w' ⟨rfl, rfl⟩) | (go_at_call 70; refine (sIn _ _ _ _).mono ?_; rintro e w' ⟨rfl, rfl⟩) | (go_at_call 109; refine (spow _ _ (by omega) (by omega)).mono ?_; rintro e w' ⟨rfl, rfl⟩))
        go_quiet ((go_at_call 109; exact Calls.quiet_of_same (spow _ _ (by omega) (by omega))))
        go_wp2
        go_ret
        exact ⟨ret_int HV.out.symm, _, rfl⟩
      · have hd : decide (1 ≤ n ∧ n ≤ m - l) = false := by simpa using hs
        have HV : Hid (vSlice m a l n = 0) := by show vSlice m a l n = 0; unfold vSlice; rw [if_neg]; simp; omega
        go_enter Try.func110, Try.ntmps110
        go_wp2_with (first | (go_at_call 130; refine (sWordOk _ _ _).mono ?_; rintro e w' ⟨rfl, rfl⟩) | (go_at_call 70; refine (sIn _ _ _ _).mono ?_; rintro e w' ⟨rfl, rfl⟩))
        go_ret
        exact ⟨ret_int HV.out.symm, 0, rfl⟩

end Go.Proofs.Ytnkkigoeffghdaa.Wd5
