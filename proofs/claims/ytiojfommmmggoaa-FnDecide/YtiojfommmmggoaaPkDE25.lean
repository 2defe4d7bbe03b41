/- Small texts of mine, one behind the other. -/
import Derived.Deep.QuietTactic
import Derived.BigQuiet
import Derived.Test.YtiojfommmmggoaaPkDE23
import Derived.Test.YtiojfommmmggoaaPkDE0
/- Walks of chapter 1, fourth part: orders, joins and slices of words, in the program and in its model. -/
namespace Go.Proofs.Ytiojfommmmggoaa.Wd5
open Go.RowKit
open Pl1 Wd1 Wd2 Wd3 Wd4
set_option linter.unusedVariables false

set_option maxHeartbeats 400000 in
theorem sLess (m a b : Int) (w : World) :
    Calls Try.prog 78 #[.int .i64 m, .int .i64 a, .int .i64 b] w fun e w' => e = .returned (.int .i64 (vLess m a b)) ∧ w' = w := by
  cases h : (wok m a && wok m b)
  · have HV : Hid (vLess m a b = 0) := by show vLess m a b = 0; simp only [vLess, h]; rfl
    go_enter Try.func78, Try.ntmps78
    go_wp2_with (first | (go_at_call 83; refine (sTwo _ _ _ _).mono ?_; rintro e w' ⟨rfl, rfl⟩) | (go_at_call 77; refine (sOne _ _).mono ?_; rintro e w' ⟨rfl, rfl⟩))
    go_ret
    exact ⟨ret_int HV.out.symm, rfl⟩
  · by_cases hl : a < b
    · have HV : Hid (vLess m a b = 1) := by show vLess m a b = 1; simp only [vLess, h, hl]; rfl
      go_enter Try.func78, Try.ntmps78
      go_wp2_with (first | (go_at_call 83; refine (sTwo _ _ _ _).mono ?_; rintro e w' ⟨rfl, rfl⟩) | (go_at_call 77; refine (sOne _ _).mono ?_; rintro e w' ⟨rfl, rfl⟩))
      go_ret
      exact ⟨ret_int HV.out.symm, rfl⟩
    · have HV : Hid (vLess m a b = 0) := by show vLess m a b = 0; simp only [vLess, h, hl]; rfl
      go_enter Try.func78, Try.ntmps78
      go_wp2_with (first | (go_at_call 83; refine (sTwo _ _ _ _).mono ?_; rintro e w' ⟨rfl, rfl⟩) | (go_at_call 77; refine (sOne _ _).mono ?_; rintro e w' ⟨rfl, rfl⟩))
      go_ret
      exact ⟨ret_int HV.out.symm, rfl⟩

set_option maxHeartbeats 400000 in
theorem sLessSigned (m a b : Int) (w : World) :
    Calls Try.prog 79 #[.int .i64 m, .int .i64 a, .int .i64 b] w fun e w' => e = .returned (.int .i64 (vLessSigned m a b)) ∧ w' = w := by
  cases h : (wok m a && wok m b)
  · have HV : Hid (vLessSigned m a b = 0) := by show vLessSigned m a b = 0; simp only [vLessSigned, h]; rfl
    go_enter Try.func79, Try.ntmps79
    go_wp2_with (first | (go_at_call 83; refine (sTwo _ _ _ _).mono ?_; rintro e w' ⟨rfl, rfl⟩) | (go_at_call 77; refine (sOne _ _).mono ?_; rintro e w' ⟨rfl, rfl⟩))
    go_ret
    exact ⟨ret_int HV.out.symm, rfl⟩
  · obtain ⟨h1, h2, h3, h4, h5, h6, h7⟩ := two_iff h
    by_cases hl : vSigned m a < vSigned m b
    · have HV : Hid (vLessSigned m a b = 1) := by show vLessSigned m a b = 1; simp only [vLessSigned, h, hl]; rfl
      skip
      go_enter Try.func79, Try.ntmps79
      go_wp2_with (first | (go_at_call 83; refine (sTwo _ _ _ _).mono ?_; rintro e w' ⟨rfl, rfl⟩) | (go_at_call 77; refine (sOne _ _).mono ?_; rintro e w' ⟨rfl, rfl⟩) | (go_at_call 84; refine (sSigned _ _ _).mono ?_; rintro e w' ⟨rfl, rfl⟩))
      go_ret
      exact ⟨ret_int HV.out.symm, rfl⟩
    · have HV : Hid (vLessSigned m a b = 0) := by show vLessSigned m a b = 0; simp only [vLessSigned, h, hl]; rfl
      skip
      go_enter Try.func79, Try.ntmps79
      go_wp2_with (first | (go_at_call 83; refine (sTwo _ _ _ _).mono ?_; rintro e w' ⟨rfl, rfl⟩) | (go_at_call 77; refine (sOne _ _).mono ?_; rintro e w' ⟨rfl, rfl⟩) | (go_at_call 84; refine (sSigned _ _ _).mono ?_; rintro e w' ⟨rfl, rfl⟩))
      go_ret
      exact ⟨ret_int HV.out.symm, rfl⟩

theorem wrap_sub {m n : Int} (h1 : 1 ≤ m) (h2 : m ≤ 8) (hn : 0 ≤ n) (hw : (Lit.int .i64 n).wf = true) : wrap64 (m - n) = m - n := by
  have : n ≤ 9223372036854775807 := by
    simp [Lit.wf, IntKind.min, IntKind.max, IntKind.signed, IntKind.bits] at hw; omega
  unfold wrap64; omega

set_option maxHeartbeats 400000 in
theorem sSlice (m a l n : Int) (w : World) (hwl : (Lit.int .i64 l).wf = true) :
    Calls Try.prog 80 #[.int .i64 m, .int .i64 a, .int .i64 l, .int .i64 n] w fun e w' => e = .returned (.int .i64 (vSlice m a l n)) ∧ ∃ k, w' = w.drewN k := by
  cases h : wok m a
  · clear hwl
    have HV : Hid (vSlice m a l n = 0) := by show vSlice m a l n = 0; simp [vSlice, h]
    go_enter Try.func80, Try.ntmps80
    go_wp2_with (go_at_call 65; refine (sWordOk _ _ _).mono ?_; rintro e w' ⟨rfl, rfl⟩)
    go_ret
    exact ⟨ret_int HV.out.symm, 0, rfl⟩
  · obtain ⟨h1, h2, h3, h4, h7⟩ := one_iff h
    by_cases hl : l < 0
    · clear hwl
      have HV : Hid (vSlice m a l n = 0) := by show vSlice m a l n = 0; unfold vSlice; rw [if_neg]; simp; omega
      go_enter Try.func80, Try.ntmps80
      go_wp2_with (go_at_call 65; refine (sWordOk _ _ _).mono ?_; rintro e w' ⟨rfl, rfl⟩)
      go_ret
      exact ⟨ret_int HV.out.symm, 0, rfl⟩
    · have hw := wrap_sub h1 h2 (show 0 ≤ l by omega) hwl
      clear hwl
      by_cases hs : 1 ≤ n ∧ n ≤ m - l
      · have hd : decide (1 ≤ n ∧ n ≤ m - l) = true := by simpa using hs
        have HV : Hid (vSlice m a l n = a / p2 l.toNat % p2 n.toNat) := by
          show vSlice m a l n = _
          unfold vSlice; rw [if_pos]; simp [h]; omega
        obtain ⟨hs1, hs2⟩ := hs
        clear hw
        have hq := p2_pos l.toNat
        have hr := p2_pos n.toNat
        obtain ⟨hd1, hd2⟩ := div_bd h3 (show 0 ≤ p2 l.toNat by omega)
        go_enter Try.func80, Try.ntmps80
        go_wp2_with (first | (go_at_call 65; refine (sWordOk _ _ _).mono ?_; rintro e w' ⟨rfl, rfl⟩) | (go_at_call 46; refine (sIn _ _ _ _).mono ?_; rintro e w' ⟨rfl, rfl⟩) | (go_at_call 26; refine (spow _ _ (by omega) (by omega)).mono ?_; rintro e w' ⟨rfl, rfl⟩))
        go_quiet ((go_at_call 26; exact Calls.quiet_of_same (spow _ _ (by omega) (by omega))))
        go_wp2
        go_ret
        exact ⟨ret_int HV.out.symm, _, rfl⟩
      · have hd : decide (1 ≤ n ∧ n ≤ m - l) = false := by simpa using hs
        have HV : Hid (vSlice m a l n = 0) := by show vSlice m a l n = 0; unfold vSlice; rw [if_neg]; simp; omega
        go_enter Try.func80, Try.ntmps80
        go_wp2_with (first | (go_at_call 65; refine (sWordOk _ _ _).mono ?_; rintro e w' ⟨rfl, rfl⟩) | (go_at_call 46; refine (sIn _ _ _ _).mono ?_; rintro e w' ⟨rfl, rfl⟩))
        go_ret
        exact ⟨ret_int HV.out.symm, 0, rfl⟩

end Go.Proofs.Ytiojfommmmggoaa.Wd5

/- Memory that calls leave as it is: three small laws. -/
namespace Go.Proofs.Ytiojfommmmggoaa.Kp0
open Go.RowKit
open Nd0

theorem below_drewN {B : Nat} {u w : World} (h : Below B u w) (n : Nat) : Below B u (w.drewN n) := ⟨h.os, h.tape, h.output, h.size, h.block⟩
end Go.Proofs.Ytiojfommmmggoaa.Kp0
