/- Small texts of mine, one behind the other. -/
import Derived.Deep.QuietTactic
import Derived.BigQuiet
import Derived.Test.YtejgcchkhljnjaaGreatPkFO21
import Derived.Test.YtejgcchkhljnjaaGreatPkFO0
/- Walks of chapter 1, fourth part: orders, joins and slices of words, in the program and in its model. -/
namespace Go.Proofs.YtejgcchkhljnjaaGreat.Wd5
open Go.RowKit
open Pl1 Wd1 Wd2 Wd3 Wd4
set_option linter.unusedVariables false

set_option maxHeartbeats 400000 in
theorem iLess (m a b : Int) (w : World) :
    Calls Tryz.prog 185 #[.int .i64 m, .int .i64 a, .int .i64 b] w fun e w' => e = .returned (.int .i64 (vLess m a b)) ∧ w' = w := by
  cases h : (wok m a && wok m b)
  · have HV : Hid (vLess m a b = 0) := by show vLess m a b = 0; simp only [vLess, h]; rfl
    go_enter Tryz.func185, Tryz.ntmps185
    go_wp2_with (first | (go_at_call 200; refine (iTwo _ _ _ _).mono ?_; rintro e w' ⟨rfl, rfl⟩) | (go_at_call 152; refine (iOne _ _).mono ?_; rintro e w' ⟨rfl, rfl⟩))
    go_ret
    exact ⟨ret_int HV.out.symm, rfl⟩
  · by_cases hl : a < b
    · have HV : Hid (vLess m a b = 1) := by show vLess m a b = 1; simp only [vLess, h, hl]; rfl
      go_enter Tryz.func185, Tryz.ntmps185
      go_wp2_with (first | (go_at_call 200; refine (iTwo _ _ _ _).mono ?_; rintro e w' ⟨rfl, rfl⟩) | (go_at_call 152; refine (iOne _ _).mono ?_; rintro e w' ⟨rfl, rfl⟩))
      go_ret
      exact ⟨ret_int HV.out.symm, rfl⟩
    · have HV : Hid (vLess m a b = 0) := by show vLess m a b = 0; simp only [vLess, h, hl]; rfl
      go_enter Tryz.func185, Tryz.ntmps185
      go_wp2_with (first | (go_at_call 200; refine (iTwo _ _ _ _).mono ?_; rintro e w' ⟨rfl, rfl⟩) | (go_at_call 152; refine (iOne _ _).mono ?_; rintro e w' ⟨rfl, rfl⟩))
      go_ret
      exact ⟨ret_int HV.out.symm, rfl⟩

set_option maxHeartbeats 400000 in
theorem iLessSigned (m a b : Int) (w : World) :
    Calls Tryz.prog 187 #[.int .i64 m, .int .i64 a, .int .i64 b] w fun e w' => e = .returned (.int .i64 (vLessSigned m a b)) ∧ w' = w := by
  cases h : (wok m a && wok m b)
  · have HV : Hid (vLessSigned m a b = 0) := by show vLessSigned m a b = 0; simp only [vLessSigned, h]; rfl
    go_enter Tryz.func187, Tryz.ntmps187
    go_wp2_with (first | (go_at_call 200; refine (iTwo _ _ _ _).mono ?_; rintro e w' ⟨rfl, rfl⟩) | (go_at_call 152; refine (iOne _ _).mono ?_; rintro e w' ⟨rfl, rfl⟩))
    go_ret
    exact ⟨ret_int HV.out.symm, rfl⟩
  · obtain ⟨h1, h2, h3, h4, h5, h6, h7⟩ := two_iff h
    have ea : vSigned m a = sgn m a := by rw [Bool.and_eq_true] at h; simp [vSigned, h.1]
    have eb : vSigned m b = sgn m b := by rw [Bool.and_eq_true] at h; simp [vSigned, h.2]
    by_cases hl : sgn m a < sgn m b
    · have HV : Hid (vLessSigned m a b = 1) := by show vLessSigned m a b = 1; simp only [vLessSigned, ea, eb, h, hl]; rfl
      clear ea eb
      go_enter Tryz.func187, Tryz.ntmps187
      go_wp2_with (first | (go_at_call 200; refine (iTwo _ _ _ _).mono ?_; rintro e w' ⟨rfl, rfl⟩) | (go_at_call 152; refine (iOne _ _).mono ?_; rintro e w' ⟨rfl, rfl⟩) | (go_at_call 208; refine (signed _ m _ (by omega) (by omega) h1 h2).mono ?_; rintro e w' ⟨rfl, rfl⟩))
      go_ret
      exact ⟨ret_int HV.out.symm, rfl⟩
    · have HV : Hid (vLessSigned m a b = 0) := by show vLessSigned m a b = 0; simp only [vLessSigned, ea, eb, h, hl]; rfl
      clear ea eb
      go_enter Tryz.func187, Tryz.ntmps187
      go_wp2_with (first | (go_at_call 200; refine (iTwo _ _ _ _).mono ?_; rintro e w' ⟨rfl, rfl⟩) | (go_at_call 152; refine (iOne _ _).mono ?_; rintro e w' ⟨rfl, rfl⟩) | (go_at_call 208; refine (signed _ m _ (by omega) (by omega) h1 h2).mono ?_; rintro e w' ⟨rfl, rfl⟩))
      go_ret
      exact ⟨ret_int HV.out.symm, rfl⟩

set_option maxHeartbeats 400000 in
theorem sLess (m a b : Int) (w : World) :
    Calls Tryz.prog 109 #[.int .i64 m, .int .i64 a, .int .i64 b] w fun e w' => e = .returned (.int .i64 (vLess m a b)) ∧ w' = w := by
  cases h : (wok m a && wok m b)
  · have HV : Hid (vLess m a b = 0) := by show vLess m a b = 0; simp only [vLess, h]; rfl
    go_enter Tryz.func109, Tryz.ntmps109
    go_wp2_with (first | (go_at_call 147; refine (sTwo _ _ _ _).mono ?_; rintro e w' ⟨rfl, rfl⟩) | (go_at_call 108; refine (sOne _ _).mono ?_; rintro e w' ⟨rfl, rfl⟩))
    go_ret
    exact ⟨ret_int HV.out.symm, rfl⟩
  · by_cases hl : a < b
    · have HV : Hid (vLess m a b = 1) := by show vLess m a b = 1; simp only [vLess, h, hl]; rfl
      go_enter Tryz.func109, Tryz.ntmps109
      go_wp2_with (first | (go_at_call 147; refine (sTwo _ _ _ _).mono ?_; rintro e w' ⟨rfl, rfl⟩) | (go_at_call 108; refine (sOne _ _).mono ?_; rintro e w' ⟨rfl, rfl⟩))
      go_ret
      exact ⟨ret_int HV.out.symm, rfl⟩
    · have HV : Hid (vLess m a b = 0) := by show vLess m a b = 0; simp only [vLess, h, hl]; rfl
      go_enter Tryz.func109, Tryz.ntmps109
      go_wp2_with (first | (go_at_call 147; refine (sTwo _ _ _ _).mono ?_; rintro e w' ⟨rfl, rfl⟩) | (go_at_call 108; refine (sOne _ _).mono ?_; rintro e w' ⟨rfl, rfl⟩))
      go_ret
      exact ⟨ret_int HV.out.symm, rfl⟩

set_option maxHeartbeats 400000 in
theorem sLessSigned (m a b : Int) (w : World) :
    Calls Tryz.prog 110 #[.int .i64 m, .int .i64 a, .int .i64 b] w fun e w' => e = .returned (.int .i64 (vLessSigned m a b)) ∧ w' = w := by
  cases h : (wok m a && wok m b)
  · have HV : Hid (vLessSigned m a b = 0) := by show vLessSigned m a b = 0; simp only [vLessSigned, h]; rfl
    go_enter Tryz.func110, Tryz.ntmps110
    go_wp2_with (first | (go_at_call 147; refine (sTwo _ _ _ _).mono ?_; rintro e w' ⟨rfl, rfl⟩) | (go_at_call 108; refine (sOne _ _).mono ?_; rintro e w' ⟨rfl, rfl⟩))
    go_ret
    exact ⟨ret_int HV.out.symm, rfl⟩
  · obtain ⟨h1, h2, h3, h4, h5, h6, h7⟩ := two_iff h
    by_cases hl : vSigned m a < vSigned m b
    · have HV : Hid (vLessSigned m a b = 1) := by show vLessSigned m a b = 1; simp only [vLessSigned, h, hl]; rfl
      skip
      go_enter Tryz.func110, Tryz.ntmps110
      go_wp2_with (first | (go_at_call 147; refine (sTwo _ _ _ _).mono ?_; rintro e w' ⟨rfl, rfl⟩) | (go_at_call 108; refine (sOne _ _).mono ?_; rintro e w' ⟨rfl, rfl⟩) | (go_at_call 148; refine (sSigned _ _ _).mono ?_; rintro e w' ⟨rfl, rfl⟩))
      go_ret
      exact ⟨ret_int HV.out.symm, rfl⟩
    · have HV : Hid (vLessSigned m a b = 0) := by show vLessSigned m a b = 0; simp only [vLessSigned, h, hl]; rfl
      skip
      go_enter Tryz.func110, Tryz.ntmps110
      go_wp2_with (first | (go_at_call 147; refine (sTwo _ _ _ _).mono ?_; rintro e w' ⟨rfl, rfl⟩) | (go_at_call 108; refine (sOne _ _).mono ?_; rintro e w' ⟨rfl, rfl⟩) | (go_at_call 148; refine (sSigned _ _ _).mono ?_; rintro e w' ⟨rfl, rfl⟩))
      go_ret
      exact ⟨ret_int HV.out.symm, rfl⟩

theorem wrap_sub {m n : Int} (h1 : 1 ≤ m) (h2 : m ≤ 8) (hn : 0 ≤ n) (hw : (Lit.int .i64 n).wf = true) : wrap64 (m - n) = m - n := by
  have : n ≤ 9223372036854775807 := by
    simp [Lit.wf, IntKind.min, IntKind.max, IntKind.signed, IntKind.bits] at hw; omega
  unfold wrap64; omega

set_option maxHeartbeats 400000 in
theorem iSlice (m a l n : Int) (w : World) (hwn : (Lit.int .i64 n).wf = true) :
    Calls Tryz.prog 190 #[.int .i64 m, .int .i64 a, .int .i64 l, .int .i64 n] w fun e w' => e = .returned (.int .i64 (vSlice m a l n)) ∧ w' = w := by
  cases h : wok m a
  · clear hwn
    have HV : Hid (vSlice m a l n = 0) := by show vSlice m a l n = 0; simp [vSlice, h]
    go_enter Tryz.func190, Tryz.ntmps190
    go_wp2_with (go_at_call 151; refine (iWordOk _ _ _).mono ?_; rintro e w' ⟨rfl, rfl⟩)
    go_ret
    exact ⟨ret_int HV.out.symm, rfl⟩
  · obtain ⟨h1, h2, h3, h4, h7⟩ := one_iff h
    by_cases hn : n < 1
    · clear hwn
      have HV : Hid (vSlice m a l n = 0) := by show vSlice m a l n = 0; unfold vSlice; rw [if_neg]; simp; omega
      go_enter Tryz.func190, Tryz.ntmps190
      go_wp2_with (go_at_call 151; refine (iWordOk _ _ _).mono ?_; rintro e w' ⟨rfl, rfl⟩)
      go_ret
      exact ⟨ret_int HV.out.symm, rfl⟩
    · have hw := wrap_sub h1 h2 (show 0 ≤ n by omega) hwn
      clear hwn
      by_cases hl : l < 0
      · have HV : Hid (vSlice m a l n = 0) := by show vSlice m a l n = 0; unfold vSlice; rw [if_neg]; simp; omega
        go_enter Tryz.func190, Tryz.ntmps190
        go_wp2_with (go_at_call 151; refine (iWordOk _ _ _).mono ?_; rintro e w' ⟨rfl, rfl⟩)
        go_ret
        exact ⟨ret_int HV.out.symm, rfl⟩
      · by_cases hs : m - n < l
        · have HV : Hid (vSlice m a l n = 0) := by show vSlice m a l n = 0; unfold vSlice; rw [if_neg]; simp; omega
          go_enter Tryz.func190, Tryz.ntmps190
          go_wp2_with (go_at_call 151; refine (iWordOk _ _ _).mono ?_; rintro e w' ⟨rfl, rfl⟩)
          go_ret
          exact ⟨ret_int HV.out.symm, rfl⟩
        · have HV : Hid (vSlice m a l n = a / p2 l.toNat % p2 n.toNat) := by
            show vSlice m a l n = _
            unfold vSlice; rw [if_pos]; simp [h]; omega
          clear hw
          obtain ⟨hd1, hd2⟩ := div_bd h3 (show 0 ≤ p2 l.toNat by have := p2_pos l.toNat; omega)
          have hm := emod_le (a := a / p2 l.toNat) n.toNat
          have hk := p2_le n.toNat (by omega)
          go_enter Tryz.func190, Tryz.ntmps190
          go_wp2_with (first | (go_at_call 151; refine (iWordOk _ _ _).mono ?_; rintro e w' ⟨rfl, rfl⟩) | (go_at_call 207; refine (down a _ _ h3 (by omega) (by omega) (by omega)).mono ?_; rintro e w' ⟨rfl, rfl⟩) | (go_at_call 209; refine (cut _ n _ (by omega) (by omega) (by omega) (by omega)).mono ?_; rintro e w' ⟨rfl, rfl⟩))
          go_ret
          exact ⟨ret_int HV.out.symm, rfl⟩

set_option maxHeartbeats 400000 in
theorem sSlice (m a l n : Int) (w : World) (hwl : (Lit.int .i64 l).wf = true) :
    Calls Tryz.prog 112 #[.int .i64 m, .int .i64 a, .int .i64 l, .int .i64 n] w fun e w' => e = .returned (.int .i64 (vSlice m a l n)) ∧ ∃ k, w' = w.drewN k := by
  cases h : wok m a
  · clear hwl
    have HV : Hid (vSlice m a l n = 0) := by show vSlice m a l n = 0; simp [vSlice, h]
    go_enter Tryz.func112, Tryz.ntmps112
    go_wp2_with (go_at_call 139; refine (sWordOk _ _ _).mono ?_; rintro e w' ⟨rfl, rfl⟩)
    go_ret
    exact ⟨ret_int HV.out.symm, 0, rfl⟩
  · obtain ⟨h1, h2, h3, h4, h7⟩ := one_iff h
    by_cases hl : l < 0
    · clear hwl
      have HV : Hid (vSlice m a l n = 0) := by show vSlice m a l n = 0; unfold vSlice; rw [if_neg]; simp; omega
      go_enter Tryz.func112, Tryz.ntmps112
      go_wp2_with (go_at_call 139; refine (sWordOk _ _ _).mono ?_; rintro e w' ⟨rfl, rfl⟩)
      go_ret
      exact ⟨ret_int HV.out.symm, 0, rfl⟩
    · have hw := wrap_sub h1 h2 (show 0 ≤ l by omega) hwl
      clear hwl
      by_cases hs : 1 ≤ n ∧ n ≤ m - l
      · have hd : decide (1 ≤ n ∧ n ≤ m - l) = true := by simpa using hs
        have HV : Hid (vSlice m a l n = a / p2 l.toNat % p2 n.toNat) := by
          show vSlice m a l n = _
          unfold vSlice; rw [if_pos]; simp [h]; omega
        obtain ⟨hs1, hs2⟩ := hs
        clear hw
        have hq := p2_pos l.toNat
        have hr := p2_pos n.toNat
        obtain ⟨hd1, hd2⟩ := div_bd h3 (show 0 ≤ p2 l.toNat by omega)
        go_enter Tryz.func112, Tryz.ntmps112
        go_wp2_with (first | (go_at_call 139; refine (sWordOk _ _ _).mono ?_; rintro e w' ⟨rfl, rfl⟩) | (go_at_call 64; refine (sIn _ _ _ _).mono ?_; rintro e w' ⟨rfl, rfl⟩) | (go_at_call 111; refine (spow _ _ (by omega) (by omega)).mono ?_; rintro e w' ⟨rfl, rfl⟩))
        go_quiet ((go_at_call 111; exact Calls.quiet_of_same (spow _ _ (by omega) (by omega))))
        go_wp2
        go_ret
        exact ⟨ret_int HV.out.symm, _, rfl⟩
      · have hd : decide (1 ≤ n ∧ n ≤ m - l) = false := by simpa using hs
        have HV : Hid (vSlice m a l n = 0) := by show vSlice m a l n = 0; unfold vSlice; rw [if_neg]; simp; omega
        go_enter Tryz.func112, Tryz.ntmps112
        go_wp2_with (first | (go_at_call 139; refine (sWordOk _ _ _).mono ?_; rintro e w' ⟨rfl, rfl⟩) | (go_at_call 64; refine (sIn _ _ _ _).mono ?_; rintro e w' ⟨rfl, rfl⟩))
        go_ret
        exact ⟨ret_int HV.out.symm, 0, rfl⟩

end Go.Proofs.YtejgcchkhljnjaaGreat.Wd5

/- Memory that calls leave as it is: three small laws. -/
namespace Go.Proofs.YtejgcchkhljnjaaGreat.Kp0
open Go.RowKit
open Nd0

theorem below_drewN {B : Nat} {u w : World} (h : Below B u w) (n : Nat) : Below B u (w.drewN n) := ⟨h.os, h.tape, h.output, h.size, h.block⟩
end Go.Proofs.YtejgcchkhljnjaaGreat.Kp0
