/- Small texts of mine, one behind the other. -/
import Derived.Test.YtejoeahehljhnaaGreatPkIQ20
import Derived.Test.YtejoeahehljhnaaGreatPkIQ1
import Derived.Test.YtejoeahehljhnaaGreatPkIQ12
import Derived.Test.YtejoeahehljhnaaGreatPkIQ2
import Derived.Test.YtejoeahehljhnaaGreatWs1
import Derived.Test.YtejoeahehljhnaaGreatPkIQ19
import Derived.Test.YtejoeahehljhnaaGreatPkIQ7
/- Walks of chapter 1, third part: shifts, flips and orders of words, in the program and in its model. -/
namespace Go.Proofs.YtejoeahehljhnaaGreat.Wd4
open Go.RowKit
open Pl1 Wd1 Wd2 Wd3
set_option linter.unusedVariables false

theorem shl_zero (a : Int) {m b : Int} (h1 : 1 ≤ m) (h : m ≤ b) : a * p2 b.toNat % p2 m.toNat = 0 := by
  have e : p2 b.toNat = p2 m.toNat * p2 (b - m).toNat := by
    unfold p2; rw [← Int.pow_add, show m.toNat + (b - m).toNat = b.toNat by omega]
  rw [e, ← Int.mul_assoc, Int.mul_comm a, Int.mul_assoc]
  exact Int.mul_emod_right _ _
theorem shr_zero {a m b : Int} (h0 : 0 ≤ a) (h : m ≤ b) (ha : a < p2 m.toNat) : a / p2 b.toNat = 0 := by
  have := p2_mono (show m.toNat ≤ b.toNat by omega)
  exact Int.ediv_eq_zero_of_lt h0 (by omega)

set_option maxHeartbeats 400000 in
theorem iShl (m a b : Int) (w : World) :
    Calls Tryz.prog 100 #[.int .i64 m, .int .i64 a, .int .i64 b] w fun e w' => e = .returned (.int .i64 (vShl m a b)) ∧ w' = w := by
  cases h : (wok m a && wok m b)
  · have HV : Hid (vShl m a b = 0) := by show vShl m a b = 0; simp [vShl, h]
    go_enter Tryz.func100, Tryz.ntmps100
    go_wp2_with (go_at_call 115; refine (iTwo _ _ _ _).mono ?_; rintro e w' ⟨rfl, rfl⟩)
    go_ret
    exact ⟨ret_int HV.out.symm, rfl⟩
  · obtain ⟨h1, h2, h3, h4, h5, h6, h7⟩ := two_iff h
    by_cases hb : b ≤ 7
    · have HV : Hid (vShl m a b = a * p2 b.toNat % p2 m.toNat) := by
        show vShl m a b = _
        unfold vShl; rw [h, if_pos rfl]
        by_cases hc : m ≤ b
        · rw [if_pos hc, shl_zero a h1 hc]
        · rw [if_neg hc]
      have hm := emod_le (a := a * p2 b.toNat) m.toNat
      go_enter Tryz.func100, Tryz.ntmps100
      go_wp2_with (first | (go_at_call 115; refine (iTwo _ _ _ _).mono ?_; rintro e w' ⟨rfl, rfl⟩) | (go_at_call 121; refine (up a _ m _ h3 (by omega) h5 (by omega) h1 h2).mono ?_; rintro e w' ⟨rfl, rfl⟩))
      go_ret
      exact ⟨ret_int HV.out.symm, rfl⟩
    · have HV : Hid (vShl m a b = 0) := by
        show vShl m a b = _
        unfold vShl; rw [h, if_pos rfl, if_pos (by omega)]
      go_enter Tryz.func100, Tryz.ntmps100
      go_wp2_with (first | (go_at_call 115; refine (iTwo _ _ _ _).mono ?_; rintro e w' ⟨rfl, rfl⟩) | (go_at_call 121; refine (upFar a _ m _ h3 (by omega) (by omega) h1 h2).mono ?_; rintro e w' ⟨rfl, rfl⟩))
      go_ret
      exact ⟨ret_int HV.out.symm, rfl⟩

set_option maxHeartbeats 400000 in
theorem sShl (m a b : Int) (w : World) :
    Calls Tryz.prog 77 #[.int .i64 m, .int .i64 a, .int .i64 b] w fun e w' => e = .returned (.int .i64 (vShl m a b)) ∧ w' = w := by
  cases h : (wok m a && wok m b)
  · have HV : Hid (vShl m a b = 0) := by show vShl m a b = 0; simp [vShl, h]
    go_enter Tryz.func77, Tryz.ntmps77
    go_wp2_with (go_at_call 112; refine (sTwo _ _ _ _).mono ?_; rintro e w' ⟨rfl, rfl⟩)
    go_ret
    exact ⟨ret_int HV.out.symm, rfl⟩
  · obtain ⟨h1, h2, h3, h4, h5, h6, h7⟩ := two_iff h
    have hp := p2_pos m.toNat
    by_cases hc : m ≤ b
    · have HV : Hid (vShl m a b = 0) := by
        show vShl m a b = _
        unfold vShl; rw [h, if_pos rfl, if_pos hc]
      go_enter Tryz.func77, Tryz.ntmps77
      go_wp2_with (go_at_call 112; refine (sTwo _ _ _ _).mono ?_; rintro e w' ⟨rfl, rfl⟩)
      go_ret
      exact ⟨ret_int HV.out.symm, rfl⟩
    · have HV : Hid (vShl m a b = a * p2 b.toNat % p2 m.toNat) := by
        show vShl m a b = _
        unfold vShl; rw [h, if_pos rfl, if_neg hc]
      have hq := p2_pos b.toNat
      have hr := p2_mono (show b.toNat ≤ 7 by omega)
      have hr7 : p2 7 = 128 := rfl
      obtain ⟨hb1, hb2⟩ := mul_bd h3 (show a ≤ 255 by omega) (show 0 ≤ p2 b.toNat by omega) (by omega)
      go_enter Tryz.func77, Tryz.ntmps77
      go_wp2_with (first | (go_at_call 112; refine (sTwo _ _ _ _).mono ?_; rintro e w' ⟨rfl, rfl⟩) | (go_at_call 43; refine (spow _ _ (by omega) (by omega)).mono ?_; rintro e w' ⟨rfl, rfl⟩))
      go_ret
      exact ⟨ret_int HV.out.symm, rfl⟩

set_option maxHeartbeats 400000 in
theorem iShr (m a b : Int) (w : World) :
    Calls Tryz.prog 102 #[.int .i64 m, .int .i64 a, .int .i64 b] w fun e w' => e = .returned (.int .i64 (vShr m a b)) ∧ w' = w := by
  cases h : (wok m a && wok m b)
  · have HV : Hid (vShr m a b = 0) := by show vShr m a b = 0; simp [vShr, h]
    go_enter Tryz.func102, Tryz.ntmps102
    go_wp2_with (go_at_call 115; refine (iTwo _ _ _ _).mono ?_; rintro e w' ⟨rfl, rfl⟩)
    go_ret
    exact ⟨ret_int HV.out.symm, rfl⟩
  · obtain ⟨h1, h2, h3, h4, h5, h6, h7⟩ := two_iff h
    by_cases hb : b ≤ 7
    · have HV : Hid (vShr m a b = a / p2 b.toNat) := by
        show vShr m a b = _
        unfold vShr; rw [h, if_pos rfl]
        by_cases hc : m ≤ b
        · rw [if_pos hc, shr_zero h3 hc h4]
        · rw [if_neg hc]
      obtain ⟨hd1, hd2⟩ := div_bd h3 (show 0 ≤ p2 b.toNat by have := p2_pos b.toNat; omega)
      go_enter Tryz.func102, Tryz.ntmps102
      go_wp2_with (first | (go_at_call 115; refine (iTwo _ _ _ _).mono ?_; rintro e w' ⟨rfl, rfl⟩) | (go_at_call 122; refine (down a _ _ h3 (by omega) h5 (by omega)).mono ?_; rintro e w' ⟨rfl, rfl⟩))
      go_ret
      exact ⟨ret_int HV.out.symm, rfl⟩
    · have HV : Hid (vShr m a b = 0) := by
        show vShr m a b = _
        unfold vShr; rw [h, if_pos rfl, if_pos (by omega)]
      go_enter Tryz.func102, Tryz.ntmps102
      go_wp2_with (first | (go_at_call 115; refine (iTwo _ _ _ _).mono ?_; rintro e w' ⟨rfl, rfl⟩) | (go_at_call 122; refine (downFar a _ _ h3 (by omega) (by omega)).mono ?_; rintro e w' ⟨rfl, rfl⟩))
      go_ret
      exact ⟨ret_int HV.out.symm, rfl⟩

set_option maxHeartbeats 400000 in
theorem sShr (m a b : Int) (w : World) :
    Calls Tryz.prog 78 #[.int .i64 m, .int .i64 a, .int .i64 b] w fun e w' => e = .returned (.int .i64 (vShr m a b)) ∧ w' = w := by
  cases h : (wok m a && wok m b)
  · have HV : Hid (vShr m a b = 0) := by show vShr m a b = 0; simp [vShr, h]
    go_enter Tryz.func78, Tryz.ntmps78
    go_wp2_with (go_at_call 112; refine (sTwo _ _ _ _).mono ?_; rintro e w' ⟨rfl, rfl⟩)
    go_ret
    exact ⟨ret_int HV.out.symm, rfl⟩
  · obtain ⟨h1, h2, h3, h4, h5, h6, h7⟩ := two_iff h
    have hp := p2_pos m.toNat
    by_cases hc : m ≤ b
    · have HV : Hid (vShr m a b = 0) := by
        show vShr m a b = _
        unfold vShr; rw [h, if_pos rfl, if_pos hc]
      go_enter Tryz.func78, Tryz.ntmps78
      go_wp2_with (go_at_call 112; refine (sTwo _ _ _ _).mono ?_; rintro e w' ⟨rfl, rfl⟩)
      go_ret
      exact ⟨ret_int HV.out.symm, rfl⟩
    · have HV : Hid (vShr m a b = a / p2 b.toNat) := by
        show vShr m a b = _
        unfold vShr; rw [h, if_pos rfl, if_neg hc]
      have hq := p2_pos b.toNat
      obtain ⟨hd1, hd2⟩ := div_bd h3 (show 0 ≤ p2 b.toNat by omega)
      go_enter Tryz.func78, Tryz.ntmps78
      go_wp2_with (first | (go_at_call 112; refine (sTwo _ _ _ _).mono ?_; rintro e w' ⟨rfl, rfl⟩) | (go_at_call 43; refine (spow _ _ (by omega) (by omega)).mono ?_; rintro e w' ⟨rfl, rfl⟩))
      go_ret
      exact ⟨ret_int HV.out.symm, rfl⟩

set_option maxHeartbeats 400000 in
theorem iFlip (m a : Int) (w : World) :
    Calls Tryz.prog 85 #[.int .i64 m, .int .i64 a] w fun e w' => e = .returned (.int .i64 (vFlip m a)) ∧ w' = w := by
  cases h : wok m a
  · have HV : Hid (vFlip m a = 0) := by show vFlip m a = 0; simp [vFlip, h]
    go_enter Tryz.func85, Tryz.ntmps85
    go_wp2_with (go_at_call 56; refine (iWordOk _ _ _).mono ?_; rintro e w' ⟨rfl, rfl⟩)
    go_ret
    exact ⟨ret_int HV.out.symm, rfl⟩
  · obtain ⟨h1, h2, h3, h4, h7⟩ := one_iff h
    have HV : Hid (vFlip m a = p2 m.toNat - 1 - a) := by show vFlip m a = _; simp [vFlip, h]
    go_enter Tryz.func85, Tryz.ntmps85
    go_wp2_with (first | (go_at_call 56; refine (iWordOk _ _ _).mono ?_; rintro e w' ⟨rfl, rfl⟩) | (go_at_call 114; refine (flip a m _ h3 h4 h1 h2).mono ?_; rintro e w' ⟨rfl, rfl⟩))
    go_ret
    exact ⟨ret_int HV.out.symm, rfl⟩

set_option maxHeartbeats 400000 in
theorem sFlip (m a : Int) (w : World) :
    Calls Tryz.prog 71 #[.int .i64 m, .int .i64 a] w fun e w' => e = .returned (.int .i64 (vFlip m a)) ∧ w' = w := by
  cases h : wok m a
  · have HV : Hid (vFlip m a = 0) := by show vFlip m a = 0; simp [vFlip, h]
    go_enter Tryz.func71, Tryz.ntmps71
    go_wp2_with (go_at_call 59; refine (sWordOk _ _ _).mono ?_; rintro e w' ⟨rfl, rfl⟩)
    go_ret
    exact ⟨ret_int HV.out.symm, rfl⟩
  · obtain ⟨h1, h2, h3, h4, h7⟩ := one_iff h
    have HV : Hid (vFlip m a = p2 m.toNat - 1 - a) := by show vFlip m a = _; simp [vFlip, h]
    go_enter Tryz.func71, Tryz.ntmps71
    go_wp2_with (first | (go_at_call 59; refine (sWordOk _ _ _).mono ?_; rintro e w' ⟨rfl, rfl⟩) | (go_at_call 43; refine (spow _ _ (by omega) (by omega)).mono ?_; rintro e w' ⟨rfl, rfl⟩))
    go_ret
    exact ⟨ret_int HV.out.symm, rfl⟩

set_option maxHeartbeats 400000 in
theorem sSigned (m a : Int) (w : World) :
    Calls Tryz.prog 113 #[.int .i64 m, .int .i64 a] w fun e w' => e = .returned (.int .i64 (vSigned m a)) ∧ w' = w := by
  cases h : wok m a
  · have HV : Hid (vSigned m a = 0) := by show vSigned m a = 0; simp [vSigned, h]
    go_enter Tryz.func113, Tryz.ntmps113
    go_wp2_with (go_at_call 59; refine (sWordOk _ _ _).mono ?_; rintro e w' ⟨rfl, rfl⟩)
    go_ret
    exact ⟨ret_int HV.out.symm, rfl⟩
  · obtain ⟨h1, h2, h3, h4, h7⟩ := one_iff h
    have hq := p2_pos m.toNat
    by_cases hs : p2 (m - 1).toNat ≤ a
    · have HV : Hid (vSigned m a = a - p2 m.toNat) := by show vSigned m a = _; simp only [vSigned, h, if_pos]; exact sgn_pos hs
      have hs2 : p2 (m.toNat - 1) ≤ a := by rw [show m.toNat - 1 = (m - 1).toNat by omega]; exact hs
      have hr := p2_pos (m - 1).toNat
      go_enter Tryz.func113, Tryz.ntmps113
      go_wp2_with (first | (go_at_call 59; refine (sWordOk _ _ _).mono ?_; rintro e w' ⟨rfl, rfl⟩) | (go_at_call 43; refine (spow _ _ (by omega) (by omega)).mono ?_; rintro e w' ⟨rfl, rfl⟩))
      go_ret
      exact ⟨ret_int HV.out.symm, rfl⟩
    · have HV : Hid (vSigned m a = a) := by show vSigned m a = _; simp only [vSigned, h, if_pos]; exact sgn_neg hs
      have hs2 : ¬ p2 (m.toNat - 1) ≤ a := by rw [show m.toNat - 1 = (m - 1).toNat by omega]; exact hs
      have hr := p2_pos (m - 1).toNat
      go_enter Tryz.func113, Tryz.ntmps113
      go_wp2_with (first | (go_at_call 59; refine (sWordOk _ _ _).mono ?_; rintro e w' ⟨rfl, rfl⟩) | (go_at_call 43; refine (spow _ _ (by omega) (by omega)).mono ?_; rintro e w' ⟨rfl, rfl⟩))
      go_ret
      exact ⟨ret_int HV.out.symm, rfl⟩

set_option maxHeartbeats 400000 in
theorem iOne (b : Bool) (w : World) :
    Calls Tryz.prog 64 #[.bool b] w fun e w' => e = .returned (.int .i64 (if b then 1 else 0)) ∧ w' = w := by
  cases b
  all_goals
    go_enter Tryz.func64, Tryz.ntmps64
    go_wp2
    go_ret
    exact ⟨rfl, rfl⟩

set_option maxHeartbeats 400000 in
theorem sOne (b : Bool) (w : World) :
    Calls Tryz.prog 79 #[.bool b] w fun e w' => e = .returned (.int .i64 (if b then 1 else 0)) ∧ w' = w := by
  cases b
  all_goals
    go_enter Tryz.func79, Tryz.ntmps79
    go_wp2
    go_ret
    exact ⟨rfl, rfl⟩

end Go.Proofs.YtejoeahehljhnaaGreat.Wd4

/- The walks of Swaps and Rows, of the model and of the program. -/
namespace Go.Proofs.YtejoeahehljhnaaGreat.Fm1
open Go.RowKit
open Nd0 Qa0 Fr0 Ap1
open Ws1 (ret_int ret_bool)
open Wd4 (iOne)
open Pg1 (iWidthOk)
open Sp2 (sIn)
set_option linter.unusedVariables false

theorem quAt {w : World} {a : Option Addr} {q : List Qu} (h : Qus w a q) {k : Nat} (hk : k < q.length) : ∃ b o, a = some ⟨b, o, none⟩ ∧ ∀ j, j < q.length → QuAt w b (o + j * 3) (qth q j) := by
  rcases h.2 with h0 | ⟨b, o, ha, hc⟩
  · omega
  · exact ⟨b, o, ha, fun j hj => by rw [← qth_get hj]; exact hc j hj⟩

def bitsQ (q : List Qu) : Int := match bqTo q q.length with
  | none => 13
  | some n => (n : Int)
theorem bitsQ_few (q : List Qu) : fewB q = decide (bitsQ q ≤ 12) := by
  unfold fewB bitsQ
  cases bqTo q q.length with
  | none => rfl
  | some n => by_cases h : n ≤ 12
              · simp only [decide_eq_true h]; rw [decide_eq_true (by omega)]
              · simp only [decide_eq_false h]; rw [decide_eq_false (by omega)]

set_option maxHeartbeats 1000000 in
theorem sBitsQ (w : World) (a : Option Addr) (q : List Qu) (c : Nat) (hN : Qus w a q) (hl : q.length ≤ 1048576) :
    Calls Tryz.prog 24 #[.slice a q.length c] w fun e w' => e = .returned (.int .i64 (bitsQ q)) ∧ w' = w := by
  have HN : Hid (Qus w a q) := hN
  clear hN
  go_enter Tryz.func24, Tryz.ntmps24
  go_wp2
  go_loop [3, 4] (fun n i => ∃ k m : Nat, k ≤ q.length ∧ i = .int .i64 k ∧ bqTo q k = some m ∧ n = .int .i64 (m : Int)) (fun _ i => q.length - (intOf i).toNat)
  case atStart => exact ⟨0, 0, Nat.zero_le _, rfl, rfl, rfl⟩
  case round =>
    obtain ⟨k, m, hk, rfl, hm, rfl⟩ := hrel
    have HM : Hid (bqTo q k = some m) := hm
    have hmb := bq_le m hm
    clear hm
    by_cases hlt : k < q.length
    · have hlz : (k : Int) < (q.length : Int) := by omega
      obtain ⟨b, o, rfl, hc⟩ := quAt HN.out hlt
      have p2 := (hc k hlt).c2
      clear hc
      obtain ⟨x, hx⟩ : ∃ x, x = (qth q k).bits := ⟨_, rfl⟩
      rw [← hx] at p2
      have HX : Hid (x = (qth q k).bits) := hx
      clear hx
      by_cases hb : 1 ≤ x ∧ x ≤ 8
      · have hd : decide (1 ≤ x ∧ x ≤ 8) = true := decide_eq_true hb
        obtain ⟨hb1, hb2⟩ := hb
        go_wp2_with (go_at_call 33; refine (sIn _ _ _ _).mono ?_; rintro e w' ⟨rfl, rfl⟩; rw [hd])
        go_round
        case rel => exact ⟨k + 1, m + x.toNat, by omega, by go_num, by rw [bq_succ HM.out (by rw [← HX.out]; exact ⟨hb1, hb2⟩), HX.out], by go_num⟩
        case measure => simp [intOf]; omega
      · have hd : decide (1 ≤ x ∧ x ≤ 8) = false := decide_eq_false hb
        have HE : Hid (bitsQ q = 13) := by
          show _ = _
          unfold bitsQ
          rw [bq_none (bq_bad (by rw [← HX.out]; exact hb)) q.length (by omega)]
        clear hb
        go_wp2_with (go_at_call 33; refine (sIn _ _ _ _).mono ?_; rintro e w' ⟨rfl, rfl⟩; rw [hd])
        go_ret
        exact ⟨ret_int HE.out.symm, rfl⟩
    · have HE : Hid (bitsQ q = (m : Int)) := by
        show _ = _
        unfold bitsQ
        rw [← show k = q.length by omega, HM.out]
      go_wp2
      go_ret
      exact ⟨ret_int HE.out.symm, rfl⟩

set_option maxRecDepth 100000 in
set_option maxHeartbeats 2000000 in
theorem iRowOf (w : World) (a : Option Addr) (q : List Qu) (c : Nat) (hN : Qus w a q) (hl : q.length ≤ 1048576) :
    Calls Tryz.prog 19 #[.slice a q.length c] w fun e w' => (∃ a' c', e = .returned (.tuple #[.slice a' (rowsL q).length c', .bool (fewB q)]) ∧ WBools w' w.heap.size a' (rowsL q)) ∧ Below w.heap.size w w' := by
  have HN : Hid (Qus w a q) := hN
  clear hN
  have HAL : Hid (Below w.heap.size w (w.alloc (.cells #[] 4))) := (Below.refl _ _).alloc (Nat.le_refl _) _
  have HO0 : Hid (Owb (w.alloc (.cells #[] 4)) w.heap.size (.slice (some ⟨w.heap.size, 0, none⟩) 0 0) []) := Owb.lit w _ (Nat.le_refl _)
  have HNO : Hid (fewB q = false → ∀ (g : Nat) (W : World), Below w.heap.size w W → (∃ a' c', Ending.returned (.tuple #[.slice (some ⟨g, 0, none⟩) 0 0, .bool false]) = .returned (.tuple #[.slice a' (rowsL q).length c', .bool (fewB q)]) ∧ WBools (W.alloc (.cells #[] 4)) w.heap.size a' (rowsL q)) ∧ Below w.heap.size w (W.alloc (.cells #[] 4))) := fun hf g W hW => by
    have e1 : rowsL q = [] := by unfold rowsL; rw [hf]; rfl
    rw [e1, hf]
    exact ⟨⟨_, _, rfl, Nat.zero_le _, .inl rfl⟩, hW.alloc hW.size _⟩
  go_enter Tryz.func19, Tryz.ntmps19
  go_wp2
  go_loopw [4, 10] (fun v i wr => ∃ k m : Nat, k ≤ q.length ∧ i = .int .i64 k ∧ bqTo q k = some m ∧ m ≤ 12 ∧ Owb wr w.heap.size v (rowTo q k) ∧ Below w.heap.size w wr) (fun _ i _ => q.length - (intOf i).toNat)
  case atStart => exact ⟨0, 0, Nat.zero_le _, rfl, rfl, Nat.zero_le _, HO0.out, HAL.out⟩
  case round =>
    obtain ⟨k, m, hk, rfl, hm, hm12, ho, hb⟩ := hrel
    have HO : Hid (Owb wr w.heap.size u4 (rowTo q k)) := ho
    have HB : Hid (Below w.heap.size w wr) := hb
    have HM : Hid (bqTo q k = some m) := hm
    have hrl := rowTo_length m hm
    have hbs0 : w.heap.size ≤ wr.heap.size := hb.size
    obtain ⟨av, cv, hv, _⟩ := ho.form
    rw [hrl] at hv
    subst hv
    clear ho hm
    by_cases hlt : k < q.length
    · have hlz : (k : Int) < (q.length : Int) := by omega
      obtain ⟨b, o, rfl, hc⟩ := quAt (HN.out.below hb) hlt
      obtain ⟨p0, p1, p2⟩ := hc k hlt
      clear hc hb
      have HR1 : Hid (rowTo q (k + 1) = rowTo q k ++ List.replicate (qth q k).bits.toNat (qth q k).all) := rfl
      have HRP : Hid (∀ j, rowTo q k ++ List.replicate (j + 1) (qth q k).all = (rowTo q k ++ List.replicate j (qth q k).all) ++ [(qth q k).all]) := rowTo_part q k
      have HBAD : Hid (¬ (1 ≤ (qth q k).bits ∧ (qth q k).bits ≤ 8) → fewB q = false) := fun h => few_bad (k := k + 1) (by omega) (bq_bad h)
      have HSUC : Hid (1 ≤ (qth q k).bits ∧ (qth q k).bits ≤ 8 → bqTo q (k + 1) = some (m + (qth q k).bits.toNat)) := fun h => bq_succ HM.out h
      have HMUCH : Hid (1 ≤ (qth q k).bits ∧ (qth q k).bits ≤ 8 → 12 < m + (qth q k).bits.toNat → fewB q = false) := fun h h2 => few_much (k := k + 1) (by omega) (bq_succ HM.out h) h2
      generalize rowTo q k = R at HO HR1 HRP hrl
      generalize (qth q k).all = al at HR1 HRP p0
      generalize (qth q k).bits = bt at HR1 HBAD HSUC HMUCH p2
      generalize (qth q k).vr = vr at p1
      have HBX : Hid (Below w.heap.size w (wr.alloc (.cells #[.bool al, .int .i64 vr, .int .i64 bt] 31))) := HB.out.alloc hbs0 _
      by_cases hbt : 1 ≤ bt ∧ bt ≤ 8
      · have hd : decide (1 ≤ bt ∧ bt ≤ 8) = true := decide_eq_true hbt
        obtain ⟨hb1, hb2⟩ := hbt
        by_cases hmu : 12 < (m : Int) + bt
        · have HF : Hid (fewB q = false) := HMUCH.out ⟨hb1, hb2⟩ (by omega)
          go_wp2_with (go_at_call 34; refine (iWidthOk _ _).mono ?_; rintro e w' ⟨rfl, rfl⟩; rw [hd])
          go_ret2
          exact HNO.out HF.out _ _ HBX.out
        · have HS : Hid (bqTo q (k + 1) = some (m + bt.toNat)) := HSUC.out ⟨hb1, hb2⟩
          have hmu2 : (m : Int) + bt ≤ 12 := by omega
          have HOX : Hid (Owb (wr.alloc (.cells #[.bool al, .int .i64 vr, .int .i64 bt] 31)) w.heap.size (.slice av m cv) R) := HO.out.kept (S := fun _ => False) ((Kept.refl _ _).alloc _) (fun _ _ h => h)
          have HNE : Hid ((Value.slice av m cv).ownBlock ≠ some wr.heap.size) := fun h => by have := (HO.out.lt _ h).2; omega
          obtain ⟨G, hG⟩ : ∃ G, G = wr.heap.size := ⟨_, rfl⟩
          have HG : Hid (G = wr.heap.size) := hG
          have HCX : Hid ((wr.alloc (.cells #[.bool al, .int .i64 vr, .int .i64 bt] 31)).cell? ⟨G, 0, none⟩ = some (.bool al) ∧ G < (wr.alloc (.cells #[.bool al, .int .i64 vr, .int .i64 bt] 31)).heap.size) := by
            rw [hG]
            exact ⟨by rw [World.cell?_alloc_new]; rfl, by simp⟩
          clear hG HBAD HMUCH HSUC
          go_wp2_with (go_at_call 34; refine (iWidthOk _ _).mono ?_; rintro e w' ⟨rfl, rfl⟩; rw [hd])
          rw [← HG.out]
          go_loopw [4, 29] (fun v i wi => ∃ j : Nat, (j : Int) ≤ bt ∧ i = .int .i64 j ∧ Owb wi w.heap.size v (R ++ List.replicate j al) ∧ Below w.heap.size w wi ∧ wi.cell? ⟨G, 0, none⟩ = some (.bool al) ∧ G < wi.heap.size ∧ v.ownBlock ≠ some G) (fun _ i _ => bt.toNat - (intOf i).toNat)
          case atStart => exact ⟨0, by omega, rfl, by rw [List.replicate_zero, List.append_nil]; exact HOX.out, HBX.out, HCX.out.1, HCX.out.2, by rw [HG.out]; exact HNE.out⟩
          case round =>
            obtain ⟨j, hj, rfl, ho, hb, hcx, hgx, hne⟩ := hrel
            have HOI : Hid (Owb wr w.heap.size u4 (R ++ List.replicate j al)) := ho
            have HBI : Hid (Below w.heap.size w wr) := hb
            have HCI : Hid (wr.cell? ⟨G, 0, none⟩ = some (.bool al)) := hcx
            have HNI : Hid (u4.ownBlock ≠ some G) := hne
            have hbs : w.heap.size ≤ wr.heap.size := hb.size
            clear ho hb hne
            have HLN : Hid ((R ++ List.replicate j al).length = m + j) := by
              show _ = _
              rw [List.length_append, List.length_replicate, hrl]
            have HRJ : Hid (R ++ List.replicate (j + 1) al = (R ++ List.replicate j al) ++ [al]) := HRP.out j
            by_cases hjl : (j : Int) < bt
            · generalize R ++ List.replicate j al = L at HOI HLN HRJ
              go_wp2_with (at_builtin; go_must (refine app_bool _ rfl _ _ rfl w.heap.size u4 L al rfl rfl HOI.out hbs (by rw [HLN.out]; omega) ?_; intro g5 cp5 w5 ho5 hk5 hg5; have HO5 : Hid (Owb w5 w.heap.size (.slice (some ⟨g5, 0, none⟩) (L.length + 1) cp5) (L ++ [al])) := ho5; have HB5 : Hid (Below w.heap.size w w5) := HBI.out.trans (hk5.below (fun b hb => (HOI.out.lt b hb).1) hbs); have HC5 : Hid (w5.cell? ⟨G, 0, none⟩ = some (.bool al)) := (hk5.cell (p := ⟨G, 0, none⟩) hgx HNI.out).trans HCI.out; have hs5 := hk5.size; have hn5 : g5 ≠ G := (fun h => by subst h; rcases hg5 with h1 | h1; exact HNI.out h1; omega); clear ho5 hk5 hg5))
              go_roundw
              case rel => exact ⟨j + 1, by omega, by go_num, by rw [HRJ.out]; exact HO5.out, HB5.out, HC5.out, by omega, fun h => hn5 (by simpa [Value.ownBlock] using h)⟩
              case measure => simp [intOf]; omega
            · have HJ : Hid (rowTo q (k + 1) = R ++ List.replicate j al) := by
                show _ = _
                rw [HR1.out, show bt.toNat = j by omega]
              go_wp2
              go_roundw
              case rel => exact ⟨k + 1, m + bt.toNat, by omega, by go_num, HS.out, by omega, by rw [HJ.out]; exact HOI.out, HBI.out⟩
              case measure => simp [intOf]; omega
      · have hd : decide (1 ≤ bt ∧ bt ≤ 8) = false := decide_eq_false hbt
        have HF : Hid (fewB q = false) := HBAD.out hbt
        clear hbt
        go_wp2_with (go_at_call 34; refine (iWidthOk _ _).mono ?_; rintro e w' ⟨rfl, rfl⟩; rw [hd])
        go_ret2
        exact HNO.out HF.out _ _ HBX.out
    · have HK : Hid (k = q.length) := by show _ = _; omega
      have HF : Hid (fewB q = true) := few_yes (n := m) (by rw [← HK.out]; exact HM.out) hm12
      have HE : Hid (rowsL q = rowTo q k) := by
        show _ = _
        unfold rowsL; rw [HF.out, HK.out]; rfl
      have HI : Hid (∃ a' c', Ending.returned (.tuple #[.slice av m cv, .bool true]) = .returned (.tuple #[.slice a' (rowsL q).length c', .bool (fewB q)]) ∧ WBools wr w.heap.size a' (rowsL q)) := by
        obtain ⟨av', cv', hv', hw'⟩ := HO.out.form
        rw [HE.out, HF.out]
        exact ⟨av', cv', by rw [hv'], hw'⟩
      clear hb
      go_wp2
      go_ret2
      exact ⟨HI.out, HB.out⟩

set_option maxHeartbeats 1000000 in
theorem iRows (w : World) (a : Option Addr) (q : List Qu) (c : Nat) (hN : Qus w a q) (hl : q.length ≤ 1048576) :
    Calls Tryz.prog 10 #[.slice a q.length c] w fun e w' => (∃ a' c', e = .returned (.slice a' (rowsL q).length c') ∧ WBools w' w.heap.size a' (rowsL q)) ∧ Below w.heap.size w w' := by
  have HN : Hid (Qus w a q) := hN
  clear hN
  go_enter Tryz.func10, Tryz.ntmps10
  go_wp2_with fail
  refine (iRowOf _ a q c HN.out hl).mono ?_
  rintro e w1 ⟨⟨a1, c1, rfl, h1⟩, hb1⟩
  have H1 : Hid (WBools w1 w.heap.size a1 (rowsL q)) := h1
  have HB1 : Hid (Below w.heap.size w w1) := hb1
  clear h1 hb1
  go_wp2
  go_ret
  exact ⟨⟨_, _, rfl, H1.out⟩, HB1.out⟩

end Go.Proofs.YtejoeahehljhnaaGreat.Fm1
