/- Walks of the draws of chapter 1: values of a width, and the draws themselves. -/
import Derived.Test.YtdgcjgicnanmiaaDr2
namespace Go.Proofs.Ytdgcjgicnanmiaa.Dr3
open Go.RowKit
open Dr0 Dr1 Dr2 Pl1 Wd1
set_option linter.unusedVariables false

theorem belowAny (w : World) (b : Nat) (a : Option Addr) (len cap : Nat) (n : Int) (h0 : 1 ≤ n) (hc : Cur w b a len cap) :
    Calls Try.prog 68 #[.pointer (some ⟨b, 0, none⟩), .int .i64 n] w fun e w' => (∃ x : Int, e = .returned (.int .i64 x) ∧ 0 ≤ x ∧ x < n) ∧ Cur w' b a len cap ∧ Only b w w' := by
  by_cases h : n ≤ 256
  · exact below w b a len cap n h0 h hc
  · exact belowBig w b a len cap n (by omega) hc

set_option maxHeartbeats 2000000 in
theorem val (w : World) (b : Nat) (a : Option Addr) (len cap : Nat) (m : Int) (hc : Cur w b a len cap) :
    Calls Try.prog 69 #[.pointer (some ⟨b, 0, none⟩), .int .i64 m] w fun e w' => (∃ x : Int, e = .returned (.int .i64 x)) ∧ Cur w' b a len cap ∧ Only b w w' := by
  have HC : Hid (Cur w b a len cap) := hc
  clear hc
  by_cases hm : 1 ≤ m ∧ m ≤ 8
  · have hd : decide (1 ≤ m ∧ m ≤ 8) = true := by simpa using hm
    obtain ⟨hm1, hm2⟩ := hm
    have hp := p2_le m.toNat (by omega)
    have hq := p2_pos m.toNat
    go_enter Try.func69, Try.ntmps69
    go_wp2_with (first | (go_at_call 55; refine (sIn _ _ _ _).mono ?_; rintro e w' ⟨rfl, rfl⟩) | (go_at_call 56; refine (spow _ _ (by omega) (by omega)).mono ?_; rintro e w' ⟨rfl, rfl⟩))
    refine (below _ b a len cap _ (by omega) (by omega) HC.out).mono ?_
    rintro e w1 ⟨⟨x, rfl, hx0, hx1⟩, hc', ho'⟩
    have HC1 : Hid (Cur w1 b a len cap) := hc'
    have HO1 : Hid (Only b w' w1) := ho'
    clear hc' ho'
    by_cases e0 : x = 0
    · subst e0
      go_wp2_with fail
      refine (pickNew w1 b a len cap _ _ 5 (by omega) (by omega) ?hC HC1.out).mono ?_
      case hC =>
        intro i hi
        have hi' : i = 0 ∨ i = 1 ∨ i = 2 ∨ i = 3 ∨ i = 4 := by omega
        rcases hi' with rfl | rfl | rfl | rfl | rfl <;> exact ⟨_, rfl⟩
      rintro e w2 ⟨⟨y, rfl⟩, hc', ho'⟩
      have HC2 : Hid (Cur w2 b a len cap) := hc'
      have HO2 : Hid (Only b w' w2) := HO1.out.trans ho'
      clear hc' ho'
      go_wp2
      go_ret
      exact ⟨⟨_, rfl⟩, HC2.out, HO2.out⟩
    have b0 : (x == 0) = false := by simpa using e0
    by_cases e1 : x = 1
    · subst e1
      clear b0
      go_wp2_with fail
      refine (once _ b a len cap _ (by omega) (by omega) HC1.out).mono ?_
      rintro e w2 ⟨⟨y, rfl⟩, hc', ho'⟩
      have HC2 : Hid (Cur w2 b a len cap) := hc'
      have HO2 : Hid (Only b w' w2) := HO1.out.trans ho'
      clear hc' ho'
      cases y
      · go_wp2_with fail
        refine (belowAny _ b a len cap _ (by omega) HC2.out).mono ?_
        rintro e w3 ⟨⟨y, rfl, hy0, hy1⟩, hc', ho'⟩
        have HC3 : Hid (Cur w3 b a len cap) := hc'
        have HO3 : Hid (Only b w' w3) := HO2.out.trans ho'
        clear hc' ho'
        go_wp2
        go_ret
        exact ⟨⟨_, rfl⟩, HC3.out, HO3.out⟩
      · go_wp2_with fail
        refine (pickNew w2 b a len cap _ _ 3 (by omega) (by omega) ?hC HC2.out).mono ?_
        case hC =>
          intro i hi
          have hi' : i = 0 ∨ i = 1 ∨ i = 2 := by omega
          rcases hi' with rfl | rfl | rfl <;> exact ⟨_, rfl⟩
        rintro e w3 ⟨⟨y, rfl⟩, hc', ho'⟩
        have HC3 : Hid (Cur w3 b a len cap) := hc'
        have HO3 : Hid (Only b w' w3) := HO2.out.trans ho'
        clear hc' ho'
        go_wp2
        go_ret
        exact ⟨⟨_, rfl⟩, HC3.out, HO3.out⟩
    have b1 : (x == 1) = false := by simpa using e1
    go_wp2_with fail
    refine (belowAny _ b a len cap _ (by omega) HC1.out).mono ?_
    rintro e w2 ⟨⟨y, rfl, hy0, hy1⟩, hc', ho'⟩
    have HC2 : Hid (Cur w2 b a len cap) := hc'
    have HO2 : Hid (Only b w' w2) := HO1.out.trans ho'
    clear hc' ho'
    go_wp2
    go_ret
    exact ⟨⟨_, rfl⟩, HC2.out, HO2.out⟩
  · have hd : decide (1 ≤ m ∧ m ≤ 8) = false := by simpa using hm
    go_enter Try.func69, Try.ntmps69
    go_wp2_with (go_at_call 55; refine (sIn _ _ _ _).mono ?_; rintro e w' ⟨rfl, rfl⟩)
    refine (below _ b a len cap _ (by omega) (by omega) HC.out).mono ?_
    rintro e w1 ⟨⟨x, rfl, hx0, hx1⟩, hc', ho'⟩
    have HC1 : Hid (Cur w1 b a len cap) := hc'
    have HO1 : Hid (Only b w' w1) := ho'
    clear hc' ho'
    by_cases e0 : x = 0
    · subst e0
      go_wp2_with fail
      refine (pickNew w1 b a len cap _ _ 5 (by omega) (by omega) ?hC HC1.out).mono ?_
      case hC =>
        intro i hi
        have hi' : i = 0 ∨ i = 1 ∨ i = 2 ∨ i = 3 ∨ i = 4 := by omega
        rcases hi' with rfl | rfl | rfl | rfl | rfl <;> exact ⟨_, rfl⟩
      rintro e w2 ⟨⟨y, rfl⟩, hc', ho'⟩
      have HC2 : Hid (Cur w2 b a len cap) := hc'
      have HO2 : Hid (Only b w' w2) := HO1.out.trans ho'
      clear hc' ho'
      go_wp2
      go_ret
      exact ⟨⟨_, rfl⟩, HC2.out, HO2.out⟩
    have b0 : (x == 0) = false := by simpa using e0
    by_cases e1 : x = 1
    · subst e1
      clear b0
      go_wp2_with fail
      refine (once _ b a len cap _ (by omega) (by omega) HC1.out).mono ?_
      rintro e w2 ⟨⟨y, rfl⟩, hc', ho'⟩
      have HC2 : Hid (Cur w2 b a len cap) := hc'
      have HO2 : Hid (Only b w' w2) := HO1.out.trans ho'
      clear hc' ho'
      cases y
      · go_wp2_with fail
        refine (belowAny _ b a len cap _ (by omega) HC2.out).mono ?_
        rintro e w3 ⟨⟨y, rfl, hy0, hy1⟩, hc', ho'⟩
        have HC3 : Hid (Cur w3 b a len cap) := hc'
        have HO3 : Hid (Only b w' w3) := HO2.out.trans ho'
        clear hc' ho'
        go_wp2
        go_ret
        exact ⟨⟨_, rfl⟩, HC3.out, HO3.out⟩
      · go_wp2_with fail
        refine (pickNew w2 b a len cap _ _ 3 (by omega) (by omega) ?hC HC2.out).mono ?_
        case hC =>
          intro i hi
          have hi' : i = 0 ∨ i = 1 ∨ i = 2 := by omega
          rcases hi' with rfl | rfl | rfl <;> exact ⟨_, rfl⟩
        rintro e w3 ⟨⟨y, rfl⟩, hc', ho'⟩
        have HC3 : Hid (Cur w3 b a len cap) := hc'
        have HO3 : Hid (Only b w' w3) := HO2.out.trans ho'
        clear hc' ho'
        go_wp2
        go_ret
        exact ⟨⟨_, rfl⟩, HC3.out, HO3.out⟩
    have b1 : (x == 1) = false := by simpa using e1
    go_wp2_with fail
    refine (belowAny _ b a len cap _ (by omega) HC1.out).mono ?_
    rintro e w2 ⟨⟨y, rfl, hy0, hy1⟩, hc', ho'⟩
    have HC2 : Hid (Cur w2 b a len cap) := hc'
    have HO2 : Hid (Only b w' w2) := HO1.out.trans ho'
    clear hc' ho'
    go_wp2
    go_ret
    exact ⟨⟨_, rfl⟩, HC2.out, HO2.out⟩

set_option maxHeartbeats 1000000 in
theorem three (w : World) (a : Option Addr) (len cap : Nat) (hb : Bytes w a len) :
    Calls Try.prog 54 #[.slice a len cap] w fun e w' => (∃ x y z : Int, e = .returned (.tuple #[.int .i64 x, .int .i64 y, .int .i64 z])) ∧ Below w.heap.size w w' := by
  have HB : Hid (Bytes w a len) := hb
  clear hb
  go_enter Try.func54, Try.ntmps54
  go_wp2_with fail
  refine (new _ a len cap HB.out).mono ?_
  rintro e w1 ⟨rfl, hc', ho'⟩
  have HC1 : Hid (Cur w1 w.heap.size a len cap) := hc'
  have HO1 : Hid (Below w.heap.size w w1) := ho'
  clear hc' ho'
  go_wp2_with fail
  refine (width _ _ a len cap HC1.out).mono ?_
  rintro e w2 ⟨⟨x, rfl⟩, hc', ho'⟩
  have HC2 : Hid (Cur w2 w.heap.size a len cap) := hc'
  have HO2 : Hid (Below w.heap.size w w2) := HO1.out.trans (ho'.below (Nat.le_refl _) HO1.out.size)
  clear hc' ho'
  go_wp2_with fail
  refine (val _ _ a len cap _ HC2.out).mono ?_
  rintro e w3 ⟨⟨y, rfl⟩, hc', ho'⟩
  have HC3 : Hid (Cur w3 w.heap.size a len cap) := hc'
  have HO3 : Hid (Below w.heap.size w w3) := HO2.out.trans (ho'.below (Nat.le_refl _) HO2.out.size)
  clear hc' ho'
  go_wp2_with fail
  refine (val _ _ a len cap _ HC3.out).mono ?_
  rintro e w4 ⟨⟨z, rfl⟩, hc', ho'⟩
  have HO4 : Hid (Below w.heap.size w w4) := HO3.out.trans (ho'.below (Nat.le_refl _) HO3.out.size)
  clear hc' ho'
  go_wp2
  go_ret3
  exact ⟨⟨_, _, _, rfl⟩, HO4.out⟩

set_option maxHeartbeats 1000000 in
theorem drawAdd (w : World) (a : Option Addr) (len cap : Nat) (hb : Bytes w a len) :
    Calls Try.prog 21 #[.slice a len cap] w fun e w' => (∃ x y z : Int, e = .returned (.tuple #[.int .i64 x, .int .i64 y, .int .i64 z])) ∧ Below w.heap.size w w' := by
  have HB : Hid (Bytes w a len) := hb
  clear hb
  go_enter Try.func21, Try.ntmps21
  go_wp2_with fail
  refine (three _ a len cap HB.out).mono ?_
  rintro e w1 ⟨⟨x, y, z, rfl⟩, ho'⟩
  have HO : Hid (Below w.heap.size w w1) := ho'
  clear ho'
  go_wp2
  go_ret3
  exact ⟨⟨_, _, _, rfl⟩, HO.out⟩

set_option maxHeartbeats 1000000 in
theorem drawLess (w : World) (a : Option Addr) (len cap : Nat) (hb : Bytes w a len) :
    Calls Try.prog 33 #[.slice a len cap] w fun e w' => (∃ x y z : Int, e = .returned (.tuple #[.int .i64 x, .int .i64 y, .int .i64 z])) ∧ Below w.heap.size w w' := by
  have HB : Hid (Bytes w a len) := hb
  clear hb
  go_enter Try.func33, Try.ntmps33
  go_wp2_with fail
  refine (three _ a len cap HB.out).mono ?_
  rintro e w1 ⟨⟨x, y, z, rfl⟩, ho'⟩
  have HO : Hid (Below w.heap.size w w1) := ho'
  clear ho'
  go_wp2
  go_ret3
  exact ⟨⟨_, _, _, rfl⟩, HO.out⟩

set_option maxHeartbeats 1000000 in
theorem drawJoin (w : World) (a : Option Addr) (len cap : Nat) (hb : Bytes w a len) :
    Calls Try.prog 36 #[.slice a len cap] w fun e w' => (∃ x y z u : Int, 1 ≤ x ∧ x ≤ 5 ∧ 1 ≤ z ∧ z ≤ 5 ∧ e = .returned (.tuple #[.int .i64 x, .int .i64 y, .int .i64 z, .int .i64 u])) ∧ Below w.heap.size w w' := by
  have HB : Hid (Bytes w a len) := hb
  clear hb
  go_enter Try.func36, Try.ntmps36
  go_wp2_with fail
  refine (new _ a len cap HB.out).mono ?_
  rintro e w1 ⟨rfl, hc', ho'⟩
  have HC1 : Hid (Cur w1 w.heap.size a len cap) := hc'
  have HO1 : Hid (Below w.heap.size w w1) := ho'
  clear hc' ho'
  go_wp2_with fail
  refine (below _ _ a len cap _ (by omega) (by omega) HC1.out).mono ?_
  rintro e w2 ⟨⟨x, rfl, hx0, hx1⟩, hc', ho'⟩
  have HC2 : Hid (Cur w2 w.heap.size a len cap) := hc'
  have HO2 : Hid (Below w.heap.size w w2) := HO1.out.trans (ho'.below (Nat.le_refl _) HO1.out.size)
  clear hc' ho'
  go_wp2_with fail
  refine (val _ _ a len cap _ HC2.out).mono ?_
  rintro e w3 ⟨⟨y, rfl⟩, hc', ho'⟩
  have HC3 : Hid (Cur w3 w.heap.size a len cap) := hc'
  have HO3 : Hid (Below w.heap.size w w3) := HO2.out.trans (ho'.below (Nat.le_refl _) HO2.out.size)
  clear hc' ho'
  go_wp2_with fail
  refine (below _ _ a len cap _ (by omega) (by omega) HC3.out).mono ?_
  rintro e w4 ⟨⟨z, rfl, hz0, hz1⟩, hc', ho'⟩
  have HC4 : Hid (Cur w4 w.heap.size a len cap) := hc'
  have HO4 : Hid (Below w.heap.size w w4) := HO3.out.trans (ho'.below (Nat.le_refl _) HO3.out.size)
  clear hc' ho'
  go_wp2_with fail
  refine (val _ _ a len cap _ HC4.out).mono ?_
  rintro e w5 ⟨⟨u, rfl⟩, hc', ho'⟩
  have HO5 : Hid (Below w.heap.size w w5) := HO4.out.trans (ho'.below (Nat.le_refl _) HO4.out.size)
  clear hc' ho'
  go_wp2
  refine bodyPost_ret (v := .tuple #[.int .i64 (1 + x), .int .i64 y, .int .i64 (1 + z), .int .i64 u]) (by simp [results, Try.results36, go_sem]) rfl ⟨⟨_, _, _, _, by omega, by omega, by omega, by omega, rfl⟩, HO5.out⟩

end Go.Proofs.Ytdgcjgicnanmiaa.Dr3
