/- Walks of the exact laws' helpers on slices of nodes. -/
import Derived.Test.YthcleldkknmflaaNd0
import Derived.Test.YthcleldkknmflaaNd1
import Derived.Deep.RegionWith
namespace Go.Proofs.Ythcleldkknmflaa.Nd2
open Go.RowKit
open Nd0 Nd1
set_option linter.unusedVariables false

set_option maxHeartbeats 1000000 in
theorem eqNodeS (w : World) (a a' : Option Addr) (l : List Nd) (c c' : Nat) (h : Nodes w a l) (h' : Nodes w a' l) :
    Calls Try.prog 30 #[.slice a l.length c, .slice a' l.length c'] w fun e w' => e = .returned (.bool true) ∧ Below w.heap.size w w' := by
  have H : Hid (Nodes w a l) := h
  have H' : Hid (Nodes w a' l) := h'
  have hm := h.1
  unfold maxLen at hm
  clear h h'
  go_enter Try.func30, Try.ntmps30
  go_wp2
  go_loopw [5] (fun i wr => ∃ k : Nat, k ≤ l.length ∧ i = .int .i64 k ∧ Below w.heap.size w wr) (fun i _ => l.length - (intOf i).toNat)
  case atStart => exact ⟨0, Nat.zero_le _, rfl, Below.refl _ _⟩
  case round =>
    obtain ⟨k, hk, rfl, hb⟩ := hrel
    have HB : Hid (Below w.heap.size w wr) := hb
    clear hb
    by_cases hlt : k < l.length
    · have hlz : (k : Int) < (l.length : Int) := by omega
      have HN := H.out.below HB.out
      have HN' := H'.out.below HB.out
      rcases HN.2 with h0 | ⟨xb, xo, rfl, hc⟩
      · omega
      rcases HN'.2 with h0 | ⟨yb, yo, rfl, hc'⟩
      · omega
      obtain ⟨p0, p1, p2, p3, p4, p5⟩ := hc k hlt
      obtain ⟨q0, q1, q2, q3, q4, q5⟩ := hc' k hlt
      clear hc hc' HN HN'
      generalize l[k] = x at p0 p1 p2 p3 p4 p5 q0 q1 q2 q3 q4 q5
      obtain ⟨x0, x1, x2, x3, x4, x5⟩ := x
      simp only at p0 p1 p2 p3 p4 p5 q0 q1 q2 q3 q4 q5
      go_wp2
      go_region_with (go_at_call 63; refine (eqNode _ _ _ _ _ _ _ _ _ _ _ _ true (by simp) _).mono ?_; rintro e w' ⟨rfl, hbe⟩)
      all_goals
        have HB2 : Hid (Below w.heap.size w w') := HB.out.drew.trans (hbe.mono (by have := HB.out.size; simpa using this))
        clear hbe
        go_wp2
        go_roundw
        case rel => exact ⟨k + 1, by omega, by go_num, HB2.out⟩
        case measure => simp [intOf]; omega
    · go_wp2
      go_ret
      exact ⟨rfl, HB.out⟩

set_option maxHeartbeats 1000000 in
theorem eqIntS (w : World) (a a' : Option Addr) (l : List Int) (c c' : Nat) (h : Ints w a l) (h' : Ints w a' l) :
    Calls Try.prog 33 #[.slice a l.length c, .slice a' l.length c'] w fun e w' => e = .returned (.bool true) ∧ ∃ m, w' = w.drewN m := by
  have H : Hid (Ints w a l) := h
  have H' : Hid (Ints w a' l) := h'
  have hm := h.1
  unfold maxLen at hm
  clear h h'
  go_enter Try.func33, Try.ntmps33
  go_wp2
  go_loopw [5] (fun i wr => ∃ k : Nat, k ≤ l.length ∧ i = .int .i64 k ∧ ∃ m, wr = w.drewN m) (fun i _ => l.length - (intOf i).toNat)
  case atStart => exact ⟨0, Nat.zero_le _, rfl, 0, rfl⟩
  case round =>
    obtain ⟨k, hk, rfl, m, rfl⟩ := hrel
    by_cases hlt : k < l.length
    · have hlz : (k : Int) < (l.length : Int) := by omega
      rcases H.out.2 with h0 | ⟨xb, xo, rfl, hc⟩
      · omega
      rcases H'.out.2 with h0 | ⟨yb, yo, rfl, hc'⟩
      · omega
      have p0 := hc k hlt
      have q0 := hc' k hlt
      clear hc hc'
      generalize l[k] = x at p0 q0
      go_wp2
      go_quiet (fail)
      go_wp2
      go_roundw
      case rel => exact ⟨k + 1, by omega, by go_num, _, rfl⟩
      case measure => simp [intOf]; omega
    · go_wp2
      go_ret
      exact ⟨rfl, _, rfl⟩

set_option maxHeartbeats 400000 in
theorem szNodeS (w : World) (a : Option Addr) (n c : Nat) (left : Int) (h0 : 0 ≤ left) (h1 : left ≤ 1048576) (hn : n ≤ maxLen) :
    Calls Try.prog 28 #[.slice a n c, .int .i64 left] w fun e w' => e = .returned (.int .i64 (if (n : Int) ≤ left then left - n else -1)) ∧ w' = w := by
  unfold maxLen at hn
  by_cases hc : (n : Int) ≤ left
  · go_enter Try.func28, Try.ntmps28
    go_wp2
    go_ret
    exact ⟨rfl, rfl⟩
  · go_enter Try.func28, Try.ntmps28
    go_wp2
    go_ret
    exact ⟨rfl, rfl⟩

end Go.Proofs.Ythcleldkknmflaa.Nd2
