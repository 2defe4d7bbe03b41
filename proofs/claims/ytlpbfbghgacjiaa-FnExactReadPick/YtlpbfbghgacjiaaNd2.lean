/- Walks of the exact laws' helpers on slices of nodes. -/
import Derived.Deep.RegionWith
import Derived.Test.YtlpbfbghgacjiaaNd0
import Derived.Test.YtlpbfbghgacjiaaNd1
namespace Go.Proofs.Ytlpbfbghgacjiaa.Nd2
open Go.RowKit
open Nd0 Nd1
set_option linter.unusedVariables false

set_option maxHeartbeats 1000000 in
theorem eqIntS (w : World) (a a' : Option Addr) (l : List Int) (c c' : Nat) (h : Ints w a l) (h' : Ints w a' l) :
    Calls Try.prog 31 #[.slice a l.length c, .slice a' l.length c'] w fun e w' => e = .returned (.bool true) ∧ ∃ m, w' = w.drewN m := by
  have H : Hid (Ints w a l) := h
  have H' : Hid (Ints w a' l) := h'
  have hm := h.1
  unfold maxLen at hm
  clear h h'
  go_enter Try.func31, Try.ntmps31
  go_wp2
  go_loopw [5] (fun i wr => ∃ k : Nat, k ≤ l.length ∧ i = .int .i64 k ∧ ∃ m, wr = w.drewN m) (fun i _ => l.length - (intOf i).toNat)
  case atStart => exact ⟨0, Nat.zero_le _, rfl, 0, rfl⟩
  case round =>
    obtain ⟨k, hk, rfl, m, rfl⟩ := hrel
    by_cases hlt : k < l.length
    · have hlz : (k : Int) < (l.length : Int) := by omega
      rcases H.out.2 with h0 | ⟨xb, xo, rfl, hc⟩
      · omega
      rcases H'.out.2 with h0 | ⟨yb, yo, rfl, hc'⟩
      · omega
      have p0 := hc k hlt
      have q0 := hc' k hlt
      clear hc hc'
      generalize l[k] = x at p0 q0
      go_wp2
      go_quiet (fail)
      go_wp2
      go_roundw
      case rel => exact ⟨k + 1, by omega, by go_num, _, rfl⟩
      case measure => simp [intOf]; omega
    · go_wp2
      go_ret
      exact ⟨rfl, _, rfl⟩

end Go.Proofs.Ytlpbfbghgacjiaa.Nd2
