/- Walks of what the laws themselves call: powers of two, a byte of the code, whether the code is too great. -/
import Derived.Test.YtdmogjhabladcaaGreatDr3
import Derived.Test.YtdmogjhabladcaaGreatPkI
namespace Go.Proofs.YtdmogjhabladcaaGreat.Lw0
open Go.RowKit
open Dr0 Dr1 Dr2 Dr3 Pl1 Wd1
set_option linter.unusedVariables false

set_option maxHeartbeats 400000 in
theorem lpow (m : Int) (w : World) (h0 : 0 ≤ m) (h1 : m ≤ 8) :
    Calls Tryz.prog 16 #[.int .i64 m] w fun e w' => e = .returned (.int .i64 (p2 m.toNat)) ∧ w' = w := by
  obtain ⟨n, rfl⟩ := Int.eq_ofNat_of_zero_le h0
  rw [Int.toNat_natCast]
  go_enter Tryz.func16, Tryz.ntmps16
  go_wp2
  go_loop [3, 4] (fun x i => ∃ k : Nat, k ≤ n ∧ i = .int .i64 k ∧ x = .int .i64 (p2 k)) (fun _ i => n - (intOf i).toNat)
  case atStart => exact ⟨0, Nat.zero_le _, rfl, rfl⟩
  case round =>
    obtain ⟨k, hk, rfl, rfl⟩ := hrel
    have hp := p2_pos k
    have hl := p2_le k (by omega)
    by_cases hlt : k < n
    · go_wp2
      go_round
      case rel => exact ⟨k + 1, by omega, by go_num, by rw [p2_succ]⟩
      case measure => simp [intOf]; omega
    · go_wp2
      go_ret
      have : k = n := by omega
      subst this
      exact ⟨rfl, rfl⟩

set_option maxHeartbeats 400000 in
theorem lat (w : World) (a : Option Addr) (len cap : Nat) (i : Int) (h0 : 0 ≤ i) (hk : i ≤ 1000) (hb : Bytes w a len) (hs : len ≤ 1048576) :
    Calls Tryz.prog 12 #[.slice a len cap, .int .i64 i] w fun e w' => (∃ x : Int, e = .returned (.int .i64 x) ∧ 0 ≤ x ∧ x ≤ 255) ∧ w' = w := by
  obtain ⟨k, rfl⟩ := Int.eq_ofNat_of_zero_le h0
  by_cases hlt : k < len
  · rcases hb.2 with h0 | ⟨xb, xo, rfl, hcell⟩
    · omega
    obtain ⟨v, hv0, hv1, hv⟩ := hcell k hlt
    clear hcell hb
    go_enter Tryz.func12, Tryz.ntmps12
    go_wp2
    go_ret
    exact ⟨⟨_, rfl, by omega, by omega⟩, rfl⟩
  · clear hb
    go_enter Tryz.func12, Tryz.ntmps12
    go_wp2
    go_ret
    exact ⟨⟨_, rfl, by omega, by omega⟩, rfl⟩

set_option maxHeartbeats 400000 in
theorem lbig (w : World) (a : Option Addr) (len cap : Nat) (b : Bool) (hb : b = decide (1048576 < len)) :
    Calls Tryz.prog 10 #[.slice a len cap] w fun e w' => e = .returned (.bool b) ∧ w' = w := by
  subst hb
  go_enter Tryz.func10, Tryz.ntmps10
  go_wp2
  go_ret
  exact ⟨ret_bool (by rw [Bool.eq_iff_iff]; simp; omega), rfl⟩

end Go.Proofs.YtdmogjhabladcaaGreat.Lw0
