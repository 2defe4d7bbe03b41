/- Walks of what the laws themselves call: a byte of the code, whether the code is too great. -/
import Derived.Test.YteplffphkakliaaDr4
import Derived.Test.YteplffphkakliaaWs1
namespace Go.Proofs.Yteplffphkakliaa.Lw4
open Go.RowKit
open Dr0 Dr1
open Ws1 (ret_int ret_bool)
set_option linter.unusedVariables false

set_option maxHeartbeats 400000 in
theorem lat (w : World) (a : Option Addr) (len cap : Nat) (i : Int) (h0 : 0 ≤ i) (hk : i ≤ 1000) (hb : Bytes w a len) (hs : len ≤ 1048576) :
    Calls Try.prog 18 #[.slice a len cap, .int .i64 i] w fun e w' => (∃ x : Int, e = .returned (.int .i64 x) ∧ 0 ≤ x ∧ x ≤ 255) ∧ w' = w := by
  obtain ⟨k, rfl⟩ := Int.eq_ofNat_of_zero_le h0
  by_cases hlt : k < len
  · rcases hb.2 with h0 | ⟨xb, xo, rfl, hcell⟩
    · omega
    obtain ⟨v, hv0, hv1, hv⟩ := hcell k hlt
    clear hcell hb
    go_enter Try.func18, Try.ntmps18
    go_wp2
    go_ret
    exact ⟨⟨_, rfl, by omega, by omega⟩, rfl⟩
  · clear hb
    go_enter Try.func18, Try.ntmps18
    go_wp2
    go_ret
    exact ⟨⟨_, rfl, by omega, by omega⟩, rfl⟩

set_option maxHeartbeats 400000 in
theorem lbig (w : World) (a : Option Addr) (len cap : Nat) (b : Bool) (hb : b = decide (1048576 < len)) :
    Calls Try.prog 11 #[.slice a len cap] w fun e w' => e = .returned (.bool b) ∧ w' = w := by
  subst hb
  go_enter Try.func11, Try.ntmps11
  go_wp2
  go_ret
  exact ⟨ret_bool (by rw [Bool.eq_iff_iff]; simp; omega), rfl⟩

end Go.Proofs.Yteplffphkakliaa.Lw4
