/- Walks of the draws of chapter 1: values of a width, and the draws themselves. -/
import Derived.Test.YtdmogjhabladcaaGreatDr2
namespace Go.Proofs.YtdmogjhabladcaaGreat.Dr3
open Go.RowKit
open Dr0 Dr1 Dr2 Pl1 Wd1
set_option linter.unusedVariables false

theorem belowAny (w : World) (b : Nat) (a : Option Addr) (len cap : Nat) (n : Int) (h0 : 1 ≤ n) (hc : Cur w b a len cap) :
    Calls Tryz.prog 84 #[.pointer (some ⟨b, 0, none⟩), .int .i64 n] w fun e w' => (∃ x : Int, e = .returned (.int .i64 x) ∧ 0 ≤ x ∧ x < n) ∧ Cur w' b a len cap ∧ Only b w w' := by
  by_cases h : n ≤ 256
  · exact below w b a len cap n h0 h hc
  · exact belowBig w b a len cap n (by omega) hc

end Go.Proofs.YtdmogjhabladcaaGreat.Dr3
