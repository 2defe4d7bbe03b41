/- Walks of the exact laws' helpers on single nodes. -/
import Derived.Test.YthcleldkknmflaaRows
import Derived.WalkKit
import Derived.WalkSpells
import Derived.WalkLawsBesides
import Derived.Deep.QuietTactic
import Derived.BigQuiet
namespace Go.Proofs.Ythcleldkknmflaa.Nd1
open Go.RowKit
set_option linter.unusedVariables false

theorem ret_bool {a b : Bool} (h : a = b) : Ending.returned (.bool a) = .returned (.bool b) := by rw [h]

set_option maxHeartbeats 1000000 in
theorem toNode (o m k a b c : Int) (w : World) :
    Calls Try.prog 32 #[.agg #[.int .i64 o, .int .i64 m, .int .i64 k, .int .i64 a, .int .i64 b, .int .i64 c]] w fun e w' => e = .returned (.agg #[.int .i64 o, .int .i64 m, .int .i64 k, .int .i64 a, .int .i64 b, .int .i64 c]) ∧ Below w.heap.size w w' := by
  go_enter Try.func32, Try.ntmps32
  go_wp2
  refine bodyPost_ret (v := .agg #[.int .i64 o, .int .i64 m, .int .i64 k, .int .i64 a, .int .i64 b, .int .i64 c]) (by simp [results, Try.results32, go_sem]) rfl ⟨rfl, ?_⟩
  exact (((Below.refl _ _).alloc (Nat.le_refl _) _).alloc (by simp) _).alloc (by simp; omega) _

set_option maxHeartbeats 1000000 in
theorem eqNode (o m k a b c o' m' k' a' b' c' : Int) (r : Bool) (hr : r = decide (o = o' ∧ m = m' ∧ k = k' ∧ a = a' ∧ b = b' ∧ c = c')) (w : World) :
    Calls Try.prog 63 #[.agg #[.int .i64 o, .int .i64 m, .int .i64 k, .int .i64 a, .int .i64 b, .int .i64 c], .agg #[.int .i64 o', .int .i64 m', .int .i64 k', .int .i64 a', .int .i64 b', .int .i64 c']] w fun e w' => e = .returned (.bool r) ∧ Below w.heap.size w w' := by
  have HR : Hid (r = decide (o = o' ∧ m = m' ∧ k = k' ∧ a = a' ∧ b = b' ∧ c = c')) := hr
  clear hr
  go_enter Try.func63, Try.ntmps63
  go_wp2
  all_goals
    go_ret
    refine ⟨ret_bool ?_, ((Below.refl _ _).alloc (Nat.le_refl _) _).alloc (by simp) _⟩
    rw [HR.out]
    simp_all

end Go.Proofs.Ythcleldkknmflaa.Nd1
