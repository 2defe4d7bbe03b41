/- The walk of the exact law of Parts. -/
import Derived.Test.YtjhhmnelddidjaaPkB
import Derived.Test.YtjhhmnelddidjaaSp2
import Derived.Test.YtjhhmnelddidjaaPg2
namespace Go.Proofs.Ytjhhmnelddidjaa.Lx5
open Go.RowKit
open Nd0 Nd1 Nd2 Nd3 Tm0 Ap0 Sp2 Pg2
open Kp0
set_option linter.unusedVariables false

/-- A node that lies in a block of its own is there still. -/
theorem boxed {W wi : World} {n : Nd} {T : Nat} (hb : Below (W.heap.size + 1) (W.alloc (.cells #[.int .i64 n.op, .int .i64 n.w, .int .i64 n.k, .int .i64 n.a, .int .i64 n.b, .int .i64 n.c] T)) wi) :
    wi.cell? ⟨W.heap.size, 0, none⟩ = some (.int .i64 n.op) ∧ wi.cell? ⟨W.heap.size, 1, none⟩ = some (.int .i64 n.w) ∧ wi.cell? ⟨W.heap.size, 2, none⟩ = some (.int .i64 n.k) ∧ wi.cell? ⟨W.heap.size, 3, none⟩ = some (.int .i64 n.a) ∧ wi.cell? ⟨W.heap.size, 4, none⟩ = some (.int .i64 n.b) ∧ wi.cell? ⟨W.heap.size, 5, none⟩ = some (.int .i64 n.c) := by
  refine ⟨?_, ?_, ?_, ?_, ?_, ?_⟩
  all_goals
    rw [hb.cell (Nat.lt_succ_self _), World.cell?_alloc_new]
    rfl

end Go.Proofs.Ytjhhmnelddidjaa.Lx5
