/- The walk of the exact law of Apply, out of the contracts of the model's and the program's. -/
import Derived.Test.YtjhhmnelddidjaaSv1
import Derived.Test.YtjhhmnelddidjaaIc4
import Derived.Test.YtjhhmnelddidjaaPkB
import Derived.Test.YtjhhmnelddidjaaLx5
namespace Go.Proofs.Ytjhhmnelddidjaa.Lx9
open Go.RowKit
open Nd0 Nd1 Vl1 Ic4
open Lx5 (boxed)
open Kp0 (keep)
open Sv1 (sApply)
set_option linter.unusedVariables false

set_option maxRecDepth 100000 in
set_option maxHeartbeats 4000000 in
theorem exApply (hI : IApply) (n : Nd) (W a b c : Int) (hk : (Lit.int .i64 n.k).wf = true) (w : World) :
    Calls Try.prog 3 #[.agg #[.int .i64 n.op, .int .i64 n.w, .int .i64 n.k, .int .i64 n.a, .int .i64 n.b, .int .i64 n.c], .int .i64 W, .int .i64 a, .int .i64 b, .int .i64 c] w fun e w' => e = .returned (.bool true) ∧ Below w.heap.size w w' := by
  obtain ⟨w0, hw0⟩ : ∃ w0 : World, w0 = w.alloc (.cells #[.int .i64 n.op, .int .i64 n.w, .int .i64 n.k, .int .i64 n.a, .int .i64 n.b, .int .i64 n.c] 23) := ⟨_, rfl⟩
  have hs0 : w0.heap.size = w.heap.size + 1 := by rw [hw0]; simp
  have HS0 : Hid (w0.heap.size = w.heap.size + 1) := hs0
  have HB0 : Hid (Below w.heap.size w w0) := by rw [hw0]; exact (Below.refl _ _).alloc (Nat.le_refl _) _
  have HBOX : Hid (∀ wi, Below (w.heap.size + 1) w0 wi → wi.cell? ⟨w.heap.size, 0, none⟩ = some (.int .i64 n.op) ∧ wi.cell? ⟨w.heap.size, 1, none⟩ = some (.int .i64 n.w) ∧ wi.cell? ⟨w.heap.size, 2, none⟩ = some (.int .i64 n.k) ∧ wi.cell? ⟨w.heap.size, 3, none⟩ = some (.int .i64 n.a) ∧ wi.cell? ⟨w.heap.size, 4, none⟩ = some (.int .i64 n.b) ∧ wi.cell? ⟨w.heap.size, 5, none⟩ = some (.int .i64 n.c)) := by
    rw [hw0]; exact fun wi h => boxed h
  have HK : Hid ((Lit.int .i64 n.k).wf = true) := hk
  have HI : Hid IApply := hI
  clear hs0 hk hI
  go_enter Try.func3, Try.ntmps3
  go_wp2_with fail
  rw [← hw0]
  clear hw0
  refine (toNode _ _ _ _ _ _ _).mono ?_
  rintro e w1 ⟨rfl, hb1⟩
  have HB1 : Hid (Below (w.heap.size + 1) w0 w1) := HS0.out ▸ hb1
  clear hb1
  go_wp2_with fail
  refine (sApply n _ _ _ _ _ HK.out).mono ?_
  rintro e w2 ⟨rfl, hb2⟩
  have HB2 : Hid (Below (w.heap.size + 1) w0 w2) := keep HB1.out hb2 (by have := HB1.out.size; have := HS0.out; omega)
  clear hb2
  obtain ⟨p0, p1, p2, p3, p4, p5⟩ := HBOX.out _ HB2.out
  generalize hv : applyL n.op n.w n.k W a b c = v
  have HV : Hid (applyL n.op n.w n.k W a b c = v) := hv
  clear hv
  go_wp2_with fail
  refine (toNode _ _ _ _ _ _ _).mono ?_
  rintro e w3 ⟨rfl, hb3⟩
  have HB3 : Hid (Below (w.heap.size + 1) w0 w3) := keep HB2.out hb3 (by have := HB2.out.size; have := HS0.out; omega)
  clear hb3 p0 p1 p2 p3 p4 p5
  go_wp2_with fail
  refine (HI.out n _ _ _ _ _ HK.out).mono ?_
  rintro e w4 ⟨rfl, hb4⟩
  have HB4 : Hid (Below (w.heap.size + 1) w0 w4) := keep HB3.out hb4 (by have := HB3.out.size; have := HS0.out; omega)
  clear hb4
  rw [HV.out]
  have hne : (v != v) = false := by simp
  go_wp2
  go_ret
  exact ⟨rfl, HB0.out.trans (HB4.out.mono (by omega))⟩

end Go.Proofs.Ytjhhmnelddidjaa.Lx9
