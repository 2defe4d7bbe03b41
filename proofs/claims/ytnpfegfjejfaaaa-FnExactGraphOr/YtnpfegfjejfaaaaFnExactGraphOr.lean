/- For any graph, right or wrong, and any two whole numbers, GraphOr of the program answers as its model does, writes into nothing that came in and owns what it answers; no condition. -/
import Derived.Test.YtnpfegfjejfaaaaRows
import Derived.WalkKit
import Derived.ProofKit
import Derived.OpenShut
import Derived.ShutString
import Derived.ChangeOld
import Derived.Below
import Derived.Test.YtnpfegfjejfaaaaNd0
import Derived.Test.YtnpfegfjejfaaaaQb0
import Derived.Test.YtnpfegfjejfaaaaGr0
import Derived.Test.YtnpfegfjejfaaaaOp3
import Derived.Test.YtnpfegfjejfaaaaNd1
import Derived.Test.YtnpfegfjejfaaaaQb1
import Derived.Test.YtnpfegfjejfaaaaGx0
import Derived.Test.YtnpfegfjejfaaaaGs1
import Derived.Test.YtnpfegfjejfaaaaGr2
import Derived.Test.YtnpfegfjejfaaaaAp1
import Derived.Test.YtnpfegfjejfaaaaGs2
import Derived.Test.YtnpfegfjejfaaaaGr1
import Derived.Test.YtnpfegfjejfaaaaQb2
import Derived.Test.YtnpfegfjejfaaaaAp10
import Derived.Test.YtnpfegfjejfaaaaMq0
import Derived.Test.YtnpfegfjejfaaaaNt0
import Derived.Test.YtnpfegfjejfaaaaGp1
import Derived.Test.YtnpfegfjejfaaaaGs3
import Derived.Test.YtnpfegfjejfaaaaGp2
import Derived.Test.YtnpfegfjejfaaaaGp3
import Derived.Test.YtnpfegfjejfaaaaGp4
import Derived.Test.YtnpfegfjejfaaaaGp5
import Derived.Test.YtnpfegfjejfaaaaGs4
import Derived.Test.YtnpfegfjejfaaaaGs5
import Derived.Test.YtnpfegfjejfaaaaLg4
namespace Go.Proofs.Ytnpfegfjejfaaaa.fnExactGraphOr
open Go.ChangeShapes Go.WideShapes Go.ChangeAt Go.RowKit
open Go.ChangeMaps (open_string shut_string)
set_option linter.unusedVariables false

open Nd0 Qb0 Gr0 Op3 Nd1 Qb1 Gx0 Gs1 Gr2 Ap1 Gs2 Gr1 Qb2 Ap10 Mq0 Nt0 Gp1 Gs3 Gp2 Gp3 Gp4 Gp5 Gs4 Gs5 Lg4

theorem own : ownKnob Try.prog.godebug = none := by kernel_rfl
theorem laidOut : laidOutB Try.prog = true := by kernel_rfl

set_option maxHeartbeats 1000000 in
theorem walk (i0 : Int) (a0 : Option Addr) (c0 : Nat) (l0 : List Qb0.An) (a1 : Int) (a2 : Int) (w : World) (w0 : Qb0.Ans w a0 l0) (r0 : Gr0.Rg l0) (w1 : (Lit.int .i64 a1).wf = true) (w2 : (Lit.int .i64 a2).wf = true) :
    Calls Try.prog 6 #[.agg #[.int .i64 i0, .slice a0 l0.length c0], .int .i64 a1, .int .i64 a2] w fun e w' => e = .returned (.bool true) ∧ Below w.heap.size w w' := by
  exact exGraphOr w i0 a0 l0 c0 a1 a2 (Op3.range_of w1) (Op3.range_of w2) w0 r0

set_option maxRecDepth 100000 in
theorem lifted (os : Os) (started : os.Started) (H : Type) (enc : TypeId × Value → H) :
    ReturnsInHanded {} Try.checked os 6 .any (Rows.fnExactGraphOrSpec.pre6 enc Try.prog Try.f6 Rows.fnExactGraphOrRow.domain false) (Rows.fnExactGraphOrSpec.post enc Try.prog Try.f6 false true false false) := by
  refine returnsInHanded_of_change (C := Try.checked) own started (by kernel_rfl) Try.func6
    (ChangeSpec.witness6 (enc := enc) (C := Try.checked) false ⟨#[], #[.agg #[.int .i64 0, .slice none 0 0], .int .i64 0, .int .i64 0], []⟩ 8 (by kernel_rfl) (by kernel_rfl) (by kernel_rfl) (by kernel_rfl)) ?_
  intro W base args ds gs before hval0 hW hcnd _
  have hval : ∀ (j : Nat) t v, Try.f6.params[j]? = some t → args[j]? = some v → Value.okWide Try.prog W .any base t v := hval0
  have hW' := hW
  obtain ⟨p, q, hA0, hV, rfl, hfz, hnd⟩ := hW
  have hA : DataW.TrodAll enc Try.prog W 0 (fun _ => true) true Try.f6.params.toList args.toList ds p := hA0
  rw [Try.params6] at hA hval
  obtain ⟨v0, vs0, d0, ds0, p0, q0, hargs, rfl, rfl, h0, r0⟩ := trodAll_cons hA
  obtain ⟨v1, vs1, d1, ds1, p1, q1, hargs1, rfl, rfl, h1, r1⟩ := trodAll_cons r0
  obtain ⟨v2, vs2, d2, ds2, p2, q2, hargs2, rfl, rfl, h2, r2⟩ := trodAll_cons r1
  obtain ⟨rfl, rfl, rfl⟩ := trodAll_nil r2
  obtain rfl : args = #[v0, v1, v2] := by cases args; simp_all
  obtain ⟨rfl, rfl⟩ := trodVars_none hV
  obtain ⟨cs0, rfl, _⟩ := okWide_struct Try.underlying44 (hval 0 44 v0 rfl rfl)
  have k0 := h0
  have lt0 : ∀ x ∈ p0, x.block < W.heap.size := by obtain ⟨m, hm⟩ := k0; exact DataW.trod_lt m _ _ _ hm
  obtain ⟨i0, a0, c0, l0, hn0, w0, r0g, _, _⟩ : ∃ (ins : Int) (a : Option Addr) (c : Nat) (l : List Qb0.An), cs0.toList = [.int .i64 ins, .slice a l.length c] ∧ Qb0.Ans W a l ∧ Gr0.Rg l ∧ -9223372036854775808 ≤ ins ∧ ins ≤ 9223372036854775807 := by
    obtain ⟨fuel, hf⟩ := h0
    exact Op3.graph_open (by simpa [Value.cells] using hf)
  obtain rfl : cs0 = #[.int .i64 i0, .slice a0 l0.length c0] := by cases cs0; simp_all
  obtain ⟨a1, rfl, rfl, rfl, w1⟩ := open_int Try.underlying3 (hval 1 3 v1 rfl rfl) h1
  obtain ⟨a2, rfl, rfl, rfl, w2⟩ := open_int Try.underlying3 (hval 2 3 v2 rfl rfl) h2
  clear hA0 hval0
  refine (walk i0 a0 c0 l0 a1 a2 W w0 r0g w1 w2).mono fun e W' ⟨he, bel⟩ => ?_
  subst he
  exact ⟨_, rfl, _, _, _, [], _, [], hW', trodAll_mk1 (shut_bool Try.underlying4 _), (trodAll_cons_mk (Below.trod laidOut (by kernel_rfl) (of_decide_eq_true (by kernel_rfl)) k0 bel lt0) (trodAll_cons_mk (shut_int Try.underlying3 w1) (trodAll_cons_mk (shut_int Try.underlying3 w2) trodAll_mk0))), rfl, bel.frame _, fun h => by cases h⟩

theorem over : Rows.fnExactGraphOrRow.holds Try.pinned (OpenSpec.ofChange Rows.fnExactGraphOrSpec) :=
  OpenClaim.holds_of_wide 6 Try.f6 rfl rfl rfl rfl rfl rfl rfl ⟨rfl, rfl, rfl, rfl, rfl⟩ rfl rfl rfl rfl rfl (by kernel_rfl) Try.func6 (by kernel_rfl)
    (of_decide_eq_true (by kernel_rfl)) (by unfold Func.isWrapper; first | (rw [if_pos (by decide +kernel)]; kernel_rfl) | (rw [if_neg (by decide +kernel)]; exact ⟨rfl, rfl⟩))
    (fun os started H enc _ => lifted os started H enc)

end Go.Proofs.Ytnpfegfjejfaaaa.fnExactGraphOr
namespace Go.Proofs.Ytnpfegfjejfaaaa
theorem fnExactGraphOr_holds : Rows.FnExactGraphOrSaid := fnExactGraphOr.over
end Go.Proofs.Ytnpfegfjejfaaaa
