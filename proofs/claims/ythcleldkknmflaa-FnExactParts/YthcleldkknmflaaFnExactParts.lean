/- For any node, Parts of the program answers as its model does, writes into nothing and owns what it answers; no condition. -/
import Derived.Test.YthcleldkknmflaaRows
import Derived.WalkKit
import Derived.ProofKit
import Derived.OpenShut
import Derived.ShutString
import Derived.ChangeOld
import Derived.Below
import Derived.Test.YthcleldkknmflaaNd0
import Derived.Test.YthcleldkknmflaaOp0
import Derived.Test.YthcleldkknmflaaKp0
import Derived.Test.YthcleldkknmflaaNd1
import Derived.Test.YthcleldkknmflaaNd2
import Derived.Test.YthcleldkknmflaaNd3
import Derived.Test.YthcleldkknmflaaPl1
import Derived.Test.YthcleldkknmflaaTm0
import Derived.Test.YthcleldkknmflaaTm1
import Derived.Test.YthcleldkknmflaaTm4
import Derived.Test.YthcleldkknmflaaTm5
import Derived.Test.YthcleldkknmflaaWs1
import Derived.Test.YthcleldkknmflaaAp0
import Derived.Test.YthcleldkknmflaaSp2
import Derived.Test.YthcleldkknmflaaPg1
import Derived.Test.YthcleldkknmflaaPg2
import Derived.Test.YthcleldkknmflaaLx5
namespace Go.Proofs.Ythcleldkknmflaa.fnExactParts
open Go.ChangeShapes Go.WideShapes Go.ChangeAt Go.RowKit
open Go.ChangeMaps (open_string shut_string)
set_option linter.unusedVariables false

open Nd0 Op0 Kp0 Nd1 Nd2 Nd3 Pl1 Tm0 Tm1 Tm4 Tm5 Ws1 Ap0 Sp2 Pg1 Pg2 Lx5

theorem own : ownKnob Try.prog.godebug = none := by kernel_rfl
theorem laidOut : laidOutB Try.prog = true := by kernel_rfl

set_option maxHeartbeats 1000000 in
theorem walk (n : Nd) (w : World) :
    Calls Try.prog 6 #[.agg #[.int .i64 n.op, .int .i64 n.w, .int .i64 n.k, .int .i64 n.a, .int .i64 n.b, .int .i64 n.c]] w fun e w' => e = .returned (.bool true) ∧ Below w.heap.size w w' := by
  exact exParts n w

set_option maxRecDepth 100000 in
theorem lifted (os : Os) (started : os.Started) (H : Type) (enc : TypeId × Value → H) :
    ReturnsInHanded {} Try.checked os 6 .any (Rows.fnExactPartsSpec.pre6 enc Try.prog Try.f6 Rows.fnExactPartsRow.domain false) (Rows.fnExactPartsSpec.post enc Try.prog Try.f6 false true false false) := by
  refine returnsInHanded_of_change (C := Try.checked) own started (by kernel_rfl) Try.func6
    (ChangeSpec.witness6 (enc := enc) (C := Try.checked) false ⟨#[], #[.agg #[.int .i64 0, .int .i64 0, .int .i64 0, .int .i64 0, .int .i64 0, .int .i64 0]], []⟩ 8 (by kernel_rfl) (by kernel_rfl) (by kernel_rfl) (by kernel_rfl)) ?_
  intro W base args ds gs before hval0 hW hcnd _
  have hval : ∀ (j : Nat) t v, Try.f6.params[j]? = some t → args[j]? = some v → Value.okWide Try.prog W .any base t v := hval0
  have hW' := hW
  obtain ⟨p, q, hA0, hV, rfl, hfz, hnd⟩ := hW
  have hA : DataW.TrodAll enc Try.prog W 0 (fun _ => true) true Try.f6.params.toList args.toList ds p := hA0
  rw [Try.params6] at hA hval
  obtain ⟨v0, vs0, d0, ds0, p0, q0, hargs, rfl, rfl, h0, r0⟩ := trodAll_cons hA
  obtain ⟨rfl, rfl, rfl⟩ := trodAll_nil r0
  obtain rfl : args = #[v0] := by cases args; simp_all
  obtain ⟨rfl, rfl⟩ := trodVars_none hV
  obtain ⟨cs0, rfl, _⟩ := okWide_struct Try.underlying43 (hval 0 43 v0 rfl rfl)
  have k0 := h0
  have lt0 : ∀ x ∈ p0, x.block < W.heap.size := by obtain ⟨m, hm⟩ := k0; exact DataW.trod_lt m _ _ _ hm
  obtain ⟨n0, hn0⟩ : ∃ n : Nd, cs0.toList = n.cells := by
    obtain ⟨fuel, hf⟩ := h0
    exact Op0.node_open (by simpa [Value.cells] using hf)
  obtain rfl : cs0 = #[.int .i64 n0.op, .int .i64 n0.w, .int .i64 n0.k, .int .i64 n0.a, .int .i64 n0.b, .int .i64 n0.c] := by cases cs0; simp_all [Nd.cells]
  clear hA0 hval0
  refine (walk n0 W).mono fun e W' ⟨he, bel⟩ => ?_
  subst he
  exact ⟨_, rfl, _, _, _, [], _, [], hW', trodAll_mk1 (shut_bool Try.underlying4 _), (trodAll_cons_mk (Below.trod laidOut (by kernel_rfl) (of_decide_eq_true (by kernel_rfl)) k0 bel lt0) trodAll_mk0), rfl, bel.frame _, fun h => by cases h⟩

theorem over : Rows.fnExactPartsRow.holds Try.pinned (OpenSpec.ofChange Rows.fnExactPartsSpec) :=
  OpenClaim.holds_of_wide 6 Try.f6 rfl rfl rfl rfl rfl rfl rfl ⟨rfl, rfl, rfl, rfl, rfl⟩ rfl rfl rfl rfl rfl (by kernel_rfl) Try.func6 (by kernel_rfl)
    (of_decide_eq_true (by kernel_rfl)) (by unfold Func.isWrapper; first | (rw [if_pos (by decide +kernel)]; kernel_rfl) | (rw [if_neg (by decide +kernel)]; exact ⟨rfl, rfl⟩))
    (fun os started H enc _ => lifted os started H enc)

end Go.Proofs.Ythcleldkknmflaa.fnExactParts
namespace Go.Proofs.Ythcleldkknmflaa
theorem fnExactParts_holds : Rows.FnExactPartsSaid := fnExactParts.over
end Go.Proofs.Ythcleldkknmflaa
