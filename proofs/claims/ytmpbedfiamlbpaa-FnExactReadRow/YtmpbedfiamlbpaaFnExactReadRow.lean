/- For any text ReadRow of the program answers as its model does, writes into no argument, and its answer owns its memory; no condition. -/
import Derived.Test.YtmpbedfiamlbpaaRows
import Derived.WalkKit
import Derived.ProofKit
import Derived.OpenShut
import Derived.ShutString
import Derived.ChangeOld
import Derived.Below
import Derived.Test.YtmpbedfiamlbpaaTa0
import Derived.Test.YtmpbedfiamlbpaaTa1
import Derived.Test.YtmpbedfiamlbpaaNd0
import Derived.Test.YtmpbedfiamlbpaaPl1
import Derived.Test.YtmpbedfiamlbpaaTm0
import Derived.Test.YtmpbedfiamlbpaaTm1
import Derived.Test.YtmpbedfiamlbpaaTm2
import Derived.Test.YtmpbedfiamlbpaaTm3
import Derived.Test.YtmpbedfiamlbpaaTx0
import Derived.Test.YtmpbedfiamlbpaaSs0
import Derived.Test.YtmpbedfiamlbpaaWs1
import Derived.Test.YtmpbedfiamlbpaaSs1
import Derived.Test.YtmpbedfiamlbpaaTc2
import Derived.Test.YtmpbedfiamlbpaaTc3
import Derived.Test.YtmpbedfiamlbpaaTc4
import Derived.Test.YtmpbedfiamlbpaaTc5
import Derived.Test.YtmpbedfiamlbpaaAp9
import Derived.Test.YtmpbedfiamlbpaaTd1
import Derived.Test.YtmpbedfiamlbpaaTd2
import Derived.Test.YtmpbedfiamlbpaaNd1
import Derived.Test.YtmpbedfiamlbpaaNd2
import Derived.Test.YtmpbedfiamlbpaaNd3
import Derived.Test.YtmpbedfiamlbpaaAp1
import Derived.Test.YtmpbedfiamlbpaaNd6
import Derived.Test.YtmpbedfiamlbpaaZa0
import Derived.Test.YtmpbedfiamlbpaaZa1
import Derived.Test.YtmpbedfiamlbpaaLx61
namespace Go.Proofs.Ytmpbedfiamlbpaa.fnExactReadRow
open Go.ChangeShapes Go.WideShapes Go.ChangeAt Go.RowKit
open Go.ChangeMaps (open_string shut_string)
set_option linter.unusedVariables false

open Ta0 Ta1 Nd0 Pl1 Tm0 Tm1 Tm2 Tm3 Tx0 Ss0 Ws1 Ss1 Tc2 Tc3 Tc4 Tc5 Ap9 Td1 Td2 Nd1 Nd2 Nd3 Ap1 Nd6 Za0 Za1 Lx61

theorem own : ownKnob Try.prog.godebug = none := by kernel_rfl
theorem laidOut : laidOutB Try.prog = true := by kernel_rfl

set_option maxHeartbeats 1000000 in
theorem walk (a0 : ByteArray) (w0 : a0.size ≤ maxLen) (w : World) :
    Calls Try.prog 4 #[.string a0] w fun e w' => e = .returned (.bool true) ∧ Below w.heap.size w w' := by
  exact Lx61.exReadRow w a0 w0

set_option maxRecDepth 100000 in
theorem lifted (os : Os) (started : os.Started) (H : Type) (enc : TypeId × Value → H) :
    ReturnsInHanded {} Try.checked os 4 .any (Rows.fnExactReadRowSpec.pre6 enc Try.prog Try.f4 Rows.fnExactReadRowRow.domain false) (Rows.fnExactReadRowSpec.post enc Try.prog Try.f4 false true false false) := by
  refine returnsInHanded_of_change (C := Try.checked) own started (by kernel_rfl) Try.func4
    (ChangeSpec.witness6 (enc := enc) (C := Try.checked) false ⟨#[], #[.string ByteArray.empty], []⟩ 8 (by kernel_rfl) (by kernel_rfl) (by kernel_rfl) (by kernel_rfl)) ?_
  intro W base args ds gs before hval0 hW hcnd _
  have hval : ∀ (j : Nat) t v, Try.f4.params[j]? = some t → args[j]? = some v → Value.okWide Try.prog W .any base t v := hval0
  have hW' := hW
  obtain ⟨p, q, hA0, hV, rfl, hfz, hnd⟩ := hW
  have hA : DataW.TrodAll enc Try.prog W 0 (fun _ => true) true Try.f4.params.toList args.toList ds p := hA0
  rw [Try.params4] at hA hval
  obtain ⟨v0, vs0, d0, ds0, p0, q0, hargs, rfl, rfl, h0, r0⟩ := trodAll_cons hA
  obtain ⟨rfl, rfl, rfl⟩ := trodAll_nil r0
  obtain rfl : args = #[v0] := by cases args; simp_all
  obtain ⟨rfl, rfl⟩ := trodVars_none hV
  obtain ⟨a0, rfl, rfl, rfl, w0⟩ := open_string Try.underlying9 (hval 0 9 v0 rfl rfl) h0
  clear hA0 hval0
  refine (walk a0 w0 W).mono fun e W' ⟨he, bel⟩ => ?_
  subst he
  exact ⟨_, rfl, _, _, _, [], _, [], hW', trodAll_mk1 (shut_bool Try.underlying4 _), (trodAll_cons_mk (shut_string Try.underlying9 w0) trodAll_mk0), rfl, bel.frame _, fun h => by cases h⟩

theorem over : Rows.fnExactReadRowRow.holds Try.pinned (OpenSpec.ofChange Rows.fnExactReadRowSpec) :=
  OpenClaim.holds_of_wide 4 Try.f4 rfl rfl rfl rfl rfl rfl rfl ⟨rfl, rfl, rfl, rfl, rfl⟩ rfl rfl rfl rfl rfl (by kernel_rfl) Try.func4 (by kernel_rfl)
    (of_decide_eq_true (by kernel_rfl)) (by unfold Func.isWrapper; first | (rw [if_pos (by decide +kernel)]; kernel_rfl) | (rw [if_neg (by decide +kernel)]; exact ⟨rfl, rfl⟩))
    (fun os started H enc _ => lifted os started H enc)

end Go.Proofs.Ytmpbedfiamlbpaa.fnExactReadRow
namespace Go.Proofs.Ytmpbedfiamlbpaa
theorem fnExactReadRow_holds : Rows.FnExactReadRowSaid := fnExactReadRow.over
end Go.Proofs.Ytmpbedfiamlbpaa
