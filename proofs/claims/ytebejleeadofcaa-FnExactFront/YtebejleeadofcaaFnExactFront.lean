/- For any list of nodes, Front of the program answers as its model does, writes into none and owns what it answers; no condition. -/
import Derived.Test.YtebejleeadofcaaRows
import Derived.WalkKit
import Derived.ProofKit
import Derived.OpenShut
import Derived.ShutString
import Derived.ChangeOld
import Derived.Below
import Derived.Test.YtebejleeadofcaaNd0
import Derived.Test.YtebejleeadofcaaPkXF1
import Derived.Test.YtebejleeadofcaaPkXF2
import Derived.Test.YtebejleeadofcaaPkXF3
import Derived.Test.YtebejleeadofcaaPkXF4
import Derived.Test.YtebejleeadofcaaTx1
import Derived.Test.YtebejleeadofcaaTm8
import Derived.Test.YtebejleeadofcaaTx2
import Derived.Test.YtebejleeadofcaaPkXF8
import Derived.Test.YtebejleeadofcaaTx3
import Derived.Test.YtebejleeadofcaaPkXF10
import Derived.Test.YtebejleeadofcaaPkXF11
import Derived.Test.YtebejleeadofcaaTm10
import Derived.Test.YtebejleeadofcaaPkXF13
import Derived.Test.YtebejleeadofcaaTm14
import Derived.Test.YtebejleeadofcaaVl1
import Derived.Test.YtebejleeadofcaaVl2
import Derived.Test.YtebejleeadofcaaVm0
import Derived.Test.YtebejleeadofcaaFr1
import Derived.Test.YtebejleeadofcaaFr2
import Derived.Test.YtebejleeadofcaaFr3
import Derived.Test.YtebejleeadofcaaPkXF21
import Derived.Test.YtebejleeadofcaaSp3
import Derived.Test.YtebejleeadofcaaPkXF23
import Derived.Test.YtebejleeadofcaaPkXF24
import Derived.Test.YtebejleeadofcaaSp7
import Derived.Test.YtebejleeadofcaaPkXF26
import Derived.Test.YtebejleeadofcaaFm6
import Derived.Test.YtebejleeadofcaaSp8
import Derived.Test.YtebejleeadofcaaSp9
import Derived.Test.YtebejleeadofcaaSp11
import Derived.Test.YtebejleeadofcaaPkXF31
import Derived.Test.YtebejleeadofcaaFm7
import Derived.Test.YtebejleeadofcaaPkXF33
import Derived.Test.YtebejleeadofcaaPkXF34
import Derived.Test.YtebejleeadofcaaPkXF35
import Derived.Test.YtebejleeadofcaaPkXF36
import Derived.Test.YtebejleeadofcaaFq2
import Derived.Test.YtebejleeadofcaaPkXF38
import Derived.Test.YtebejleeadofcaaPg11
import Derived.Test.YtebejleeadofcaaFq3
import Derived.Test.YtebejleeadofcaaPkXF41
import Derived.Test.YtebejleeadofcaaPkXF42
import Derived.Test.YtebejleeadofcaaNd6
import Derived.Test.YtebejleeadofcaaLx88
import Derived.Test.YtebejleeadofcaaPg3
import Derived.Test.YtebejleeadofcaaPg4
import Derived.Test.YtebejleeadofcaaPg5
import Derived.Test.YtebejleeadofcaaPg6
import Derived.Test.YtebejleeadofcaaPg7
import Derived.Test.YtebejleeadofcaaPg12
import Derived.Test.YtebejleeadofcaaPg13
import Derived.Test.YtebejleeadofcaaPkXF52
import Derived.Test.YtebejleeadofcaaPg14
namespace Go.Proofs.Ytebejleeadofcaa.fnExactFront
open Go.ChangeShapes Go.WideShapes Go.ChangeAt Go.RowKit
open Go.ChangeMaps (open_string shut_string)
set_option linter.unusedVariables false

open Nd0 Qa0 Qa3 Op0 Pl1 Tm0 Tm1 Tm4 Tm5 Tm6 Fr0 Tm2 Tm3 Tx0 Tx1 Tm8 Tx2 Tm7 Tm12 Tx3 Tr0 Pl2 Rw0 Ap0 Ap1 Rw1 Tm9 Tm10 Tm13 Tm11 Tm14 Vl1 Vl2 Vm0 Fr1 Fr2 Fr3 Fr5 Nd1 Sp2 Ws1 Sp3 Sp4 Sp5 Sp6 Nd3 Ap2 Sp7 Ap3 Sp10 Fm5 Qa2 Fm6 Sp8 Sp9 Sp11 Ap7 Fm7 Ap14 Fq0 Kp0 Qi0 Pg1 Wd1 Wd2 Wd3 Wd4 Fm1 Qi1 Qi2 Fq1 Fq2 Nd4 Pg2 Pg10 Pg11 Fq3 Nd5 Fq4 Qa1 Nd2 Nd6 Lx88 Pg3 Pg4 Pg5 Pg6 Pg7 Pg12 Pg13 Pg8 Pg9 Pg14

theorem own : ownKnob Try.prog.godebug = none := by kernel_rfl
theorem laidOut : laidOutB Try.prog = true := by kernel_rfl

set_option maxHeartbeats 1000000 in
theorem walk (a0 : Option Addr) (len0 cap0 : Nat) (l0 : List Nd) (hl0 : l0.length = len0) (w : World) (w0 : Nodes w a0 l0) :
    Calls Try.prog 3 #[.slice a0 len0 cap0] w fun e w' => e = .returned (.bool true) ∧ Below w.heap.size w w' := by
  subst hl0
  exact exFront (Fq4.iFront (iSentence iTermOk (iReached iTermOk)) (iReached iTermOk) (iPrune iTermOk (iReached iTermOk))) w a0 l0 cap0 w0

set_option maxRecDepth 100000 in
theorem lifted (os : Os) (started : os.Started) (H : Type) (enc : TypeId × Value → H) :
    ReturnsInHanded {} Try.checked os 3 .any (Rows.fnExactFrontSpec.pre6 enc Try.prog Try.f3 Rows.fnExactFrontRow.domain false) (Rows.fnExactFrontSpec.post enc Try.prog Try.f3 false true false false) := by
  refine returnsInHanded_of_change (C := Try.checked) own started (by kernel_rfl) Try.func3
    (ChangeSpec.witness6 (enc := enc) (C := Try.checked) false ⟨#[], #[.slice none 0 0], []⟩ 8 (by kernel_rfl) (by kernel_rfl) (by kernel_rfl) (by kernel_rfl)) ?_
  intro W base args ds gs before hval0 hW hcnd _
  have hval : ∀ (j : Nat) t v, Try.f3.params[j]? = some t → args[j]? = some v → Value.okWide Try.prog W .any base t v := hval0
  have hW' := hW
  obtain ⟨p, q, hA0, hV, rfl, hfz, hnd⟩ := hW
  have hA : DataW.TrodAll enc Try.prog W 0 (fun _ => true) true Try.f3.params.toList args.toList ds p := hA0
  rw [Try.params3] at hA hval
  obtain ⟨v0, vs0, d0, ds0, p0, q0, hargs, rfl, rfl, h0, r0⟩ := trodAll_cons hA
  obtain ⟨rfl, rfl, rfl⟩ := trodAll_nil r0
  obtain rfl : args = #[v0] := by cases args; simp_all
  obtain ⟨rfl, rfl⟩ := trodVars_none hV
  obtain ⟨a0, len0, cap0, rfl⟩ := okWide_slice Try.underlying22 (hval 0 22 v0 rfl rfl)
  have k0 := h0
  have lt0 : ∀ x ∈ p0, x.block < W.heap.size := by obtain ⟨m, hm⟩ := k0; exact DataW.trod_lt m _ _ _ hm
  obtain ⟨_, l0, hl0, w0⟩ : len0 ≤ maxLen ∧ ∃ l : List Nd, l.length = len0 ∧ Nodes W a0 l := by
    obtain ⟨fuel, hf⟩ := h0
    exact Op0.nodes_open (by simpa [Value.cells] using hf)
  clear hA0 hval0
  refine (walk a0 len0 cap0 l0 hl0 W w0).mono fun e W' ⟨he, bel⟩ => ?_
  subst he
  exact ⟨_, rfl, _, _, _, [], _, [], hW', trodAll_mk1 (shut_bool Try.underlying4 _), (trodAll_cons_mk (Below.trod laidOut (by kernel_rfl) (of_decide_eq_true (by kernel_rfl)) k0 bel lt0) trodAll_mk0), rfl, bel.frame _, fun h => by cases h⟩

theorem over : Rows.fnExactFrontRow.holds Try.pinned (OpenSpec.ofChange Rows.fnExactFrontSpec) :=
  OpenClaim.holds_of_wide 3 Try.f3 rfl rfl rfl rfl rfl rfl rfl ⟨rfl, rfl, rfl, rfl, rfl⟩ rfl rfl rfl rfl rfl (by kernel_rfl) Try.func3 (by kernel_rfl)
    (of_decide_eq_true (by kernel_rfl)) (by unfold Func.isWrapper; first | (rw [if_pos (by decide +kernel)]; kernel_rfl) | (rw [if_neg (by decide +kernel)]; exact ⟨rfl, rfl⟩))
    (fun os started H enc _ => lifted os started H enc)

end Go.Proofs.Ytebejleeadofcaa.fnExactFront
namespace Go.Proofs.Ytebejleeadofcaa
theorem fnExactFront_holds : Rows.FnExactFrontSaid := fnExactFront.over
end Go.Proofs.Ytebejleeadofcaa
