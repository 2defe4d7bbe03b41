/- For any list of nodes, Bits of the program answers as its model does and writes into none; no condition. -/
import Derived.Test.YtlicobjkjikjoaaRows
import Derived.WalkKit
import Derived.ProofKit
import Derived.OpenShut
import Derived.ShutString
import Derived.ChangeOld
import Derived.Below
import Derived.Test.YtlicobjkjikjoaaPkA
import Derived.Test.YtlicobjkjikjoaaPkB
import Derived.Test.YtlicobjkjikjoaaSp2
import Derived.Test.YtlicobjkjikjoaaSp3
import Derived.Test.YtlicobjkjikjoaaSp4
import Derived.Test.YtlicobjkjikjoaaSp5
import Derived.Test.YtlicobjkjikjoaaSp6
import Derived.Test.YtlicobjkjikjoaaSp7
import Derived.Test.YtlicobjkjikjoaaSp8
import Derived.Test.YtlicobjkjikjoaaSp9
import Derived.Test.YtlicobjkjikjoaaSp10
import Derived.Test.YtlicobjkjikjoaaPkC
import Derived.Test.YtlicobjkjikjoaaSp11
import Derived.Test.YtlicobjkjikjoaaSp12
import Derived.Test.YtlicobjkjikjoaaIc2
import Derived.Test.YtlicobjkjikjoaaLx6
import Derived.Test.YtlicobjkjikjoaaPg1
import Derived.Test.YtlicobjkjikjoaaPg2
import Derived.Test.YtlicobjkjikjoaaPg3
import Derived.Test.YtlicobjkjikjoaaPg4
import Derived.Test.YtlicobjkjikjoaaPg5
import Derived.Test.YtlicobjkjikjoaaPg6
import Derived.Test.YtlicobjkjikjoaaPg7
import Derived.Test.YtlicobjkjikjoaaPg12
import Derived.Test.YtlicobjkjikjoaaPg13
import Derived.Test.YtlicobjkjikjoaaPg8
import Derived.Test.YtlicobjkjikjoaaPg9
import Derived.Test.YtlicobjkjikjoaaPg14
namespace Go.Proofs.Ytlicobjkjikjoaa.fnExactBits
open Go.ChangeShapes Go.WideShapes Go.ChangeAt Go.RowKit
open Go.ChangeMaps (open_string shut_string)
set_option linter.unusedVariables false

open Nd0 Op0 Pl1 Tm0 Nd1 Sp2 Ap0 Ws1 Sp3 Sp4 Ap1 Tm1 Sp5 Tm2 Sp6 Nd3 Ap2 Tm3 Sp7 Tm4 Ap3 Sp8 Sp9 Tm5 Sp10 Rw0 Tm6 Rw1 Tm9 Sp11 Tm8 Tm10 Tm11 Sp12 Nd2 Nd4 Lx6 Pg1 Pg2 Pg3 Pg4 Pg5 Pg6 Pg7 Pg12 Pg13 Tm7 Pg8 Pg9 Pg14

theorem own : ownKnob Try.prog.godebug = none := by kernel_rfl
theorem laidOut : laidOutB Try.prog = true := by kernel_rfl

set_option maxHeartbeats 1000000 in
theorem walk (a0 : Option Addr) (len0 cap0 : Nat) (l0 : List Nd) (hl0 : l0.length = len0) (w : World) (w0 : Nodes w a0 l0) :
    Calls Try.prog 5 #[.slice a0 len0 cap0] w fun e w' => e = .returned (.bool true) ∧ Below w.heap.size w w' := by
  subst hl0
  exact exBits (iBits iTermOk (iReached iTermOk)) w a0 l0 cap0 w0

set_option maxRecDepth 100000 in
theorem lifted (os : Os) (started : os.Started) (H : Type) (enc : TypeId × Value → H) :
    ReturnsInHanded {} Try.checked os 5 .any (Rows.fnExactBitsSpec.pre6 enc Try.prog Try.f5 Rows.fnExactBitsRow.domain false) (Rows.fnExactBitsSpec.post enc Try.prog Try.f5 false true false false) := by
  refine returnsInHanded_of_change (C := Try.checked) own started (by kernel_rfl) Try.func5
    (ChangeSpec.witness6 (enc := enc) (C := Try.checked) false ⟨#[], #[.slice none 0 0], []⟩ 8 (by kernel_rfl) (by kernel_rfl) (by kernel_rfl) (by kernel_rfl)) ?_
  intro W base args ds gs before hval0 hW hcnd _
  have hval : ∀ (j : Nat) t v, Try.f5.params[j]? = some t → args[j]? = some v → Value.okWide Try.prog W .any base t v := hval0
  have hW' := hW
  obtain ⟨p, q, hA0, hV, rfl, hfz, hnd⟩ := hW
  have hA : DataW.TrodAll enc Try.prog W 0 (fun _ => true) true Try.f5.params.toList args.toList ds p := hA0
  rw [Try.params5] at hA hval
  obtain ⟨v0, vs0, d0, ds0, p0, q0, hargs, rfl, rfl, h0, r0⟩ := trodAll_cons hA
  obtain ⟨rfl, rfl, rfl⟩ := trodAll_nil r0
  obtain rfl : args = #[v0] := by cases args; simp_all
  obtain ⟨rfl, rfl⟩ := trodVars_none hV
  obtain ⟨a0, len0, cap0, rfl⟩ := okWide_slice Try.underlying39 (hval 0 39 v0 rfl rfl)
  have k0 := h0
  have lt0 : ∀ x ∈ p0, x.block < W.heap.size := by obtain ⟨m, hm⟩ := k0; exact DataW.trod_lt m _ _ _ hm
  obtain ⟨_, l0, hl0, w0⟩ : len0 ≤ maxLen ∧ ∃ l : List Nd, l.length = len0 ∧ Nodes W a0 l := by
    obtain ⟨fuel, hf⟩ := h0
    exact Op0.nodes_open (by simpa [Value.cells] using hf)
  clear hA0 hval0
  refine (walk a0 len0 cap0 l0 hl0 W w0).mono fun e W' ⟨he, bel⟩ => ?_
  subst he
  exact ⟨_, rfl, _, _, _, [], _, [], hW', trodAll_mk1 (shut_bool Try.underlying4 _), (trodAll_cons_mk (Below.trod laidOut (by kernel_rfl) (of_decide_eq_true (by kernel_rfl)) k0 bel lt0) trodAll_mk0), rfl, bel.frame _, fun h => by cases h⟩

theorem over : Rows.fnExactBitsRow.holds Try.pinned (OpenSpec.ofChange Rows.fnExactBitsSpec) :=
  OpenClaim.holds_of_wide 5 Try.f5 rfl rfl rfl rfl rfl rfl rfl ⟨rfl, rfl, rfl, rfl, rfl⟩ rfl rfl rfl rfl rfl (by kernel_rfl) Try.func5 (by kernel_rfl)
    (of_decide_eq_true (by kernel_rfl)) (by unfold Func.isWrapper; first | (rw [if_pos (by decide +kernel)]; kernel_rfl) | (rw [if_neg (by decide +kernel)]; exact ⟨rfl, rfl⟩))
    (fun os started H enc _ => lifted os started H enc)

end Go.Proofs.Ytlicobjkjikjoaa.fnExactBits
namespace Go.Proofs.Ytlicobjkjikjoaa
theorem fnExactBits_holds : Rows.FnExactBitsSaid := fnExactBits.over
end Go.Proofs.Ytlicobjkjikjoaa
