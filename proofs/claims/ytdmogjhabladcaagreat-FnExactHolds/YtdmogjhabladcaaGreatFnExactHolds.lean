/- For any list of nodes, Holds of the program answers as its model does and writes into none; no condition. -/
import Derived.Test.YtdmogjhabladcaaGreatRows
import Derived.WalkKit
import Derived.ProofKit
import Derived.OpenShut
import Derived.ShutString
import Derived.ChangeOld
import Derived.Below
import Derived.Test.YtdmogjhabladcaaGreatPkA
import Derived.Test.YtdmogjhabladcaaGreatPkB
import Derived.Test.YtdmogjhabladcaaGreatPkE
import Derived.Test.YtdmogjhabladcaaGreatPkC
import Derived.Test.YtdmogjhabladcaaGreatPkH
import Derived.Test.YtdmogjhabladcaaGreatPkI
import Derived.Test.YtdmogjhabladcaaGreatSv1
import Derived.Test.YtdmogjhabladcaaGreatPkJ
import Derived.Test.YtdmogjhabladcaaGreatSp7
import Derived.Test.YtdmogjhabladcaaGreatSp10
import Derived.Test.YtdmogjhabladcaaGreatPkL
import Derived.Test.YtdmogjhabladcaaGreatSv5
import Derived.Test.YtdmogjhabladcaaGreatPkK
import Derived.Test.YtdmogjhabladcaaGreatSp11
import Derived.Test.YtdmogjhabladcaaGreatPkM
import Derived.Test.YtdmogjhabladcaaGreatLx10
import Derived.Test.YtdmogjhabladcaaGreatPkN
import Derived.Test.YtdmogjhabladcaaGreatPkP
import Derived.Test.YtdmogjhabladcaaGreatPg6
import Derived.Test.YtdmogjhabladcaaGreatPkQ
import Derived.Test.YtdmogjhabladcaaGreatPkO
import Derived.Test.YtdmogjhabladcaaGreatPkR
import Derived.Test.YtdmogjhabladcaaGreatPkS
import Derived.Test.YtdmogjhabladcaaGreatPw1
import Derived.Test.YtdmogjhabladcaaGreatPw2
import Derived.Test.YtdmogjhabladcaaGreatPw3
import Derived.Test.YtdmogjhabladcaaGreatPw4
namespace Go.Proofs.YtdmogjhabladcaaGreat.fnExactHolds
open Go.ChangeShapes Go.WideShapes Go.ChangeAt Go.RowKit
open Go.ChangeMaps (open_string shut_string)
set_option linter.unusedVariables false

open Nd0 Op0 Pl1 Tm0 Tm1 Tm2 Tm3 Tx0 Tx1 Tm8 Tx2 Tm4 Tm7 Tm12 Tx3 Tr0 Pl2 Tm5 Tm6 Rw0 Ap0 Ap1 Rw1 Tm9 Tm10 Tm13 Tm11 Tm14 Vl1 Vl2 Vm0 Kp1 Bt0 Wd1 Wd2 Wd3 Wd4 Wd5 Kp0 Sv1 Nd1 Sp2 Ws1 Sp3 Sp4 Sp5 Sp6 Nd3 Ap2 Sp7 Ap3 Sp10 Sv3 Sv4 Vm1 Ap6 Sv5 Tx4 Vl3 Vl4 Vl5 Sv6 Sp8 Sp9 Sp11 Sv7 Ic4 Nd2 Nd4 Nd5 Lx10 Pg1 Pg2 Pg3 Pg4 Pg5 Pg6 Pg7 Pv6 Lift Vm2 Pv7 Pv8 Pv9 Pv10 Pv11 Pv12 Pv5 Vm3 Pg8 Pg9 Pv13 Pg12 Pg13 Pg14 Pv14 Pv15 Pg10 Pg11 Pv16 Pv1 Pv3 Pw1 Pw2 Pw3 Pw4

theorem own : ownKnob Tryz.prog.godebug = none := by kernel_rfl
theorem laidOut : laidOutB Tryz.prog = true := by kernel_rfl

set_option maxHeartbeats 1000000 in
theorem walk (a0 : Option Addr) (len0 cap0 : Nat) (l0 : List Nd) (hl0 : l0.length = len0) (w : World) (w0 : Nodes w a0 l0) :
    Calls Tryz.prog 8 #[.slice a0 len0 cap0] w fun e w' => e = .returned (.bool true) ∧ Below w.heap.size w w' := by
  subst hl0
  exact exHolds (iHolds iTermOk (iReached iTermOk) (iValue iTermOk (iReached iTermOk) iApply)) w a0 l0 cap0 w0

set_option maxRecDepth 100000 in
theorem lifted (os : Os) (started : os.Started) (H : Type) (enc : TypeId × Value → H) :
    ReturnsInHanded {} Tryz.checked os 8 .any (Rows.fnExactHoldsSpec.pre6 enc Tryz.prog Tryz.f8 Rows.fnExactHoldsRow.domain false) (Rows.fnExactHoldsSpec.post enc Tryz.prog Tryz.f8 false true false false) := by
  refine returnsInHanded_of_change (C := Tryz.checked) own started (by kernel_rfl) Tryz.func8
    (ChangeSpec.witness6 (enc := enc) (C := Tryz.checked) false ⟨#[], #[.slice none 0 0], []⟩ 8 (by kernel_rfl) (by kernel_rfl) (by kernel_rfl) (by kernel_rfl)) ?_
  intro W base args ds gs before hval0 hW hcnd _
  have hval : ∀ (j : Nat) t v, Tryz.f8.params[j]? = some t → args[j]? = some v → Value.okWide Tryz.prog W .any base t v := hval0
  have hW' := hW
  obtain ⟨p, q, hA0, hV, rfl, hfz, hnd⟩ := hW
  have hA : DataW.TrodAll enc Tryz.prog W 0 (fun _ => true) true Tryz.f8.params.toList args.toList ds p := hA0
  rw [Tryz.params8] at hA hval
  obtain ⟨v0, vs0, d0, ds0, p0, q0, hargs, rfl, rfl, h0, r0⟩ := trodAll_cons hA
  obtain ⟨rfl, rfl, rfl⟩ := trodAll_nil r0
  obtain rfl : args = #[v0] := by cases args; simp_all
  obtain ⟨rfl, rfl⟩ := trodVars_none hV
  obtain ⟨a0, len0, cap0, rfl⟩ := okWide_slice Tryz.underlying53 (hval 0 53 v0 rfl rfl)
  have k0 := h0
  have lt0 : ∀ x ∈ p0, x.block < W.heap.size := by obtain ⟨m, hm⟩ := k0; exact DataW.trod_lt m _ _ _ hm
  obtain ⟨_, l0, hl0, w0⟩ : len0 ≤ maxLen ∧ ∃ l : List Nd, l.length = len0 ∧ Nodes W a0 l := by
    obtain ⟨fuel, hf⟩ := h0
    exact Op0.nodes_open (by simpa [Value.cells] using hf)
  clear hA0 hval0
  refine (walk a0 len0 cap0 l0 hl0 W w0).mono fun e W' ⟨he, bel⟩ => ?_
  subst he
  exact ⟨_, rfl, _, _, _, [], _, [], hW', trodAll_mk1 (shut_bool Tryz.underlying4 _), (trodAll_cons_mk (Below.trod laidOut (by kernel_rfl) (of_decide_eq_true (by kernel_rfl)) k0 bel lt0) trodAll_mk0), rfl, bel.frame _, fun h => by cases h⟩

theorem over : Rows.fnExactHoldsRow.holds Tryz.pinned (OpenSpec.ofChange Rows.fnExactHoldsSpec) :=
  OpenClaim.holds_of_wide 8 Tryz.f8 rfl rfl rfl rfl rfl rfl rfl ⟨rfl, rfl, rfl, rfl, rfl⟩ rfl rfl rfl rfl rfl (by kernel_rfl) Tryz.func8 (by kernel_rfl)
    (of_decide_eq_true (by kernel_rfl)) (by unfold Func.isWrapper; first | (rw [if_pos (by decide +kernel)]; kernel_rfl) | (rw [if_neg (by decide +kernel)]; exact ⟨rfl, rfl⟩))
    (fun os started H enc _ => lifted os started H enc)

end Go.Proofs.YtdmogjhabladcaaGreat.fnExactHolds
namespace Go.Proofs.YtdmogjhabladcaaGreat
theorem fnExactHolds_holds : Rows.FnExactHoldsSaid := fnExactHolds.over
end Go.Proofs.YtdmogjhabladcaaGreat
