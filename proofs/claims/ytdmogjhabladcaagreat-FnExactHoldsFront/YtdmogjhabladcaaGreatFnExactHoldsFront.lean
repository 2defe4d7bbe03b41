/- For any list of quantifiers and any list of nodes, HoldsFront of the program answers as its model does and writes into none; no condition. -/
import Derived.Test.YtdmogjhabladcaaGreatRows
import Derived.WalkKit
import Derived.ProofKit
import Derived.OpenShut
import Derived.ShutString
import Derived.ChangeOld
import Derived.Below
import Derived.Test.YtdmogjhabladcaaGreatPkA
import Derived.Test.YtdmogjhabladcaaGreatQa0
import Derived.Test.YtdmogjhabladcaaGreatQa3
import Derived.Test.YtdmogjhabladcaaGreatPkB
import Derived.Test.YtdmogjhabladcaaGreatFr0
import Derived.Test.YtdmogjhabladcaaGreatQa2
import Derived.Test.YtdmogjhabladcaaGreatPkE
import Derived.Test.YtdmogjhabladcaaGreatPkC
import Derived.Test.YtdmogjhabladcaaGreatPkH
import Derived.Test.YtdmogjhabladcaaGreatPkN
import Derived.Test.YtdmogjhabladcaaGreatPkI
import Derived.Test.YtdmogjhabladcaaGreatPkJ
import Derived.Test.YtdmogjhabladcaaGreatFm1
import Derived.Test.YtdmogjhabladcaaGreatFp1
import Derived.Test.YtdmogjhabladcaaGreatFp2
import Derived.Test.YtdmogjhabladcaaGreatQi0
import Derived.Test.YtdmogjhabladcaaGreatQi1
import Derived.Test.YtdmogjhabladcaaGreatFr1
import Derived.Test.YtdmogjhabladcaaGreatFr4
import Derived.Test.YtdmogjhabladcaaGreatPkQ
import Derived.Test.YtdmogjhabladcaaGreatSp7
import Derived.Test.YtdmogjhabladcaaGreatSp10
import Derived.Test.YtdmogjhabladcaaGreatSv5
import Derived.Test.YtdmogjhabladcaaGreatPkO
import Derived.Test.YtdmogjhabladcaaGreatPkR
import Derived.Test.YtdmogjhabladcaaGreatFp4
import Derived.Test.YtdmogjhabladcaaGreatFp5
import Derived.Test.YtdmogjhabladcaaGreatFp6
import Derived.Test.YtdmogjhabladcaaGreatFm2
import Derived.Test.YtdmogjhabladcaaGreatSv1
import Derived.Test.YtdmogjhabladcaaGreatPkL
import Derived.Test.YtdmogjhabladcaaGreatFm4
import Derived.Test.YtdmogjhabladcaaGreatFp7
import Derived.Test.YtdmogjhabladcaaGreatQa1
import Derived.Test.YtdmogjhabladcaaGreatNd6
import Derived.Test.YtdmogjhabladcaaGreatLx15
import Derived.Test.YtdmogjhabladcaaGreatPkP
import Derived.Test.YtdmogjhabladcaaGreatPg6
import Derived.Test.YtdmogjhabladcaaGreatPkS
import Derived.Test.YtdmogjhabladcaaGreatPw1
import Derived.Test.YtdmogjhabladcaaGreatPw2
import Derived.Test.YtdmogjhabladcaaGreatPw3
import Derived.Test.YtdmogjhabladcaaGreatPw4
namespace Go.Proofs.YtdmogjhabladcaaGreat.fnExactHoldsFront
open Go.ChangeShapes Go.WideShapes Go.ChangeAt Go.RowKit
open Go.ChangeMaps (open_string shut_string)
set_option linter.unusedVariables false

open Nd0 Qa0 Qa3 Op0 Pl1 Tm0 Tm1 Tm4 Tm5 Tm6 Fr0 Qa2 Ap1 Ws1 Nd1 Ap0 Pg1 Wd1 Wd2 Wd3 Wd4 Sp2 Fm1 Nd3 Tm2 Tm3 Tm8 Rw0 Rw1 Tm9 Tm10 Tm11 Kp1 Fp1 Fp2 Kp0 Qi0 Qi1 Tx0 Tx1 Tx2 Tm7 Tm12 Tx3 Tr0 Pl2 Tm13 Tm14 Vl1 Vl2 Vm0 Fr1 Fr4 Pv6 Lift Vm1 Vm2 Ap2 Pv7 Pv8 Pv9 Pv10 Tx4 Vl3 Vl4 Vl5 Ic4 Pv11 Pv12 Ap6 Bt0 Sp3 Sp4 Sp5 Sp6 Sp7 Ap3 Sp10 Sv5 Pv5 Vm3 Pg2 Pg7 Pg8 Pg9 Pv13 Pg12 Pg13 Pg14 Pv14 Pv15 Fp4 Fp5 Fp6 Fm2 Wd5 Sv1 Sv3 Sv4 Fm4 Fp7 Qa1 Nd2 Nd4 Nd5 Nd6 Lx15 Pg3 Pg4 Pg5 Pg6 Pv1 Pv3 Pw1 Pw2 Pw3 Pw4

theorem own : ownKnob Tryz.prog.godebug = none := by kernel_rfl
theorem laidOut : laidOutB Tryz.prog = true := by kernel_rfl

set_option maxHeartbeats 1000000 in
theorem walk (a0 : Option Addr) (len0 cap0 : Nat) (l0 : List Qa0.Qu) (hl0 : l0.length = len0) (a1 : Option Addr) (len1 cap1 : Nat) (l1 : List Nd) (hl1 : l1.length = len1) (w : World) (w0 : Qa0.Qus w a0 l0) (w1 : Nodes w a1 l1) :
    Calls Tryz.prog 9 #[.slice a0 len0 cap0, .slice a1 len1 cap1] w fun e w' => e = .returned (.bool true) ∧ Below w.heap.size w w' := by
  subst hl0 hl1
  exact exHoldsFront (Fp7.iHoldsFront (Fp2.iFrontOk iTermOk (iReached iTermOk)) iApply) w a0 l0 cap0 a1 l1 cap1 w0 w1

set_option maxRecDepth 100000 in
theorem lifted (os : Os) (started : os.Started) (H : Type) (enc : TypeId × Value → H) :
    ReturnsInHanded {} Tryz.checked os 9 .any (Rows.fnExactHoldsFrontSpec.pre6 enc Tryz.prog Tryz.f9 Rows.fnExactHoldsFrontRow.domain false) (Rows.fnExactHoldsFrontSpec.post enc Tryz.prog Tryz.f9 false true false false) := by
  refine returnsInHanded_of_change (C := Tryz.checked) own started (by kernel_rfl) Tryz.func9
    (ChangeSpec.witness6 (enc := enc) (C := Tryz.checked) false ⟨#[], #[.slice none 0 0, .slice none 0 0], []⟩ 8 (by kernel_rfl) (by kernel_rfl) (by kernel_rfl) (by kernel_rfl)) ?_
  intro W base args ds gs before hval0 hW hcnd _
  have hval : ∀ (j : Nat) t v, Tryz.f9.params[j]? = some t → args[j]? = some v → Value.okWide Tryz.prog W .any base t v := hval0
  have hW' := hW
  obtain ⟨p, q, hA0, hV, rfl, hfz, hnd⟩ := hW
  have hA : DataW.TrodAll enc Tryz.prog W 0 (fun _ => true) true Tryz.f9.params.toList args.toList ds p := hA0
  rw [Tryz.params9] at hA hval
  obtain ⟨v0, vs0, d0, ds0, p0, q0, hargs, rfl, rfl, h0, r0⟩ := trodAll_cons hA
  obtain ⟨v1, vs1, d1, ds1, p1, q1, hargs1, rfl, rfl, h1, r1⟩ := trodAll_cons r0
  obtain ⟨rfl, rfl, rfl⟩ := trodAll_nil r1
  obtain rfl : args = #[v0, v1] := by cases args; simp_all
  obtain ⟨rfl, rfl⟩ := trodVars_none hV
  obtain ⟨a0, len0, cap0, rfl⟩ := okWide_slice Tryz.underlying60 (hval 0 60 v0 rfl rfl)
  have k0 := h0
  have lt0 : ∀ x ∈ p0, x.block < W.heap.size := by obtain ⟨m, hm⟩ := k0; exact DataW.trod_lt m _ _ _ hm
  obtain ⟨_, l0, hl0, w0⟩ : len0 ≤ maxLen ∧ ∃ l : List Qa0.Qu, l.length = len0 ∧ Qa0.Qus W a0 l := by
    obtain ⟨fuel, hf⟩ := h0
    exact Qa3.opensQu (by simpa [Value.cells] using hf)
  obtain ⟨a1, len1, cap1, rfl⟩ := okWide_slice Tryz.underlying53 (hval 1 53 v1 rfl rfl)
  have k1 := h1
  have lt1 : ∀ x ∈ p1, x.block < W.heap.size := by obtain ⟨m, hm⟩ := k1; exact DataW.trod_lt m _ _ _ hm
  obtain ⟨_, l1, hl1, w1⟩ : len1 ≤ maxLen ∧ ∃ l : List Nd, l.length = len1 ∧ Nodes W a1 l := by
    obtain ⟨fuel, hf⟩ := h1
    exact Op0.nodes_open (by simpa [Value.cells] using hf)
  clear hA0 hval0
  refine (walk a0 len0 cap0 l0 hl0 a1 len1 cap1 l1 hl1 W w0 w1).mono fun e W' ⟨he, bel⟩ => ?_
  subst he
  exact ⟨_, rfl, _, _, _, [], _, [], hW', trodAll_mk1 (shut_bool Tryz.underlying4 _), (trodAll_cons_mk (Below.trod laidOut (by kernel_rfl) (of_decide_eq_true (by kernel_rfl)) k0 bel lt0) (trodAll_cons_mk (Below.trod laidOut (by kernel_rfl) (of_decide_eq_true (by kernel_rfl)) k1 bel lt1) trodAll_mk0)), rfl, bel.frame _, fun h => by cases h⟩

theorem over : Rows.fnExactHoldsFrontRow.holds Tryz.pinned (OpenSpec.ofChange Rows.fnExactHoldsFrontSpec) :=
  OpenClaim.holds_of_wide 9 Tryz.f9 rfl rfl rfl rfl rfl rfl rfl ⟨rfl, rfl, rfl, rfl, rfl⟩ rfl rfl rfl rfl rfl (by kernel_rfl) Tryz.func9 (by kernel_rfl)
    (of_decide_eq_true (by kernel_rfl)) (by unfold Func.isWrapper; first | (rw [if_pos (by decide +kernel)]; kernel_rfl) | (rw [if_neg (by decide +kernel)]; exact ⟨rfl, rfl⟩))
    (fun os started H enc _ => lifted os started H enc)

end Go.Proofs.YtdmogjhabladcaaGreat.fnExactHoldsFront
namespace Go.Proofs.YtdmogjhabladcaaGreat
theorem fnExactHoldsFront_holds : Rows.FnExactHoldsFrontSaid := fnExactHoldsFront.over
end Go.Proofs.YtdmogjhabladcaaGreat
