/- For any list of quantifiers and any list of nodes, Back of the program answers as its model does, writes into none and owns what it answers; no condition. -/
import Derived.Test.YtdmogjhabladcaaRows
import Derived.WalkKit
import Derived.ProofKit
import Derived.OpenShut
import Derived.ShutString
import Derived.ChangeOld
import Derived.Below
import Derived.Test.YtdmogjhabladcaaPkA
import Derived.Test.YtdmogjhabladcaaQa0
import Derived.Test.YtdmogjhabladcaaQa3
import Derived.Test.YtdmogjhabladcaaPkB
import Derived.Test.YtdmogjhabladcaaFr0
import Derived.Test.YtdmogjhabladcaaQa2
import Derived.Test.YtdmogjhabladcaaPkE
import Derived.Test.YtdmogjhabladcaaPkC
import Derived.Test.YtdmogjhabladcaaPkH
import Derived.Test.YtdmogjhabladcaaPkN
import Derived.Test.YtdmogjhabladcaaPkI
import Derived.Test.YtdmogjhabladcaaPkJ
import Derived.Test.YtdmogjhabladcaaFm1
import Derived.Test.YtdmogjhabladcaaSp7
import Derived.Test.YtdmogjhabladcaaSp10
import Derived.Test.YtdmogjhabladcaaFm2
import Derived.Test.YtdmogjhabladcaaAp7
import Derived.Test.YtdmogjhabladcaaAp8
import Derived.Test.YtdmogjhabladcaaFm3
import Derived.Test.YtdmogjhabladcaaFp1
import Derived.Test.YtdmogjhabladcaaFp2
import Derived.Test.YtdmogjhabladcaaQi0
import Derived.Test.YtdmogjhabladcaaQi1
import Derived.Test.YtdmogjhabladcaaFp3
import Derived.Test.YtdmogjhabladcaaQa1
import Derived.Test.YtdmogjhabladcaaNd6
import Derived.Test.YtdmogjhabladcaaLx14
import Derived.Test.YtdmogjhabladcaaPkP
import Derived.Test.YtdmogjhabladcaaPg6
namespace Go.Proofs.Ytdmogjhabladcaa.fnExactBack
open Go.ChangeShapes Go.WideShapes Go.ChangeAt Go.RowKit
open Go.ChangeMaps (open_string shut_string)
set_option linter.unusedVariables false

open Nd0 Qa0 Qa3 Op0 Pl1 Tm0 Tm1 Tm4 Tm5 Tm6 Fr0 Qa2 Ap1 Ws1 Nd1 Ap0 Pg1 Wd1 Wd2 Wd3 Wd4 Sp2 Fm1 Sp3 Sp4 Sp5 Tm2 Sp6 Nd3 Ap2 Tm3 Sp7 Ap3 Sp10 Rw0 Rw1 Fm2 Ap7 Ap8 Fm3 Tm8 Tm9 Tm10 Tm11 Kp1 Fp1 Fp2 Kp0 Qi0 Qi1 Fp3 Qa1 Nd2 Nd4 Nd5 Nd6 Lx14 Pg2 Pg3 Pg4 Pg5 Pg6 Pg7

theorem own : ownKnob Try.prog.godebug = none := by kernel_rfl
theorem laidOut : laidOutB Try.prog = true := by kernel_rfl

set_option maxHeartbeats 1000000 in
theorem walk (a0 : Option Addr) (len0 cap0 : Nat) (l0 : List Qa0.Qu) (hl0 : l0.length = len0) (a1 : Option Addr) (len1 cap1 : Nat) (l1 : List Nd) (hl1 : l1.length = len1) (w : World) (w0 : Qa0.Qus w a0 l0) (w1 : Nodes w a1 l1) :
    Calls Try.prog 5 #[.slice a0 len0 cap0, .slice a1 len1 cap1] w fun e w' => e = .returned (.bool true) ∧ Below w.heap.size w w' := by
  subst hl0 hl1
  exact exBack (Fp3.iBack (Fp2.iFrontOk iTermOk (iReached iTermOk))) w a0 l0 cap0 a1 l1 cap1 w0 w1

set_option maxRecDepth 100000 in
theorem lifted (os : Os) (started : os.Started) (H : Type) (enc : TypeId × Value → H) :
    ReturnsInHanded {} Try.checked os 5 .any (Rows.fnExactBackSpec.pre6 enc Try.prog Try.f5 Rows.fnExactBackRow.domain false) (Rows.fnExactBackSpec.post enc Try.prog Try.f5 false true false false) := by
  refine returnsInHanded_of_change (C := Try.checked) own started (by kernel_rfl) Try.func5
    (ChangeSpec.witness6 (enc := enc) (C := Try.checked) false ⟨#[], #[.slice none 0 0, .slice none 0 0], []⟩ 8 (by kernel_rfl) (by kernel_rfl) (by kernel_rfl) (by kernel_rfl)) ?_
  intro W base args ds gs before hval0 hW hcnd _
  have hval : ∀ (j : Nat) t v, Try.f5.params[j]? = some t → args[j]? = some v → Value.okWide Try.prog W .any base t v := hval0
  have hW' := hW
  obtain ⟨p, q, hA0, hV, rfl, hfz, hnd⟩ := hW
  have hA : DataW.TrodAll enc Try.prog W 0 (fun _ => true) true Try.f5.params.toList args.toList ds p := hA0
  rw [Try.params5] at hA hval
  obtain ⟨v0, vs0, d0, ds0, p0, q0, hargs, rfl, rfl, h0, r0⟩ := trodAll_cons hA
  obtain ⟨v1, vs1, d1, ds1, p1, q1, hargs1, rfl, rfl, h1, r1⟩ := trodAll_cons r0
  obtain ⟨rfl, rfl, rfl⟩ := trodAll_nil r1
  obtain rfl : args = #[v0, v1] := by cases args; simp_all
  obtain ⟨rfl, rfl⟩ := trodVars_none hV
  obtain ⟨a0, len0, cap0, rfl⟩ := okWide_slice Try.underlying34 (hval 0 34 v0 rfl rfl)
  have k0 := h0
  have lt0 : ∀ x ∈ p0, x.block < W.heap.size := by obtain ⟨m, hm⟩ := k0; exact DataW.trod_lt m _ _ _ hm
  obtain ⟨_, l0, hl0, w0⟩ : len0 ≤ maxLen ∧ ∃ l : List Qa0.Qu, l.length = len0 ∧ Qa0.Qus W a0 l := by
    obtain ⟨fuel, hf⟩ := h0
    exact Qa3.opensQu (by simpa [Value.cells] using hf)
  obtain ⟨a1, len1, cap1, rfl⟩ := okWide_slice Try.underlying22 (hval 1 22 v1 rfl rfl)
  have k1 := h1
  have lt1 : ∀ x ∈ p1, x.block < W.heap.size := by obtain ⟨m, hm⟩ := k1; exact DataW.trod_lt m _ _ _ hm
  obtain ⟨_, l1, hl1, w1⟩ : len1 ≤ maxLen ∧ ∃ l : List Nd, l.length = len1 ∧ Nodes W a1 l := by
    obtain ⟨fuel, hf⟩ := h1
    exact Op0.nodes_open (by simpa [Value.cells] using hf)
  clear hA0 hval0
  refine (walk a0 len0 cap0 l0 hl0 a1 len1 cap1 l1 hl1 W w0 w1).mono fun e W' ⟨he, bel⟩ => ?_
  subst he
  exact ⟨_, rfl, _, _, _, [], _, [], hW', trodAll_mk1 (shut_bool Try.underlying4 _), (trodAll_cons_mk (Below.trod laidOut (by kernel_rfl) (of_decide_eq_true (by kernel_rfl)) k0 bel lt0) (trodAll_cons_mk (Below.trod laidOut (by kernel_rfl) (of_decide_eq_true (by kernel_rfl)) k1 bel lt1) trodAll_mk0)), rfl, bel.frame _, fun h => by cases h⟩

theorem over : Rows.fnExactBackRow.holds Try.pinned (OpenSpec.ofChange Rows.fnExactBackSpec) :=
  OpenClaim.holds_of_wide 5 Try.f5 rfl rfl rfl rfl rfl rfl rfl ⟨rfl, rfl, rfl, rfl, rfl⟩ rfl rfl rfl rfl rfl (by kernel_rfl) Try.func5 (by kernel_rfl)
    (of_decide_eq_true (by kernel_rfl)) (by unfold Func.isWrapper; first | (rw [if_pos (by decide +kernel)]; kernel_rfl) | (rw [if_neg (by decide +kernel)]; exact ⟨rfl, rfl⟩))
    (fun os started H enc _ => lifted os started H enc)

end Go.Proofs.Ytdmogjhabladcaa.fnExactBack
namespace Go.Proofs.Ytdmogjhabladcaa
theorem fnExactBack_holds : Rows.FnExactBackSaid := fnExactBack.over
end Go.Proofs.Ytdmogjhabladcaa
