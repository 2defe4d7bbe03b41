/- For any list of nodes and any values of variables, Value of the program answers as its model does and writes into none; no condition. -/
import Derived.Test.YtdmogjhabladcaaGreatRows
import Derived.WalkKit
import Derived.ProofKit
import Derived.OpenShut
import Derived.ShutString
import Derived.ChangeOld
import Derived.Below
import Derived.Test.YtdmogjhabladcaaGreatPkA
import Derived.Test.YtdmogjhabladcaaGreatPkB
import Derived.Test.YtdmogjhabladcaaGreatOp1
import Derived.Test.YtdmogjhabladcaaGreatPkE
import Derived.Test.YtdmogjhabladcaaGreatPkC
import Derived.Test.YtdmogjhabladcaaGreatPkH
import Derived.Test.YtdmogjhabladcaaGreatPkI
import Derived.Test.YtdmogjhabladcaaGreatSv1
import Derived.Test.YtdmogjhabladcaaGreatPkJ
import Derived.Test.YtdmogjhabladcaaGreatSp7
import Derived.Test.YtdmogjhabladcaaGreatSp10
import Derived.Test.YtdmogjhabladcaaGreatPkL
import Derived.Test.YtdmogjhabladcaaGreatSv5
import Derived.Test.YtdmogjhabladcaaGreatPkK
import Derived.Test.YtdmogjhabladcaaGreatSp11
import Derived.Test.YtdmogjhabladcaaGreatPkM
import Derived.Test.YtdmogjhabladcaaGreatNd6
import Derived.Test.YtdmogjhabladcaaGreatLx12
import Derived.Test.YtdmogjhabladcaaGreatPkN
import Derived.Test.YtdmogjhabladcaaGreatPkP
import Derived.Test.YtdmogjhabladcaaGreatPg6
import Derived.Test.YtdmogjhabladcaaGreatPkQ
import Derived.Test.YtdmogjhabladcaaGreatPkO
import Derived.Test.YtdmogjhabladcaaGreatPkR
import Derived.Test.YtdmogjhabladcaaGreatPkS
import Derived.Test.YtdmogjhabladcaaGreatPw1
import Derived.Test.YtdmogjhabladcaaGreatPw2
import Derived.Test.YtdmogjhabladcaaGreatPw3
import Derived.Test.YtdmogjhabladcaaGreatPw4
namespace Go.Proofs.YtdmogjhabladcaaGreat.fnExactValue
open Go.ChangeShapes Go.WideShapes Go.ChangeAt Go.RowKit
open Go.ChangeMaps (open_string shut_string)
set_option linter.unusedVariables false

open Nd0 Op0 Op1 Pl1 Tm0 Tm1 Tm2 Tm3 Tx0 Tx1 Tm8 Tx2 Tm4 Tm7 Tm12 Tx3 Tr0 Pl2 Tm5 Tm6 Rw0 Ap0 Ap1 Rw1 Tm9 Tm10 Tm13 Tm11 Tm14 Vl1 Vl2 Vm0 Kp1 Bt0 Wd1 Wd2 Wd3 Wd4 Wd5 Kp0 Sv1 Nd1 Sp2 Ws1 Sp3 Sp4 Sp5 Sp6 Nd3 Ap2 Sp7 Ap3 Sp10 Sv3 Sv4 Vm1 Ap6 Sv5 Tx4 Vl3 Vl4 Vl5 Sv6 Ic4 Nd2 Nd4 Nd5 Nd6 Lx12 Pg1 Pg2 Pg3 Pg4 Pg5 Pg6 Pg7 Pv6 Lift Vm2 Pv7 Pv8 Pv9 Pv10 Pv11 Pv12 Pv5 Vm3 Pg8 Pg9 Pv13 Pg12 Pg13 Pg14 Pv14 Pv15 Pv1 Pv3 Pw1 Pw2 Pw3 Pw4

theorem own : ownKnob Tryz.prog.godebug = none := by kernel_rfl
theorem laidOut : laidOutB Tryz.prog = true := by kernel_rfl

set_option maxHeartbeats 1000000 in
theorem walk (a0 : Option Addr) (len0 cap0 : Nat) (l0 : List Nd) (hl0 : l0.length = len0) (a1 : Option Addr) (len1 cap1 : Nat) (l1 : List Int) (hl1 : l1.length = len1) (w : World) (w0 : Nodes w a0 l0) (w1 : Ints w a1 l1) :
    Calls Tryz.prog 7 #[.slice a0 len0 cap0, .slice a1 len1 cap1] w fun e w' => e = .returned (.bool true) ∧ Below w.heap.size w w' := by
  subst hl0 hl1
  exact exValue (iValue iTermOk (iReached iTermOk) iApply) w a0 l0 cap0 a1 l1 cap1 w0 w1

set_option maxRecDepth 100000 in
theorem lifted (os : Os) (started : os.Started) (H : Type) (enc : TypeId × Value → H) :
    ReturnsInHanded {} Tryz.checked os 7 .any (Rows.fnExactValueSpec.pre6 enc Tryz.prog Tryz.f7 Rows.fnExactValueRow.domain false) (Rows.fnExactValueSpec.post enc Tryz.prog Tryz.f7 false true false false) := by
  refine returnsInHanded_of_change (C := Tryz.checked) own started (by kernel_rfl) Tryz.func7
    (ChangeSpec.witness6 (enc := enc) (C := Tryz.checked) false ⟨#[], #[.slice none 0 0, .slice none 0 0], []⟩ 8 (by kernel_rfl) (by kernel_rfl) (by kernel_rfl) (by kernel_rfl)) ?_
  intro W base args ds gs before hval0 hW hcnd _
  have hval : ∀ (j : Nat) t v, Tryz.f7.params[j]? = some t → args[j]? = some v → Value.okWide Tryz.prog W .any base t v := hval0
  have hW' := hW
  obtain ⟨p, q, hA0, hV, rfl, hfz, hnd⟩ := hW
  have hA : DataW.TrodAll enc Tryz.prog W 0 (fun _ => true) true Tryz.f7.params.toList args.toList ds p := hA0
  rw [Tryz.params7] at hA hval
  obtain ⟨v0, vs0, d0, ds0, p0, q0, hargs, rfl, rfl, h0, r0⟩ := trodAll_cons hA
  obtain ⟨v1, vs1, d1, ds1, p1, q1, hargs1, rfl, rfl, h1, r1⟩ := trodAll_cons r0
  obtain ⟨rfl, rfl, rfl⟩ := trodAll_nil r1
  obtain rfl : args = #[v0, v1] := by cases args; simp_all
  obtain ⟨rfl, rfl⟩ := trodVars_none hV
  obtain ⟨a0, len0, cap0, rfl⟩ := okWide_slice Tryz.underlying53 (hval 0 53 v0 rfl rfl)
  have k0 := h0
  have lt0 : ∀ x ∈ p0, x.block < W.heap.size := by obtain ⟨m, hm⟩ := k0; exact DataW.trod_lt m _ _ _ hm
  obtain ⟨_, l0, hl0, w0⟩ : len0 ≤ maxLen ∧ ∃ l : List Nd, l.length = len0 ∧ Nodes W a0 l := by
    obtain ⟨fuel, hf⟩ := h0
    exact Op0.nodes_open (by simpa [Value.cells] using hf)
  obtain ⟨a1, len1, cap1, rfl⟩ := okWide_slice Tryz.underlying25 (hval 1 25 v1 rfl rfl)
  have k1 := h1
  have lt1 : ∀ x ∈ p1, x.block < W.heap.size := by obtain ⟨m, hm⟩ := k1; exact DataW.trod_lt m _ _ _ hm
  obtain ⟨_, l1, hl1, w1⟩ : len1 ≤ maxLen ∧ ∃ l : List Int, l.length = len1 ∧ Ints W a1 l := by
    obtain ⟨fuel, hf⟩ := h1
    exact Op1.ints_open (by simpa [Value.cells] using hf)
  clear hA0 hval0
  refine (walk a0 len0 cap0 l0 hl0 a1 len1 cap1 l1 hl1 W w0 w1).mono fun e W' ⟨he, bel⟩ => ?_
  subst he
  exact ⟨_, rfl, _, _, _, [], _, [], hW', trodAll_mk1 (shut_bool Tryz.underlying4 _), (trodAll_cons_mk (Below.trod laidOut (by kernel_rfl) (of_decide_eq_true (by kernel_rfl)) k0 bel lt0) (trodAll_cons_mk (Below.trod laidOut (by kernel_rfl) (of_decide_eq_true (by kernel_rfl)) k1 bel lt1) trodAll_mk0)), rfl, bel.frame _, fun h => by cases h⟩

theorem over : Rows.fnExactValueRow.holds Tryz.pinned (OpenSpec.ofChange Rows.fnExactValueSpec) :=
  OpenClaim.holds_of_wide 7 Tryz.f7 rfl rfl rfl rfl rfl rfl rfl ⟨rfl, rfl, rfl, rfl, rfl⟩ rfl rfl rfl rfl rfl (by kernel_rfl) Tryz.func7 (by kernel_rfl)
    (of_decide_eq_true (by kernel_rfl)) (by unfold Func.isWrapper; first | (rw [if_pos (by decide +kernel)]; kernel_rfl) | (rw [if_neg (by decide +kernel)]; exact ⟨rfl, rfl⟩))
    (fun os started H enc _ => lifted os started H enc)

end Go.Proofs.YtdmogjhabladcaaGreat.fnExactValue
namespace Go.Proofs.YtdmogjhabladcaaGreat
theorem fnExactValue_holds : Rows.FnExactValueSaid := fnExactValue.over
end Go.Proofs.YtdmogjhabladcaaGreat
