/- For any two lists of nodes, Equal of the program answers as its model does and writes into neither; no condition. -/
import Derived.Test.YtnbenffechplgaaGreatRows
import Derived.WalkKit
import Derived.ProofKit
import Derived.OpenShut
import Derived.ShutString
import Derived.ChangeOld
import Derived.Below
import Derived.Test.YtnbenffechplgaaGreatPkVE0
import Derived.Test.YtnbenffechplgaaGreatPkVE1
import Derived.Test.YtnbenffechplgaaGreatSp3
import Derived.Test.YtnbenffechplgaaGreatPkVE3
import Derived.Test.YtnbenffechplgaaGreatPkVE4
import Derived.Test.YtnbenffechplgaaGreatPkVE5
import Derived.Test.YtnbenffechplgaaGreatAm5
import Derived.Test.YtnbenffechplgaaGreatPkVE7
import Derived.Test.YtnbenffechplgaaGreatPkVE8
import Derived.Test.YtnbenffechplgaaGreatSp7
import Derived.Test.YtnbenffechplgaaGreatPkVE10
import Derived.Test.YtnbenffechplgaaGreatPkVE11
import Derived.Test.YtnbenffechplgaaGreatSp8
import Derived.Test.YtnbenffechplgaaGreatPkVE13
import Derived.Test.YtnbenffechplgaaGreatPkVE14
import Derived.Test.YtnbenffechplgaaGreatAm9
import Derived.Test.YtnbenffechplgaaGreatPkVE16
import Derived.Test.YtnbenffechplgaaGreatPkVE17
import Derived.Test.YtnbenffechplgaaGreatPkVE18
import Derived.Test.YtnbenffechplgaaGreatSv1
import Derived.Test.YtnbenffechplgaaGreatSv3
import Derived.Test.YtnbenffechplgaaGreatPkVE21
import Derived.Test.YtnbenffechplgaaGreatSv5
import Derived.Test.YtnbenffechplgaaGreatPkVE23
import Derived.Test.YtnbenffechplgaaGreatSp11
import Derived.Test.YtnbenffechplgaaGreatPkVE25
import Derived.Test.YtnbenffechplgaaGreatPkVE26
import Derived.Test.YtnbenffechplgaaGreatPkVE27
import Derived.Test.YtnbenffechplgaaGreatPb8
import Derived.Test.YtnbenffechplgaaGreatPkVE29
import Derived.Test.YtnbenffechplgaaGreatPkVE30
import Derived.Test.YtnbenffechplgaaGreatPkVE31
import Derived.Test.YtnbenffechplgaaGreatPkVE32
import Derived.Test.YtnbenffechplgaaGreatPkVE33
import Derived.Test.YtnbenffechplgaaGreatPg4
import Derived.Test.YtnbenffechplgaaGreatPg5
import Derived.Test.YtnbenffechplgaaGreatPg6
import Derived.Test.YtnbenffechplgaaGreatPkVE37
import Derived.Test.YtnbenffechplgaaGreatPkVE38
import Derived.Test.YtnbenffechplgaaGreatPkVE39
import Derived.Test.YtnbenffechplgaaGreatPkVE40
import Derived.Test.YtnbenffechplgaaGreatPv8
import Derived.Test.YtnbenffechplgaaGreatPkVE42
import Derived.Test.YtnbenffechplgaaGreatPkVE43
import Derived.Test.YtnbenffechplgaaGreatVm3
import Derived.Test.YtnbenffechplgaaGreatPv13
import Derived.Test.YtnbenffechplgaaGreatPkVE46
import Derived.Test.YtnbenffechplgaaGreatPkVE47
import Derived.Test.YtnbenffechplgaaGreatPw2
import Derived.Test.YtnbenffechplgaaGreatPkVE49
namespace Go.Proofs.YtnbenffechplgaaGreat.fnExactEqual
open Go.ChangeShapes Go.WideShapes Go.ChangeAt Go.RowKit
open Go.ChangeMaps (open_string shut_string)
set_option linter.unusedVariables false

open Nd0 Op0 Pl1 Tm0 Nd1 Sp2 Ap0 Ws1 Sp3 Sp4 Tm1 Tm4 Tm5 Tm7 Tm12 Tm2 Tm3 Tm8 Tm6 Rw0 Ap1 Rw1 Tm9 Tm10 Tm13 Aq0 Nd3 Ap2 Am5 Tm11 Tm14 Aq2 Sp5 Sp6 Sp7 Ap3 Sp10 Am7 Aq12 Sp8 Sp9 Ap7 Ap13 Am8 Tx0 Tx1 Tx2 Tx3 Tr0 Pl2 Vl1 Aq1 Am9 Vl2 Vm0 Kp1 Bt0 Wd1 Wd2 Wd3 Wd4 Wd5 Kp0 Sv1 Sv3 Sv4 Vm1 Ap6 Sv5 Tx4 Vl3 Vl4 Vl5 Sv6 Sp11 Sv7 Qa0 Qi0 Pb3 Pg1 Pg2 Ar0 Pg10 Pg11 Aw1 Aw4 Pb8 Pb9 Ap15 Nd4 Aw2 Pb10 Pb11 Ic4 Pb12 Am10 Nd2 Nd5 Nd6 Lx86 Pg3 Pg4 Pg5 Pg6 Pg7 Pg12 Pg13 Pg8 Pg9 Pg14 Pv6 Lift Vm2 Pv7 Pv8 Pv9 Pv10 Pv11 Pv12 Pv5 Vm3 Pv13 Pv14 Pv15 Pv16 Pv1 Pv3 Pw1 Pw2 Pw3 Pw4

theorem own : ownKnob Tryz.prog.godebug = none := by kernel_rfl
theorem laidOut : laidOutB Tryz.prog = true := by kernel_rfl

set_option maxHeartbeats 1000000 in
theorem walk (a0 : Option Addr) (len0 cap0 : Nat) (l0 : List Nd) (hl0 : l0.length = len0) (a1 : Option Addr) (len1 cap1 : Nat) (l1 : List Nd) (hl1 : l1.length = len1) (w : World) (w0 : Nodes w a0 l0) (w1 : Nodes w a1 l1) :
    Calls Tryz.prog 4 #[.slice a0 len0 cap0, .slice a1 len1 cap1] w fun e w' => e = .returned (.bool true) ∧ Below w.heap.size w w' := by
  subst hl0 hl1
  exact exEqual iTermOk (iHolds iTermOk (iReached iTermOk) (iValue iTermOk (iReached iTermOk) iApply)) w a0 l0 cap0 a1 l1 cap1 w0 w1

set_option maxRecDepth 100000 in
theorem lifted (os : Os) (started : os.Started) (H : Type) (enc : TypeId × Value → H) :
    ReturnsInHanded {} Tryz.checked os 4 .any (Rows.fnExactEqualSpec.pre6 enc Tryz.prog Tryz.f4 Rows.fnExactEqualRow.domain false) (Rows.fnExactEqualSpec.post enc Tryz.prog Tryz.f4 false true false false) := by
  refine returnsInHanded_of_change (C := Tryz.checked) own started (by kernel_rfl) Tryz.func4
    (ChangeSpec.witness6 (enc := enc) (C := Tryz.checked) false ⟨#[], #[.slice none 0 0, .slice none 0 0], []⟩ 8 (by kernel_rfl) (by kernel_rfl) (by kernel_rfl) (by kernel_rfl)) ?_
  intro W base args ds gs before hval0 hW hcnd _
  have hval : ∀ (j : Nat) t v, Tryz.f4.params[j]? = some t → args[j]? = some v → Value.okWide Tryz.prog W .any base t v := hval0
  have hW' := hW
  obtain ⟨p, q, hA0, hV, rfl, hfz, hnd⟩ := hW
  have hA : DataW.TrodAll enc Tryz.prog W 0 (fun _ => true) true Tryz.f4.params.toList args.toList ds p := hA0
  rw [Tryz.params4] at hA hval
  obtain ⟨v0, vs0, d0, ds0, p0, q0, hargs, rfl, rfl, h0, r0⟩ := trodAll_cons hA
  obtain ⟨v1, vs1, d1, ds1, p1, q1, hargs1, rfl, rfl, h1, r1⟩ := trodAll_cons r0
  obtain ⟨rfl, rfl, rfl⟩ := trodAll_nil r1
  obtain rfl : args = #[v0, v1] := by cases args; simp_all
  obtain ⟨rfl, rfl⟩ := trodVars_none hV
  obtain ⟨a0, len0, cap0, rfl⟩ := okWide_slice Tryz.underlying22 (hval 0 22 v0 rfl rfl)
  obtain ⟨a1, len1, cap1, rfl⟩ := okWide_slice Tryz.underlying22 (hval 1 22 v1 rfl rfl)
  have k0 := h0
  have k1 := h1
  have lt0 : ∀ x ∈ p0, x.block < W.heap.size := by obtain ⟨m, hm⟩ := k0; exact DataW.trod_lt m _ _ _ hm
  have lt1 : ∀ x ∈ p1, x.block < W.heap.size := by obtain ⟨m, hm⟩ := k1; exact DataW.trod_lt m _ _ _ hm
  obtain ⟨_, l0, hl0, w0⟩ : len0 ≤ maxLen ∧ ∃ l : List Nd, l.length = len0 ∧ Nodes W a0 l := by
    obtain ⟨fuel, hf⟩ := h0
    exact Op0.nodes_open (by simpa [Value.cells] using hf)
  obtain ⟨_, l1, hl1, w1⟩ : len1 ≤ maxLen ∧ ∃ l : List Nd, l.length = len1 ∧ Nodes W a1 l := by
    obtain ⟨fuel, hf⟩ := h1
    exact Op0.nodes_open (by simpa [Value.cells] using hf)
  clear hA0 hval0
  refine (walk a0 len0 cap0 l0 hl0 a1 len1 cap1 l1 hl1 W w0 w1).mono fun e W' ⟨he, bel⟩ => ?_
  subst he
  exact ⟨_, rfl, _, _, _, [], _, [], hW', trodAll_mk1 (shut_bool Tryz.underlying4 _), (trodAll_cons_mk (Below.trod laidOut (by kernel_rfl) (of_decide_eq_true (by kernel_rfl)) k0 bel lt0) (trodAll_cons_mk (Below.trod laidOut (by kernel_rfl) (of_decide_eq_true (by kernel_rfl)) k1 bel lt1) trodAll_mk0)), rfl, bel.frame _, fun h => by cases h⟩

theorem over : Rows.fnExactEqualRow.holds Tryz.pinned (OpenSpec.ofChange Rows.fnExactEqualSpec) :=
  OpenClaim.holds_of_wide 4 Tryz.f4 rfl rfl rfl rfl rfl rfl rfl ⟨rfl, rfl, rfl, rfl, rfl⟩ rfl rfl rfl rfl rfl (by kernel_rfl) Tryz.func4 (by kernel_rfl)
    (of_decide_eq_true (by kernel_rfl)) (by unfold Func.isWrapper; first | (rw [if_pos (by decide +kernel)]; kernel_rfl) | (rw [if_neg (by decide +kernel)]; exact ⟨rfl, rfl⟩))
    (fun os started H enc _ => lifted os started H enc)

end Go.Proofs.YtnbenffechplgaaGreat.fnExactEqual
namespace Go.Proofs.YtnbenffechplgaaGreat
theorem fnExactEqual_holds : Rows.FnExactEqualSaid := fnExactEqual.over
end Go.Proofs.YtnbenffechplgaaGreat
