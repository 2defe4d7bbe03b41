/- For any list of quantifiers and any list of nodes, TableOf of the program answers as its model does and writes into none; no condition. -/
import Derived.Test.YtgfekhgeopflcaaGreatRows
import Derived.WalkKit
import Derived.ProofKit
import Derived.OpenShut
import Derived.ShutString
import Derived.ChangeOld
import Derived.Below
import Derived.Test.YtgfekhgeopflcaaGreatPkT60
import Derived.Test.YtgfekhgeopflcaaGreatPkT61
import Derived.Test.YtgfekhgeopflcaaGreatPkT62
import Derived.Test.YtgfekhgeopflcaaGreatTx0
import Derived.Test.YtgfekhgeopflcaaGreatTx1
import Derived.Test.YtgfekhgeopflcaaGreatPkT65
import Derived.Test.YtgfekhgeopflcaaGreatPkT66
import Derived.Test.YtgfekhgeopflcaaGreatPkT67
import Derived.Test.YtgfekhgeopflcaaGreatPkT68
import Derived.Test.YtgfekhgeopflcaaGreatPkT69
import Derived.Test.YtgfekhgeopflcaaGreatPkT610
import Derived.Test.YtgfekhgeopflcaaGreatFr1
import Derived.Test.YtgfekhgeopflcaaGreatPkT612
import Derived.Test.YtgfekhgeopflcaaGreatPkT613
import Derived.Test.YtgfekhgeopflcaaGreatPkT614
import Derived.Test.YtgfekhgeopflcaaGreatPkT615
import Derived.Test.YtgfekhgeopflcaaGreatFp1
import Derived.Test.YtgfekhgeopflcaaGreatTo1
import Derived.Test.YtgfekhgeopflcaaGreatTa0
import Derived.Test.YtgfekhgeopflcaaGreatPkT619
import Derived.Test.YtgfekhgeopflcaaGreatPkT620
import Derived.Test.YtgfekhgeopflcaaGreatPv7
import Derived.Test.YtgfekhgeopflcaaGreatPv8
import Derived.Test.YtgfekhgeopflcaaGreatPkT623
import Derived.Test.YtgfekhgeopflcaaGreatTx4
import Derived.Test.YtgfekhgeopflcaaGreatPkT625
import Derived.Test.YtgfekhgeopflcaaGreatPkT626
import Derived.Test.YtgfekhgeopflcaaGreatPkT627
import Derived.Test.YtgfekhgeopflcaaGreatSp3
import Derived.Test.YtgfekhgeopflcaaGreatPkT629
import Derived.Test.YtgfekhgeopflcaaGreatPkT630
import Derived.Test.YtgfekhgeopflcaaGreatPkT631
import Derived.Test.YtgfekhgeopflcaaGreatPkT632
import Derived.Test.YtgfekhgeopflcaaGreatPkT633
import Derived.Test.YtgfekhgeopflcaaGreatTo2
import Derived.Test.YtgfekhgeopflcaaGreatPkT635
import Derived.Test.YtgfekhgeopflcaaGreatSv1
import Derived.Test.YtgfekhgeopflcaaGreatSv3
import Derived.Test.YtgfekhgeopflcaaGreatPkT638
import Derived.Test.YtgfekhgeopflcaaGreatTo3
import Derived.Test.YtgfekhgeopflcaaGreatPkT640
import Derived.Test.YtgfekhgeopflcaaGreatPkT641
import Derived.Test.YtgfekhgeopflcaaGreatPg4
import Derived.Test.YtgfekhgeopflcaaGreatPg5
import Derived.Test.YtgfekhgeopflcaaGreatPg6
import Derived.Test.YtgfekhgeopflcaaGreatPkT645
import Derived.Test.YtgfekhgeopflcaaGreatPw1
import Derived.Test.YtgfekhgeopflcaaGreatPw2
import Derived.Test.YtgfekhgeopflcaaGreatPkT648
namespace Go.Proofs.YtgfekhgeopflcaaGreat.fnExactTableOf
open Go.ChangeShapes Go.WideShapes Go.ChangeAt Go.RowKit
open Go.ChangeMaps (open_string shut_string)
set_option linter.unusedVariables false

open Nd0 Qa0 Qa3 Op0 Pl1 Tm0 Tm1 Tm4 Tm5 Tm6 Fr0 Tm2 Tm3 Tx0 Tx1 Tm8 Tx2 Tm7 Tm12 Tx3 Tr0 Pl2 Rw0 Ap0 Ap1 Rw1 Tm9 Tm10 Tm13 Tm11 Tm14 Vl1 Vl2 Vm0 Fr1 Fr4 To0 Qa2 Ws1 Nd1 Pg1 Wd1 Wd2 Wd3 Wd4 Sp2 Fm1 Nd3 Kp1 Fp1 To1 Ta0 Ta1 Ss0 To0t Pv6 Lift Vm1 Vm2 Kp0 Ap2 Pv7 Pv8 Pv9 Pv10 Tx4 Vl3 Vl4 Vl5 Ic4 Pv11 Pv12 Ap6 Bt0 Sp3 Sp4 Sp5 Sp6 Sp7 Ap3 Sp10 Sv5 Pv5 Vm3 Pg2 Pg7 Pg8 Pg9 Pv13 Pg12 Pg13 Pg14 Pv14 Pv15 Fp2 Ss1 Tc2 Tc3 Tc4 Tc5 Tc1 Tc6 To2 Fm2 Wd5 Sv1 Sv3 Sv4 Fm4 Ap9 Td1 Td2 To3 Qa1 Nd2 Nd4 Nd5 Nd6 Lx25 Pg3 Pg4 Pg5 Pg6 Pv1 Pv3 Pw1 Pw2 Pw3 Pw4

theorem own : ownKnob Tryz.prog.godebug = none := by kernel_rfl
theorem laidOut : laidOutB Tryz.prog = true := by kernel_rfl

set_option maxHeartbeats 1000000 in
theorem walk (a0 : Option Addr) (len0 cap0 : Nat) (l0 : List Qa0.Qu) (hl0 : l0.length = len0) (a1 : Option Addr) (len1 cap1 : Nat) (l1 : List Nd) (hl1 : l1.length = len1) (w : World) (w0 : Qa0.Qus w a0 l0) (w1 : Nodes w a1 l1) :
    Calls Tryz.prog 3 #[.slice a0 len0 cap0, .slice a1 len1 cap1] w fun e w' => e = .returned (.bool true) ∧ Below w.heap.size w w' := by
  subst hl0 hl1
  exact exTableOf (To2.iTableOf' (Fp2.iFrontOk iTermOk (iReached iTermOk)) iApply) w a0 l0 cap0 a1 l1 cap1 w0 w1

set_option maxRecDepth 100000 in
theorem lifted (os : Os) (started : os.Started) (H : Type) (enc : TypeId × Value → H) :
    ReturnsInHanded {} Tryz.checked os 3 .any (Rows.fnExactTableOfSpec.pre6 enc Tryz.prog Tryz.f3 Rows.fnExactTableOfRow.domain false) (Rows.fnExactTableOfSpec.post enc Tryz.prog Tryz.f3 false true false false) := by
  refine returnsInHanded_of_change (C := Tryz.checked) own started (by kernel_rfl) Tryz.func3
    (ChangeSpec.witness6 (enc := enc) (C := Tryz.checked) false ⟨#[], #[.slice none 0 0, .slice none 0 0], []⟩ 8 (by kernel_rfl) (by kernel_rfl) (by kernel_rfl) (by kernel_rfl)) ?_
  intro W base args ds gs before hval0 hW hcnd _
  have hval : ∀ (j : Nat) t v, Tryz.f3.params[j]? = some t → args[j]? = some v → Value.okWide Tryz.prog W .any base t v := hval0
  have hW' := hW
  obtain ⟨p, q, hA0, hV, rfl, hfz, hnd⟩ := hW
  have hA : DataW.TrodAll enc Tryz.prog W 0 (fun _ => true) true Tryz.f3.params.toList args.toList ds p := hA0
  rw [Tryz.params3] at hA hval
  obtain ⟨v0, vs0, d0, ds0, p0, q0, hargs, rfl, rfl, h0, r0⟩ := trodAll_cons hA
  obtain ⟨v1, vs1, d1, ds1, p1, q1, hargs1, rfl, rfl, h1, r1⟩ := trodAll_cons r0
  obtain ⟨rfl, rfl, rfl⟩ := trodAll_nil r1
  obtain rfl : args = #[v0, v1] := by cases args; simp_all
  obtain ⟨rfl, rfl⟩ := trodVars_none hV
  obtain ⟨a0, len0, cap0, rfl⟩ := okWide_slice Tryz.underlying22 (hval 0 22 v0 rfl rfl)
  have k0 := h0
  have lt0 : ∀ x ∈ p0, x.block < W.heap.size := by obtain ⟨m, hm⟩ := k0; exact DataW.trod_lt m _ _ _ hm
  obtain ⟨_, l0, hl0, w0⟩ : len0 ≤ maxLen ∧ ∃ l : List Qa0.Qu, l.length = len0 ∧ Qa0.Qus W a0 l := by
    obtain ⟨fuel, hf⟩ := h0
    exact Qa3.opensQu (by simpa [Value.cells] using hf)
  obtain ⟨a1, len1, cap1, rfl⟩ := okWide_slice Tryz.underlying23 (hval 1 23 v1 rfl rfl)
  have k1 := h1
  have lt1 : ∀ x ∈ p1, x.block < W.heap.size := by obtain ⟨m, hm⟩ := k1; exact DataW.trod_lt m _ _ _ hm
  obtain ⟨_, l1, hl1, w1⟩ : len1 ≤ maxLen ∧ ∃ l : List Nd, l.length = len1 ∧ Nodes W a1 l := by
    obtain ⟨fuel, hf⟩ := h1
    exact Op0.nodes_open (by simpa [Value.cells] using hf)
  clear hA0 hval0
  refine (walk a0 len0 cap0 l0 hl0 a1 len1 cap1 l1 hl1 W w0 w1).mono fun e W' ⟨he, bel⟩ => ?_
  subst he
  exact ⟨_, rfl, _, _, _, [], _, [], hW', trodAll_mk1 (shut_bool Tryz.underlying4 _), (trodAll_cons_mk (Below.trod laidOut (by kernel_rfl) (of_decide_eq_true (by kernel_rfl)) k0 bel lt0) (trodAll_cons_mk (Below.trod laidOut (by kernel_rfl) (of_decide_eq_true (by kernel_rfl)) k1 bel lt1) trodAll_mk0)), rfl, bel.frame _, fun h => by cases h⟩

theorem over : Rows.fnExactTableOfRow.holds Tryz.pinned (OpenSpec.ofChange Rows.fnExactTableOfSpec) :=
  OpenClaim.holds_of_wide 3 Tryz.f3 rfl rfl rfl rfl rfl rfl rfl ⟨rfl, rfl, rfl, rfl, rfl⟩ rfl rfl rfl rfl rfl (by kernel_rfl) Tryz.func3 (by kernel_rfl)
    (of_decide_eq_true (by kernel_rfl)) (by unfold Func.isWrapper; first | (rw [if_pos (by decide +kernel)]; kernel_rfl) | (rw [if_neg (by decide +kernel)]; exact ⟨rfl, rfl⟩))
    (fun os started H enc _ => lifted os started H enc)

end Go.Proofs.YtgfekhgeopflcaaGreat.fnExactTableOf
namespace Go.Proofs.YtgfekhgeopflcaaGreat
theorem fnExactTableOf_holds : Rows.FnExactTableOfSaid := fnExactTableOf.over
end Go.Proofs.YtgfekhgeopflcaaGreat
