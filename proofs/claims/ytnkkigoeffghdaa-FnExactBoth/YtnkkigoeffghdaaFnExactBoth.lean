/- For any two lists of nodes, Both of the program answers as its model does, writes into neither, and its answer owns its memory; no condition. -/
import Derived.Test.YtnkkigoeffghdaaRows
import Derived.WalkKit
import Derived.ProofKit
import Derived.OpenShut
import Derived.ShutString
import Derived.ChangeOld
import Derived.Below
import Derived.Test.YtnkkigoeffghdaaPk150
import Derived.Test.YtnkkigoeffghdaaPk151
import Derived.Test.YtnkkigoeffghdaaPk152
import Derived.Test.YtnkkigoeffghdaaPk153
import Derived.Test.YtnkkigoeffghdaaPk154
import Derived.Test.YtnkkigoeffghdaaSp7
import Derived.Test.YtnkkigoeffghdaaPk156
import Derived.Test.YtnkkigoeffghdaaPk157
import Derived.Test.YtnkkigoeffghdaaPk158
import Derived.Test.YtnkkigoeffghdaaSp8
import Derived.Test.YtnkkigoeffghdaaPk1510
import Derived.Test.YtnkkigoeffghdaaPk1511
import Derived.Test.YtnkkigoeffghdaaPk1512
import Derived.Test.YtnkkigoeffghdaaPk1513
import Derived.Test.YtnkkigoeffghdaaPk1514
import Derived.Test.YtnkkigoeffghdaaPk1515
import Derived.Test.YtnkkigoeffghdaaPk1516
import Derived.Test.YtnkkigoeffghdaaAm5
import Derived.Test.YtnkkigoeffghdaaPk1517
import Derived.Test.YtnkkigoeffghdaaTx1
import Derived.Test.YtnkkigoeffghdaaTx2
import Derived.Test.YtnkkigoeffghdaaPk1520
import Derived.Test.YtnkkigoeffghdaaPk1521
import Derived.Test.YtnkkigoeffghdaaAm9
import Derived.Test.YtnkkigoeffghdaaSp11
import Derived.Test.YtnkkigoeffghdaaAq13
import Derived.Test.YtnkkigoeffghdaaAq14
import Derived.Test.YtnkkigoeffghdaaAm11
import Derived.Test.YtnkkigoeffghdaaPk1522
import Derived.Test.YtnkkigoeffghdaaPk1523
import Derived.Test.YtnkkigoeffghdaaAp15
import Derived.Test.YtnkkigoeffghdaaPb10
import Derived.Test.YtnkkigoeffghdaaPb11
import Derived.Test.YtnkkigoeffghdaaAr0
import Derived.Test.YtnkkigoeffghdaaPb13
import Derived.Test.YtnkkigoeffghdaaPb14
import Derived.Test.YtnkkigoeffghdaaLx87
import Derived.Test.YtnkkigoeffghdaaPk1527
import Derived.Test.YtnkkigoeffghdaaPk1528
import Derived.Test.YtnkkigoeffghdaaWd5
import Derived.Test.YtnkkigoeffghdaaPk1530
import Derived.Test.YtnkkigoeffghdaaAm6
import Derived.Test.YtnkkigoeffghdaaPk1532
import Derived.Test.YtnkkigoeffghdaaPk1533
import Derived.Test.YtnkkigoeffghdaaPk1534
import Derived.Test.YtnkkigoeffghdaaPk1535
import Derived.Test.YtnkkigoeffghdaaPg4
import Derived.Test.YtnkkigoeffghdaaPg5
import Derived.Test.YtnkkigoeffghdaaPg6
import Derived.Test.YtnkkigoeffghdaaPk1539
import Derived.Test.YtnkkigoeffghdaaPg12
import Derived.Test.YtnkkigoeffghdaaPg13
import Derived.Test.YtnkkigoeffghdaaPg14
namespace Go.Proofs.Ytnkkigoeffghdaa.fnExactBoth
open Go.ChangeShapes Go.WideShapes Go.ChangeAt Go.RowKit
open Go.ChangeMaps (open_string shut_string)
set_option linter.unusedVariables false

open Nd0 Op0 Pl1 Tm0 Nd1 Sp2 Ap0 Ws1 Sp3 Sp4 Ap1 Tm1 Sp5 Tm2 Sp6 Nd3 Ap2 Tm3 Sp7 Tm4 Ap3 Tm5 Sp10 Tm7 Tm12 Tm8 Tm6 Rw0 Rw1 Tm9 Tm10 Tm13 Aq0 Am1 Ap7 Ap13 Am4 Am5 Tx0 Tx1 Tx2 Tx3 Tr0 Pl2 Tm11 Tm14 Vl1 Aq1 Am9 Sp8 Sp9 Sp11 Aq13 Pg1 Pg2 Pg8 Pg9 Aq14 Am11 Qa0 Kp0 Qi0 Pb3 Nd4 Pg10 Pg11 Aw1 Aw2 Ap12 Aw3 Pb1 Pb4 Pb5 Ap15 Pb10 Pb11 Ar0 Pb13 Pb14 Nd2 Nd5 Nd6 Lx87 Pg3 Pg4 Pg5 Pg6 Pg7 Pg12 Pg13 Pg14

theorem own : ownKnob Try.prog.godebug = none := by kernel_rfl
theorem laidOut : laidOutB Try.prog = true := by kernel_rfl

set_option maxHeartbeats 1000000 in
theorem walk (a0 : Option Addr) (len0 cap0 : Nat) (l0 : List Nd) (hl0 : l0.length = len0) (a1 : Option Addr) (len1 cap1 : Nat) (l1 : List Nd) (hl1 : l1.length = len1) (w : World) (w0 : Nodes w a0 l0) (w1 : Nodes w a1 l1) :
    Calls Try.prog 12 #[.slice a0 len0 cap0, .slice a1 len1 cap1] w fun e w' => e = .returned (.bool true) ∧ Below w.heap.size w w' := by
  subst hl0 hl1
  exact exBoth iTermOk (iSentence iTermOk (iReached iTermOk)) w a0 l0 cap0 a1 l1 cap1 w0 w1

set_option maxRecDepth 100000 in
theorem lifted (os : Os) (started : os.Started) (H : Type) (enc : TypeId × Value → H) :
    ReturnsInHanded {} Try.checked os 12 .any (Rows.fnExactBothSpec.pre6 enc Try.prog Try.f12 Rows.fnExactBothRow.domain false) (Rows.fnExactBothSpec.post enc Try.prog Try.f12 false true false false) := by
  refine returnsInHanded_of_change (C := Try.checked) own started (by kernel_rfl) Try.func12
    (ChangeSpec.witness6 (enc := enc) (C := Try.checked) false ⟨#[], #[.slice none 0 0, .slice none 0 0], []⟩ 8 (by kernel_rfl) (by kernel_rfl) (by kernel_rfl) (by kernel_rfl)) ?_
  intro W base args ds gs before hval0 hW hcnd _
  have hval : ∀ (j : Nat) t v, Try.f12.params[j]? = some t → args[j]? = some v → Value.okWide Try.prog W .any base t v := hval0
  have hW' := hW
  obtain ⟨p, q, hA0, hV, rfl, hfz, hnd⟩ := hW
  have hA : DataW.TrodAll enc Try.prog W 0 (fun _ => true) true Try.f12.params.toList args.toList ds p := hA0
  rw [Try.params12] at hA hval
  obtain ⟨v0, vs0, d0, ds0, p0, q0, hargs, rfl, rfl, h0, r0⟩ := trodAll_cons hA
  obtain ⟨v1, vs1, d1, ds1, p1, q1, hargs1, rfl, rfl, h1, r1⟩ := trodAll_cons r0
  obtain ⟨rfl, rfl, rfl⟩ := trodAll_nil r1
  obtain rfl : args = #[v0, v1] := by cases args; simp_all
  obtain ⟨rfl, rfl⟩ := trodVars_none hV
  obtain ⟨a0, len0, cap0, rfl⟩ := okWide_slice Try.underlying34 (hval 0 34 v0 rfl rfl)
  obtain ⟨a1, len1, cap1, rfl⟩ := okWide_slice Try.underlying34 (hval 1 34 v1 rfl rfl)
  have k0 := h0
  have k1 := h1
  have lt0 : ∀ x ∈ p0, x.block < W.heap.size := by obtain ⟨m, hm⟩ := k0; exact DataW.trod_lt m _ _ _ hm
  have lt1 : ∀ x ∈ p1, x.block < W.heap.size := by obtain ⟨m, hm⟩ := k1; exact DataW.trod_lt m _ _ _ hm
  obtain ⟨_, l0, hl0, w0⟩ : len0 ≤ maxLen ∧ ∃ l : List Nd, l.length = len0 ∧ Nodes W a0 l := by
    obtain ⟨fuel, hf⟩ := h0
    exact Op0.nodes_open (by simpa [Value.cells] using hf)
  obtain ⟨_, l1, hl1, w1⟩ : len1 ≤ maxLen ∧ ∃ l : List Nd, l.length = len1 ∧ Nodes W a1 l := by
    obtain ⟨fuel, hf⟩ := h1
    exact Op0.nodes_open (by simpa [Value.cells] using hf)
  clear hA0 hval0
  refine (walk a0 len0 cap0 l0 hl0 a1 len1 cap1 l1 hl1 W w0 w1).mono fun e W' ⟨he, bel⟩ => ?_
  subst he
  exact ⟨_, rfl, _, _, _, [], _, [], hW', trodAll_mk1 (shut_bool Try.underlying4 _), (trodAll_cons_mk (Below.trod laidOut (by kernel_rfl) (of_decide_eq_true (by kernel_rfl)) k0 bel lt0) (trodAll_cons_mk (Below.trod laidOut (by kernel_rfl) (of_decide_eq_true (by kernel_rfl)) k1 bel lt1) trodAll_mk0)), rfl, bel.frame _, fun h => by cases h⟩

theorem over : Rows.fnExactBothRow.holds Try.pinned (OpenSpec.ofChange Rows.fnExactBothSpec) :=
  OpenClaim.holds_of_wide 12 Try.f12 rfl rfl rfl rfl rfl rfl rfl ⟨rfl, rfl, rfl, rfl, rfl⟩ rfl rfl rfl rfl rfl (by kernel_rfl) Try.func12 (by kernel_rfl)
    (of_decide_eq_true (by kernel_rfl)) (by unfold Func.isWrapper; first | (rw [if_pos (by decide +kernel)]; kernel_rfl) | (rw [if_neg (by decide +kernel)]; exact ⟨rfl, rfl⟩))
    (fun os started H enc _ => lifted os started H enc)

end Go.Proofs.Ytnkkigoeffghdaa.fnExactBoth
namespace Go.Proofs.Ytnkkigoeffghdaa
theorem fnExactBoth_holds : Rows.FnExactBothSaid := fnExactBoth.over
end Go.Proofs.Ytnkkigoeffghdaa
