/- For any list of nodes, CloseAll of the program answers as its model does, writes into none and owns what it answers; no condition. -/
import Derived.Test.YtnkkigoeffghdaaRows
import Derived.WalkKit
import Derived.ProofKit
import Derived.OpenShut
import Derived.ShutString
import Derived.ChangeOld
import Derived.Below
import Derived.Test.YtnkkigoeffghdaaPk150
import Derived.Test.YtnkkigoeffghdaaPk151
import Derived.Test.YtnkkigoeffghdaaPk152
import Derived.Test.YtnkkigoeffghdaaPk153
import Derived.Test.YtnkkigoeffghdaaPk154
import Derived.Test.YtnkkigoeffghdaaSp7
import Derived.Test.YtnkkigoeffghdaaPk156
import Derived.Test.YtnkkigoeffghdaaPk157
import Derived.Test.YtnkkigoeffghdaaPk158
import Derived.Test.YtnkkigoeffghdaaSp8
import Derived.Test.YtnkkigoeffghdaaPk1510
import Derived.Test.YtnkkigoeffghdaaPk1511
import Derived.Test.YtnkkigoeffghdaaPk1512
import Derived.Test.YtnkkigoeffghdaaPk1513
import Derived.Test.YtnkkigoeffghdaaPk1514
import Derived.Test.YtnkkigoeffghdaaPk1515
import Derived.Test.YtnkkigoeffghdaaPk1516
import Derived.Test.YtnkkigoeffghdaaAm5
import Derived.Test.YtnkkigoeffghdaaPk1517
import Derived.Test.YtnkkigoeffghdaaTx1
import Derived.Test.YtnkkigoeffghdaaTx2
import Derived.Test.YtnkkigoeffghdaaPk1520
import Derived.Test.YtnkkigoeffghdaaPk1521
import Derived.Test.YtnkkigoeffghdaaAq2
import Derived.Test.YtnkkigoeffghdaaAm7
import Derived.Test.YtnkkigoeffghdaaAq12
import Derived.Test.YtnkkigoeffghdaaAm8
import Derived.Test.YtnkkigoeffghdaaPk1522
import Derived.Test.YtnkkigoeffghdaaAr0
import Derived.Test.YtnkkigoeffghdaaAw4
import Derived.Test.YtnkkigoeffghdaaPb8
import Derived.Test.YtnkkigoeffghdaaPb9
import Derived.Test.YtnkkigoeffghdaaLx85
import Derived.Test.YtnkkigoeffghdaaPk1527
import Derived.Test.YtnkkigoeffghdaaPk1528
import Derived.Test.YtnkkigoeffghdaaWd5
import Derived.Test.YtnkkigoeffghdaaPk1530
import Derived.Test.YtnkkigoeffghdaaAm6
import Derived.Test.YtnkkigoeffghdaaPk1532
import Derived.Test.YtnkkigoeffghdaaPk1533
import Derived.Test.YtnkkigoeffghdaaPk1534
import Derived.Test.YtnkkigoeffghdaaPk1535
import Derived.Test.YtnkkigoeffghdaaPg4
import Derived.Test.YtnkkigoeffghdaaPg5
import Derived.Test.YtnkkigoeffghdaaPg6
namespace Go.Proofs.Ytnkkigoeffghdaa.fnExactCloseAll
open Go.ChangeShapes Go.WideShapes Go.ChangeAt Go.RowKit
open Go.ChangeMaps (open_string shut_string)
set_option linter.unusedVariables false

open Nd0 Op0 Pl1 Tm0 Nd1 Sp2 Ap0 Ws1 Sp3 Sp4 Tm1 Tm4 Tm5 Tm7 Tm12 Tm2 Tm3 Tm8 Tm6 Rw0 Ap1 Rw1 Tm9 Tm10 Tm13 Aq0 Nd3 Ap2 Am5 Tm11 Tm14 Aq2 Sp5 Sp6 Sp7 Ap3 Sp10 Am7 Aq12 Sp8 Sp9 Ap7 Ap13 Am8 Qa0 Kp0 Qi0 Pb3 Pg1 Pg2 Ar0 Pg10 Pg11 Aw1 Aw4 Pb8 Pb9 Nd2 Nd4 Nd5 Nd6 Lx85 Pg3 Pg4 Pg5 Pg6

theorem own : ownKnob Try.prog.godebug = none := by kernel_rfl
theorem laidOut : laidOutB Try.prog = true := by kernel_rfl

set_option maxHeartbeats 1000000 in
theorem walk (a0 : Option Addr) (len0 cap0 : Nat) (l0 : List Nd) (hl0 : l0.length = len0) (w : World) (w0 : Nodes w a0 l0) :
    Calls Try.prog 11 #[.slice a0 len0 cap0] w fun e w' => e = .returned (.bool true) ∧ Below w.heap.size w w' := by
  subst hl0
  exact exCloseAll iTermOk w a0 l0 cap0 w0

set_option maxRecDepth 100000 in
theorem lifted (os : Os) (started : os.Started) (H : Type) (enc : TypeId × Value → H) :
    ReturnsInHanded {} Try.checked os 11 .any (Rows.fnExactCloseAllSpec.pre6 enc Try.prog Try.f11 Rows.fnExactCloseAllRow.domain false) (Rows.fnExactCloseAllSpec.post enc Try.prog Try.f11 false true false false) := by
  refine returnsInHanded_of_change (C := Try.checked) own started (by kernel_rfl) Try.func11
    (ChangeSpec.witness6 (enc := enc) (C := Try.checked) false ⟨#[], #[.slice none 0 0], []⟩ 8 (by kernel_rfl) (by kernel_rfl) (by kernel_rfl) (by kernel_rfl)) ?_
  intro W base args ds gs before hval0 hW hcnd _
  have hval : ∀ (j : Nat) t v, Try.f11.params[j]? = some t → args[j]? = some v → Value.okWide Try.prog W .any base t v := hval0
  have hW' := hW
  obtain ⟨p, q, hA0, hV, rfl, hfz, hnd⟩ := hW
  have hA : DataW.TrodAll enc Try.prog W 0 (fun _ => true) true Try.f11.params.toList args.toList ds p := hA0
  rw [Try.params11] at hA hval
  obtain ⟨v0, vs0, d0, ds0, p0, q0, hargs, rfl, rfl, h0, r0⟩ := trodAll_cons hA
  obtain ⟨rfl, rfl, rfl⟩ := trodAll_nil r0
  obtain rfl : args = #[v0] := by cases args; simp_all
  obtain ⟨rfl, rfl⟩ := trodVars_none hV
  obtain ⟨a0, len0, cap0, rfl⟩ := okWide_slice Try.underlying34 (hval 0 34 v0 rfl rfl)
  have k0 := h0
  have lt0 : ∀ x ∈ p0, x.block < W.heap.size := by obtain ⟨m, hm⟩ := k0; exact DataW.trod_lt m _ _ _ hm
  obtain ⟨_, l0, hl0, w0⟩ : len0 ≤ maxLen ∧ ∃ l : List Nd, l.length = len0 ∧ Nodes W a0 l := by
    obtain ⟨fuel, hf⟩ := h0
    exact Op0.nodes_open (by simpa [Value.cells] using hf)
  clear hA0 hval0
  refine (walk a0 len0 cap0 l0 hl0 W w0).mono fun e W' ⟨he, bel⟩ => ?_
  subst he
  exact ⟨_, rfl, _, _, _, [], _, [], hW', trodAll_mk1 (shut_bool Try.underlying4 _), (trodAll_cons_mk (Below.trod laidOut (by kernel_rfl) (of_decide_eq_true (by kernel_rfl)) k0 bel lt0) trodAll_mk0), rfl, bel.frame _, fun h => by cases h⟩

theorem over : Rows.fnExactCloseAllRow.holds Try.pinned (OpenSpec.ofChange Rows.fnExactCloseAllSpec) :=
  OpenClaim.holds_of_wide 11 Try.f11 rfl rfl rfl rfl rfl rfl rfl ⟨rfl, rfl, rfl, rfl, rfl⟩ rfl rfl rfl rfl rfl (by kernel_rfl) Try.func11 (by kernel_rfl)
    (of_decide_eq_true (by kernel_rfl)) (by unfold Func.isWrapper; first | (rw [if_pos (by decide +kernel)]; kernel_rfl) | (rw [if_neg (by decide +kernel)]; exact ⟨rfl, rfl⟩))
    (fun os started H enc _ => lifted os started H enc)

end Go.Proofs.Ytnkkigoeffghdaa.fnExactCloseAll
namespace Go.Proofs.Ytnkkigoeffghdaa
theorem fnExactCloseAll_holds : Rows.FnExactCloseAllSaid := fnExactCloseAll.over
end Go.Proofs.Ytnkkigoeffghdaa
