/- For any list of nodes and any two numbers, Replace of the program answers as its model does, writes into none and owns what it answers; no condition. -/
import Derived.Test.YtjhhmnelddidjaaRows
import Derived.WalkKit
import Derived.ProofKit
import Derived.OpenShut
import Derived.ShutString
import Derived.ChangeOld
import Derived.Below
import Derived.Test.YtjhhmnelddidjaaPkA
import Derived.Test.YtjhhmnelddidjaaPkB
import Derived.Test.YtjhhmnelddidjaaOp1
import Derived.Test.YtjhhmnelddidjaaSp2
import Derived.Test.YtjhhmnelddidjaaSp3
import Derived.Test.YtjhhmnelddidjaaSp4
import Derived.Test.YtjhhmnelddidjaaSp5
import Derived.Test.YtjhhmnelddidjaaSp6
import Derived.Test.YtjhhmnelddidjaaSp7
import Derived.Test.YtjhhmnelddidjaaSp10
import Derived.Test.YtjhhmnelddidjaaWd1
import Derived.Test.YtjhhmnelddidjaaPkC
import Derived.Test.YtjhhmnelddidjaaIc2
import Derived.Test.YtjhhmnelddidjaaPkE
import Derived.Test.YtjhhmnelddidjaaPl2
import Derived.Test.YtjhhmnelddidjaaVl1
import Derived.Test.YtjhhmnelddidjaaVl2
import Derived.Test.YtjhhmnelddidjaaVl3
import Derived.Test.YtjhhmnelddidjaaVl4
import Derived.Test.YtjhhmnelddidjaaVl5
import Derived.Test.YtjhhmnelddidjaaIc4
import Derived.Test.YtjhhmnelddidjaaRp0
import Derived.Test.YtjhhmnelddidjaaSv2
import Derived.Test.YtjhhmnelddidjaaLx8
import Derived.Test.YtjhhmnelddidjaaPg1
import Derived.Test.YtjhhmnelddidjaaPg2
import Derived.Test.YtjhhmnelddidjaaPg3
import Derived.Test.YtjhhmnelddidjaaPg4
import Derived.Test.YtjhhmnelddidjaaPg5
import Derived.Test.YtjhhmnelddidjaaPg6
import Derived.Test.YtjhhmnelddidjaaPv2
namespace Go.Proofs.Ytjhhmnelddidjaa.fnExactReplace
open Go.ChangeShapes Go.WideShapes Go.ChangeAt Go.RowKit
open Go.ChangeMaps (open_string shut_string)
set_option linter.unusedVariables false

open Nd0 Op0 Op1 Pl1 Tm0 Nd1 Sp2 Ap0 Ws1 Sp3 Sp4 Ap1 Tm1 Sp5 Tm2 Sp6 Nd3 Ap2 Tm3 Sp7 Tm4 Ap3 Tm5 Sp10 Wd1 Tm6 Tm8 Rw0 Rw1 Tm9 Tm10 Tm11 Tx0 Tx1 Tx2 Tm7 Tm12 Tx3 Tr0 Pl2 Tm13 Tm14 Vl1 Vl2 Tx4 Vl3 Vl4 Vl5 Ic4 Rp0 Sv2 Nd2 Nd4 Nd5 Lx8 Pg1 Pg2 Pg3 Pg4 Pg5 Pg6 Pv2

theorem own : ownKnob Try.prog.godebug = none := by kernel_rfl
theorem laidOut : laidOutB Try.prog = true := by kernel_rfl

set_option maxHeartbeats 1000000 in
theorem walk (a0 : Option Addr) (len0 cap0 : Nat) (l0 : List Nd) (hl0 : l0.length = len0) (a1 : Int) (a2 : Int) (w : World) (w0 : Nodes w a0 l0) (w1 : (Lit.int .i64 a1).wf = true) (w2 : (Lit.int .i64 a2).wf = true) :
    Calls Try.prog 4 #[.slice a0 len0 cap0, .int .i64 a1, .int .i64 a2] w fun e w' => e = .returned (.bool true) ∧ Below w.heap.size w w' := by
  subst hl0
  exact exReplace (iReplace iTermOk) w a0 l0 cap0 a1 a2 w0

set_option maxRecDepth 100000 in
theorem lifted (os : Os) (started : os.Started) (H : Type) (enc : TypeId × Value → H) :
    ReturnsInHanded {} Try.checked os 4 .any (Rows.fnExactReplaceSpec.pre6 enc Try.prog Try.f4 Rows.fnExactReplaceRow.domain false) (Rows.fnExactReplaceSpec.post enc Try.prog Try.f4 false true false false) := by
  refine returnsInHanded_of_change (C := Try.checked) own started (by kernel_rfl) Try.func4
    (ChangeSpec.witness6 (enc := enc) (C := Try.checked) false ⟨#[], #[.slice none 0 0, .int .i64 0, .int .i64 0], []⟩ 8 (by kernel_rfl) (by kernel_rfl) (by kernel_rfl) (by kernel_rfl)) ?_
  intro W base args ds gs before hval0 hW hcnd _
  have hval : ∀ (j : Nat) t v, Try.f4.params[j]? = some t → args[j]? = some v → Value.okWide Try.prog W .any base t v := hval0
  have hW' := hW
  obtain ⟨p, q, hA0, hV, rfl, hfz, hnd⟩ := hW
  have hA : DataW.TrodAll enc Try.prog W 0 (fun _ => true) true Try.f4.params.toList args.toList ds p := hA0
  rw [Try.params4] at hA hval
  obtain ⟨v0, vs0, d0, ds0, p0, q0, hargs, rfl, rfl, h0, r0⟩ := trodAll_cons hA
  obtain ⟨v1, vs1, d1, ds1, p1, q1, hargs1, rfl, rfl, h1, r1⟩ := trodAll_cons r0
  obtain ⟨v2, vs2, d2, ds2, p2, q2, hargs2, rfl, rfl, h2, r2⟩ := trodAll_cons r1
  obtain ⟨rfl, rfl, rfl⟩ := trodAll_nil r2
  obtain rfl : args = #[v0, v1, v2] := by cases args; simp_all
  obtain ⟨rfl, rfl⟩ := trodVars_none hV
  obtain ⟨a0, len0, cap0, rfl⟩ := okWide_slice Try.underlying28 (hval 0 28 v0 rfl rfl)
  have k0 := h0
  have lt0 : ∀ x ∈ p0, x.block < W.heap.size := by obtain ⟨m, hm⟩ := k0; exact DataW.trod_lt m _ _ _ hm
  obtain ⟨_, l0, hl0, w0⟩ : len0 ≤ maxLen ∧ ∃ l : List Nd, l.length = len0 ∧ Nodes W a0 l := by
    obtain ⟨fuel, hf⟩ := h0
    exact Op0.nodes_open (by simpa [Value.cells] using hf)
  obtain ⟨a1, rfl, rfl, rfl, w1⟩ := open_int Try.underlying3 (hval 1 3 v1 rfl rfl) h1
  obtain ⟨a2, rfl, rfl, rfl, w2⟩ := open_int Try.underlying3 (hval 2 3 v2 rfl rfl) h2
  clear hA0 hval0
  refine (walk a0 len0 cap0 l0 hl0 a1 a2 W w0 w1 w2).mono fun e W' ⟨he, bel⟩ => ?_
  subst he
  exact ⟨_, rfl, _, _, _, [], _, [], hW', trodAll_mk1 (shut_bool Try.underlying4 _), (trodAll_cons_mk (Below.trod laidOut (by kernel_rfl) (of_decide_eq_true (by kernel_rfl)) k0 bel lt0) (trodAll_cons_mk (shut_int Try.underlying3 w1) (trodAll_cons_mk (shut_int Try.underlying3 w2) trodAll_mk0))), rfl, bel.frame _, fun h => by cases h⟩

theorem over : Rows.fnExactReplaceRow.holds Try.pinned (OpenSpec.ofChange Rows.fnExactReplaceSpec) :=
  OpenClaim.holds_of_wide 4 Try.f4 rfl rfl rfl rfl rfl rfl rfl ⟨rfl, rfl, rfl, rfl, rfl⟩ rfl rfl rfl rfl rfl (by kernel_rfl) Try.func4 (by kernel_rfl)
    (of_decide_eq_true (by kernel_rfl)) (by unfold Func.isWrapper; first | (rw [if_pos (by decide +kernel)]; kernel_rfl) | (rw [if_neg (by decide +kernel)]; exact ⟨rfl, rfl⟩))
    (fun os started H enc _ => lifted os started H enc)

end Go.Proofs.Ytjhhmnelddidjaa.fnExactReplace
namespace Go.Proofs.Ytjhhmnelddidjaa
theorem fnExactReplace_holds : Rows.FnExactReplaceSaid := fnExactReplace.over
end Go.Proofs.Ytjhhmnelddidjaa
