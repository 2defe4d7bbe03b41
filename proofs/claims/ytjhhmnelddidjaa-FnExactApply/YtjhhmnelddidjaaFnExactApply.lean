/- For any node and any four numbers, Apply of the program answers as its model does; no condition. -/
import Derived.Test.YtjhhmnelddidjaaRows
import Derived.WalkKit
import Derived.ProofKit
import Derived.OpenShut
import Derived.ShutString
import Derived.ChangeOld
import Derived.Below
import Derived.Test.YtjhhmnelddidjaaPkA
import Derived.Test.YtjhhmnelddidjaaPkB
import Derived.Test.YtjhhmnelddidjaaOp1
import Derived.Test.YtjhhmnelddidjaaPkE
import Derived.Test.YtjhhmnelddidjaaPl2
import Derived.Test.YtjhhmnelddidjaaPkC
import Derived.Test.YtjhhmnelddidjaaVl1
import Derived.Test.YtjhhmnelddidjaaVl2
import Derived.Test.YtjhhmnelddidjaaBt0
import Derived.Test.YtjhhmnelddidjaaWd1
import Derived.Test.YtjhhmnelddidjaaWd2
import Derived.Test.YtjhhmnelddidjaaWd3
import Derived.Test.YtjhhmnelddidjaaWd4
import Derived.Test.YtjhhmnelddidjaaWd5
import Derived.Test.YtjhhmnelddidjaaSv1
import Derived.Test.YtjhhmnelddidjaaIc2
import Derived.Test.YtjhhmnelddidjaaVl3
import Derived.Test.YtjhhmnelddidjaaVl4
import Derived.Test.YtjhhmnelddidjaaVl5
import Derived.Test.YtjhhmnelddidjaaIc4
import Derived.Test.YtjhhmnelddidjaaSp2
import Derived.Test.YtjhhmnelddidjaaPg1
import Derived.Test.YtjhhmnelddidjaaPg2
import Derived.Test.YtjhhmnelddidjaaLx5
import Derived.Test.YtjhhmnelddidjaaLx9
import Derived.Test.YtjhhmnelddidjaaPv1
import Derived.Test.YtjhhmnelddidjaaPv3
import Derived.Test.YtjhhmnelddidjaaPw1
import Derived.Test.YtjhhmnelddidjaaPw2
import Derived.Test.YtjhhmnelddidjaaPw3
import Derived.Test.YtjhhmnelddidjaaPw4
namespace Go.Proofs.Ytjhhmnelddidjaa.fnExactApply
open Go.ChangeShapes Go.WideShapes Go.ChangeAt Go.RowKit
open Go.ChangeMaps (open_string shut_string)
set_option linter.unusedVariables false

open Nd0 Op0 Op1 Pl1 Tm0 Tm1 Tm2 Tm3 Tx0 Tx1 Tm8 Tx2 Tm4 Tm7 Tm12 Tx3 Tr0 Pl2 Tm5 Tm6 Rw0 Ap0 Ap1 Rw1 Tm9 Tm10 Tm13 Tm11 Tm14 Vl1 Vl2 Bt0 Wd1 Wd2 Wd3 Wd4 Wd5 Kp0 Sv1 Nd1 Nd3 Tx4 Vl3 Vl4 Vl5 Ic4 Nd2 Sp2 Ws1 Pg1 Pg2 Lx5 Lx9 Pv1 Pv3 Pw1 Pw2 Pw3 Pw4

theorem own : ownKnob Try.prog.godebug = none := by kernel_rfl
theorem laidOut : laidOutB Try.prog = true := by kernel_rfl

set_option maxHeartbeats 1000000 in
theorem walk (n0 : Nd) (a1 : Int) (a2 : Int) (a3 : Int) (a4 : Int) (w : World) (w0 : (Lit.int .i64 n0.k).wf = true) (w1 : (Lit.int .i64 a1).wf = true) (w2 : (Lit.int .i64 a2).wf = true) (w3 : (Lit.int .i64 a3).wf = true) (w4 : (Lit.int .i64 a4).wf = true) :
    Calls Try.prog 3 #[.agg #[.int .i64 n0.op, .int .i64 n0.w, .int .i64 n0.k, .int .i64 n0.a, .int .i64 n0.b, .int .i64 n0.c], .int .i64 a1, .int .i64 a2, .int .i64 a3, .int .i64 a4] w fun e w' => e = .returned (.bool true) ∧ Below w.heap.size w w' := by
  exact exApply iApply n0 a1 a2 a3 a4 w0 w

set_option maxRecDepth 100000 in
theorem lifted (os : Os) (started : os.Started) (H : Type) (enc : TypeId × Value → H) :
    ReturnsInHanded {} Try.checked os 3 .any (Rows.fnExactApplySpec.pre6 enc Try.prog Try.f3 Rows.fnExactApplyRow.domain false) (Rows.fnExactApplySpec.post enc Try.prog Try.f3 false true false false) := by
  refine returnsInHanded_of_change (C := Try.checked) own started (by kernel_rfl) Try.func3
    (ChangeSpec.witness6 (enc := enc) (C := Try.checked) false ⟨#[], #[.agg #[.int .i64 0, .int .i64 0, .int .i64 0, .int .i64 0, .int .i64 0, .int .i64 0], .int .i64 0, .int .i64 0, .int .i64 0, .int .i64 0], []⟩ 8 (by kernel_rfl) (by kernel_rfl) (by kernel_rfl) (by kernel_rfl)) ?_
  intro W base args ds gs before hval0 hW hcnd _
  have hval : ∀ (j : Nat) t v, Try.f3.params[j]? = some t → args[j]? = some v → Value.okWide Try.prog W .any base t v := hval0
  have hW' := hW
  obtain ⟨p, q, hA0, hV, rfl, hfz, hnd⟩ := hW
  have hA : DataW.TrodAll enc Try.prog W 0 (fun _ => true) true Try.f3.params.toList args.toList ds p := hA0
  rw [Try.params3] at hA hval
  obtain ⟨v0, vs0, d0, ds0, p0, q0, hargs, rfl, rfl, h0, r0⟩ := trodAll_cons hA
  obtain ⟨v1, vs1, d1, ds1, p1, q1, hargs1, rfl, rfl, h1, r1⟩ := trodAll_cons r0
  obtain ⟨v2, vs2, d2, ds2, p2, q2, hargs2, rfl, rfl, h2, r2⟩ := trodAll_cons r1
  obtain ⟨v3, vs3, d3, ds3, p3, q3, hargs3, rfl, rfl, h3, r3⟩ := trodAll_cons r2
  obtain ⟨v4, vs4, d4, ds4, p4, q4, hargs4, rfl, rfl, h4, r4⟩ := trodAll_cons r3
  obtain ⟨rfl, rfl, rfl⟩ := trodAll_nil r4
  obtain rfl : args = #[v0, v1, v2, v3, v4] := by cases args; simp_all
  obtain ⟨rfl, rfl⟩ := trodVars_none hV
  obtain ⟨cs0, rfl, _⟩ := okWide_struct Try.underlying23 (hval 0 23 v0 rfl rfl)
  have k0 := h0
  have lt0 : ∀ x ∈ p0, x.block < W.heap.size := by obtain ⟨m, hm⟩ := k0; exact DataW.trod_lt m _ _ _ hm
  obtain ⟨n0, hn0, w0⟩ : ∃ n : Nd, cs0.toList = n.cells ∧ (Lit.int .i64 n.k).wf = true := by
    obtain ⟨fuel, hf⟩ := h0
    exact Op1.node_wf (by simpa [Value.cells] using hf)
  obtain rfl : cs0 = #[.int .i64 n0.op, .int .i64 n0.w, .int .i64 n0.k, .int .i64 n0.a, .int .i64 n0.b, .int .i64 n0.c] := by cases cs0; simp_all [Nd.cells]
  obtain ⟨a1, rfl, rfl, rfl, w1⟩ := open_int Try.underlying3 (hval 1 3 v1 rfl rfl) h1
  obtain ⟨a2, rfl, rfl, rfl, w2⟩ := open_int Try.underlying3 (hval 2 3 v2 rfl rfl) h2
  obtain ⟨a3, rfl, rfl, rfl, w3⟩ := open_int Try.underlying3 (hval 3 3 v3 rfl rfl) h3
  obtain ⟨a4, rfl, rfl, rfl, w4⟩ := open_int Try.underlying3 (hval 4 3 v4 rfl rfl) h4
  clear hA0 hval0
  refine (walk n0 a1 a2 a3 a4 W w0 w1 w2 w3 w4).mono fun e W' ⟨he, bel⟩ => ?_
  subst he
  exact ⟨_, rfl, _, _, _, [], _, [], hW', trodAll_mk1 (shut_bool Try.underlying4 _), (trodAll_cons_mk (Below.trod laidOut (by kernel_rfl) (of_decide_eq_true (by kernel_rfl)) k0 bel lt0) (trodAll_cons_mk (shut_int Try.underlying3 w1) (trodAll_cons_mk (shut_int Try.underlying3 w2) (trodAll_cons_mk (shut_int Try.underlying3 w3) (trodAll_cons_mk (shut_int Try.underlying3 w4) trodAll_mk0))))), rfl, bel.frame _, fun h => by cases h⟩

theorem over : Rows.fnExactApplyRow.holds Try.pinned (OpenSpec.ofChange Rows.fnExactApplySpec) :=
  OpenClaim.holds_of_wide 3 Try.f3 rfl rfl rfl rfl rfl rfl rfl ⟨rfl, rfl, rfl, rfl, rfl⟩ rfl rfl rfl rfl rfl (by kernel_rfl) Try.func3 (by kernel_rfl)
    (of_decide_eq_true (by kernel_rfl)) (by unfold Func.isWrapper; first | (rw [if_pos (by decide +kernel)]; kernel_rfl) | (rw [if_neg (by decide +kernel)]; exact ⟨rfl, rfl⟩))
    (fun os started H enc _ => lifted os started H enc)

end Go.Proofs.Ytjhhmnelddidjaa.fnExactApply
namespace Go.Proofs.Ytjhhmnelddidjaa
theorem fnExactApply_holds : Rows.FnExactApplySaid := fnExactApply.over
end Go.Proofs.Ytjhhmnelddidjaa
