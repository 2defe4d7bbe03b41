/- For any graph, right or wrong, and any whole number, GraphTable of the program answers as its model does and writes nothing; no condition. -/
import Derived.Test.YtnpfegfjejfaaaaRows
import Derived.WalkKit
import Derived.ProofKit
import Derived.OpenShut
import Derived.ShutString
import Derived.ChangeOld
import Derived.Below
import Derived.Test.YtnpfegfjejfaaaaNd0
import Derived.Test.YtnpfegfjejfaaaaQb0
import Derived.Test.YtnpfegfjejfaaaaGr0
import Derived.Test.YtnpfegfjejfaaaaOp3
import Derived.Test.YtnpfegfjejfaaaaNd1
import Derived.Test.YtnpfegfjejfaaaaQb1
import Derived.Test.YtnpfegfjejfaaaaGx0
import Derived.Test.YtnpfegfjejfaaaaGs1
import Derived.Test.YtnpfegfjejfaaaaGr2
import Derived.Test.YtnpfegfjejfaaaaAp1
import Derived.Test.YtnpfegfjejfaaaaGs2
import Derived.Test.YtnpfegfjejfaaaaGr1
import Derived.Test.YtnpfegfjejfaaaaTa0
import Derived.Test.YtnpfegfjejfaaaaTa1
import Derived.Test.YtnpfegfjejfaaaaWv0
import Derived.Test.YtnpfegfjejfaaaaWv2
import Derived.Test.YtnpfegfjejfaaaaGs6
import Derived.Test.YtnpfegfjejfaaaaMq0
import Derived.Test.YtnpfegfjejfaaaaQb2
import Derived.Test.YtnpfegfjejfaaaaNt0
import Derived.Test.YtnpfegfjejfaaaaGp1
import Derived.Test.YtnpfegfjejfaaaaAp10
import Derived.Test.YtnpfegfjejfaaaaGp2
import Derived.Test.YtnpfegfjejfaaaaGp3
import Derived.Test.YtnpfegfjejfaaaaWv1
import Derived.Test.YtnpfegfjejfaaaaGp7
import Derived.Test.YtnpfegfjejfaaaaPl1
import Derived.Test.YtnpfegfjejfaaaaTm0
import Derived.Test.YtnpfegfjejfaaaaTm1
import Derived.Test.YtnpfegfjejfaaaaTm2
import Derived.Test.YtnpfegfjejfaaaaTm3
import Derived.Test.YtnpfegfjejfaaaaTx0
import Derived.Test.YtnpfegfjejfaaaaSs0
import Derived.Test.YtnpfegfjejfaaaaWs1
import Derived.Test.YtnpfegfjejfaaaaSs1
import Derived.Test.YtnpfegfjejfaaaaTc2
import Derived.Test.YtnpfegfjejfaaaaTc3
import Derived.Test.YtnpfegfjejfaaaaTc4
import Derived.Test.YtnpfegfjejfaaaaGt0
import Derived.Test.YtnpfegfjejfaaaaTc5
import Derived.Test.YtnpfegfjejfaaaaTc1
import Derived.Test.YtnpfegfjejfaaaaTc6
import Derived.Test.YtnpfegfjejfaaaaTc7
import Derived.Test.YtnpfegfjejfaaaaTc8
import Derived.Test.YtnpfegfjejfaaaaGp9
import Derived.Test.YtnpfegfjejfaaaaAp9
import Derived.Test.YtnpfegfjejfaaaaTd1
import Derived.Test.YtnpfegfjejfaaaaTd2
import Derived.Test.YtnpfegfjejfaaaaGs8
import Derived.Test.YtnpfegfjejfaaaaLg6
namespace Go.Proofs.Ytnpfegfjejfaaaa.fnExactGraphTable
open Go.ChangeShapes Go.WideShapes Go.ChangeAt Go.RowKit
open Go.ChangeMaps (open_string shut_string)
set_option linter.unusedVariables false

open Nd0 Qb0 Gr0 Op3 Nd1 Qb1 Gx0 Gs1 Gr2 Ap1 Gs2 Gr1 Ta0 Ta1 Wv0 Wv2 Gs6 Mq0 Qb2 Nt0 Gp1 Ap10 Gp2 Gp3 Wv1 Gp7 Pl1 Tm0 Tm1 Tm2 Tm3 Tx0 Ss0 Ws1 Ss1 Tc2 Tc3 Tc4 Gt0 Tc5 Tc1 Tc6 Tc7 Tc8 Gp9 Ap9 Td1 Td2 Gs8 Lg6

theorem own : ownKnob Try.prog.godebug = none := by kernel_rfl
theorem laidOut : laidOutB Try.prog = true := by kernel_rfl

set_option maxHeartbeats 1000000 in
theorem walk (i0 : Int) (a0 : Option Addr) (c0 : Nat) (l0 : List Qb0.An) (a1 : Int) (w : World) (w0 : Qb0.Ans w a0 l0) (r0 : Gr0.Rg l0) (w1 : (Lit.int .i64 a1).wf = true) :
    Calls Try.prog 10 #[.agg #[.int .i64 i0, .slice a0 l0.length c0], .int .i64 a1] w fun e w' => e = .returned (.bool true) ∧ Below w.heap.size w w' := by
  exact exGraphTable w i0 a0 l0 c0 a1 w0 r0

set_option maxRecDepth 100000 in
theorem lifted (os : Os) (started : os.Started) (H : Type) (enc : TypeId × Value → H) :
    ReturnsInHanded {} Try.checked os 10 .any (Rows.fnExactGraphTableSpec.pre6 enc Try.prog Try.f10 Rows.fnExactGraphTableRow.domain false) (Rows.fnExactGraphTableSpec.post enc Try.prog Try.f10 false true false false) := by
  refine returnsInHanded_of_change (C := Try.checked) own started (by kernel_rfl) Try.func10
    (ChangeSpec.witness6 (enc := enc) (C := Try.checked) false ⟨#[], #[.agg #[.int .i64 0, .slice none 0 0], .int .i64 0], []⟩ 8 (by kernel_rfl) (by kernel_rfl) (by kernel_rfl) (by kernel_rfl)) ?_
  intro W base args ds gs before hval0 hW hcnd _
  have hval : ∀ (j : Nat) t v, Try.f10.params[j]? = some t → args[j]? = some v → Value.okWide Try.prog W .any base t v := hval0
  have hW' := hW
  obtain ⟨p, q, hA0, hV, rfl, hfz, hnd⟩ := hW
  have hA : DataW.TrodAll enc Try.prog W 0 (fun _ => true) true Try.f10.params.toList args.toList ds p := hA0
  rw [Try.params10] at hA hval
  obtain ⟨v0, vs0, d0, ds0, p0, q0, hargs, rfl, rfl, h0, r0⟩ := trodAll_cons hA
  obtain ⟨v1, vs1, d1, ds1, p1, q1, hargs1, rfl, rfl, h1, r1⟩ := trodAll_cons r0
  obtain ⟨rfl, rfl, rfl⟩ := trodAll_nil r1
  obtain rfl : args = #[v0, v1] := by cases args; simp_all
  obtain ⟨rfl, rfl⟩ := trodVars_none hV
  obtain ⟨cs0, rfl, _⟩ := okWide_struct Try.underlying44 (hval 0 44 v0 rfl rfl)
  have k0 := h0
  have lt0 : ∀ x ∈ p0, x.block < W.heap.size := by obtain ⟨m, hm⟩ := k0; exact DataW.trod_lt m _ _ _ hm
  obtain ⟨i0, a0, c0, l0, hn0, w0, r0g, _, _⟩ : ∃ (ins : Int) (a : Option Addr) (c : Nat) (l : List Qb0.An), cs0.toList = [.int .i64 ins, .slice a l.length c] ∧ Qb0.Ans W a l ∧ Gr0.Rg l ∧ -9223372036854775808 ≤ ins ∧ ins ≤ 9223372036854775807 := by
    obtain ⟨fuel, hf⟩ := h0
    exact Op3.graph_open (by simpa [Value.cells] using hf)
  obtain rfl : cs0 = #[.int .i64 i0, .slice a0 l0.length c0] := by cases cs0; simp_all
  obtain ⟨a1, rfl, rfl, rfl, w1⟩ := open_int Try.underlying3 (hval 1 3 v1 rfl rfl) h1
  clear hA0 hval0
  refine (walk i0 a0 c0 l0 a1 W w0 r0g w1).mono fun e W' ⟨he, bel⟩ => ?_
  subst he
  exact ⟨_, rfl, _, _, _, [], _, [], hW', trodAll_mk1 (shut_bool Try.underlying4 _), (trodAll_cons_mk (Below.trod laidOut (by kernel_rfl) (of_decide_eq_true (by kernel_rfl)) k0 bel lt0) (trodAll_cons_mk (shut_int Try.underlying3 w1) trodAll_mk0)), rfl, bel.frame _, fun h => by cases h⟩

theorem over : Rows.fnExactGraphTableRow.holds Try.pinned (OpenSpec.ofChange Rows.fnExactGraphTableSpec) :=
  OpenClaim.holds_of_wide 10 Try.f10 rfl rfl rfl rfl rfl rfl rfl ⟨rfl, rfl, rfl, rfl, rfl⟩ rfl rfl rfl rfl rfl (by kernel_rfl) Try.func10 (by kernel_rfl)
    (of_decide_eq_true (by kernel_rfl)) (by unfold Func.isWrapper; first | (rw [if_pos (by decide +kernel)]; kernel_rfl) | (rw [if_neg (by decide +kernel)]; exact ⟨rfl, rfl⟩))
    (fun os started H enc _ => lifted os started H enc)

end Go.Proofs.Ytnpfegfjejfaaaa.fnExactGraphTable
namespace Go.Proofs.Ytnpfegfjejfaaaa
theorem fnExactGraphTable_holds : Rows.FnExactGraphTableSaid := fnExactGraphTable.over
end Go.Proofs.Ytnpfegfjejfaaaa
