/- For any graph, right or wrong, any list of whole numbers and any whole number, GraphValue of the program answers as its model does and writes nothing; no condition. -/
import Derived.Test.YtnpfegfjejfaaaaRows
import Derived.WalkKit
import Derived.ProofKit
import Derived.OpenShut
import Derived.ShutString
import Derived.ChangeOld
import Derived.Below
import Derived.Test.YtnpfegfjejfaaaaNd0
import Derived.Test.YtnpfegfjejfaaaaQb0
import Derived.Test.YtnpfegfjejfaaaaGr0
import Derived.Test.YtnpfegfjejfaaaaOp3
import Derived.Test.YtnpfegfjejfaaaaOp2
import Derived.Test.YtnpfegfjejfaaaaNd1
import Derived.Test.YtnpfegfjejfaaaaQb1
import Derived.Test.YtnpfegfjejfaaaaGx0
import Derived.Test.YtnpfegfjejfaaaaGs1
import Derived.Test.YtnpfegfjejfaaaaGr2
import Derived.Test.YtnpfegfjejfaaaaAp1
import Derived.Test.YtnpfegfjejfaaaaGs2
import Derived.Test.YtnpfegfjejfaaaaGr1
import Derived.Test.YtnpfegfjejfaaaaTa0
import Derived.Test.YtnpfegfjejfaaaaTa1
import Derived.Test.YtnpfegfjejfaaaaWv0
import Derived.Test.YtnpfegfjejfaaaaWv2
import Derived.Test.YtnpfegfjejfaaaaGs6
import Derived.Test.YtnpfegfjejfaaaaWv1
import Derived.Test.YtnpfegfjejfaaaaGv0
import Derived.Test.YtnpfegfjejfaaaaGs7
import Derived.Test.YtnpfegfjejfaaaaMq0
import Derived.Test.YtnpfegfjejfaaaaQb2
import Derived.Test.YtnpfegfjejfaaaaNt0
import Derived.Test.YtnpfegfjejfaaaaGp1
import Derived.Test.YtnpfegfjejfaaaaAp10
import Derived.Test.YtnpfegfjejfaaaaGp2
import Derived.Test.YtnpfegfjejfaaaaGp3
import Derived.Test.YtnpfegfjejfaaaaGp7
import Derived.Test.YtnpfegfjejfaaaaGp8
import Derived.Test.YtnpfegfjejfaaaaNd2
import Derived.Test.YtnpfegfjejfaaaaNd3
import Derived.Test.YtnpfegfjejfaaaaNd6
import Derived.Test.YtnpfegfjejfaaaaLg5
namespace Go.Proofs.Ytnpfegfjejfaaaa.fnExactGraphValue
open Go.ChangeShapes Go.WideShapes Go.ChangeAt Go.RowKit
open Go.ChangeMaps (open_string shut_string)
set_option linter.unusedVariables false

open Nd0 Qb0 Gr0 Op3 Op2 Nd1 Qb1 Gx0 Gs1 Gr2 Ap1 Gs2 Gr1 Ta0 Ta1 Wv0 Wv2 Gs6 Wv1 Gv0 Gs7 Mq0 Qb2 Nt0 Gp1 Ap10 Gp2 Gp3 Gp7 Gp8 Nd2 Nd3 Nd6 Lg5

theorem own : ownKnob Try.prog.godebug = none := by kernel_rfl
theorem laidOut : laidOutB Try.prog = true := by kernel_rfl

set_option maxHeartbeats 1000000 in
theorem walk (i0 : Int) (a0 : Option Addr) (c0 : Nat) (l0 : List Qb0.An) (a1 : Option Addr) (len1 cap1 : Nat) (l1 : List Int) (hl1 : l1.length = len1) (a2 : Int) (w : World) (w0 : Qb0.Ans w a0 l0) (r0 : Gr0.Rg l0) (w1 : Ints w a1 l1) (w2 : (Lit.int .i64 a2).wf = true) :
    Calls Try.prog 8 #[.agg #[.int .i64 i0, .slice a0 l0.length c0], .slice a1 len1 cap1, .int .i64 a2] w fun e w' => e = .returned (.bool true) ∧ Below w.heap.size w w' := by
  subst hl1
  exact exGraphValue w i0 a0 l0 c0 a1 l1 cap1 a2 w1 w0 r0

set_option maxRecDepth 100000 in
theorem lifted (os : Os) (started : os.Started) (H : Type) (enc : TypeId × Value → H) :
    ReturnsInHanded {} Try.checked os 8 .any (Rows.fnExactGraphValueSpec.pre6 enc Try.prog Try.f8 Rows.fnExactGraphValueRow.domain false) (Rows.fnExactGraphValueSpec.post enc Try.prog Try.f8 false true false false) := by
  refine returnsInHanded_of_change (C := Try.checked) own started (by kernel_rfl) Try.func8
    (ChangeSpec.witness6 (enc := enc) (C := Try.checked) false ⟨#[], #[.agg #[.int .i64 0, .slice none 0 0], .slice none 0 0, .int .i64 0], []⟩ 8 (by kernel_rfl) (by kernel_rfl) (by kernel_rfl) (by kernel_rfl)) ?_
  intro W base args ds gs before hval0 hW hcnd _
  have hval : ∀ (j : Nat) t v, Try.f8.params[j]? = some t → args[j]? = some v → Value.okWide Try.prog W .any base t v := hval0
  have hW' := hW
  obtain ⟨p, q, hA0, hV, rfl, hfz, hnd⟩ := hW
  have hA : DataW.TrodAll enc Try.prog W 0 (fun _ => true) true Try.f8.params.toList args.toList ds p := hA0
  rw [Try.params8] at hA hval
  obtain ⟨v0, vs0, d0, ds0, p0, q0, hargs, rfl, rfl, h0, r0⟩ := trodAll_cons hA
  obtain ⟨v1, vs1, d1, ds1, p1, q1, hargs1, rfl, rfl, h1, r1⟩ := trodAll_cons r0
  obtain ⟨v2, vs2, d2, ds2, p2, q2, hargs2, rfl, rfl, h2, r2⟩ := trodAll_cons r1
  obtain ⟨rfl, rfl, rfl⟩ := trodAll_nil r2
  obtain rfl : args = #[v0, v1, v2] := by cases args; simp_all
  obtain ⟨rfl, rfl⟩ := trodVars_none hV
  obtain ⟨cs0, rfl, _⟩ := okWide_struct Try.underlying44 (hval 0 44 v0 rfl rfl)
  have k0 := h0
  have lt0 : ∀ x ∈ p0, x.block < W.heap.size := by obtain ⟨m, hm⟩ := k0; exact DataW.trod_lt m _ _ _ hm
  obtain ⟨i0, a0, c0, l0, hn0, w0, r0g, _, _⟩ : ∃ (ins : Int) (a : Option Addr) (c : Nat) (l : List Qb0.An), cs0.toList = [.int .i64 ins, .slice a l.length c] ∧ Qb0.Ans W a l ∧ Gr0.Rg l ∧ -9223372036854775808 ≤ ins ∧ ins ≤ 9223372036854775807 := by
    obtain ⟨fuel, hf⟩ := h0
    exact Op3.graph_open (by simpa [Value.cells] using hf)
  obtain rfl : cs0 = #[.int .i64 i0, .slice a0 l0.length c0] := by cases cs0; simp_all
  obtain ⟨a1, len1, cap1, rfl⟩ := okWide_slice Try.underlying37 (hval 1 37 v1 rfl rfl)
  have k1 := h1
  have lt1 : ∀ x ∈ p1, x.block < W.heap.size := by obtain ⟨m, hm⟩ := k1; exact DataW.trod_lt m _ _ _ hm
  obtain ⟨_, l1, hl1, w1⟩ : len1 ≤ maxLen ∧ ∃ l : List Int, l.length = len1 ∧ Ints W a1 l := by
    obtain ⟨fuel, hf⟩ := h1
    exact Op2.ints_open (by simpa [Value.cells] using hf)
  obtain ⟨a2, rfl, rfl, rfl, w2⟩ := open_int Try.underlying3 (hval 2 3 v2 rfl rfl) h2
  clear hA0 hval0
  refine (walk i0 a0 c0 l0 a1 len1 cap1 l1 hl1 a2 W w0 r0g w1 w2).mono fun e W' ⟨he, bel⟩ => ?_
  subst he
  exact ⟨_, rfl, _, _, _, [], _, [], hW', trodAll_mk1 (shut_bool Try.underlying4 _), (trodAll_cons_mk (Below.trod laidOut (by kernel_rfl) (of_decide_eq_true (by kernel_rfl)) k0 bel lt0) (trodAll_cons_mk (Below.trod laidOut (by kernel_rfl) (of_decide_eq_true (by kernel_rfl)) k1 bel lt1) (trodAll_cons_mk (shut_int Try.underlying3 w2) trodAll_mk0))), rfl, bel.frame _, fun h => by cases h⟩

theorem over : Rows.fnExactGraphValueRow.holds Try.pinned (OpenSpec.ofChange Rows.fnExactGraphValueSpec) :=
  OpenClaim.holds_of_wide 8 Try.f8 rfl rfl rfl rfl rfl rfl rfl ⟨rfl, rfl, rfl, rfl, rfl⟩ rfl rfl rfl rfl rfl (by kernel_rfl) Try.func8 (by kernel_rfl)
    (of_decide_eq_true (by kernel_rfl)) (by unfold Func.isWrapper; first | (rw [if_pos (by decide +kernel)]; kernel_rfl) | (rw [if_neg (by decide +kernel)]; exact ⟨rfl, rfl⟩))
    (fun os started H enc _ => lifted os started H enc)

end Go.Proofs.Ytnpfegfjejfaaaa.fnExactGraphValue
namespace Go.Proofs.Ytnpfegfjejfaaaa
theorem fnExactGraphValue_holds : Rows.FnExactGraphValueSaid := fnExactGraphValue.over
end Go.Proofs.Ytnpfegfjejfaaaa
