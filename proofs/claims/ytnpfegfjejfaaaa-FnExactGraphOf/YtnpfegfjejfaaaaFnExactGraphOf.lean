/- For any table, right or wrong, GraphOf of the program answers as its model does, writes into nothing that came in and owns what it answers; no condition. -/
import Derived.Test.YtnpfegfjejfaaaaRows
import Derived.WalkKit
import Derived.ProofKit
import Derived.OpenShut
import Derived.ShutString
import Derived.ChangeOld
import Derived.Below
import Derived.Test.YtnpfegfjejfaaaaNd0
import Derived.Test.YtnpfegfjejfaaaaOp2
import Derived.Test.YtnpfegfjejfaaaaNd1
import Derived.Test.YtnpfegfjejfaaaaQb0
import Derived.Test.YtnpfegfjejfaaaaQb1
import Derived.Test.YtnpfegfjejfaaaaGr0
import Derived.Test.YtnpfegfjejfaaaaGx0
import Derived.Test.YtnpfegfjejfaaaaGs1
import Derived.Test.YtnpfegfjejfaaaaGr2
import Derived.Test.YtnpfegfjejfaaaaAp1
import Derived.Test.YtnpfegfjejfaaaaGs2
import Derived.Test.YtnpfegfjejfaaaaGr1
import Derived.Test.YtnpfegfjejfaaaaQb2
import Derived.Test.YtnpfegfjejfaaaaAp10
import Derived.Test.YtnpfegfjejfaaaaMq0
import Derived.Test.YtnpfegfjejfaaaaNt0
import Derived.Test.YtnpfegfjejfaaaaGp1
import Derived.Test.YtnpfegfjejfaaaaGs3
import Derived.Test.YtnpfegfjejfaaaaGp2
import Derived.Test.YtnpfegfjejfaaaaGp3
import Derived.Test.YtnpfegfjejfaaaaGp4
import Derived.Test.YtnpfegfjejfaaaaGp5
import Derived.Test.YtnpfegfjejfaaaaGs4
import Derived.Test.YtnpfegfjejfaaaaGs5
import Derived.Test.YtnpfegfjejfaaaaTa0
import Derived.Test.YtnpfegfjejfaaaaTa1
import Derived.Test.YtnpfegfjejfaaaaPl1
import Derived.Test.YtnpfegfjejfaaaaTm0
import Derived.Test.YtnpfegfjejfaaaaTm1
import Derived.Test.YtnpfegfjejfaaaaTm2
import Derived.Test.YtnpfegfjejfaaaaTm3
import Derived.Test.YtnpfegfjejfaaaaTx0
import Derived.Test.YtnpfegfjejfaaaaSs0
import Derived.Test.YtnpfegfjejfaaaaWs1
import Derived.Test.YtnpfegfjejfaaaaSs1
import Derived.Test.YtnpfegfjejfaaaaTa2
import Derived.Test.YtnpfegfjejfaaaaTc2
import Derived.Test.YtnpfegfjejfaaaaTc3
import Derived.Test.YtnpfegfjejfaaaaTc4
import Derived.Test.YtnpfegfjejfaaaaTc5
import Derived.Test.YtnpfegfjejfaaaaAp9
import Derived.Test.YtnpfegfjejfaaaaTd1
import Derived.Test.YtnpfegfjejfaaaaTa3
import Derived.Test.YtnpfegfjejfaaaaGr3
import Derived.Test.YtnpfegfjejfaaaaPkGd
import Derived.Test.YtnpfegfjejfaaaaPkGb
import Derived.Test.YtnpfegfjejfaaaaTc1
import Derived.Test.YtnpfegfjejfaaaaPkGc
import Derived.Test.YtnpfegfjejfaaaaTe1
import Derived.Test.YtnpfegfjejfaaaaTe3
import Derived.Test.YtnpfegfjejfaaaaPkGa
import Derived.Test.YtnpfegfjejfaaaaLg7
namespace Go.Proofs.Ytnpfegfjejfaaaa.fnExactGraphOf
open Go.ChangeShapes Go.WideShapes Go.ChangeAt Go.RowKit
open Go.ChangeMaps (open_string shut_string)
set_option linter.unusedVariables false

open Nd0 Op2 Nd1 Qb0 Qb1 Gr0 Gx0 Gs1 Gr2 Ap1 Gs2 Gr1 Qb2 Ap10 Mq0 Nt0 Gp1 Gs3 Gp2 Gp3 Gp4 Gp5 Gs4 Gs5 Ta0 Ta1 Pl1 Tm0 Tm1 Tm2 Tm3 Tx0 Ss0 Ws1 Ss1 Ta2 Tc2 Tc3 Tc4 Tc5 Ap9 Td1 Ta3 Gr3 Gs9 Td2 Td3 Td4 Gs10 Gp10 Tc1 Tc6 Tc7 Tc8 Tc9 Tc10 Te1 Te3 Gp11 Gp12 Gs11 Lg7

theorem own : ownKnob Try.prog.godebug = none := by kernel_rfl
theorem laidOut : laidOutB Try.prog = true := by kernel_rfl

set_option maxHeartbeats 1000000 in
theorem walk (N0 : Int) (S0 : ByteArray) (w : World) (w0 : S0.size ≤ maxLen) :
    Calls Try.prog 9 #[.agg #[.int .i64 N0, .string S0]] w fun e w' => e = .returned (.bool true) ∧ Below w.heap.size w w' := by
  exact exGraphOf N0 S0 w w0

set_option maxRecDepth 100000 in
theorem lifted (os : Os) (started : os.Started) (H : Type) (enc : TypeId × Value → H) :
    ReturnsInHanded {} Try.checked os 9 .any (Rows.fnExactGraphOfSpec.pre6 enc Try.prog Try.f9 Rows.fnExactGraphOfRow.domain false) (Rows.fnExactGraphOfSpec.post enc Try.prog Try.f9 false true false false) := by
  refine returnsInHanded_of_change (C := Try.checked) own started (by kernel_rfl) Try.func9
    (ChangeSpec.witness6 (enc := enc) (C := Try.checked) false ⟨#[], #[.agg #[.int .i64 0, .string ByteArray.empty]], []⟩ 8 (by kernel_rfl) (by kernel_rfl) (by kernel_rfl) (by kernel_rfl)) ?_
  intro W base args ds gs before hval0 hW hcnd _
  have hval : ∀ (j : Nat) t v, Try.f9.params[j]? = some t → args[j]? = some v → Value.okWide Try.prog W .any base t v := hval0
  have hW' := hW
  obtain ⟨p, q, hA0, hV, rfl, hfz, hnd⟩ := hW
  have hA : DataW.TrodAll enc Try.prog W 0 (fun _ => true) true Try.f9.params.toList args.toList ds p := hA0
  rw [Try.params9] at hA hval
  obtain ⟨v0, vs0, d0, ds0, p0, q0, hargs, rfl, rfl, h0, r0⟩ := trodAll_cons hA
  obtain ⟨rfl, rfl, rfl⟩ := trodAll_nil r0
  obtain rfl : args = #[v0] := by cases args; simp_all
  obtain ⟨rfl, rfl⟩ := trodVars_none hV
  obtain ⟨cs0, rfl, _⟩ := okWide_struct Try.underlying56 (hval 0 56 v0 rfl rfl)
  have k0 := h0
  have lt0 : ∀ x ∈ p0, x.block < W.heap.size := by obtain ⟨m, hm⟩ := k0; exact DataW.trod_lt m _ _ _ hm
  obtain ⟨N0, S0, hn0, w0⟩ : ∃ (N : Int) (S : ByteArray), cs0.toList = [.int .i64 N, .string S] ∧ S.size ≤ maxLen := by
    obtain ⟨fuel, hf⟩ := h0
    exact Op2.table_open (by simpa [Value.cells] using hf)
  obtain rfl : cs0 = #[.int .i64 N0, .string S0] := by cases cs0; simp_all
  clear hA0 hval0
  refine (walk N0 S0 W w0).mono fun e W' ⟨he, bel⟩ => ?_
  subst he
  exact ⟨_, rfl, _, _, _, [], _, [], hW', trodAll_mk1 (shut_bool Try.underlying4 _), (trodAll_cons_mk (Below.trod laidOut (by kernel_rfl) (of_decide_eq_true (by kernel_rfl)) k0 bel lt0) trodAll_mk0), rfl, bel.frame _, fun h => by cases h⟩

theorem over : Rows.fnExactGraphOfRow.holds Try.pinned (OpenSpec.ofChange Rows.fnExactGraphOfSpec) :=
  OpenClaim.holds_of_wide 9 Try.f9 rfl rfl rfl rfl rfl rfl rfl ⟨rfl, rfl, rfl, rfl, rfl⟩ rfl rfl rfl rfl rfl (by kernel_rfl) Try.func9 (by kernel_rfl)
    (of_decide_eq_true (by kernel_rfl)) (by unfold Func.isWrapper; first | (rw [if_pos (by decide +kernel)]; kernel_rfl) | (rw [if_neg (by decide +kernel)]; exact ⟨rfl, rfl⟩))
    (fun os started H enc _ => lifted os started H enc)

end Go.Proofs.Ytnpfegfjejfaaaa.fnExactGraphOf
namespace Go.Proofs.Ytnpfegfjejfaaaa
theorem fnExactGraphOf_holds : Rows.FnExactGraphOfSaid := fnExactGraphOf.over
end Go.Proofs.Ytnpfegfjejfaaaa
