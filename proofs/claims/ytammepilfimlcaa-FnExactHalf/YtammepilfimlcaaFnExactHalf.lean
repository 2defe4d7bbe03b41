/- For any table, right or wrong, and any whole number, Half of the program answers as its model does; no condition. -/
import Derived.Test.YtammepilfimlcaaRows
import Derived.WalkKit
import Derived.ProofKit
import Derived.OpenShut
import Derived.ShutString
import Derived.ChangeOld
import Derived.Below
import Derived.Test.YtammepilfimlcaaNd0
import Derived.Test.YtammepilfimlcaaOp2
import Derived.Test.YtammepilfimlcaaTa0
import Derived.Test.YtammepilfimlcaaTa1
import Derived.Test.YtammepilfimlcaaPl1
import Derived.Test.YtammepilfimlcaaTm0
import Derived.Test.YtammepilfimlcaaTm1
import Derived.Test.YtammepilfimlcaaTm2
import Derived.Test.YtammepilfimlcaaTm3
import Derived.Test.YtammepilfimlcaaTx0
import Derived.Test.YtammepilfimlcaaSs0
import Derived.Test.YtammepilfimlcaaWs1
import Derived.Test.YtammepilfimlcaaSs1
import Derived.Test.YtammepilfimlcaaTc2
import Derived.Test.YtammepilfimlcaaTc3
import Derived.Test.YtammepilfimlcaaTc4
import Derived.Test.YtammepilfimlcaaTc5
import Derived.Test.YtammepilfimlcaaTc1
import Derived.Test.YtammepilfimlcaaTc6
import Derived.Test.YtammepilfimlcaaTc7
import Derived.Test.YtammepilfimlcaaTc8
import Derived.Test.YtammepilfimlcaaTc9
import Derived.Test.YtammepilfimlcaaTc10
import Derived.Test.YtammepilfimlcaaAp9
import Derived.Test.YtammepilfimlcaaTd1
import Derived.Test.YtammepilfimlcaaTd2
import Derived.Test.YtammepilfimlcaaTa2
import Derived.Test.YtammepilfimlcaaTe1
import Derived.Test.YtammepilfimlcaaTd3
import Derived.Test.YtammepilfimlcaaTd4
import Derived.Test.YtammepilfimlcaaTe3
import Derived.Test.YtammepilfimlcaaLx20
import Derived.Test.YtammepilfimlcaaNd1
import Derived.Test.YtammepilfimlcaaNd2
import Derived.Test.YtammepilfimlcaaNd3
import Derived.Test.YtammepilfimlcaaAp1
import Derived.Test.YtammepilfimlcaaNd6
import Derived.Test.YtammepilfimlcaaLx22
namespace Go.Proofs.Ytammepilfimlcaa.fnExactHalf
open Go.ChangeShapes Go.WideShapes Go.ChangeAt Go.RowKit
open Go.ChangeMaps (open_string shut_string)
set_option linter.unusedVariables false

open Nd0 Op2 Ta0 Ta1 Pl1 Tm0 Tm1 Tm2 Tm3 Tx0 Ss0 Ws1 Ss1 Tc2 Tc3 Tc4 Tc5 Tc1 Tc6 Tc7 Tc8 Tc9 Tc10 Ap9 Td1 Td2 Ta2 Te1 Td3 Td4 Te3 Lx20 Nd1 Nd2 Nd3 Ap1 Nd6 Lx22

theorem own : ownKnob Try.prog.godebug = none := by kernel_rfl
theorem laidOut : laidOutB Try.prog = true := by kernel_rfl

set_option maxHeartbeats 1000000 in
theorem walk (N0 : Int) (S0 : ByteArray) (a1 : Int) (w : World) (w0 : S0.size ≤ maxLen) (w1 : (Lit.int .i64 a1).wf = true) :
    Calls Try.prog 5 #[.agg #[.int .i64 N0, .string S0], .int .i64 a1] w fun e w' => e = .returned (.bool true) ∧ Below w.heap.size w w' := by
  exact exHalf N0 S0 a1 w w0

set_option maxRecDepth 100000 in
theorem lifted (os : Os) (started : os.Started) (H : Type) (enc : TypeId × Value → H) :
    ReturnsInHanded {} Try.checked os 5 .any (Rows.fnExactHalfSpec.pre6 enc Try.prog Try.f5 Rows.fnExactHalfRow.domain false) (Rows.fnExactHalfSpec.post enc Try.prog Try.f5 false true false false) := by
  refine returnsInHanded_of_change (C := Try.checked) own started (by kernel_rfl) Try.func5
    (ChangeSpec.witness6 (enc := enc) (C := Try.checked) false ⟨#[], #[.agg #[.int .i64 0, .string ByteArray.empty], .int .i64 0], []⟩ 8 (by kernel_rfl) (by kernel_rfl) (by kernel_rfl) (by kernel_rfl)) ?_
  intro W base args ds gs before hval0 hW hcnd _
  have hval : ∀ (j : Nat) t v, Try.f5.params[j]? = some t → args[j]? = some v → Value.okWide Try.prog W .any base t v := hval0
  have hW' := hW
  obtain ⟨p, q, hA0, hV, rfl, hfz, hnd⟩ := hW
  have hA : DataW.TrodAll enc Try.prog W 0 (fun _ => true) true Try.f5.params.toList args.toList ds p := hA0
  rw [Try.params5] at hA hval
  obtain ⟨v0, vs0, d0, ds0, p0, q0, hargs, rfl, rfl, h0, r0⟩ := trodAll_cons hA
  obtain ⟨v1, vs1, d1, ds1, p1, q1, hargs1, rfl, rfl, h1, r1⟩ := trodAll_cons r0
  obtain ⟨rfl, rfl, rfl⟩ := trodAll_nil r1
  obtain rfl : args = #[v0, v1] := by cases args; simp_all
  obtain ⟨rfl, rfl⟩ := trodVars_none hV
  obtain ⟨cs0, rfl, _⟩ := okWide_struct Try.underlying23 (hval 0 23 v0 rfl rfl)
  have k0 := h0
  have lt0 : ∀ x ∈ p0, x.block < W.heap.size := by obtain ⟨m, hm⟩ := k0; exact DataW.trod_lt m _ _ _ hm
  obtain ⟨N0, S0, hn0, w0⟩ : ∃ (N : Int) (S : ByteArray), cs0.toList = [.int .i64 N, .string S] ∧ S.size ≤ maxLen := by
    obtain ⟨fuel, hf⟩ := h0
    exact Op2.table_open (by simpa [Value.cells] using hf)
  obtain rfl : cs0 = #[.int .i64 N0, .string S0] := by cases cs0; simp_all
  obtain ⟨a1, rfl, rfl, rfl, w1⟩ := open_int Try.underlying3 (hval 1 3 v1 rfl rfl) h1
  clear hA0 hval0
  refine (walk N0 S0 a1 W w0 w1).mono fun e W' ⟨he, bel⟩ => ?_
  subst he
  exact ⟨_, rfl, _, _, _, [], _, [], hW', trodAll_mk1 (shut_bool Try.underlying4 _), (trodAll_cons_mk (Below.trod laidOut (by kernel_rfl) (of_decide_eq_true (by kernel_rfl)) k0 bel lt0) (trodAll_cons_mk (shut_int Try.underlying3 w1) trodAll_mk0)), rfl, bel.frame _, fun h => by cases h⟩

theorem over : Rows.fnExactHalfRow.holds Try.pinned (OpenSpec.ofChange Rows.fnExactHalfSpec) :=
  OpenClaim.holds_of_wide 5 Try.f5 rfl rfl rfl rfl rfl rfl rfl ⟨rfl, rfl, rfl, rfl, rfl⟩ rfl rfl rfl rfl rfl (by kernel_rfl) Try.func5 (by kernel_rfl)
    (of_decide_eq_true (by kernel_rfl)) (by unfold Func.isWrapper; first | (rw [if_pos (by decide +kernel)]; kernel_rfl) | (rw [if_neg (by decide +kernel)]; exact ⟨rfl, rfl⟩))
    (fun os started H enc _ => lifted os started H enc)

end Go.Proofs.Ytammepilfimlcaa.fnExactHalf
namespace Go.Proofs.Ytammepilfimlcaa
theorem fnExactHalf_holds : Rows.FnExactHalfSaid := fnExactHalf.over
end Go.Proofs.Ytammepilfimlcaa
