/- For any machine, right or wrong, MachineLeft of the program answers as its model does and writes nothing; no condition. -/
import Derived.Test.YtldeakifeifgdaaRows
import Derived.WalkKit
import Derived.ProofKit
import Derived.OpenShut
import Derived.ShutString
import Derived.ChangeOld
import Derived.Below
import Derived.Test.YtldeakifeifgdaaNd0
import Derived.Test.YtldeakifeifgdaaQc0
import Derived.Test.YtldeakifeifgdaaNd1
import Derived.Test.YtldeakifeifgdaaNd2
import Derived.Test.YtldeakifeifgdaaNd3
import Derived.Test.YtldeakifeifgdaaAp1
import Derived.Test.YtldeakifeifgdaaNd6
import Derived.Test.YtldeakifeifgdaaTa0
import Derived.Test.YtldeakifeifgdaaTa1
import Derived.Test.YtldeakifeifgdaaPl1
import Derived.Test.YtldeakifeifgdaaTm0
import Derived.Test.YtldeakifeifgdaaTm1
import Derived.Test.YtldeakifeifgdaaTm2
import Derived.Test.YtldeakifeifgdaaTm3
import Derived.Test.YtldeakifeifgdaaTx0
import Derived.Test.YtldeakifeifgdaaSs0
import Derived.Test.YtldeakifeifgdaaWs1
import Derived.Test.YtldeakifeifgdaaSs1
import Derived.Test.YtldeakifeifgdaaMm0
import Derived.Test.YtldeakifeifgdaaPkNb
import Derived.Test.YtldeakifeifgdaaQc1
import Derived.Test.YtldeakifeifgdaaTc2
import Derived.Test.YtldeakifeifgdaaTc3
import Derived.Test.YtldeakifeifgdaaTa2
import Derived.Test.YtldeakifeifgdaaDq0
import Derived.Test.YtldeakifeifgdaaPkNd
import Derived.Test.YtldeakifeifgdaaTc4
import Derived.Test.YtldeakifeifgdaaTc5
import Derived.Test.YtldeakifeifgdaaAp9
import Derived.Test.YtldeakifeifgdaaTd1
import Derived.Test.YtldeakifeifgdaaTa3
import Derived.Test.YtldeakifeifgdaaPkNc
import Derived.Test.YtldeakifeifgdaaTd2
import Derived.Test.YtldeakifeifgdaaTd3
import Derived.Test.YtldeakifeifgdaaTd4
import Derived.Test.YtldeakifeifgdaaMm1
import Derived.Test.YtldeakifeifgdaaDm1
import Derived.Test.YtldeakifeifgdaaMm2
import Derived.Test.YtldeakifeifgdaaMs0
import Derived.Test.YtldeakifeifgdaaTc1
import Derived.Test.YtldeakifeifgdaaTc6
import Derived.Test.YtldeakifeifgdaaTc7
import Derived.Test.YtldeakifeifgdaaTc8
import Derived.Test.YtldeakifeifgdaaTc9
import Derived.Test.YtldeakifeifgdaaTc10
import Derived.Test.YtldeakifeifgdaaTe1
import Derived.Test.YtldeakifeifgdaaTe3
import Derived.Test.YtldeakifeifgdaaPkNa
import Derived.Test.YtldeakifeifgdaaMi4
import Derived.Test.YtldeakifeifgdaaMi5
import Derived.Test.YtldeakifeifgdaaLx42
namespace Go.Proofs.Ytldeakifeifgdaa.fnExactMachineLeft
open Go.ChangeShapes Go.WideShapes Go.ChangeAt Go.RowKit
open Go.ChangeMaps (open_string shut_string)
set_option linter.unusedVariables false

open Nd0 Qc0 Qc3 Op2 Nd1 Nd2 Nd3 Ap1 Nd6 Op4 Ta0 Ta1 Pl1 Tm0 Tm1 Tm2 Tm3 Tx0 Ss0 Ws1 Ss1 Mm0 Op5 Qc1 Tc2 Tc3 Ta2 Dq0 Mx0 Mx1 Tc4 Tc5 Ap9 Td1 Ta3 De0 De1 Dv0 Mc0 Td2 Td3 Td4 Mm1 Dm1 Mm2 Ms0 Tc1 Tc6 Tc7 Tc8 Tc9 Tc10 Te1 Te3 Mi1 Mi2 Mi3 Mi4 Mi5 Lx42

theorem own : ownKnob Try.prog.godebug = none := by kernel_rfl
theorem laidOut : laidOutB Try.prog = true := by kernel_rfl

set_option maxHeartbeats 1000000 in
theorem walk (m0 : Mm0.Mc) (ra0 va0 ma0 : Option Addr) (rc0 vc0 mc0 : Nat) (w : World) (w0 : Mm0.Mr w m0 ra0 va0 ma0) (s0 : m0.S.size ≤ maxLen) (k0 : ∀ x ∈ m0.memo, x.k.size ≤ maxLen) :
    Calls Try.prog 6 #[Mm0.mval m0 ra0 va0 ma0 rc0 vc0 mc0] w fun e w' => e = .returned (.bool true) ∧ Below w.heap.size w w' := by
  exact Lx42.exMachineLeft w m0 ra0 va0 ma0 rc0 vc0 mc0 w0 s0 k0

set_option maxRecDepth 100000 in
theorem lifted (os : Os) (started : os.Started) (H : Type) (enc : TypeId × Value → H) :
    ReturnsInHanded {} Try.checked os 6 .any (Rows.fnExactMachineLeftSpec.pre6 enc Try.prog Try.f6 Rows.fnExactMachineLeftRow.domain false) (Rows.fnExactMachineLeftSpec.post enc Try.prog Try.f6 false true false false) := by
  refine returnsInHanded_of_change (C := Try.checked) own started (by kernel_rfl) Try.func6
    (ChangeSpec.witness6 (enc := enc) (C := Try.checked) false ⟨#[], #[.agg #[.slice none 0 0, .int .i64 0, .string ByteArray.empty, .int .i64 0, .slice none 0 0, .int .i64 0, .bool false, .int .i64 0, .int .i64 0, .int .i64 0, .slice none 0 0]], []⟩ 8 (by kernel_rfl) (by kernel_rfl) (by kernel_rfl) (by kernel_rfl)) ?_
  intro W base args ds gs before hval0 hW hcnd _
  have hval : ∀ (j : Nat) t v, Try.f6.params[j]? = some t → args[j]? = some v → Value.okWide Try.prog W .any base t v := hval0
  have hW' := hW
  obtain ⟨p, q, hA0, hV, rfl, hfz, hnd⟩ := hW
  have hA : DataW.TrodAll enc Try.prog W 0 (fun _ => true) true Try.f6.params.toList args.toList ds p := hA0
  rw [Try.params6] at hA hval
  obtain ⟨v0, vs0, d0, ds0, p0, q0, hargs, rfl, rfl, h0, r0⟩ := trodAll_cons hA
  obtain ⟨rfl, rfl, rfl⟩ := trodAll_nil r0
  obtain rfl : args = #[v0] := by cases args; simp_all
  obtain ⟨rfl, rfl⟩ := trodVars_none hV
  obtain ⟨cs0, rfl, _⟩ := okWide_struct Try.underlying28 (hval 0 28 v0 rfl rfl)
  have k0 := h0
  have lt0 : ∀ x ∈ p0, x.block < W.heap.size := by obtain ⟨m, hm⟩ := k0; exact DataW.trod_lt m _ _ _ hm
  obtain ⟨m0, ra0, va0, ma0, rc0, vc0, mc0, hn0, w0, s0, kk0⟩ : ∃ (m0 : Mm0.Mc) (ra0 va0 ma0 : Option Addr) (rc0 vc0 mc0 : Nat), cs0.toList = [.slice ra0 m0.row.length rc0, .int .i64 m0.N, .string m0.S, .int .i64 m0.room, .slice va0 m0.vals.length vc0, .int .i64 m0.ret, .bool m0.over, .int .i64 m0.steps, .int .i64 m0.looks, .int .i64 m0.hits, .slice ma0 m0.memo.length mc0] ∧ Mm0.Mr W m0 ra0 va0 ma0 ∧ m0.S.size ≤ maxLen ∧ ∀ x ∈ m0.memo, x.k.size ≤ maxLen := by
    obtain ⟨fuel, hf⟩ := h0
    exact Op5.machine_open (by simpa [Value.cells] using hf)
  obtain rfl : cs0 = #[.slice ra0 m0.row.length rc0, .int .i64 m0.N, .string m0.S, .int .i64 m0.room, .slice va0 m0.vals.length vc0, .int .i64 m0.ret, .bool m0.over, .int .i64 m0.steps, .int .i64 m0.looks, .int .i64 m0.hits, .slice ma0 m0.memo.length mc0] := by cases cs0; simp_all
  clear hA0 hval0
  refine (walk m0 ra0 va0 ma0 rc0 vc0 mc0 W w0 s0 kk0).mono fun e W' ⟨he, bel⟩ => ?_
  subst he
  exact ⟨_, rfl, _, _, _, [], _, [], hW', trodAll_mk1 (shut_bool Try.underlying4 _), (trodAll_cons_mk (Below.trod laidOut (by kernel_rfl) (of_decide_eq_true (by kernel_rfl)) k0 bel lt0) trodAll_mk0), rfl, bel.frame _, fun h => by cases h⟩

theorem over : Rows.fnExactMachineLeftRow.holds Try.pinned (OpenSpec.ofChange Rows.fnExactMachineLeftSpec) :=
  OpenClaim.holds_of_wide 6 Try.f6 rfl rfl rfl rfl rfl rfl rfl ⟨rfl, rfl, rfl, rfl, rfl⟩ rfl rfl rfl rfl rfl (by kernel_rfl) Try.func6 (by kernel_rfl)
    (of_decide_eq_true (by kernel_rfl)) (by unfold Func.isWrapper; first | (rw [if_pos (by decide +kernel)]; kernel_rfl) | (rw [if_neg (by decide +kernel)]; exact ⟨rfl, rfl⟩))
    (fun os started H enc _ => lifted os started H enc)

end Go.Proofs.Ytldeakifeifgdaa.fnExactMachineLeft
namespace Go.Proofs.Ytldeakifeifgdaa
theorem fnExactMachineLeft_holds : Rows.FnExactMachineLeftSaid := fnExactMachineLeft.over
end Go.Proofs.Ytldeakifeifgdaa
