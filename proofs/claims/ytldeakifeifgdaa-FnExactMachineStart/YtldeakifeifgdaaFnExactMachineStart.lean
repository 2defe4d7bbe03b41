/- For any row, table and room, right or wrong, MachineStart of the program answers as its model does, writes into no argument, and its answer owns its memory; no condition. -/
import Derived.Test.YtldeakifeifgdaaRows
import Derived.WalkKit
import Derived.ProofKit
import Derived.OpenShut
import Derived.ShutString
import Derived.ChangeOld
import Derived.Below
import Derived.Test.YtldeakifeifgdaaNd0
import Derived.Test.YtldeakifeifgdaaNd1
import Derived.Test.YtldeakifeifgdaaNd2
import Derived.Test.YtldeakifeifgdaaNd3
import Derived.Test.YtldeakifeifgdaaAp1
import Derived.Test.YtldeakifeifgdaaNd6
import Derived.Test.YtldeakifeifgdaaQc0
import Derived.Test.YtldeakifeifgdaaTa0
import Derived.Test.YtldeakifeifgdaaTa1
import Derived.Test.YtldeakifeifgdaaPl1
import Derived.Test.YtldeakifeifgdaaTm0
import Derived.Test.YtldeakifeifgdaaTm1
import Derived.Test.YtldeakifeifgdaaTm2
import Derived.Test.YtldeakifeifgdaaTm3
import Derived.Test.YtldeakifeifgdaaTx0
import Derived.Test.YtldeakifeifgdaaSs0
import Derived.Test.YtldeakifeifgdaaWs1
import Derived.Test.YtldeakifeifgdaaSs1
import Derived.Test.YtldeakifeifgdaaMm0
import Derived.Test.YtldeakifeifgdaaPkNb
import Derived.Test.YtldeakifeifgdaaTa2
import Derived.Test.YtldeakifeifgdaaTc2
import Derived.Test.YtldeakifeifgdaaTc3
import Derived.Test.YtldeakifeifgdaaTc4
import Derived.Test.YtldeakifeifgdaaTc5
import Derived.Test.YtldeakifeifgdaaAp9
import Derived.Test.YtldeakifeifgdaaTd1
import Derived.Test.YtldeakifeifgdaaTa3
import Derived.Test.YtldeakifeifgdaaPkNc
import Derived.Test.YtldeakifeifgdaaTd2
import Derived.Test.YtldeakifeifgdaaTd3
import Derived.Test.YtldeakifeifgdaaTd4
import Derived.Test.YtldeakifeifgdaaMm1
import Derived.Test.YtldeakifeifgdaaDq0
import Derived.Test.YtldeakifeifgdaaDm1
import Derived.Test.YtldeakifeifgdaaMm2
import Derived.Test.YtldeakifeifgdaaQc1
import Derived.Test.YtldeakifeifgdaaPkNd
import Derived.Test.YtldeakifeifgdaaPkPc
import Derived.Test.YtldeakifeifgdaaAp0
import Derived.Test.YtldeakifeifgdaaQc2
import Derived.Test.YtldeakifeifgdaaCl0
import Derived.Test.YtldeakifeifgdaaCp0
import Derived.Test.YtldeakifeifgdaaMs0
import Derived.Test.YtldeakifeifgdaaTc1
import Derived.Test.YtldeakifeifgdaaTc6
import Derived.Test.YtldeakifeifgdaaTc7
import Derived.Test.YtldeakifeifgdaaTc8
import Derived.Test.YtldeakifeifgdaaTc9
import Derived.Test.YtldeakifeifgdaaTc10
import Derived.Test.YtldeakifeifgdaaTe1
import Derived.Test.YtldeakifeifgdaaTe3
import Derived.Test.YtldeakifeifgdaaPkPa
import Derived.Test.YtldeakifeifgdaaPkPb
namespace Go.Proofs.Ytldeakifeifgdaa.fnExactMachineStart
open Go.ChangeShapes Go.WideShapes Go.ChangeAt Go.RowKit
open Go.ChangeMaps (open_string shut_string)
set_option linter.unusedVariables false

open Nd0 Nd1 Nd2 Nd3 Ap1 Nd6 Op2 Op4 Qc0 Ta0 Ta1 Pl1 Tm0 Tm1 Tm2 Tm3 Tx0 Ss0 Ws1 Ss1 Mm0 Ta2 Tc2 Tc3 Tc4 Tc5 Ap9 Td1 Ta3 De0 De1 Dv0 Mc0 Td2 Td3 Td4 Mm1 Dq0 Dm1 Mm2 Qc1 Mx0 Ap11 Sa0 Ap0 Qc2 Cl0 Cp0 Ms0 Tc1 Tc6 Tc7 Tc8 Tc9 Tc10 Te1 Te3 Mi1 Mi2 Mi3 Mi4 Ia0 Mk0 Lx43

theorem own : ownKnob Try.prog.godebug = none := by kernel_rfl
theorem laidOut : laidOutB Try.prog = true := by kernel_rfl

set_option maxHeartbeats 1000000 in
theorem walk (a0 : Option Addr) (len0 cap0 : Nat) (l0 : List Bool) (hl0 : l0.length = len0) (N1 : Int) (S1 : ByteArray) (a2 : Int) (w : World) (w0 : Nd6.Bools w a0 l0) (w1 : S1.size ≤ maxLen) (w2 : (Lit.int .i64 a2).wf = true) :
    Calls Try.prog 4 #[.slice a0 len0 cap0, .agg #[.int .i64 N1, .string S1], .int .i64 a2] w fun e w' => e = .returned (.bool true) ∧ Below w.heap.size w w' := by
  subst hl0
  exact Lx43.exMachineStart w a0 l0 cap0 N1 S1 a2 w0 w1

set_option maxRecDepth 100000 in
theorem lifted (os : Os) (started : os.Started) (H : Type) (enc : TypeId × Value → H) :
    ReturnsInHanded {} Try.checked os 4 .any (Rows.fnExactMachineStartSpec.pre6 enc Try.prog Try.f4 Rows.fnExactMachineStartRow.domain false) (Rows.fnExactMachineStartSpec.post enc Try.prog Try.f4 false true false false) := by
  refine returnsInHanded_of_change (C := Try.checked) own started (by kernel_rfl) Try.func4
    (ChangeSpec.witness6 (enc := enc) (C := Try.checked) false ⟨#[], #[.slice none 0 0, .agg #[.int .i64 0, .string ByteArray.empty], .int .i64 0], []⟩ 8 (by kernel_rfl) (by kernel_rfl) (by kernel_rfl) (by kernel_rfl)) ?_
  intro W base args ds gs before hval0 hW hcnd _
  have hval : ∀ (j : Nat) t v, Try.f4.params[j]? = some t → args[j]? = some v → Value.okWide Try.prog W .any base t v := hval0
  have hW' := hW
  obtain ⟨p, q, hA0, hV, rfl, hfz, hnd⟩ := hW
  have hA : DataW.TrodAll enc Try.prog W 0 (fun _ => true) true Try.f4.params.toList args.toList ds p := hA0
  rw [Try.params4] at hA hval
  obtain ⟨v0, vs0, d0, ds0, p0, q0, hargs, rfl, rfl, h0, r0⟩ := trodAll_cons hA
  obtain ⟨v1, vs1, d1, ds1, p1, q1, hargs1, rfl, rfl, h1, r1⟩ := trodAll_cons r0
  obtain ⟨v2, vs2, d2, ds2, p2, q2, hargs2, rfl, rfl, h2, r2⟩ := trodAll_cons r1
  obtain ⟨rfl, rfl, rfl⟩ := trodAll_nil r2
  obtain rfl : args = #[v0, v1, v2] := by cases args; simp_all
  obtain ⟨rfl, rfl⟩ := trodVars_none hV
  obtain ⟨a0, len0, cap0, rfl⟩ := okWide_slice Try.underlying22 (hval 0 22 v0 rfl rfl)
  have k0 := h0
  have lt0 : ∀ x ∈ p0, x.block < W.heap.size := by obtain ⟨m, hm⟩ := k0; exact DataW.trod_lt m _ _ _ hm
  obtain ⟨_, l0, hl0, w0⟩ : len0 ≤ maxLen ∧ ∃ l : List Bool, l.length = len0 ∧ Nd6.Bools W a0 l := by
    obtain ⟨fuel, hf⟩ := h0
    exact Op4.bools_open (by simpa [Value.cells] using hf)
  obtain ⟨cs1, rfl, _⟩ := okWide_struct Try.underlying24 (hval 1 24 v1 rfl rfl)
  have k1 := h1
  have lt1 : ∀ x ∈ p1, x.block < W.heap.size := by obtain ⟨m, hm⟩ := k1; exact DataW.trod_lt m _ _ _ hm
  obtain ⟨N1, S1, hn1, w1⟩ : ∃ (N : Int) (S : ByteArray), cs1.toList = [.int .i64 N, .string S] ∧ S.size ≤ maxLen := by
    obtain ⟨fuel, hf⟩ := h1
    exact Op2.table_open (by simpa [Value.cells] using hf)
  obtain rfl : cs1 = #[.int .i64 N1, .string S1] := by cases cs1; simp_all
  obtain ⟨a2, rfl, rfl, rfl, w2⟩ := open_int Try.underlying3 (hval 2 3 v2 rfl rfl) h2
  clear hA0 hval0
  refine (walk a0 len0 cap0 l0 hl0 N1 S1 a2 W w0 w1 w2).mono fun e W' ⟨he, bel⟩ => ?_
  subst he
  exact ⟨_, rfl, _, _, _, [], _, [], hW', trodAll_mk1 (shut_bool Try.underlying4 _), (trodAll_cons_mk (Below.trod laidOut (by kernel_rfl) (of_decide_eq_true (by kernel_rfl)) k0 bel lt0) (trodAll_cons_mk (Below.trod laidOut (by kernel_rfl) (of_decide_eq_true (by kernel_rfl)) k1 bel lt1) (trodAll_cons_mk (shut_int Try.underlying3 w2) trodAll_mk0))), rfl, bel.frame _, fun h => by cases h⟩

theorem over : Rows.fnExactMachineStartRow.holds Try.pinned (OpenSpec.ofChange Rows.fnExactMachineStartSpec) :=
  OpenClaim.holds_of_wide 4 Try.f4 rfl rfl rfl rfl rfl rfl rfl ⟨rfl, rfl, rfl, rfl, rfl⟩ rfl rfl rfl rfl rfl (by kernel_rfl) Try.func4 (by kernel_rfl)
    (of_decide_eq_true (by kernel_rfl)) (by unfold Func.isWrapper; first | (rw [if_pos (by decide +kernel)]; kernel_rfl) | (rw [if_neg (by decide +kernel)]; exact ⟨rfl, rfl⟩))
    (fun os started H enc _ => lifted os started H enc)

end Go.Proofs.Ytldeakifeifgdaa.fnExactMachineStart
namespace Go.Proofs.Ytldeakifeifgdaa
theorem fnExactMachineStart_holds : Rows.FnExactMachineStartSaid := fnExactMachineStart.over
end Go.Proofs.Ytldeakifeifgdaa
