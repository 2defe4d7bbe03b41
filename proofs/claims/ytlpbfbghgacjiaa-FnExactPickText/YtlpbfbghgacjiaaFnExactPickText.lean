/- For any pick, right or wrong, PickText of the program answers as its model does and writes nothing; no condition. -/
import Derived.Test.YtlpbfbghgacjiaaRows
import Derived.WalkKit
import Derived.ProofKit
import Derived.OpenShut
import Derived.ShutString
import Derived.ChangeOld
import Derived.Below
import Derived.Test.YtlpbfbghgacjiaaNd0
import Derived.Test.YtlpbfbghgacjiaaOp2
import Derived.Test.YtlpbfbghgacjiaaOp6
import Derived.Test.YtlpbfbghgacjiaaTa0
import Derived.Test.YtlpbfbghgacjiaaTa1
import Derived.Test.YtlpbfbghgacjiaaPl1
import Derived.Test.YtlpbfbghgacjiaaTm0
import Derived.Test.YtlpbfbghgacjiaaTm1
import Derived.Test.YtlpbfbghgacjiaaTm2
import Derived.Test.YtlpbfbghgacjiaaTm3
import Derived.Test.YtlpbfbghgacjiaaTx0
import Derived.Test.YtlpbfbghgacjiaaSs0
import Derived.Test.YtlpbfbghgacjiaaWs1
import Derived.Test.YtlpbfbghgacjiaaSs1
import Derived.Test.YtlpbfbghgacjiaaTc2
import Derived.Test.YtlpbfbghgacjiaaTc3
import Derived.Test.YtlpbfbghgacjiaaTc4
import Derived.Test.YtlpbfbghgacjiaaTc5
import Derived.Test.YtlpbfbghgacjiaaTc1
import Derived.Test.YtlpbfbghgacjiaaTc6
import Derived.Test.YtlpbfbghgacjiaaTc7
import Derived.Test.YtlpbfbghgacjiaaTc8
import Derived.Test.YtlpbfbghgacjiaaTc9
import Derived.Test.YtlpbfbghgacjiaaTc10
import Derived.Test.YtlpbfbghgacjiaaAp9
import Derived.Test.YtlpbfbghgacjiaaTd1
import Derived.Test.YtlpbfbghgacjiaaTd2
import Derived.Test.YtlpbfbghgacjiaaTa2
import Derived.Test.YtlpbfbghgacjiaaTe1
import Derived.Test.YtlpbfbghgacjiaaTd3
import Derived.Test.YtlpbfbghgacjiaaTd4
import Derived.Test.YtlpbfbghgacjiaaTe3
import Derived.Test.YtlpbfbghgacjiaaVo0
import Derived.Test.YtlpbfbghgacjiaaNd1
import Derived.Test.YtlpbfbghgacjiaaNd2
import Derived.Test.YtlpbfbghgacjiaaNd3
import Derived.Test.YtlpbfbghgacjiaaAp1
import Derived.Test.YtlpbfbghgacjiaaNd6
import Derived.Test.YtlpbfbghgacjiaaWp0
import Derived.Test.YtlpbfbghgacjiaaWp1
import Derived.Test.YtlpbfbghgacjiaaWp2
import Derived.Test.YtlpbfbghgacjiaaLx50
namespace Go.Proofs.Ytlpbfbghgacjiaa.fnExactPickText
open Go.ChangeShapes Go.WideShapes Go.ChangeAt Go.RowKit
open Go.ChangeMaps (open_string shut_string)
set_option linter.unusedVariables false

open Nd0 Op2 Op6 Ta0 Ta1 Pl1 Tm0 Tm1 Tm2 Tm3 Tx0 Ss0 Ws1 Ss1 Tc2 Tc3 Tc4 Tc5 Tc1 Tc6 Tc7 Tc8 Tc9 Tc10 Ap9 Td1 Td2 Ta2 Te1 Td3 Td4 Te3 Vo0 Nd1 Nd2 Nd3 Ap1 Nd6 Wp0 Wp1 Wp2 Lx50

theorem own : ownKnob Try.prog.godebug = none := by kernel_rfl
theorem laidOut : laidOutB Try.prog = true := by kernel_rfl

set_option maxHeartbeats 1000000 in
theorem walk (a0 : Option Addr) (c0 : Nat) (l0 : List Int) (v0 : Int) (w : World) (w0 : Nd0.Ints w a0 l0) :
    Calls Try.prog 7 #[.agg #[.slice a0 l0.length c0, .int .i64 v0]] w fun e w' => e = .returned (.bool true) ∧ Below w.heap.size w w' := by
  exact Lx50.exPickText w a0 l0 c0 v0 w0

set_option maxRecDepth 100000 in
theorem lifted (os : Os) (started : os.Started) (H : Type) (enc : TypeId × Value → H) :
    ReturnsInHanded {} Try.checked os 7 .any (Rows.fnExactPickTextSpec.pre6 enc Try.prog Try.f7 Rows.fnExactPickTextRow.domain false) (Rows.fnExactPickTextSpec.post enc Try.prog Try.f7 false true false false) := by
  refine returnsInHanded_of_change (C := Try.checked) own started (by kernel_rfl) Try.func7
    (ChangeSpec.witness6 (enc := enc) (C := Try.checked) false ⟨#[], #[.agg #[.slice none 0 0, .int .i64 0]], []⟩ 8 (by kernel_rfl) (by kernel_rfl) (by kernel_rfl) (by kernel_rfl)) ?_
  intro W base args ds gs before hval0 hW hcnd _
  have hval : ∀ (j : Nat) t v, Try.f7.params[j]? = some t → args[j]? = some v → Value.okWide Try.prog W .any base t v := hval0
  have hW' := hW
  obtain ⟨p, q, hA0, hV, rfl, hfz, hnd⟩ := hW
  have hA : DataW.TrodAll enc Try.prog W 0 (fun _ => true) true Try.f7.params.toList args.toList ds p := hA0
  rw [Try.params7] at hA hval
  obtain ⟨v0, vs0, d0, ds0, p0, q0, hargs, rfl, rfl, h0, r0⟩ := trodAll_cons hA
  obtain ⟨rfl, rfl, rfl⟩ := trodAll_nil r0
  obtain rfl : args = #[v0] := by cases args; simp_all
  obtain ⟨rfl, rfl⟩ := trodVars_none hV
  obtain ⟨cs0, rfl, _⟩ := okWide_struct Try.underlying57 (hval 0 57 v0 rfl rfl)
  have k0 := h0
  have lt0 : ∀ x ∈ p0, x.block < W.heap.size := by obtain ⟨m, hm⟩ := k0; exact DataW.trod_lt m _ _ _ hm
  obtain ⟨a0, c0, l0, pv0, hn0, w0⟩ : ∃ (a : Option Addr) (c : Nat) (l : List Int) (v : Int), cs0.toList = [.slice a l.length c, .int .i64 v] ∧ Nd0.Ints W a l := by
    obtain ⟨fuel, hf⟩ := h0
    exact Op6.pick_open (by simpa [Value.cells] using hf)
  obtain rfl : cs0 = #[.slice a0 l0.length c0, .int .i64 pv0] := by cases cs0; simp_all
  clear hA0 hval0
  refine (walk a0 c0 l0 pv0 W w0).mono fun e W' ⟨he, bel⟩ => ?_
  subst he
  exact ⟨_, rfl, _, _, _, [], _, [], hW', trodAll_mk1 (shut_bool Try.underlying4 _), (trodAll_cons_mk (Below.trod laidOut (by kernel_rfl) (of_decide_eq_true (by kernel_rfl)) k0 bel lt0) trodAll_mk0), rfl, bel.frame _, fun h => by cases h⟩

theorem over : Rows.fnExactPickTextRow.holds Try.pinned (OpenSpec.ofChange Rows.fnExactPickTextSpec) :=
  OpenClaim.holds_of_wide 7 Try.f7 rfl rfl rfl rfl rfl rfl rfl ⟨rfl, rfl, rfl, rfl, rfl⟩ rfl rfl rfl rfl rfl (by kernel_rfl) Try.func7 (by kernel_rfl)
    (of_decide_eq_true (by kernel_rfl)) (by unfold Func.isWrapper; first | (rw [if_pos (by decide +kernel)]; kernel_rfl) | (rw [if_neg (by decide +kernel)]; exact ⟨rfl, rfl⟩))
    (fun os started H enc _ => lifted os started H enc)

end Go.Proofs.Ytlpbfbghgacjiaa.fnExactPickText
namespace Go.Proofs.Ytlpbfbghgacjiaa
theorem fnExactPickText_holds : Rows.FnExactPickTextSaid := fnExactPickText.over
end Go.Proofs.Ytlpbfbghgacjiaa
