/- For any text, ReadPick of the program answers as its model does, writes into no argument, and its answer owns its memory; whatever number the library's variable internal/bytealg.MaxLen holds. -/
import Derived.Test.YtlpbfbghgacjiaaRows
import Derived.WalkKit
import Derived.ProofKit
import Derived.OpenShut
import Derived.ShutString
import Derived.ChangeOld
import Derived.Below
import Derived.HandedShaped
import Derived.Test.YtlpbfbghgacjiaaSh0
import Derived.Test.YtlpbfbghgacjiaaTa0
import Derived.Test.YtlpbfbghgacjiaaTa1
import Derived.Test.YtlpbfbghgacjiaaNd0
import Derived.Test.YtlpbfbghgacjiaaPl1
import Derived.Test.YtlpbfbghgacjiaaTm0
import Derived.Test.YtlpbfbghgacjiaaTm1
import Derived.Test.YtlpbfbghgacjiaaTm2
import Derived.Test.YtlpbfbghgacjiaaTm3
import Derived.Test.YtlpbfbghgacjiaaTx0
import Derived.Test.YtlpbfbghgacjiaaSs0
import Derived.Test.YtlpbfbghgacjiaaWs1
import Derived.Test.YtlpbfbghgacjiaaSs1
import Derived.Test.YtlpbfbghgacjiaaTc2
import Derived.Test.YtlpbfbghgacjiaaTc3
import Derived.Test.YtlpbfbghgacjiaaTc4
import Derived.Test.YtlpbfbghgacjiaaTc5
import Derived.Test.YtlpbfbghgacjiaaTc1
import Derived.Test.YtlpbfbghgacjiaaTc6
import Derived.Test.YtlpbfbghgacjiaaTc7
import Derived.Test.YtlpbfbghgacjiaaTc8
import Derived.Test.YtlpbfbghgacjiaaTc9
import Derived.Test.YtlpbfbghgacjiaaTc10
import Derived.Test.YtlpbfbghgacjiaaAp9
import Derived.Test.YtlpbfbghgacjiaaTd1
import Derived.Test.YtlpbfbghgacjiaaTd2
import Derived.Test.YtlpbfbghgacjiaaTa2
import Derived.Test.YtlpbfbghgacjiaaTe1
import Derived.Test.YtlpbfbghgacjiaaTd3
import Derived.Test.YtlpbfbghgacjiaaTd4
import Derived.Test.YtlpbfbghgacjiaaTe3
import Derived.Test.YtlpbfbghgacjiaaVo0
import Derived.Test.YtlpbfbghgacjiaaNd1
import Derived.Test.YtlpbfbghgacjiaaNd2
import Derived.Test.YtlpbfbghgacjiaaNd3
import Derived.Test.YtlpbfbghgacjiaaAp1
import Derived.Test.YtlpbfbghgacjiaaNd6
import Derived.Test.YtlpbfbghgacjiaaWp0
import Derived.Test.YtlpbfbghgacjiaaWp1
import Derived.Test.YtlpbfbghgacjiaaWp3
import Derived.Test.YtlpbfbghgacjiaaAp0
import Derived.Test.YtlpbfbghgacjiaaWp4
import Derived.Test.YtlpbfbghgacjiaaShelf2
import Derived.Test.YtlpbfbghgacjiaaWp5
import Derived.Test.YtlpbfbghgacjiaaWp2
import Derived.Test.YtlpbfbghgacjiaaWp6
import Derived.Test.YtlpbfbghgacjiaaLx51
namespace Go.Proofs.Ytlpbfbghgacjiaa.fnExactReadPick
open Go.ChangeShapes Go.WideShapes Go.ChangeAt Go.RowKit
open Go.ChangeMaps (open_string shut_string)
set_option linter.unusedVariables false

open Sh0 Ta0 Ta1 Nd0 Pl1 Tm0 Tm1 Tm2 Tm3 Tx0 Ss0 Ws1 Ss1 Tc2 Tc3 Tc4 Tc5 Tc1 Tc6 Tc7 Tc8 Tc9 Tc10 Ap9 Td1 Td2 Ta2 Te1 Td3 Td4 Te3 Vo0 Nd1 Nd2 Nd3 Ap1 Nd6 Wp0 Wp1 Wp3 Ap0 Wp4 Wp5 Wp2 Wp6 Lx51

theorem own : ownKnob Try.prog.godebug = none := by kernel_rfl
theorem laidOut : laidOutB Try.prog = true := by kernel_rfl

set_option maxHeartbeats 1000000 in
theorem walk (a0 : ByteArray) (w0 : a0.size ≤ maxLen) (w : World) (wM : ∃ m, w.cell? ⟨0, 0, none⟩ = some (.int .i64 m)) :
    Calls Try.prog 8 #[.string a0] w fun e w' => e = .returned (.bool true) ∧ Below w.heap.size w w' := by
  exact Lx51.exReadPick w a0 w0 wM

set_option maxRecDepth 100000 in
theorem lifted (os : Os) (started : os.Started) (H : Type) (enc : TypeId × Value → H) :
    ReturnsInHanded {} Try.checked os 8 .any (Rows.fnExactReadPickSpec.pre6 enc Try.prog Try.f8 Rows.fnExactReadPickRow.domain false) (Rows.fnExactReadPickSpec.post enc Try.prog Try.f8 false true false false) := by
  refine returnsInHanded_of_change_shaped (C := Try.checked) own started (by kernel_rfl) Try.func8
    (ChangeSpec.witness6 (enc := enc) (C := Try.checked) false ⟨#[], #[.string ByteArray.empty], []⟩ 8 (by kernel_rfl) (by kernel_rfl) (by kernel_rfl) (by kernel_rfl)) ?_
  intro W base args ds gs before hval0 hW hcnd _ hsh _
  have hval : ∀ (j : Nat) t v, Try.f8.params[j]? = some t → args[j]? = some v → Value.okWide Try.prog W .any base t v := hval0
  have hW' := hW
  obtain ⟨p, q, hA0, hV, rfl, hfz, hnd⟩ := hW
  have hA : DataW.TrodAll enc Try.prog W 0 (fun _ => true) true Try.f8.params.toList args.toList ds p := hA0
  rw [Try.params8] at hA hval
  obtain ⟨v0, vs0, d0, ds0, p0, q0, hargs, rfl, rfl, h0, r0⟩ := trodAll_cons hA
  obtain ⟨rfl, rfl, rfl⟩ := trodAll_nil r0
  obtain rfl : args = #[v0] := by cases args; simp_all
  obtain ⟨rfl, rfl⟩ := trodVars_none hV
  obtain ⟨a0, rfl, rfl, rfl, w0⟩ := open_string Try.underlying9 (hval 0 9 v0 rfl rfl) h0
  clear hA0 hval0
  refine (walk a0 w0 W (Sh0.max_of_shaped hsh)).mono fun e W' ⟨he, bel⟩ => ?_
  subst he
  exact ⟨_, rfl, _, _, _, [], _, [], hW', trodAll_mk1 (shut_bool Try.underlying4 _), (trodAll_cons_mk (shut_string Try.underlying9 w0) trodAll_mk0), rfl, bel.frame _, fun h => by cases h⟩

theorem over : Rows.fnExactReadPickRow.holds Try.pinned (OpenSpec.ofChange Rows.fnExactReadPickSpec) :=
  OpenClaim.holds_of_wide 8 Try.f8 rfl rfl rfl rfl rfl rfl rfl ⟨rfl, rfl, rfl, rfl, rfl⟩ rfl rfl rfl rfl rfl (by kernel_rfl) Try.func8 (by kernel_rfl)
    (of_decide_eq_true (by kernel_rfl)) (by unfold Func.isWrapper; first | (rw [if_pos (by decide +kernel)]; kernel_rfl) | (rw [if_neg (by decide +kernel)]; exact ⟨rfl, rfl⟩))
    (fun os started H enc _ => lifted os started H enc)

end Go.Proofs.Ytlpbfbghgacjiaa.fnExactReadPick
namespace Go.Proofs.Ytlpbfbghgacjiaa
theorem fnExactReadPick_holds : Rows.FnExactReadPickSaid := fnExactReadPick.over
end Go.Proofs.Ytlpbfbghgacjiaa
