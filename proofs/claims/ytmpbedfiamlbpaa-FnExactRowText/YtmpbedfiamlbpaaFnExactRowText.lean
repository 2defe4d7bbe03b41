/- For any row of flags RowText of the program answers as its model does and writes into none; no condition. -/
import Derived.Test.YtmpbedfiamlbpaaRows
import Derived.WalkKit
import Derived.ProofKit
import Derived.OpenShut
import Derived.ShutString
import Derived.ChangeOld
import Derived.Below
import Derived.Test.YtmpbedfiamlbpaaNd0
import Derived.Test.YtmpbedfiamlbpaaNd1
import Derived.Test.YtmpbedfiamlbpaaNd2
import Derived.Test.YtmpbedfiamlbpaaNd3
import Derived.Test.YtmpbedfiamlbpaaAp1
import Derived.Test.YtmpbedfiamlbpaaNd6
import Derived.Test.YtmpbedfiamlbpaaOp2
import Derived.Test.YtmpbedfiamlbpaaOp4
import Derived.Test.YtmpbedfiamlbpaaTa0
import Derived.Test.YtmpbedfiamlbpaaTa1
import Derived.Test.YtmpbedfiamlbpaaPl1
import Derived.Test.YtmpbedfiamlbpaaTm0
import Derived.Test.YtmpbedfiamlbpaaTm1
import Derived.Test.YtmpbedfiamlbpaaTm2
import Derived.Test.YtmpbedfiamlbpaaTm3
import Derived.Test.YtmpbedfiamlbpaaTx0
import Derived.Test.YtmpbedfiamlbpaaSs0
import Derived.Test.YtmpbedfiamlbpaaWs1
import Derived.Test.YtmpbedfiamlbpaaSs1
import Derived.Test.YtmpbedfiamlbpaaTc2
import Derived.Test.YtmpbedfiamlbpaaTc3
import Derived.Test.YtmpbedfiamlbpaaTc4
import Derived.Test.YtmpbedfiamlbpaaTc5
import Derived.Test.YtmpbedfiamlbpaaAp9
import Derived.Test.YtmpbedfiamlbpaaTd1
import Derived.Test.YtmpbedfiamlbpaaTd2
import Derived.Test.YtmpbedfiamlbpaaZa0
import Derived.Test.YtmpbedfiamlbpaaTa2
import Derived.Test.YtmpbedfiamlbpaaDq0
import Derived.Test.YtmpbedfiamlbpaaLx60
namespace Go.Proofs.Ytmpbedfiamlbpaa.fnExactRowText
open Go.ChangeShapes Go.WideShapes Go.ChangeAt Go.RowKit
open Go.ChangeMaps (open_string shut_string)
set_option linter.unusedVariables false

open Nd0 Nd1 Nd2 Nd3 Ap1 Nd6 Op2 Op4 Ta0 Ta1 Pl1 Tm0 Tm1 Tm2 Tm3 Tx0 Ss0 Ws1 Ss1 Tc2 Tc3 Tc4 Tc5 Ap9 Td1 Td2 Za0 Ta2 Dq0 Lx60

theorem own : ownKnob Try.prog.godebug = none := by kernel_rfl
theorem laidOut : laidOutB Try.prog = true := by kernel_rfl

set_option maxHeartbeats 1000000 in
theorem walk (a0 : Option Addr) (len0 cap0 : Nat) (l0 : List Bool) (hl0 : l0.length = len0) (w : World) (w0 : Nd6.Bools w a0 l0) :
    Calls Try.prog 3 #[.slice a0 len0 cap0] w fun e w' => e = .returned (.bool true) ∧ Below w.heap.size w w' := by
  subst hl0
  exact Lx60.exRowText w a0 l0 cap0 w0

set_option maxRecDepth 100000 in
theorem lifted (os : Os) (started : os.Started) (H : Type) (enc : TypeId × Value → H) :
    ReturnsInHanded {} Try.checked os 3 .any (Rows.fnExactRowTextSpec.pre6 enc Try.prog Try.f3 Rows.fnExactRowTextRow.domain false) (Rows.fnExactRowTextSpec.post enc Try.prog Try.f3 false true false false) := by
  refine returnsInHanded_of_change (C := Try.checked) own started (by kernel_rfl) Try.func3
    (ChangeSpec.witness6 (enc := enc) (C := Try.checked) false ⟨#[], #[.slice none 0 0], []⟩ 8 (by kernel_rfl) (by kernel_rfl) (by kernel_rfl) (by kernel_rfl)) ?_
  intro W base args ds gs before hval0 hW hcnd _
  have hval : ∀ (j : Nat) t v, Try.f3.params[j]? = some t → args[j]? = some v → Value.okWide Try.prog W .any base t v := hval0
  have hW' := hW
  obtain ⟨p, q, hA0, hV, rfl, hfz, hnd⟩ := hW
  have hA : DataW.TrodAll enc Try.prog W 0 (fun _ => true) true Try.f3.params.toList args.toList ds p := hA0
  rw [Try.params3] at hA hval
  obtain ⟨v0, vs0, d0, ds0, p0, q0, hargs, rfl, rfl, h0, r0⟩ := trodAll_cons hA
  obtain ⟨rfl, rfl, rfl⟩ := trodAll_nil r0
  obtain rfl : args = #[v0] := by cases args; simp_all
  obtain ⟨rfl, rfl⟩ := trodVars_none hV
  obtain ⟨a0, len0, cap0, rfl⟩ := okWide_slice Try.underlying22 (hval 0 22 v0 rfl rfl)
  have k0 := h0
  have lt0 : ∀ x ∈ p0, x.block < W.heap.size := by obtain ⟨m, hm⟩ := k0; exact DataW.trod_lt m _ _ _ hm
  obtain ⟨_, l0, hl0, w0⟩ : len0 ≤ maxLen ∧ ∃ l : List Bool, l.length = len0 ∧ Nd6.Bools W a0 l := by
    obtain ⟨fuel, hf⟩ := h0
    exact Op4.bools_open (by simpa [Value.cells] using hf)
  clear hA0 hval0
  refine (walk a0 len0 cap0 l0 hl0 W w0).mono fun e W' ⟨he, bel⟩ => ?_
  subst he
  exact ⟨_, rfl, _, _, _, [], _, [], hW', trodAll_mk1 (shut_bool Try.underlying4 _), (trodAll_cons_mk (Below.trod laidOut (by kernel_rfl) (of_decide_eq_true (by kernel_rfl)) k0 bel lt0) trodAll_mk0), rfl, bel.frame _, fun h => by cases h⟩

theorem over : Rows.fnExactRowTextRow.holds Try.pinned (OpenSpec.ofChange Rows.fnExactRowTextSpec) :=
  OpenClaim.holds_of_wide 3 Try.f3 rfl rfl rfl rfl rfl rfl rfl ⟨rfl, rfl, rfl, rfl, rfl⟩ rfl rfl rfl rfl rfl (by kernel_rfl) Try.func3 (by kernel_rfl)
    (of_decide_eq_true (by kernel_rfl)) (by unfold Func.isWrapper; first | (rw [if_pos (by decide +kernel)]; kernel_rfl) | (rw [if_neg (by decide +kernel)]; exact ⟨rfl, rfl⟩))
    (fun os started H enc _ => lifted os started H enc)

end Go.Proofs.Ytmpbedfiamlbpaa.fnExactRowText
namespace Go.Proofs.Ytmpbedfiamlbpaa
theorem fnExactRowText_holds : Rows.FnExactRowTextSaid := fnExactRowText.over
end Go.Proofs.Ytmpbedfiamlbpaa
