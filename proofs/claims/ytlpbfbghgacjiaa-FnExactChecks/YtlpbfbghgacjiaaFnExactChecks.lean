/- For any row of flags, any table, any number and any list of picks, right or wrong, Checks of the program answers as its model does and writes into none; no condition. -/
import Derived.Test.YtlpbfbghgacjiaaRows
import Derived.WalkKit
import Derived.ProofKit
import Derived.OpenShut
import Derived.ShutString
import Derived.ChangeOld
import Derived.Below
import Derived.Test.YtlpbfbghgacjiaaPkR0
import Derived.Test.YtlpbfbghgacjiaaAp1
import Derived.Test.YtlpbfbghgacjiaaPkR2
import Derived.Test.YtlpbfbghgacjiaaTa0
import Derived.Test.YtlpbfbghgacjiaaPkR4
import Derived.Test.YtlpbfbghgacjiaaPkR5
import Derived.Test.YtlpbfbghgacjiaaPkR6
import Derived.Test.YtlpbfbghgacjiaaPkR7
import Derived.Test.YtlpbfbghgacjiaaPkR8
import Derived.Test.YtlpbfbghgacjiaaTc10
import Derived.Test.YtlpbfbghgacjiaaPkR10
import Derived.Test.YtlpbfbghgacjiaaPkR11
import Derived.Test.YtlpbfbghgacjiaaTd4
import Derived.Test.YtlpbfbghgacjiaaPkR13
import Derived.Test.YtlpbfbghgacjiaaPkR14
import Derived.Test.YtlpbfbghgacjiaaPkR15
import Derived.Test.YtlpbfbghgacjiaaPkR16
import Derived.Test.YtlpbfbghgacjiaaPkR17
import Derived.Test.YtlpbfbghgacjiaaPkR18
import Derived.Test.YtlpbfbghgacjiaaPkR19
import Derived.Test.YtlpbfbghgacjiaaPkR20
import Derived.Test.YtlpbfbghgacjiaaPkR21
import Derived.Test.YtlpbfbghgacjiaaPkR22
import Derived.Test.YtlpbfbghgacjiaaPkR23
import Derived.Test.YtlpbfbghgacjiaaWp10
import Derived.Test.YtlpbfbghgacjiaaPkR25
import Derived.Test.YtlpbfbghgacjiaaPkR26
import Derived.Test.YtlpbfbghgacjiaaWp8
import Derived.Test.YtlpbfbghgacjiaaLx52
namespace Go.Proofs.Ytlpbfbghgacjiaa.fnExactChecks
open Go.ChangeShapes Go.WideShapes Go.ChangeAt Go.RowKit
open Go.ChangeMaps (open_string shut_string)
set_option linter.unusedVariables false

open Nd0 Nd1 Nd2 Nd3 Ap1 Nd6 Op2 Op4 Ta0 Ta1 Pl1 Tm0 Tm1 Tm2 Tm3 Tx0 Ss0 Ws1 Ss1 Tc2 Tc3 Tc4 Tc5 Tc1 Tc6 Tc7 Tc8 Tc9 Tc10 Ap9 Td1 Td2 Ta2 Te1 Td3 Td4 Te3 Vo0 Ta3 De0 De1 Dv0 Dp1 Dp3 Ap0 Td5 Te4 Dp4 Dq0 Dq1 Wp12 Wp15 Wp16 Wp17 Wp18 Wp19 Mv0 Wp0 Op6 Wp7 Wp13 Wp9 Wp14 Wq0 Wp10 Wp20 Wp21 Wp22 Dm1 Wp11 Wp23 Wp8 Lx52

theorem own : ownKnob Try.prog.godebug = none := by kernel_rfl
theorem laidOut : laidOutB Try.prog = true := by kernel_rfl

set_option maxHeartbeats 1000000 in
theorem walk (a0 : Option Addr) (len0 cap0 : Nat) (l0 : List Bool) (hl0 : l0.length = len0) (N1 : Int) (S1 : ByteArray) (a2 : Int) (a3 : Option Addr) (len3 cap3 : Nat) (l3 : List Op6.Pk) (hl3 : l3.length = len3) (w : World) (w0 : Nd6.Bools w a0 l0) (w1 : S1.size ≤ maxLen) (w2 : (Lit.int .i64 a2).wf = true) (w3 : Op6.Pks w a3 l3) (wf3 : ∀ p ∈ l3, (Lit.int .i64 p.v).wf = true) :
    Calls Try.prog 5 #[.slice a0 len0 cap0, .agg #[.int .i64 N1, .string S1], .int .i64 a2, .slice a3 len3 cap3] w fun e w' => e = .returned (.bool true) ∧ Below w.heap.size w w' := by
  subst hl0 hl3
  exact Lx52.exChecks w a0 l0 cap0 N1 S1 a2 a3 l3 cap3 w0 w1 w3 wf3

set_option maxRecDepth 100000 in
theorem lifted (os : Os) (started : os.Started) (H : Type) (enc : TypeId × Value → H) :
    ReturnsInHanded {} Try.checked os 5 .any (Rows.fnExactChecksSpec.pre6 enc Try.prog Try.f5 Rows.fnExactChecksRow.domain false) (Rows.fnExactChecksSpec.post enc Try.prog Try.f5 false true false false) := by
  refine returnsInHanded_of_change (C := Try.checked) own started (by kernel_rfl) Try.func5
    (ChangeSpec.witness6 (enc := enc) (C := Try.checked) false ⟨#[], #[.slice none 0 0, .agg #[.int .i64 0, .string ByteArray.empty], .int .i64 0, .slice none 0 0], []⟩ 8 (by kernel_rfl) (by kernel_rfl) (by kernel_rfl) (by kernel_rfl)) ?_
  intro W base args ds gs before hval0 hW hcnd _
  have hval : ∀ (j : Nat) t v, Try.f5.params[j]? = some t → args[j]? = some v → Value.okWide Try.prog W .any base t v := hval0
  have hW' := hW
  obtain ⟨p, q, hA0, hV, rfl, hfz, hnd⟩ := hW
  have hA : DataW.TrodAll enc Try.prog W 0 (fun _ => true) true Try.f5.params.toList args.toList ds p := hA0
  rw [Try.params5] at hA hval
  obtain ⟨v0, vs0, d0, ds0, p0, q0, hargs, rfl, rfl, h0, r0⟩ := trodAll_cons hA
  obtain ⟨v1, vs1, d1, ds1, p1, q1, hargs1, rfl, rfl, h1, r1⟩ := trodAll_cons r0
  obtain ⟨v2, vs2, d2, ds2, p2, q2, hargs2, rfl, rfl, h2, r2⟩ := trodAll_cons r1
  obtain ⟨v3, vs3, d3, ds3, p3, q3, hargs3, rfl, rfl, h3, r3⟩ := trodAll_cons r2
  obtain ⟨rfl, rfl, rfl⟩ := trodAll_nil r3
  obtain rfl : args = #[v0, v1, v2, v3] := by cases args; simp_all
  obtain ⟨rfl, rfl⟩ := trodVars_none hV
  obtain ⟨a0, len0, cap0, rfl⟩ := okWide_slice Try.underlying24 (hval 0 24 v0 rfl rfl)
  have k0 := h0
  have lt0 : ∀ x ∈ p0, x.block < W.heap.size := by obtain ⟨m, hm⟩ := k0; exact DataW.trod_lt m _ _ _ hm
  obtain ⟨_, l0, hl0, w0⟩ : len0 ≤ maxLen ∧ ∃ l : List Bool, l.length = len0 ∧ Nd6.Bools W a0 l := by
    obtain ⟨fuel, hf⟩ := h0
    exact Op4.bools_open (by simpa [Value.cells] using hf)
  obtain ⟨cs1, rfl, _⟩ := okWide_struct Try.underlying40 (hval 1 40 v1 rfl rfl)
  have k1 := h1
  have lt1 : ∀ x ∈ p1, x.block < W.heap.size := by obtain ⟨m, hm⟩ := k1; exact DataW.trod_lt m _ _ _ hm
  obtain ⟨N1, S1, hn1, w1⟩ : ∃ (N : Int) (S : ByteArray), cs1.toList = [.int .i64 N, .string S] ∧ S.size ≤ maxLen := by
    obtain ⟨fuel, hf⟩ := h1
    exact Op2.table_open (by simpa [Value.cells] using hf)
  obtain rfl : cs1 = #[.int .i64 N1, .string S1] := by cases cs1; simp_all
  obtain ⟨a2, rfl, rfl, rfl, w2⟩ := open_int Try.underlying3 (hval 2 3 v2 rfl rfl) h2
  obtain ⟨a3, len3, cap3, rfl⟩ := okWide_slice Try.underlying49 (hval 3 49 v3 rfl rfl)
  have k3 := h3
  have lt3 : ∀ x ∈ p3, x.block < W.heap.size := by obtain ⟨m, hm⟩ := k3; exact DataW.trod_lt m _ _ _ hm
  obtain ⟨_, l3, hl3, w3, wf3⟩ : len3 ≤ maxLen ∧ ∃ l : List Op6.Pk, l.length = len3 ∧ Op6.Pks W a3 l ∧ ∀ p ∈ l, (Lit.int .i64 p.v).wf = true := by
    obtain ⟨fuel, hf⟩ := h3
    exact Op6.picks_open (by simpa [Value.cells] using hf)
  clear hA0 hval0
  refine (walk a0 len0 cap0 l0 hl0 N1 S1 a2 a3 len3 cap3 l3 hl3 W w0 w1 w2 w3 wf3).mono fun e W' ⟨he, bel⟩ => ?_
  subst he
  exact ⟨_, rfl, _, _, _, [], _, [], hW', trodAll_mk1 (shut_bool Try.underlying4 _), (trodAll_cons_mk (Below.trod laidOut (by kernel_rfl) (of_decide_eq_true (by kernel_rfl)) k0 bel lt0) (trodAll_cons_mk (Below.trod laidOut (by kernel_rfl) (of_decide_eq_true (by kernel_rfl)) k1 bel lt1) (trodAll_cons_mk (shut_int Try.underlying3 w2) (trodAll_cons_mk (Below.trod laidOut (by kernel_rfl) (of_decide_eq_true (by kernel_rfl)) k3 bel lt3) trodAll_mk0)))), rfl, bel.frame _, fun h => by cases h⟩

theorem over : Rows.fnExactChecksRow.holds Try.pinned (OpenSpec.ofChange Rows.fnExactChecksSpec) :=
  OpenClaim.holds_of_wide 5 Try.f5 rfl rfl rfl rfl rfl rfl rfl ⟨rfl, rfl, rfl, rfl, rfl⟩ rfl rfl rfl rfl rfl (by kernel_rfl) Try.func5 (by kernel_rfl)
    (of_decide_eq_true (by kernel_rfl)) (by unfold Func.isWrapper; first | (rw [if_pos (by decide +kernel)]; kernel_rfl) | (rw [if_neg (by decide +kernel)]; exact ⟨rfl, rfl⟩))
    (fun os started H enc _ => lifted os started H enc)

end Go.Proofs.Ytlpbfbghgacjiaa.fnExactChecks
namespace Go.Proofs.Ytlpbfbghgacjiaa
theorem fnExactChecks_holds : Rows.FnExactChecksSaid := fnExactChecks.over
end Go.Proofs.Ytlpbfbghgacjiaa
