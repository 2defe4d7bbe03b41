/- For any row of flags, any table, right or wrong, and any whole number, Merge of the program answers as its model does and writes into none; no condition. -/
import Derived.Test.YteplffphkakliaaRows
import Derived.WalkKit
import Derived.ProofKit
import Derived.OpenShut
import Derived.ShutString
import Derived.ChangeOld
import Derived.Below
import Derived.Test.YteplffphkakliaaNd0
import Derived.Test.YteplffphkakliaaNd1
import Derived.Test.YteplffphkakliaaNd2
import Derived.Test.YteplffphkakliaaNd3
import Derived.Test.YteplffphkakliaaAp1
import Derived.Test.YteplffphkakliaaNd6
import Derived.Test.YteplffphkakliaaOp2
import Derived.Test.YteplffphkakliaaOp4
import Derived.Test.YteplffphkakliaaTa0
import Derived.Test.YteplffphkakliaaTa1
import Derived.Test.YteplffphkakliaaPl1
import Derived.Test.YteplffphkakliaaTm0
import Derived.Test.YteplffphkakliaaTm1
import Derived.Test.YteplffphkakliaaTm2
import Derived.Test.YteplffphkakliaaTm3
import Derived.Test.YteplffphkakliaaTx0
import Derived.Test.YteplffphkakliaaSs0
import Derived.Test.YteplffphkakliaaWs1
import Derived.Test.YteplffphkakliaaSs1
import Derived.Test.YteplffphkakliaaTa2
import Derived.Test.YteplffphkakliaaTc2
import Derived.Test.YteplffphkakliaaTc3
import Derived.Test.YteplffphkakliaaTc4
import Derived.Test.YteplffphkakliaaTc5
import Derived.Test.YteplffphkakliaaAp9
import Derived.Test.YteplffphkakliaaTd1
import Derived.Test.YteplffphkakliaaTa3
import Derived.Test.YteplffphkakliaaDe0
import Derived.Test.YteplffphkakliaaDe1
import Derived.Test.YteplffphkakliaaDv0
import Derived.Test.YteplffphkakliaaDq0
import Derived.Test.YteplffphkakliaaTd2
import Derived.Test.YteplffphkakliaaTd3
import Derived.Test.YteplffphkakliaaTd4
import Derived.Test.YteplffphkakliaaDm1
import Derived.Test.YteplffphkakliaaDm5
import Derived.Test.YteplffphkakliaaTc1
import Derived.Test.YteplffphkakliaaTc6
import Derived.Test.YteplffphkakliaaTc7
import Derived.Test.YteplffphkakliaaDp1
import Derived.Test.YteplffphkakliaaDp2
import Derived.Test.YteplffphkakliaaDp3
import Derived.Test.YteplffphkakliaaTc8
import Derived.Test.YteplffphkakliaaTc9
import Derived.Test.YteplffphkakliaaTc10
import Derived.Test.YteplffphkakliaaTe1
import Derived.Test.YteplffphkakliaaAp0
import Derived.Test.YteplffphkakliaaTd5
import Derived.Test.YteplffphkakliaaTe4
import Derived.Test.YteplffphkakliaaDp4
import Derived.Test.YteplffphkakliaaDp7
import Derived.Test.YteplffphkakliaaTe3
import Derived.Test.YteplffphkakliaaDp8
import Derived.Test.YteplffphkakliaaLx33
namespace Go.Proofs.Yteplffphkakliaa.fnExactMerge
open Go.ChangeShapes Go.WideShapes Go.ChangeAt Go.RowKit
open Go.ChangeMaps (open_string shut_string)
set_option linter.unusedVariables false

open Nd0 Nd1 Nd2 Nd3 Ap1 Nd6 Op2 Op4 Ta0 Ta1 Pl1 Tm0 Tm1 Tm2 Tm3 Tx0 Ss0 Ws1 Ss1 Ta2 Tc2 Tc3 Tc4 Tc5 Ap9 Td1 Ta3 De0 De1 Dv0 Dq0 Td2 Td3 Td4 Dm1 Dm5 Tc1 Tc6 Tc7 Dp1 Dp2 Dp3 Tc8 Tc9 Tc10 Te1 Ap0 Td5 Te4 Dp4 Dp7 Te3 Dp8 Lx33

theorem own : ownKnob Try.prog.godebug = none := by kernel_rfl
theorem laidOut : laidOutB Try.prog = true := by kernel_rfl

set_option maxHeartbeats 1000000 in
theorem walk (a0 : Option Addr) (len0 cap0 : Nat) (l0 : List Bool) (hl0 : l0.length = len0) (N1 : Int) (S1 : ByteArray) (a2 : Int) (w : World) (w0 : Nd6.Bools w a0 l0) (w1 : S1.size ≤ maxLen) (w2 : (Lit.int .i64 a2).wf = true) :
    Calls Try.prog 10 #[.slice a0 len0 cap0, .agg #[.int .i64 N1, .string S1], .int .i64 a2] w fun e w' => e = .returned (.bool true) ∧ Below w.heap.size w w' := by
  subst hl0
  exact exMerge w a0 l0 cap0 N1 S1 a2 w0 w1

set_option maxRecDepth 100000 in
theorem lifted (os : Os) (started : os.Started) (H : Type) (enc : TypeId × Value → H) :
    ReturnsInHanded {} Try.checked os 10 .any (Rows.fnExactMergeSpec.pre6 enc Try.prog Try.f10 Rows.fnExactMergeRow.domain false) (Rows.fnExactMergeSpec.post enc Try.prog Try.f10 false true false false) := by
  refine returnsInHanded_of_change (C := Try.checked) own started (by kernel_rfl) Try.func10
    (ChangeSpec.witness6 (enc := enc) (C := Try.checked) false ⟨#[], #[.slice none 0 0, .agg #[.int .i64 0, .string ByteArray.empty], .int .i64 0], []⟩ 8 (by kernel_rfl) (by kernel_rfl) (by kernel_rfl) (by kernel_rfl)) ?_
  intro W base args ds gs before hval0 hW hcnd _
  have hval : ∀ (j : Nat) t v, Try.f10.params[j]? = some t → args[j]? = some v → Value.okWide Try.prog W .any base t v := hval0
  have hW' := hW
  obtain ⟨p, q, hA0, hV, rfl, hfz, hnd⟩ := hW
  have hA : DataW.TrodAll enc Try.prog W 0 (fun _ => true) true Try.f10.params.toList args.toList ds p := hA0
  rw [Try.params10] at hA hval
  obtain ⟨v0, vs0, d0, ds0, p0, q0, hargs, rfl, rfl, h0, r0⟩ := trodAll_cons hA
  obtain ⟨v1, vs1, d1, ds1, p1, q1, hargs1, rfl, rfl, h1, r1⟩ := trodAll_cons r0
  obtain ⟨v2, vs2, d2, ds2, p2, q2, hargs2, rfl, rfl, h2, r2⟩ := trodAll_cons r1
  obtain ⟨rfl, rfl, rfl⟩ := trodAll_nil r2
  obtain rfl : args = #[v0, v1, v2] := by cases args; simp_all
  obtain ⟨rfl, rfl⟩ := trodVars_none hV
  obtain ⟨a0, len0, cap0, rfl⟩ := okWide_slice Try.underlying24 (hval 0 24 v0 rfl rfl)
  have k0 := h0
  have lt0 : ∀ x ∈ p0, x.block < W.heap.size := by obtain ⟨m, hm⟩ := k0; exact DataW.trod_lt m _ _ _ hm
  obtain ⟨_, l0, hl0, w0⟩ : len0 ≤ maxLen ∧ ∃ l : List Bool, l.length = len0 ∧ Nd6.Bools W a0 l := by
    obtain ⟨fuel, hf⟩ := h0
    exact Op4.bools_open (by simpa [Value.cells] using hf)
  obtain ⟨cs1, rfl, _⟩ := okWide_struct Try.underlying40 (hval 1 40 v1 rfl rfl)
  have k1 := h1
  have lt1 : ∀ x ∈ p1, x.block < W.heap.size := by obtain ⟨m, hm⟩ := k1; exact DataW.trod_lt m _ _ _ hm
  obtain ⟨N1, S1, hn1, w1⟩ : ∃ (N : Int) (S : ByteArray), cs1.toList = [.int .i64 N, .string S] ∧ S.size ≤ maxLen := by
    obtain ⟨fuel, hf⟩ := h1
    exact Op2.table_open (by simpa [Value.cells] using hf)
  obtain rfl : cs1 = #[.int .i64 N1, .string S1] := by cases cs1; simp_all
  obtain ⟨a2, rfl, rfl, rfl, w2⟩ := open_int Try.underlying3 (hval 2 3 v2 rfl rfl) h2
  clear hA0 hval0
  refine (walk a0 len0 cap0 l0 hl0 N1 S1 a2 W w0 w1 w2).mono fun e W' ⟨he, bel⟩ => ?_
  subst he
  exact ⟨_, rfl, _, _, _, [], _, [], hW', trodAll_mk1 (shut_bool Try.underlying4 _), (trodAll_cons_mk (Below.trod laidOut (by kernel_rfl) (of_decide_eq_true (by kernel_rfl)) k0 bel lt0) (trodAll_cons_mk (Below.trod laidOut (by kernel_rfl) (of_decide_eq_true (by kernel_rfl)) k1 bel lt1) (trodAll_cons_mk (shut_int Try.underlying3 w2) trodAll_mk0))), rfl, bel.frame _, fun h => by cases h⟩

theorem over : Rows.fnExactMergeRow.holds Try.pinned (OpenSpec.ofChange Rows.fnExactMergeSpec) :=
  OpenClaim.holds_of_wide 10 Try.f10 rfl rfl rfl rfl rfl rfl rfl ⟨rfl, rfl, rfl, rfl, rfl⟩ rfl rfl rfl rfl rfl (by kernel_rfl) Try.func10 (by kernel_rfl)
    (of_decide_eq_true (by kernel_rfl)) (by unfold Func.isWrapper; first | (rw [if_pos (by decide +kernel)]; kernel_rfl) | (rw [if_neg (by decide +kernel)]; exact ⟨rfl, rfl⟩))
    (fun os started H enc _ => lifted os started H enc)

end Go.Proofs.Yteplffphkakliaa.fnExactMerge
namespace Go.Proofs.Yteplffphkakliaa
theorem fnExactMerge_holds : Rows.FnExactMergeSaid := fnExactMerge.over
end Go.Proofs.Yteplffphkakliaa
