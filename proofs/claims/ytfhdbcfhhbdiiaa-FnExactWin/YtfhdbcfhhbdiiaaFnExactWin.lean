/- For any row of flags and any table, right or wrong, Win of the program gives what its model does, writes into neither, and its list of picks is its own; no condition. -/
import Derived.Test.YtfhdbcfhhbdiiaaRows
import Derived.OpenShut
import Derived.ShutString
import Derived.ChangeOld
import Derived.Below
import Derived.Test.YtfhdbcfhhbdiiaaOp4
import Derived.Test.YtfhdbcfhhbdiiaaLx53
namespace Go.Proofs.Ytfhdbcfhhbdiiaa.fnExactWin
open Go.ChangeShapes Go.WideShapes Go.ChangeAt Go.RowKit
open Go.ChangeMaps (open_string shut_string)
set_option linter.unusedVariables false

open Nd0 Nd1 Nd2 Nd3 Ap1 Nd6 Op2 Op4 Ta0 Ta1 Pl1 Tm0 Tm1 Tm2 Tm3 Tx0 Ss0 Ws1 Ss1 Tc2 Tc3 Tc4 Tc5 Wp0 Op6 Wp7 Ap0 Wr0 Wq0 Wr1 Ta2 Ap9 Td1 Ta3 De0 De1 Dv0 Tc1 Tc6 Tc7 Dp1 Dp3 Tc8 Tc9 Tc10 Td2 Te1 Td3 Td4 Td5 Te4 Dp4 Dp5 Te3 Vo0 Dqa Dq1 Wp12 Wp15 Wr2 Wp16 Wp17 Wp18 Wp19 Wr16 Mc0 Wr3 Wr4 Wr5 Dm1 Dm2 Dm3 Wr6 Wr7 Lx53

theorem own : ownKnob Try.prog.godebug = none := by kernel_rfl
theorem laidOut : laidOutB Try.prog = true := by kernel_rfl

set_option maxHeartbeats 1000000 in
theorem walk (a0 : Option Addr) (len0 cap0 : Nat) (l0 : List Bool) (hl0 : l0.length = len0) (N1 : Int) (S1 : ByteArray) (w : World) (w0 : Nd6.Bools w a0 l0) (w1 : S1.size ≤ maxLen) :
    Calls Try.prog 4 #[.slice a0 len0 cap0, .agg #[.int .i64 N1, .string S1]] w fun e w' => e = .returned (.bool true) ∧ Below w.heap.size w w' := by
  subst hl0
  exact Lx53.exWin w a0 l0 cap0 N1 S1 w0 w1

set_option maxRecDepth 100000 in
theorem lifted (os : Os) (started : os.Started) (H : Type) (enc : TypeId × Value → H) :
    ReturnsInHanded {} Try.checked os 4 .any (Rows.fnExactWinSpec.pre6 enc Try.prog Try.f4 Rows.fnExactWinRow.domain false) (Rows.fnExactWinSpec.post enc Try.prog Try.f4 false true false false) := by
  refine returnsInHanded_of_change (C := Try.checked) own started (by kernel_rfl) Try.func4
    (ChangeSpec.witness6 (enc := enc) (C := Try.checked) false ⟨#[], #[.slice none 0 0, .agg #[.int .i64 0, .string ByteArray.empty]], []⟩ 8 (by kernel_rfl) (by kernel_rfl) (by kernel_rfl) (by kernel_rfl)) ?_
  intro W base args ds gs before hval0 hW hcnd _
  have hval : ∀ (j : Nat) t v, Try.f4.params[j]? = some t → args[j]? = some v → Value.okWide Try.prog W .any base t v := hval0
  have hW' := hW
  obtain ⟨p, q, hA0, hV, rfl, hfz, hnd⟩ := hW
  have hA : DataW.TrodAll enc Try.prog W 0 (fun _ => true) true Try.f4.params.toList args.toList ds p := hA0
  rw [Try.params4] at hA hval
  obtain ⟨v0, vs0, d0, ds0, p0, q0, hargs, rfl, rfl, h0, r0⟩ := trodAll_cons hA
  obtain ⟨v1, vs1, d1, ds1, p1, q1, hargs1, rfl, rfl, h1, r1⟩ := trodAll_cons r0
  obtain ⟨rfl, rfl, rfl⟩ := trodAll_nil r1
  obtain rfl : args = #[v0, v1] := by cases args; simp_all
  obtain ⟨rfl, rfl⟩ := trodVars_none hV
  obtain ⟨a0, len0, cap0, rfl⟩ := okWide_slice Try.underlying24 (hval 0 24 v0 rfl rfl)
  have k0 := h0
  have lt0 : ∀ x ∈ p0, x.block < W.heap.size := by obtain ⟨m, hm⟩ := k0; exact DataW.trod_lt m _ _ _ hm
  obtain ⟨_, l0, hl0, w0⟩ : len0 ≤ maxLen ∧ ∃ l : List Bool, l.length = len0 ∧ Nd6.Bools W a0 l := by
    obtain ⟨fuel, hf⟩ := h0
    exact Op4.bools_open (by simpa [Value.cells] using hf)
  obtain ⟨cs1, rfl, _⟩ := okWide_struct Try.underlying40 (hval 1 40 v1 rfl rfl)
  have k1 := h1
  have lt1 : ∀ x ∈ p1, x.block < W.heap.size := by obtain ⟨m, hm⟩ := k1; exact DataW.trod_lt m _ _ _ hm
  obtain ⟨N1, S1, hn1, w1⟩ : ∃ (N : Int) (S : ByteArray), cs1.toList = [.int .i64 N, .string S] ∧ S.size ≤ maxLen := by
    obtain ⟨fuel, hf⟩ := h1
    exact Op2.table_open (by simpa [Value.cells] using hf)
  obtain rfl : cs1 = #[.int .i64 N1, .string S1] := by cases cs1; simp_all
  clear hA0 hval0
  refine (walk a0 len0 cap0 l0 hl0 N1 S1 W w0 w1).mono fun e W' ⟨he, bel⟩ => ?_
  subst he
  exact ⟨_, rfl, _, _, _, [], _, [], hW', trodAll_mk1 (shut_bool Try.underlying4 _), (trodAll_cons_mk (Below.trod laidOut (by kernel_rfl) (of_decide_eq_true (by kernel_rfl)) k0 bel lt0) (trodAll_cons_mk (Below.trod laidOut (by kernel_rfl) (of_decide_eq_true (by kernel_rfl)) k1 bel lt1) trodAll_mk0)), rfl, bel.frame _, fun h => by cases h⟩

theorem over : Rows.fnExactWinRow.holds Try.pinned (OpenSpec.ofChange Rows.fnExactWinSpec) :=
  OpenClaim.holds_of_wide 4 Try.f4 rfl rfl rfl rfl rfl rfl rfl ⟨rfl, rfl, rfl, rfl, rfl⟩ rfl rfl rfl rfl rfl (by kernel_rfl) Try.func4 (by kernel_rfl)
    (of_decide_eq_true (by kernel_rfl)) (by unfold Func.isWrapper; first | (rw [if_pos (by decide +kernel)]; kernel_rfl) | (rw [if_neg (by decide +kernel)]; exact ⟨rfl, rfl⟩))
    (fun os started H enc _ => lifted os started H enc)

end Go.Proofs.Ytfhdbcfhhbdiiaa.fnExactWin
namespace Go.Proofs.Ytfhdbcfhhbdiiaa
theorem fnExactWin_holds : Rows.FnExactWinSaid := fnExactWin.over
end Go.Proofs.Ytfhdbcfhhbdiiaa
