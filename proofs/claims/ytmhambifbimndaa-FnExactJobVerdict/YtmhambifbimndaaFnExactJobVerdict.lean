/- For any job, right or wrong, JobVerdict of the program answers as its model does and writes nothing; no condition. -/
import Derived.Test.YtmhambifbimndaaRows
import Derived.WalkKit
import Derived.ProofKit
import Derived.OpenShut
import Derived.ShutString
import Derived.ChangeOld
import Derived.Below
import Derived.Test.YtmhambifbimndaaNd0
import Derived.Test.YtmhambifbimndaaQc0
import Derived.Test.YtmhambifbimndaaPkJ2
import Derived.Test.YtmhambifbimndaaPkJ3
import Derived.Test.YtmhambifbimndaaNd6
import Derived.Test.YtmhambifbimndaaOp4
import Derived.Test.YtmhambifbimndaaTa0
import Derived.Test.YtmhambifbimndaaTa1
import Derived.Test.YtmhambifbimndaaPl1
import Derived.Test.YtmhambifbimndaaPkJ9
import Derived.Test.YtmhambifbimndaaTm3
import Derived.Test.YtmhambifbimndaaTx0
import Derived.Test.YtmhambifbimndaaPkJ12
import Derived.Test.YtmhambifbimndaaSs1
import Derived.Test.YtmhambifbimndaaMm0
import Derived.Test.YtmhambifbimndaaPkJ15
import Derived.Test.YtmhambifbimndaaQc1
import Derived.Test.YtmhambifbimndaaTc2
import Derived.Test.YtmhambifbimndaaTc3
import Derived.Test.YtmhambifbimndaaTa2
import Derived.Test.YtmhambifbimndaaDq0
import Derived.Test.YtmhambifbimndaaMx0
import Derived.Test.YtmhambifbimndaaJb0
import Derived.Test.YtmhambifbimndaaMx1
import Derived.Test.YtmhambifbimndaaJb1
import Derived.Test.YtmhambifbimndaaPkJ25
import Derived.Test.YtmhambifbimndaaPkJ26
import Derived.Test.YtmhambifbimndaaTa3
import Derived.Test.YtmhambifbimndaaDe0
import Derived.Test.YtmhambifbimndaaDe1
import Derived.Test.YtmhambifbimndaaDv0
import Derived.Test.YtmhambifbimndaaMc0
import Derived.Test.YtmhambifbimndaaPkJ32
import Derived.Test.YtmhambifbimndaaDm1
import Derived.Test.YtmhambifbimndaaMm2
import Derived.Test.YtmhambifbimndaaPkJ35
import Derived.Test.YtmhambifbimndaaPkJ36
import Derived.Test.YtmhambifbimndaaPkJ37
import Derived.Test.YtmhambifbimndaaTe3
import Derived.Test.YtmhambifbimndaaMi1
import Derived.Test.YtmhambifbimndaaMi2
import Derived.Test.YtmhambifbimndaaMi3
import Derived.Test.YtmhambifbimndaaMi4
import Derived.Test.YtmhambifbimndaaJb2
import Derived.Test.YtmhambifbimndaaJb2p
import Derived.Test.YtmhambifbimndaaJb3
import Derived.Test.YtmhambifbimndaaLx71
namespace Go.Proofs.Ytmhambifbimndaa.fnExactJobVerdict
open Go.ChangeShapes Go.WideShapes Go.ChangeAt Go.RowKit
open Go.ChangeMaps (open_string shut_string)
set_option linter.unusedVariables false

open Nd0 Qc0 Qc3 Op2 Nd1 Nd2 Nd3 Ap1 Nd6 Op4 Ta0 Ta1 Pl1 Tm0 Tm1 Tm2 Tm3 Tx0 Ss0 Ws1 Ss1 Mm0 Op5 Op7 Qc1 Tc2 Tc3 Ta2 Dq0 Mx0 Jb0 Mx1 Jb1 Tc4 Tc5 Ap9 Td1 Ta3 De0 De1 Dv0 Mc0 Td2 Td3 Td4 Mm1 Dm1 Mm2 Ms0 Tc1 Tc6 Tc7 Tc8 Tc9 Tc10 Te1 Te3 Mi1 Mi2 Mi3 Mi4 Jb2 Jb2p Jb3 Lx71

theorem own : ownKnob Try.prog.godebug = none := by kernel_rfl
theorem laidOut : laidOutB Try.prog = true := by kernel_rfl

set_option maxHeartbeats 1000000 in
theorem walk (st0 : Int) (m0 : Mm0.Mc) (jr0 : ByteArray) (sy0 : Int) (ra0 va0 ma0 : Option Addr) (rc0 vc0 mc0 : Nat) (w : World) (w0 : Mm0.Mr w m0 ra0 va0 ma0) (s0 : m0.S.size ≤ maxLen) (k0 : ∀ x ∈ m0.memo, x.k.size ≤ maxLen) (z0 : jr0.size ≤ maxLen) :
    Calls Try.prog 4 #[Jb0.jval st0 m0 jr0 sy0 ra0 va0 ma0 rc0 vc0 mc0] w fun e w' => e = .returned (.bool true) ∧ Below w.heap.size w w' := by
  exact Lx71.exJobVerdict w st0 m0 jr0 sy0 ra0 va0 ma0 rc0 vc0 mc0 w0 s0 k0 z0

set_option maxRecDepth 100000 in
theorem lifted (os : Os) (started : os.Started) (H : Type) (enc : TypeId × Value → H) :
    ReturnsInHanded {} Try.checked os 4 .any (Rows.fnExactJobVerdictSpec.pre6 enc Try.prog Try.f4 Rows.fnExactJobVerdictRow.domain false) (Rows.fnExactJobVerdictSpec.post enc Try.prog Try.f4 false true false false) := by
  refine returnsInHanded_of_change (C := Try.checked) own started (by kernel_rfl) Try.func4
    (ChangeSpec.witness6 (enc := enc) (C := Try.checked) false ⟨#[], #[.agg #[.int .i64 0, .slice none 0 0, .int .i64 0, .string ByteArray.empty, .int .i64 0, .slice none 0 0, .int .i64 0, .bool false, .int .i64 0, .int .i64 0, .int .i64 0, .slice none 0 0, .string ByteArray.empty, .int .i64 0]], []⟩ 8 (by kernel_rfl) (by kernel_rfl) (by kernel_rfl) (by kernel_rfl)) ?_
  intro W base args ds gs before hval0 hW hcnd _
  have hval : ∀ (j : Nat) t v, Try.f4.params[j]? = some t → args[j]? = some v → Value.okWide Try.prog W .any base t v := hval0
  have hW' := hW
  obtain ⟨p, q, hA0, hV, rfl, hfz, hnd⟩ := hW
  have hA : DataW.TrodAll enc Try.prog W 0 (fun _ => true) true Try.f4.params.toList args.toList ds p := hA0
  rw [Try.params4] at hA hval
  obtain ⟨v0, vs0, d0, ds0, p0, q0, hargs, rfl, rfl, h0, r0⟩ := trodAll_cons hA
  obtain ⟨rfl, rfl, rfl⟩ := trodAll_nil r0
  obtain rfl : args = #[v0] := by cases args; simp_all
  obtain ⟨rfl, rfl⟩ := trodVars_none hV
  obtain ⟨cs0, rfl, _⟩ := okWide_struct Try.underlying30 (hval 0 30 v0 rfl rfl)
  have k0 := h0
  have lt0 : ∀ x ∈ p0, x.block < W.heap.size := by obtain ⟨m, hm⟩ := k0; exact DataW.trod_lt m _ _ _ hm
  obtain ⟨st0, m0, jr0, sy0, ra0, va0, ma0, rc0, vc0, mc0, hn0, w0, s0, kk0, z0⟩ : ∃ (st0 : Int) (m0 : Mm0.Mc) (jr0 : ByteArray) (sy0 : Int) (ra0 va0 ma0 : Option Addr) (rc0 vc0 mc0 : Nat), cs0.toList = [.int .i64 st0, .slice ra0 m0.row.length rc0, .int .i64 m0.N, .string m0.S, .int .i64 m0.room, .slice va0 m0.vals.length vc0, .int .i64 m0.ret, .bool m0.over, .int .i64 m0.steps, .int .i64 m0.looks, .int .i64 m0.hits, .slice ma0 m0.memo.length mc0, .string jr0, .int .i64 sy0] ∧ Mm0.Mr W m0 ra0 va0 ma0 ∧ m0.S.size ≤ maxLen ∧ (∀ x ∈ m0.memo, x.k.size ≤ maxLen) ∧ jr0.size ≤ maxLen := by
    obtain ⟨fuel, hf⟩ := h0
    exact Op7.job_open (by simpa [Value.cells] using hf)
  obtain rfl : cs0 = #[.int .i64 st0, .slice ra0 m0.row.length rc0, .int .i64 m0.N, .string m0.S, .int .i64 m0.room, .slice va0 m0.vals.length vc0, .int .i64 m0.ret, .bool m0.over, .int .i64 m0.steps, .int .i64 m0.looks, .int .i64 m0.hits, .slice ma0 m0.memo.length mc0, .string jr0, .int .i64 sy0] := by cases cs0; simp_all
  clear hA0 hval0
  refine (walk st0 m0 jr0 sy0 ra0 va0 ma0 rc0 vc0 mc0 W w0 s0 kk0 z0).mono fun e W' ⟨he, bel⟩ => ?_
  subst he
  exact ⟨_, rfl, _, _, _, [], _, [], hW', trodAll_mk1 (shut_bool Try.underlying4 _), (trodAll_cons_mk (Below.trod laidOut (by kernel_rfl) (of_decide_eq_true (by kernel_rfl)) k0 bel lt0) trodAll_mk0), rfl, bel.frame _, fun h => by cases h⟩

theorem over : Rows.fnExactJobVerdictRow.holds Try.pinned (OpenSpec.ofChange Rows.fnExactJobVerdictSpec) :=
  OpenClaim.holds_of_wide 4 Try.f4 rfl rfl rfl rfl rfl rfl rfl ⟨rfl, rfl, rfl, rfl, rfl⟩ rfl rfl rfl rfl rfl (by kernel_rfl) Try.func4 (by kernel_rfl)
    (of_decide_eq_true (by kernel_rfl)) (by unfold Func.isWrapper; first | (rw [if_pos (by decide +kernel)]; kernel_rfl) | (rw [if_neg (by decide +kernel)]; exact ⟨rfl, rfl⟩))
    (fun os started H enc _ => lifted os started H enc)

end Go.Proofs.Ytmhambifbimndaa.fnExactJobVerdict
namespace Go.Proofs.Ytmhambifbimndaa
theorem fnExactJobVerdict_holds : Rows.FnExactJobVerdictSaid := fnExactJobVerdict.over
end Go.Proofs.Ytmhambifbimndaa
