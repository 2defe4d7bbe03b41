/- Whatever bytes the law is drawn from: the circuit of a table is right, has the table's inputs and at most three ands for each of its places, and its wire is worth what the table says, turned it is the table of what is not; what is no table has no circuit; no condition. -/
import Derived.Test.YtnpfegfjejfaaaaRows
import Derived.WalkKit
import Derived.ProofKit
import Derived.OpenShut
import Derived.ShutString
import Derived.ChangeOld
import Derived.Below
import Derived.Test.YtnpfegfjejfaaaaTa0
import Derived.Test.YtnpfegfjejfaaaaTa1
import Derived.Test.YtnpfegfjejfaaaaNd0
import Derived.Test.YtnpfegfjejfaaaaPl1
import Derived.Test.YtnpfegfjejfaaaaPkHg
import Derived.Test.YtnpfegfjejfaaaaWs1
import Derived.Test.YtnpfegfjejfaaaaSs1
import Derived.Test.YtnpfegfjejfaaaaPkHk
import Derived.Test.YtnpfegfjejfaaaaAp9
import Derived.Test.YtnpfegfjejfaaaaTd1
import Derived.Test.YtnpfegfjejfaaaaTd2
import Derived.Test.YtnpfegfjejfaaaaPkHe
import Derived.Test.YtnpfegfjejfaaaaPkHf
import Derived.Test.YtnpfegfjejfaaaaQb0
import Derived.Test.YtnpfegfjejfaaaaGr0
import Derived.Test.YtnpfegfjejfaaaaGr1
import Derived.Test.YtnpfegfjejfaaaaWv0
import Derived.Test.YtnpfegfjejfaaaaTa2
import Derived.Test.YtnpfegfjejfaaaaTa3
import Derived.Test.YtnpfegfjejfaaaaPkHi
import Derived.Test.YtnpfegfjejfaaaaMq0
import Derived.Test.YtnpfegfjejfaaaaQb2
import Derived.Test.YtnpfegfjejfaaaaNt0
import Derived.Test.YtnpfegfjejfaaaaAp10
import Derived.Test.YtnpfegfjejfaaaaPkHj
import Derived.Test.YtnpfegfjejfaaaaWv1
import Derived.Test.YtnpfegfjejfaaaaGp7
import Derived.Test.YtnpfegfjejfaaaaGt0
import Derived.Test.YtnpfegfjejfaaaaWv2
import Derived.Test.YtnpfegfjejfaaaaGv0
import Derived.Test.YtnpfegfjejfaaaaGr2
import Derived.Test.YtnpfegfjejfaaaaGr5
import Derived.Test.YtnpfegfjejfaaaaGp4
import Derived.Test.YtnpfegfjejfaaaaNd1
import Derived.Test.YtnpfegfjejfaaaaQb1
import Derived.Test.YtnpfegfjejfaaaaGx0
import Derived.Test.YtnpfegfjejfaaaaGp5
import Derived.Test.YtnpfegfjejfaaaaTc1
import Derived.Test.YtnpfegfjejfaaaaPkGc
import Derived.Test.YtnpfegfjejfaaaaTe1
import Derived.Test.YtnpfegfjejfaaaaPkHc
import Derived.Test.YtnpfegfjejfaaaaTe3
import Derived.Test.YtnpfegfjejfaaaaPkHa
import Derived.Test.YtnpfegfjejfaaaaGp9
import Derived.Test.YtnpfegfjejfaaaaGp8
import Derived.Test.YtnpfegfjejfaaaaGp6
import Derived.Test.YtnpfegfjejfaaaaAp1
import Derived.Test.YtnpfegfjejfaaaaPkHm
import Derived.Test.YtnpfegfjejfaaaaLw4
import Derived.Test.YtnpfegfjejfaaaaLgr1
namespace Go.Proofs.Ytnpfegfjejfaaaa.fnGraph
open Go.ChangeShapes Go.WideShapes Go.ChangeAt Go.RowKit
open Go.ChangeMaps (open_string shut_string)
set_option linter.unusedVariables false

theorem own : ownKnob Try.prog.godebug = none := by kernel_rfl
theorem laidOut : laidOutB Try.prog = true := by kernel_rfl

def IsRow (k : IntKind) (w : World) (a : Option Addr) (len cap : Nat) (zs : List Int) : Prop :=
  (a = none ∧ len = 0 ∧ cap = 0 ∧ zs = []) ∨
  ∃ x, a = some x ∧ len ≤ cap ∧ cap ≤ maxLen ∧ zs.length = cap ∧ (∀ i, i < zs.length → w.cell? (x.add i) = some (.int k (zs.getD i 0))) ∧ ∀ n ∈ zs, (Lit.int k n).wf = true

open Ta0 Ta1 Nd0 Pl1 Tm0 Tm1 Tm2 Tm3 Tx0 Ss0 Ws1 Ss1 Tc2 Tc3 Tc4 Tc5 Ap9 Td1 Td2 Dr0 Dr1 Dr4 Tdr Tds Tdv Qb0 Gr0 Gr1 Wv0 Ta2 Ta3 Gr3 Gr4 Mq0 Qb2 Nt0 Gp1 Ap10 Gp2 Gp3 Wv1 Gp7 Gt0 Wv2 Gv0 Gr2 Gr5 Gp4 Nd1 Qb1 Gx0 Gp5 Gp10 Tc1 Tc6 Tc7 Tc8 Tc9 Tc10 Te1 Td3 Td4 Te3 Gp11 Gp12 Gp9 Gp8 Gp6 Gs1 Ap1 Gs2 Lw4 Lgr1
set_option maxHeartbeats 1000000 in
theorem walk (a0 : Option Addr) (len0 cap0 : Nat) (z0 : List Int) (w : World) (w0 : IsRow .u8 w a0 len0 cap0 z0) :
    Calls Try.prog 3 #[.slice a0 len0 cap0] w fun e w' => e = .returned (.bool true) ∧ Below w.heap.size w w' := by
  refine lawGraph w a0 len0 cap0 ?_
  rcases w0 with ⟨rfl, rfl, rfl, rfl⟩ | ⟨x, rfl, hl, hm, hz, hcell, hwz⟩
  · exact ⟨Nat.zero_le _, .inl rfl⟩
  · exact Dr0.bytes_of hl hm hz hcell hwz

set_option maxRecDepth 100000 in
theorem lifted (os : Os) (started : os.Started) (H : Type) (enc : TypeId × Value → H) :
    ReturnsInHanded {} Try.checked os 3 .any (Rows.fnGraphSpec.pre6 enc Try.prog Try.f3 Rows.fnGraphRow.domain false) (Rows.fnGraphSpec.post enc Try.prog Try.f3 false true false false) := by
  refine returnsInHanded_of_change (C := Try.checked) own started (by kernel_rfl) Try.func3
    (ChangeSpec.witness6 (enc := enc) (C := Try.checked) false ⟨#[], #[.slice none 0 0], []⟩ 8 (by kernel_rfl) (by kernel_rfl) (by kernel_rfl) (by kernel_rfl)) ?_
  intro W base args ds gs before hval0 hW hcnd _
  have hval : ∀ (j : Nat) t v, Try.f3.params[j]? = some t → args[j]? = some v → Value.okWide Try.prog W .any base t v := hval0
  have hW' := hW
  obtain ⟨p, q, hA0, hV, rfl, hfz, hnd⟩ := hW
  have hA : DataW.TrodAll enc Try.prog W 0 (fun _ => true) true Try.f3.params.toList args.toList ds p := hA0
  rw [Try.params3] at hA hval
  obtain ⟨v0, vs0, d0, ds0, p0, q0, hargs, rfl, rfl, h0, r0⟩ := trodAll_cons hA
  obtain ⟨rfl, rfl, rfl⟩ := trodAll_nil r0
  obtain rfl : args = #[v0] := by cases args; simp_all
  obtain ⟨rfl, rfl⟩ := trodVars_none hV
  obtain ⟨a0, len0, cap0, rfl⟩ := okWide_slice Try.underlying22 (hval 0 22 v0 rfl rfl)
  have k0 := h0
  have lt0 : ∀ x ∈ p0, x.block < W.heap.size := by obtain ⟨m, hm⟩ := k0; exact DataW.trod_lt m _ _ _ hm
  obtain ⟨z0, w0⟩ : ∃ zs, IsRow .u8 W a0 len0 cap0 zs := by
    obtain ⟨fuel, hf⟩ := h0
    rcases open_ints Try.underlying22 Try.underlying5 (by kernel_rfl) hf with ⟨hcs, _⟩ | ⟨x, l, c, zs, hcs, _, hl, hm, hz, _, hcell, hwz⟩
    · simp [Value.cells] at hcs
      obtain ⟨rfl, rfl, rfl⟩ := hcs
      exact ⟨[], .inl ⟨rfl, rfl, rfl, rfl⟩⟩
    · simp [Value.cells] at hcs
      obtain ⟨rfl, rfl, rfl⟩ := hcs
      exact ⟨zs, .inr ⟨_, rfl, hl, hm, by simpa using hz, hcell, hwz⟩⟩
  clear hA0 hval0
  refine (walk a0 len0 cap0 z0 W w0).mono fun e W' ⟨he, bel⟩ => ?_
  subst he
  exact ⟨_, rfl, _, _, _, [], _, [], hW', trodAll_mk1 (shut_bool Try.underlying4 _), (trodAll_cons_mk (Below.trod laidOut (by kernel_rfl) (of_decide_eq_true (by kernel_rfl)) k0 bel lt0) trodAll_mk0), rfl, bel.frame _, fun h => by cases h⟩

theorem over : Rows.fnGraphRow.holds Try.pinned (OpenSpec.ofChange Rows.fnGraphSpec) :=
  OpenClaim.holds_of_wide 3 Try.f3 rfl rfl rfl rfl rfl rfl rfl ⟨rfl, rfl, rfl, rfl, rfl⟩ rfl rfl rfl rfl rfl (by kernel_rfl) Try.func3 (by kernel_rfl)
    (of_decide_eq_true (by kernel_rfl)) (by unfold Func.isWrapper; first | (rw [if_pos (by decide +kernel)]; kernel_rfl) | (rw [if_neg (by decide +kernel)]; exact ⟨rfl, rfl⟩))
    (fun os started H enc _ => lifted os started H enc)

end Go.Proofs.Ytnpfegfjejfaaaa.fnGraph
namespace Go.Proofs.Ytnpfegfjejfaaaa
theorem fnGraph_holds : Rows.FnGraphSaid := fnGraph.over
end Go.Proofs.Ytnpfegfjejfaaaa
