/- Whatever bytes the law is drawn from: each reached node counts once among all operators, no way is longer than there are nodes, and a quantifier is one level more; no condition. -/
import Derived.Test.YtnkkigoeffghdaaRows
import Derived.WalkKit
import Derived.ProofKit
import Derived.OpenShut
import Derived.ShutString
import Derived.ChangeOld
import Derived.Below
import Derived.Test.YtnkkigoeffghdaaPk150
import Derived.Test.YtnkkigoeffghdaaPk151
import Derived.Test.YtnkkigoeffghdaaPk152
import Derived.Test.YtnkkigoeffghdaaPk153
import Derived.Test.YtnkkigoeffghdaaPk154
import Derived.Test.YtnkkigoeffghdaaPk1543
import Derived.Test.YtnkkigoeffghdaaDw2
import Derived.Test.YtnkkigoeffghdaaSp7
import Derived.Test.YtnkkigoeffghdaaPk156
import Derived.Test.YtnkkigoeffghdaaSp8
import Derived.Test.YtnkkigoeffghdaaPk157
import Derived.Test.YtnkkigoeffghdaaPk158
import Derived.Test.YtnkkigoeffghdaaPk1510
import Derived.Test.YtnkkigoeffghdaaPk1511
import Derived.Test.YtnkkigoeffghdaaPk1512
import Derived.Test.YtnkkigoeffghdaaPk1513
import Derived.Test.YtnkkigoeffghdaaPk1514
import Derived.Test.YtnkkigoeffghdaaPk1515
import Derived.Test.YtnkkigoeffghdaaPk1516
import Derived.Test.YtnkkigoeffghdaaDw3
import Derived.Test.YtnkkigoeffghdaaDw4
import Derived.Test.YtnkkigoeffghdaaSp11
import Derived.Test.YtnkkigoeffghdaaPk1548
import Derived.Test.YtnkkigoeffghdaaPk1517
import Derived.Test.YtnkkigoeffghdaaTx1
import Derived.Test.YtnkkigoeffghdaaTx2
import Derived.Test.YtnkkigoeffghdaaPk1520
import Derived.Test.YtnkkigoeffghdaaPk1521
import Derived.Test.YtnkkigoeffghdaaAm5
import Derived.Test.YtnkkigoeffghdaaPk1522
import Derived.Test.YtnkkigoeffghdaaPk1549
import Derived.Test.YtnkkigoeffghdaaPk1527
import Derived.Test.YtnkkigoeffghdaaPk1528
import Derived.Test.YtnkkigoeffghdaaWd5
import Derived.Test.YtnkkigoeffghdaaPk1530
import Derived.Test.YtnkkigoeffghdaaAm6
import Derived.Test.YtnkkigoeffghdaaPk1532
import Derived.Test.YtnkkigoeffghdaaPk1533
import Derived.Test.YtnkkigoeffghdaaPk1534
import Derived.Test.YtnkkigoeffghdaaPk1535
import Derived.Test.YtnkkigoeffghdaaPg4
import Derived.Test.YtnkkigoeffghdaaPg5
import Derived.Test.YtnkkigoeffghdaaPg6
import Derived.Test.YtnkkigoeffghdaaPk1539
namespace Go.Proofs.Ytnkkigoeffghdaa.fnCounts
open Go.ChangeShapes Go.WideShapes Go.ChangeAt Go.RowKit
open Go.ChangeMaps (open_string shut_string)
set_option linter.unusedVariables false

theorem own : ownKnob Try.prog.godebug = none := by kernel_rfl
theorem laidOut : laidOutB Try.prog = true := by kernel_rfl

def IsRow (k : IntKind) (w : World) (a : Option Addr) (len cap : Nat) (zs : List Int) : Prop :=
  (a = none ∧ len = 0 ∧ cap = 0 ∧ zs = []) ∨
  ∃ x, a = some x ∧ len ≤ cap ∧ cap ≤ maxLen ∧ zs.length = cap ∧ (∀ i, i < zs.length → w.cell? (x.add i) = some (.int k (zs.getD i 0))) ∧ ∀ n ∈ zs, (Lit.int k n).wf = true

open Dr0 Dr1 Nd0 Nd1 Nd3 Ap2 Dw0 Dw1 Ap0 Pl1 Ws1 Dw2 Dw3 Dw4 Tm0 Sp2 Sp3 Sp4 Ap1 Tm1 Sp5 Tm2 Sp6 Tm3 Sp7 Tm4 Ap3 Sp8 Sp9 Tm5 Sp10 Rw0 Tm6 Rw1 Tm9 Sp11 Dw5 Dr4 Dw6 Dw7 Dw8 Lw4 Tm7 Tm12 Tm8 Tm10 Tm13 Aq0 Tm11 Tm14 Aq3 Am1 Am3 Am5 Pg1 Pg2 Pg10 Pg11 Aw1 Ap12 Aw3 Pg8 Pg9 Pb1 Pb2 Ap7 Ap13 Qa0 Kp0 Qi0 Pb3 Lcn1 Pg3 Pg4 Pg5 Pg6 Pg7
set_option maxHeartbeats 1000000 in
theorem walk (a0 : Option Addr) (len0 cap0 : Nat) (z0 : List Int) (w : World) (w0 : IsRow .u8 w a0 len0 cap0 z0) :
    Calls Try.prog 3 #[.slice a0 len0 cap0] w fun e w' => e = .returned (.bool true) ∧ Below w.heap.size w w' := by
  refine lawCounts iTermOk (iReached iTermOk) (iPrune iTermOk (iReached iTermOk)) w a0 len0 cap0 ?_
  rcases w0 with ⟨rfl, rfl, rfl, rfl⟩ | ⟨x, rfl, hl, hm, hz, hcell, hwz⟩
  · exact ⟨Nat.zero_le _, .inl rfl⟩
  · exact bytes_of hl hm hz hcell hwz

set_option maxRecDepth 100000 in
theorem lifted (os : Os) (started : os.Started) (H : Type) (enc : TypeId × Value → H) :
    ReturnsInHanded {} Try.checked os 3 .any (Rows.fnCountsSpec.pre6 enc Try.prog Try.f3 Rows.fnCountsRow.domain false) (Rows.fnCountsSpec.post enc Try.prog Try.f3 false true false false) := by
  refine returnsInHanded_of_change (C := Try.checked) own started (by kernel_rfl) Try.func3
    (ChangeSpec.witness6 (enc := enc) (C := Try.checked) false ⟨#[], #[.slice none 0 0], []⟩ 8 (by kernel_rfl) (by kernel_rfl) (by kernel_rfl) (by kernel_rfl)) ?_
  intro W base args ds gs before hval0 hW hcnd _
  have hval : ∀ (j : Nat) t v, Try.f3.params[j]? = some t → args[j]? = some v → Value.okWide Try.prog W .any base t v := hval0
  have hW' := hW
  obtain ⟨p, q, hA0, hV, rfl, hfz, hnd⟩ := hW
  have hA : DataW.TrodAll enc Try.prog W 0 (fun _ => true) true Try.f3.params.toList args.toList ds p := hA0
  rw [Try.params3] at hA hval
  obtain ⟨v0, vs0, d0, ds0, p0, q0, hargs, rfl, rfl, h0, r0⟩ := trodAll_cons hA
  obtain ⟨rfl, rfl, rfl⟩ := trodAll_nil r0
  obtain rfl : args = #[v0] := by cases args; simp_all
  obtain ⟨rfl, rfl⟩ := trodVars_none hV
  obtain ⟨a0, len0, cap0, rfl⟩ := okWide_slice Try.underlying22 (hval 0 22 v0 rfl rfl)
  have k0 := h0
  have lt0 : ∀ x ∈ p0, x.block < W.heap.size := by obtain ⟨m, hm⟩ := k0; exact DataW.trod_lt m _ _ _ hm
  obtain ⟨z0, w0⟩ : ∃ zs, IsRow .u8 W a0 len0 cap0 zs := by
    obtain ⟨fuel, hf⟩ := h0
    rcases open_ints Try.underlying22 Try.underlying5 (by kernel_rfl) hf with ⟨hcs, _⟩ | ⟨x, l, c, zs, hcs, _, hl, hm, hz, _, hcell, hwz⟩
    · simp [Value.cells] at hcs
      obtain ⟨rfl, rfl, rfl⟩ := hcs
      exact ⟨[], .inl ⟨rfl, rfl, rfl, rfl⟩⟩
    · simp [Value.cells] at hcs
      obtain ⟨rfl, rfl, rfl⟩ := hcs
      exact ⟨zs, .inr ⟨_, rfl, hl, hm, by simpa using hz, hcell, hwz⟩⟩
  clear hA0 hval0
  refine (walk a0 len0 cap0 z0 W w0).mono fun e W' ⟨he, bel⟩ => ?_
  subst he
  exact ⟨_, rfl, _, _, _, [], _, [], hW', trodAll_mk1 (shut_bool Try.underlying4 _), (trodAll_cons_mk (Below.trod laidOut (by kernel_rfl) (of_decide_eq_true (by kernel_rfl)) k0 bel lt0) trodAll_mk0), rfl, bel.frame _, fun h => by cases h⟩

theorem over : Rows.fnCountsRow.holds Try.pinned (OpenSpec.ofChange Rows.fnCountsSpec) :=
  OpenClaim.holds_of_wide 3 Try.f3 rfl rfl rfl rfl rfl rfl rfl ⟨rfl, rfl, rfl, rfl, rfl⟩ rfl rfl rfl rfl rfl (by kernel_rfl) Try.func3 (by kernel_rfl)
    (of_decide_eq_true (by kernel_rfl)) (by unfold Func.isWrapper; first | (rw [if_pos (by decide +kernel)]; kernel_rfl) | (rw [if_neg (by decide +kernel)]; exact ⟨rfl, rfl⟩))
    (fun os started H enc _ => lifted os started H enc)

end Go.Proofs.Ytnkkigoeffghdaa.fnCounts
namespace Go.Proofs.Ytnkkigoeffghdaa
theorem fnCounts_holds : Rows.FnCountsSaid := fnCounts.over
end Go.Proofs.Ytnkkigoeffghdaa
