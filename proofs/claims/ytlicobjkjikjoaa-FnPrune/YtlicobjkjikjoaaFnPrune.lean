/- Whatever bytes the law is drawn from: a term without what its root does not reach is right, all reached, with the same free variables and bits, and is a sentence just when it was; no condition. -/
import Derived.Test.YtlicobjkjikjoaaRows
import Derived.WalkKit
import Derived.ProofKit
import Derived.OpenShut
import Derived.ShutString
import Derived.ChangeOld
import Derived.Below
import Derived.Test.YtlicobjkjikjoaaPkA
import Derived.Test.YtlicobjkjikjoaaPkB
import Derived.Test.YtlicobjkjikjoaaPkD
import Derived.Test.YtlicobjkjikjoaaDw2
import Derived.Test.YtlicobjkjikjoaaDn0
import Derived.Test.YtlicobjkjikjoaaDw3
import Derived.Test.YtlicobjkjikjoaaDw4
import Derived.Test.YtlicobjkjikjoaaSp2
import Derived.Test.YtlicobjkjikjoaaSp3
import Derived.Test.YtlicobjkjikjoaaSp4
import Derived.Test.YtlicobjkjikjoaaSp5
import Derived.Test.YtlicobjkjikjoaaSp6
import Derived.Test.YtlicobjkjikjoaaSp7
import Derived.Test.YtlicobjkjikjoaaSp8
import Derived.Test.YtlicobjkjikjoaaSp9
import Derived.Test.YtlicobjkjikjoaaSp10
import Derived.Test.YtlicobjkjikjoaaPkC
import Derived.Test.YtlicobjkjikjoaaSp11
import Derived.Test.YtlicobjkjikjoaaDw5
import Derived.Test.YtlicobjkjikjoaaDw6
import Derived.Test.YtlicobjkjikjoaaDw7
import Derived.Test.YtlicobjkjikjoaaDw8
import Derived.Test.YtlicobjkjikjoaaIc2
import Derived.Test.YtlicobjkjikjoaaLx1
import Derived.Test.YtlicobjkjikjoaaLx3
import Derived.Test.YtlicobjkjikjoaaPg1
import Derived.Test.YtlicobjkjikjoaaPg2
import Derived.Test.YtlicobjkjikjoaaLf1
import Derived.Test.YtlicobjkjikjoaaLp1
import Derived.Test.YtlicobjkjikjoaaPg3
import Derived.Test.YtlicobjkjikjoaaPg4
import Derived.Test.YtlicobjkjikjoaaPg5
import Derived.Test.YtlicobjkjikjoaaPg6
import Derived.Test.YtlicobjkjikjoaaPg7
import Derived.Test.YtlicobjkjikjoaaPg8
import Derived.Test.YtlicobjkjikjoaaPg9
import Derived.Test.YtlicobjkjikjoaaPg10
import Derived.Test.YtlicobjkjikjoaaPg11
import Derived.Test.YtlicobjkjikjoaaPg12
import Derived.Test.YtlicobjkjikjoaaPg13
import Derived.Test.YtlicobjkjikjoaaPg14
namespace Go.Proofs.Ytlicobjkjikjoaa.fnPrune
open Go.ChangeShapes Go.WideShapes Go.ChangeAt Go.RowKit
open Go.ChangeMaps (open_string shut_string)
set_option linter.unusedVariables false

theorem own : ownKnob Try.prog.godebug = none := by kernel_rfl
theorem laidOut : laidOutB Try.prog = true := by kernel_rfl

def IsRow (k : IntKind) (w : World) (a : Option Addr) (len cap : Nat) (zs : List Int) : Prop :=
  (a = none ∧ len = 0 ∧ cap = 0 ∧ zs = []) ∨
  ∃ x, a = some x ∧ len ≤ cap ∧ cap ≤ maxLen ∧ zs.length = cap ∧ (∀ i, i < zs.length → w.cell? (x.add i) = some (.int k (zs.getD i 0))) ∧ ∀ n ∈ zs, (Lit.int k n).wf = true

open Dr0 Dr1 Nd0 Nd1 Nd3 Ap2 Dw0 Dw1 Ap0 Pl1 Ws1 Dw2 Dw3 Dw4 Tm0 Sp2 Sp3 Sp4 Ap1 Tm1 Sp5 Tm2 Sp6 Tm3 Sp7 Tm4 Ap3 Sp8 Sp9 Tm5 Sp10 Rw0 Tm6 Rw1 Tm9 Sp11 Dw5 Dr4 Dw6 Dw7 Dw8 Lw4 Tm8 Tm10 Tm13 Tm11 Tm7 Tm14 Tm12 Nd2 Nd4 Lx1 Lx3 Pg1 Pg2 Lf1 Lp1 Pg3 Pg4 Pg5 Pg6 Pg7 Pg8 Pg9 Pg10 Pg11 Pg12 Pg13 Pg14
set_option maxHeartbeats 1000000 in
theorem walk (a0 : Option Addr) (len0 cap0 : Nat) (z0 : List Int) (w : World) (w0 : IsRow .u8 w a0 len0 cap0 z0) :
    Calls Try.prog 3 #[.slice a0 len0 cap0] w fun e w' => e = .returned (.bool true) ∧ Below w.heap.size w w' := by
  refine lawPrune iTermOk (iReached iTermOk) (iFree iTermOk) (iSentence iTermOk (iReached iTermOk)) (iBits iTermOk (iReached iTermOk)) (iPrune iTermOk (iReached iTermOk)) w a0 len0 cap0 ?_
  rcases w0 with ⟨rfl, rfl, rfl, rfl⟩ | ⟨x, rfl, hl, hm, hz, hcell, hwz⟩
  · exact ⟨Nat.zero_le _, .inl rfl⟩
  · exact bytes_of hl hm hz hcell hwz

set_option maxRecDepth 100000 in
theorem lifted (os : Os) (started : os.Started) (H : Type) (enc : TypeId × Value → H) :
    ReturnsInHanded {} Try.checked os 3 .any (Rows.fnPruneSpec.pre6 enc Try.prog Try.f3 Rows.fnPruneRow.domain false) (Rows.fnPruneSpec.post enc Try.prog Try.f3 false true false false) := by
  refine returnsInHanded_of_change (C := Try.checked) own started (by kernel_rfl) Try.func3
    (ChangeSpec.witness6 (enc := enc) (C := Try.checked) false ⟨#[], #[.slice none 0 0], []⟩ 8 (by kernel_rfl) (by kernel_rfl) (by kernel_rfl) (by kernel_rfl)) ?_
  intro W base args ds gs before hval0 hW hcnd _
  have hval : ∀ (j : Nat) t v, Try.f3.params[j]? = some t → args[j]? = some v → Value.okWide Try.prog W .any base t v := hval0
  have hW' := hW
  obtain ⟨p, q, hA0, hV, rfl, hfz, hnd⟩ := hW
  have hA : DataW.TrodAll enc Try.prog W 0 (fun _ => true) true Try.f3.params.toList args.toList ds p := hA0
  rw [Try.params3] at hA hval
  obtain ⟨v0, vs0, d0, ds0, p0, q0, hargs, rfl, rfl, h0, r0⟩ := trodAll_cons hA
  obtain ⟨rfl, rfl, rfl⟩ := trodAll_nil r0
  obtain rfl : args = #[v0] := by cases args; simp_all
  obtain ⟨rfl, rfl⟩ := trodVars_none hV
  obtain ⟨a0, len0, cap0, rfl⟩ := okWide_slice Try.underlying22 (hval 0 22 v0 rfl rfl)
  have k0 := h0
  have lt0 : ∀ x ∈ p0, x.block < W.heap.size := by obtain ⟨m, hm⟩ := k0; exact DataW.trod_lt m _ _ _ hm
  obtain ⟨z0, w0⟩ : ∃ zs, IsRow .u8 W a0 len0 cap0 zs := by
    obtain ⟨fuel, hf⟩ := h0
    rcases open_ints Try.underlying22 Try.underlying5 (by kernel_rfl) hf with ⟨hcs, _⟩ | ⟨x, l, c, zs, hcs, _, hl, hm, hz, _, hcell, hwz⟩
    · simp [Value.cells] at hcs
      obtain ⟨rfl, rfl, rfl⟩ := hcs
      exact ⟨[], .inl ⟨rfl, rfl, rfl, rfl⟩⟩
    · simp [Value.cells] at hcs
      obtain ⟨rfl, rfl, rfl⟩ := hcs
      exact ⟨zs, .inr ⟨_, rfl, hl, hm, by simpa using hz, hcell, hwz⟩⟩
  clear hA0 hval0
  refine (walk a0 len0 cap0 z0 W w0).mono fun e W' ⟨he, bel⟩ => ?_
  subst he
  exact ⟨_, rfl, _, _, _, [], _, [], hW', trodAll_mk1 (shut_bool Try.underlying4 _), (trodAll_cons_mk (Below.trod laidOut (by kernel_rfl) (of_decide_eq_true (by kernel_rfl)) k0 bel lt0) trodAll_mk0), rfl, bel.frame _, fun h => by cases h⟩

theorem over : Rows.fnPruneRow.holds Try.pinned (OpenSpec.ofChange Rows.fnPruneSpec) :=
  OpenClaim.holds_of_wide 3 Try.f3 rfl rfl rfl rfl rfl rfl rfl ⟨rfl, rfl, rfl, rfl, rfl⟩ rfl rfl rfl rfl rfl (by kernel_rfl) Try.func3 (by kernel_rfl)
    (of_decide_eq_true (by kernel_rfl)) (by unfold Func.isWrapper; first | (rw [if_pos (by decide +kernel)]; kernel_rfl) | (rw [if_neg (by decide +kernel)]; exact ⟨rfl, rfl⟩))
    (fun os started H enc _ => lifted os started H enc)

end Go.Proofs.Ytlicobjkjikjoaa.fnPrune
namespace Go.Proofs.Ytlicobjkjikjoaa
theorem fnPrune_holds : Rows.FnPruneSaid := fnPrune.over
end Go.Proofs.Ytlicobjkjikjoaa
