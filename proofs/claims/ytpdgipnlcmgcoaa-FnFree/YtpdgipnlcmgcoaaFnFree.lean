/- Whatever bytes the law is drawn from: a quantifier put on a formula takes its variable from those that are free, and no other; no condition. -/
import Derived.Test.YtpdgipnlcmgcoaaRows
import Derived.WalkKit
import Derived.ProofKit
import Derived.OpenShut
import Derived.ShutString
import Derived.ChangeOld
import Derived.Below
import Derived.Test.YtpdgipnlcmgcoaaPkA
import Derived.Test.YtpdgipnlcmgcoaaPkB
import Derived.Test.YtpdgipnlcmgcoaaPkD
import Derived.Test.YtpdgipnlcmgcoaaDw2
import Derived.Test.YtpdgipnlcmgcoaaDn0
import Derived.Test.YtpdgipnlcmgcoaaDw3
import Derived.Test.YtpdgipnlcmgcoaaDw4
import Derived.Test.YtpdgipnlcmgcoaaSp2
import Derived.Test.YtpdgipnlcmgcoaaSp3
import Derived.Test.YtpdgipnlcmgcoaaSp4
import Derived.Test.YtpdgipnlcmgcoaaSp5
import Derived.Test.YtpdgipnlcmgcoaaSp6
import Derived.Test.YtpdgipnlcmgcoaaSp7
import Derived.Test.YtpdgipnlcmgcoaaSp8
import Derived.Test.YtpdgipnlcmgcoaaSp9
import Derived.Test.YtpdgipnlcmgcoaaSp10
import Derived.Test.YtpdgipnlcmgcoaaPkC
import Derived.Test.YtpdgipnlcmgcoaaSp11
import Derived.Test.YtpdgipnlcmgcoaaDw5
import Derived.Test.YtpdgipnlcmgcoaaDw6
import Derived.Test.YtpdgipnlcmgcoaaDw7
import Derived.Test.YtpdgipnlcmgcoaaDw8
import Derived.Test.YtpdgipnlcmgcoaaIc2
import Derived.Test.YtpdgipnlcmgcoaaLx1
import Derived.Test.YtpdgipnlcmgcoaaLx3
import Derived.Test.YtpdgipnlcmgcoaaPg1
import Derived.Test.YtpdgipnlcmgcoaaPg2
import Derived.Test.YtpdgipnlcmgcoaaLf1
import Derived.Test.YtpdgipnlcmgcoaaPg3
import Derived.Test.YtpdgipnlcmgcoaaPg4
import Derived.Test.YtpdgipnlcmgcoaaPg5
import Derived.Test.YtpdgipnlcmgcoaaPg6
import Derived.Test.YtpdgipnlcmgcoaaPg8
import Derived.Test.YtpdgipnlcmgcoaaPg9
namespace Go.Proofs.Ytpdgipnlcmgcoaa.fnFree
open Go.ChangeShapes Go.WideShapes Go.ChangeAt Go.RowKit
open Go.ChangeMaps (open_string shut_string)
set_option linter.unusedVariables false

theorem own : ownKnob Try.prog.godebug = none := by kernel_rfl
theorem laidOut : laidOutB Try.prog = true := by kernel_rfl

def IsRow (k : IntKind) (w : World) (a : Option Addr) (len cap : Nat) (zs : List Int) : Prop :=
  (a = none ∧ len = 0 ∧ cap = 0 ∧ zs = []) ∨
  ∃ x, a = some x ∧ len ≤ cap ∧ cap ≤ maxLen ∧ zs.length = cap ∧ (∀ i, i < zs.length → w.cell? (x.add i) = some (.int k (zs.getD i 0))) ∧ ∀ n ∈ zs, (Lit.int k n).wf = true

open Dr0 Dr1 Nd0 Nd1 Nd3 Ap2 Dw0 Dw1 Ap0 Pl1 Ws1 Dw2 Dw3 Dw4 Tm0 Sp2 Sp3 Sp4 Ap1 Tm1 Sp5 Tm2 Sp6 Tm3 Sp7 Tm4 Ap3 Sp8 Sp9 Tm5 Sp10 Rw0 Tm6 Rw1 Tm9 Sp11 Dw5 Dr4 Dw6 Dw7 Dw8 Lw4 Tm7 Tm12 Tm8 Tm10 Tm11 Nd2 Nd4 Lx1 Lx3 Pg1 Pg2 Lf1 Pg3 Pg4 Pg5 Pg6 Pg8 Pg9
set_option maxHeartbeats 1000000 in
theorem walk (a0 : Option Addr) (len0 cap0 : Nat) (z0 : List Int) (w : World) (w0 : IsRow .u8 w a0 len0 cap0 z0) :
    Calls Try.prog 4 #[.slice a0 len0 cap0] w fun e w' => e = .returned (.bool true) ∧ Below w.heap.size w w' := by
  refine lawFree iTermOk (iFree iTermOk) w a0 len0 cap0 ?_
  rcases w0 with ⟨rfl, rfl, rfl, rfl⟩ | ⟨x, rfl, hl, hm, hz, hcell, hwz⟩
  · exact ⟨Nat.zero_le _, .inl rfl⟩
  · exact bytes_of hl hm hz hcell hwz

set_option maxRecDepth 100000 in
theorem lifted (os : Os) (started : os.Started) (H : Type) (enc : TypeId × Value → H) :
    ReturnsInHanded {} Try.checked os 4 .any (Rows.fnFreeSpec.pre6 enc Try.prog Try.f4 Rows.fnFreeRow.domain false) (Rows.fnFreeSpec.post enc Try.prog Try.f4 false true false false) := by
  refine returnsInHanded_of_change (C := Try.checked) own started (by kernel_rfl) Try.func4
    (ChangeSpec.witness6 (enc := enc) (C := Try.checked) false ⟨#[], #[.slice none 0 0], []⟩ 8 (by kernel_rfl) (by kernel_rfl) (by kernel_rfl) (by kernel_rfl)) ?_
  intro W base args ds gs before hval0 hW hcnd _
  have hval : ∀ (j : Nat) t v, Try.f4.params[j]? = some t → args[j]? = some v → Value.okWide Try.prog W .any base t v := hval0
  have hW' := hW
  obtain ⟨p, q, hA0, hV, rfl, hfz, hnd⟩ := hW
  have hA : DataW.TrodAll enc Try.prog W 0 (fun _ => true) true Try.f4.params.toList args.toList ds p := hA0
  rw [Try.params4] at hA hval
  obtain ⟨v0, vs0, d0, ds0, p0, q0, hargs, rfl, rfl, h0, r0⟩ := trodAll_cons hA
  obtain ⟨rfl, rfl, rfl⟩ := trodAll_nil r0
  obtain rfl : args = #[v0] := by cases args; simp_all
  obtain ⟨rfl, rfl⟩ := trodVars_none hV
  obtain ⟨a0, len0, cap0, rfl⟩ := okWide_slice Try.underlying22 (hval 0 22 v0 rfl rfl)
  have k0 := h0
  have lt0 : ∀ x ∈ p0, x.block < W.heap.size := by obtain ⟨m, hm⟩ := k0; exact DataW.trod_lt m _ _ _ hm
  obtain ⟨z0, w0⟩ : ∃ zs, IsRow .u8 W a0 len0 cap0 zs := by
    obtain ⟨fuel, hf⟩ := h0
    rcases open_ints Try.underlying22 Try.underlying5 (by kernel_rfl) hf with ⟨hcs, _⟩ | ⟨x, l, c, zs, hcs, _, hl, hm, hz, _, hcell, hwz⟩
    · simp [Value.cells] at hcs
      obtain ⟨rfl, rfl, rfl⟩ := hcs
      exact ⟨[], .inl ⟨rfl, rfl, rfl, rfl⟩⟩
    · simp [Value.cells] at hcs
      obtain ⟨rfl, rfl, rfl⟩ := hcs
      exact ⟨zs, .inr ⟨_, rfl, hl, hm, by simpa using hz, hcell, hwz⟩⟩
  clear hA0 hval0
  refine (walk a0 len0 cap0 z0 W w0).mono fun e W' ⟨he, bel⟩ => ?_
  subst he
  exact ⟨_, rfl, _, _, _, [], _, [], hW', trodAll_mk1 (shut_bool Try.underlying4 _), (trodAll_cons_mk (Below.trod laidOut (by kernel_rfl) (of_decide_eq_true (by kernel_rfl)) k0 bel lt0) trodAll_mk0), rfl, bel.frame _, fun h => by cases h⟩

theorem over : Rows.fnFreeRow.holds Try.pinned (OpenSpec.ofChange Rows.fnFreeSpec) :=
  OpenClaim.holds_of_wide 4 Try.f4 rfl rfl rfl rfl rfl rfl rfl ⟨rfl, rfl, rfl, rfl, rfl⟩ rfl rfl rfl rfl rfl (by kernel_rfl) Try.func4 (by kernel_rfl)
    (of_decide_eq_true (by kernel_rfl)) (by unfold Func.isWrapper; first | (rw [if_pos (by decide +kernel)]; kernel_rfl) | (rw [if_neg (by decide +kernel)]; exact ⟨rfl, rfl⟩))
    (fun os started H enc _ => lifted os started H enc)

end Go.Proofs.Ytpdgipnlcmgcoaa.fnFree
namespace Go.Proofs.Ytpdgipnlcmgcoaa
theorem fnFree_holds : Rows.FnFreeSaid := fnFree.over
end Go.Proofs.Ytpdgipnlcmgcoaa
