/- Whatever bytes the law is drawn from: where a sentence's quantifiers and rest have a table, the verdict of its row and that table is what the sentence is worth, and where they have none there is no verdict; with every flag and the table turned the verdict of any row and right table is the other one; no condition. -/
import Derived.Test.YtiojfommmmggoaaRows
import Derived.WalkKit
import Derived.ProofKit
import Derived.OpenShut
import Derived.ShutString
import Derived.ChangeOld
import Derived.Below
import Derived.Test.YtiojfommmmggoaaPkDE0
import Derived.Test.YtiojfommmmggoaaPkDE1
import Derived.Test.YtiojfommmmggoaaPkDE2
import Derived.Test.YtiojfommmmggoaaPkDE3
import Derived.Test.YtiojfommmmggoaaPkDE4
import Derived.Test.YtiojfommmmggoaaPkDE5
import Derived.Test.YtiojfommmmggoaaPkDE6
import Derived.Test.YtiojfommmmggoaaFr1
import Derived.Test.YtiojfommmmggoaaFr2
import Derived.Test.YtiojfommmmggoaaFr3
import Derived.Test.YtiojfommmmggoaaPkDE10
import Derived.Test.YtiojfommmmggoaaSp3
import Derived.Test.YtiojfommmmggoaaPkDE12
import Derived.Test.YtiojfommmmggoaaSp7
import Derived.Test.YtiojfommmmggoaaPkDE14
import Derived.Test.YtiojfommmmggoaaFm6
import Derived.Test.YtiojfommmmggoaaSp8
import Derived.Test.YtiojfommmmggoaaSp9
import Derived.Test.YtiojfommmmggoaaSp11
import Derived.Test.YtiojfommmmggoaaPkDE19
import Derived.Test.YtiojfommmmggoaaFm7
import Derived.Test.YtiojfommmmggoaaPkDE21
import Derived.Test.YtiojfommmmggoaaPkDE22
import Derived.Test.YtiojfommmmggoaaPkDE23
import Derived.Test.YtiojfommmmggoaaPkDE24
import Derived.Test.YtiojfommmmggoaaPkDE25
import Derived.Test.YtiojfommmmggoaaSv1
import Derived.Test.YtiojfommmmggoaaSv3
import Derived.Test.YtiojfommmmggoaaPkDE28
import Derived.Test.YtiojfommmmggoaaPkDE29
import Derived.Test.YtiojfommmmggoaaPkDE30
import Derived.Test.YtiojfommmmggoaaTo3
import Derived.Test.YtiojfommmmggoaaPkDE32
import Derived.Test.YtiojfommmmggoaaSv5
import Derived.Test.YtiojfommmmggoaaPkDE34
import Derived.Test.YtiojfommmmggoaaPkDE35
import Derived.Test.YtiojfommmmggoaaDp1
import Derived.Test.YtiojfommmmggoaaDp3
import Derived.Test.YtiojfommmmggoaaPkDE38
import Derived.Test.YtiojfommmmggoaaPkDE39
import Derived.Test.YtiojfommmmggoaaDm2
import Derived.Test.YtiojfommmmggoaaPkDE41
import Derived.Test.YtiojfommmmggoaaTdw
import Derived.Test.YtiojfommmmggoaaPkDE43
import Derived.Test.YtiojfommmmggoaaDw2
import Derived.Test.YtiojfommmmggoaaDw3
import Derived.Test.YtiojfommmmggoaaDw4
import Derived.Test.YtiojfommmmggoaaPkDE47
import Derived.Test.YtiojfommmmggoaaPkDE48
import Derived.Test.YtiojfommmmggoaaLde1
namespace Go.Proofs.Ytiojfommmmggoaa.fnDecide
open Go.ChangeShapes Go.WideShapes Go.ChangeAt Go.RowKit
open Go.ChangeMaps (open_string shut_string)
set_option linter.unusedVariables false

theorem own : ownKnob Try.prog.godebug = none := by kernel_rfl
theorem laidOut : laidOutB Try.prog = true := by kernel_rfl

def IsRow (k : IntKind) (w : World) (a : Option Addr) (len cap : Nat) (zs : List Int) : Prop :=
  (a = none ∧ len = 0 ∧ cap = 0 ∧ zs = []) ∨
  ∃ x, a = some x ∧ len ≤ cap ∧ cap ≤ maxLen ∧ zs.length = cap ∧ (∀ i, i < zs.length → w.cell? (x.add i) = some (.int k (zs.getD i 0))) ∧ ∀ n ∈ zs, (Lit.int k n).wf = true

open Nd0 Qa0 Pl1 Tm0 Tm1 Tm4 Tm5 Tm6 Fr0 Tm2 Tm3 Tx0 Tx1 Tm8 Tx2 Tm7 Tm12 Tx3 Tr0 Pl2 Rw0 Ap0 Ap1 Rw1 Tm9 Tm10 Tm13 Tm11 Tm14 Vl1 Vl2 Vm0 Fr1 Fr2 Fr3 Fr5 Nd1 Sp2 Ws1 Sp3 Sp4 Sp5 Sp6 Nd3 Ap2 Sp7 Ap3 Sp10 Fm5 Qa2 Fm6 Sp8 Sp9 Sp11 Ap7 Fm7 Fr4 To0 Ta0 Ta1 Ss0 To0t Pg1 Wd1 Wd2 Wd3 Wd4 Fm1 Fm2 Kp1 Bt0 Wd5 Kp0 Sv1 Sv3 Sv4 Fm4 Ss1 Tc2 Tc3 Tc4 Tc5 Ap9 Td1 Td2 To3 Vm1 Ap6 Sv5 Tx4 Vl3 Vl4 Vl5 Sv6 Sv7 Ta2 Ta3 De0 De1 Dv0 Tc1 Tc6 Tc7 Nd2 Nd6 Dp1 Dp3 Tc8 Tc9 Tc10 Te1 Td3 Td4 Td5 Te4 Dp4 Dq0 Dm1 Dm2 Dp5 Dm3 Dr0 Dr1 Dr4 Tdw Ddr Dw0 Dw1 Dw2 Dw3 Dw4 Dw5 Dw6 Dw7 Dw8 Ds0 Lw4 Dh0 Dh1 Dh2 Lde1
set_option maxHeartbeats 1000000 in
theorem walk (a0 : Option Addr) (len0 cap0 : Nat) (z0 : List Int) (w : World) (w0 : IsRow .u8 w a0 len0 cap0 z0) :
    Calls Try.prog 3 #[.slice a0 len0 cap0] w fun e w' => e = .returned (.bool true) ∧ Below w.heap.size w w' := by
  refine lawDecide w a0 len0 cap0 ?_
  rcases w0 with ⟨rfl, rfl, rfl, rfl⟩ | ⟨x, rfl, hl, hm, hz, hcell, hwz⟩
  · exact ⟨Nat.zero_le _, .inl rfl⟩
  · exact Dr0.bytes_of hl hm hz hcell hwz

set_option maxRecDepth 100000 in
theorem lifted (os : Os) (started : os.Started) (H : Type) (enc : TypeId × Value → H) :
    ReturnsInHanded {} Try.checked os 3 .any (Rows.fnDecideSpec.pre6 enc Try.prog Try.f3 Rows.fnDecideRow.domain false) (Rows.fnDecideSpec.post enc Try.prog Try.f3 false true false false) := by
  refine returnsInHanded_of_change (C := Try.checked) own started (by kernel_rfl) Try.func3
    (ChangeSpec.witness6 (enc := enc) (C := Try.checked) false ⟨#[], #[.slice none 0 0], []⟩ 8 (by kernel_rfl) (by kernel_rfl) (by kernel_rfl) (by kernel_rfl)) ?_
  intro W base args ds gs before hval0 hW hcnd _
  have hval : ∀ (j : Nat) t v, Try.f3.params[j]? = some t → args[j]? = some v → Value.okWide Try.prog W .any base t v := hval0
  have hW' := hW
  obtain ⟨p, q, hA0, hV, rfl, hfz, hnd⟩ := hW
  have hA : DataW.TrodAll enc Try.prog W 0 (fun _ => true) true Try.f3.params.toList args.toList ds p := hA0
  rw [Try.params3] at hA hval
  obtain ⟨v0, vs0, d0, ds0, p0, q0, hargs, rfl, rfl, h0, r0⟩ := trodAll_cons hA
  obtain ⟨rfl, rfl, rfl⟩ := trodAll_nil r0
  obtain rfl : args = #[v0] := by cases args; simp_all
  obtain ⟨rfl, rfl⟩ := trodVars_none hV
  obtain ⟨a0, len0, cap0, rfl⟩ := okWide_slice Try.underlying22 (hval 0 22 v0 rfl rfl)
  have k0 := h0
  have lt0 : ∀ x ∈ p0, x.block < W.heap.size := by obtain ⟨m, hm⟩ := k0; exact DataW.trod_lt m _ _ _ hm
  obtain ⟨z0, w0⟩ : ∃ zs, IsRow .u8 W a0 len0 cap0 zs := by
    obtain ⟨fuel, hf⟩ := h0
    rcases open_ints Try.underlying22 Try.underlying5 (by kernel_rfl) hf with ⟨hcs, _⟩ | ⟨x, l, c, zs, hcs, _, hl, hm, hz, _, hcell, hwz⟩
    · simp [Value.cells] at hcs
      obtain ⟨rfl, rfl, rfl⟩ := hcs
      exact ⟨[], .inl ⟨rfl, rfl, rfl, rfl⟩⟩
    · simp [Value.cells] at hcs
      obtain ⟨rfl, rfl, rfl⟩ := hcs
      exact ⟨zs, .inr ⟨_, rfl, hl, hm, by simpa using hz, hcell, hwz⟩⟩
  clear hA0 hval0
  refine (walk a0 len0 cap0 z0 W w0).mono fun e W' ⟨he, bel⟩ => ?_
  subst he
  exact ⟨_, rfl, _, _, _, [], _, [], hW', trodAll_mk1 (shut_bool Try.underlying4 _), (trodAll_cons_mk (Below.trod laidOut (by kernel_rfl) (of_decide_eq_true (by kernel_rfl)) k0 bel lt0) trodAll_mk0), rfl, bel.frame _, fun h => by cases h⟩

theorem over : Rows.fnDecideRow.holds Try.pinned (OpenSpec.ofChange Rows.fnDecideSpec) :=
  OpenClaim.holds_of_wide 3 Try.f3 rfl rfl rfl rfl rfl rfl rfl ⟨rfl, rfl, rfl, rfl, rfl⟩ rfl rfl rfl rfl rfl (by kernel_rfl) Try.func3 (by kernel_rfl)
    (of_decide_eq_true (by kernel_rfl)) (by unfold Func.isWrapper; first | (rw [if_pos (by decide +kernel)]; kernel_rfl) | (rw [if_neg (by decide +kernel)]; exact ⟨rfl, rfl⟩))
    (fun os started H enc _ => lifted os started H enc)

end Go.Proofs.Ytiojfommmmggoaa.fnDecide
namespace Go.Proofs.Ytiojfommmmggoaa
theorem fnDecide_holds : Rows.FnDecideSaid := fnDecide.over
end Go.Proofs.Ytiojfommmmggoaa
