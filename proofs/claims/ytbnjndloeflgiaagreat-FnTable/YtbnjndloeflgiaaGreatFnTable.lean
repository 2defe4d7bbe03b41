/- Whatever bytes the law is drawn from: where the quantifiers at a sentence's front and its rest have a table, it is a right one of as many bits as the sentence has, and it tells at each place what the rest is worth there; no condition. -/
import Derived.Test.YtbnjndloeflgiaaGreatRows
import Derived.WalkKit
import Derived.ProofKit
import Derived.OpenShut
import Derived.ShutString
import Derived.ChangeOld
import Derived.Below
import Derived.Test.YtbnjndloeflgiaaGreatPkTA0
import Derived.Test.YtbnjndloeflgiaaGreatPkTA1
import Derived.Test.YtbnjndloeflgiaaGreatPkTA2
import Derived.Test.YtbnjndloeflgiaaGreatPkTA3
import Derived.Test.YtbnjndloeflgiaaGreatPkTA4
import Derived.Test.YtbnjndloeflgiaaGreatPkTA5
import Derived.Test.YtbnjndloeflgiaaGreatPkTA6
import Derived.Test.YtbnjndloeflgiaaGreatPkTA7
import Derived.Test.YtbnjndloeflgiaaGreatPkTA8
import Derived.Test.YtbnjndloeflgiaaGreatSp7
import Derived.Test.YtbnjndloeflgiaaGreatPkTA10
import Derived.Test.YtbnjndloeflgiaaGreatFm6
import Derived.Test.YtbnjndloeflgiaaGreatSp8
import Derived.Test.YtbnjndloeflgiaaGreatSp9
import Derived.Test.YtbnjndloeflgiaaGreatSp11
import Derived.Test.YtbnjndloeflgiaaGreatPkTA15
import Derived.Test.YtbnjndloeflgiaaGreatPkTA16
import Derived.Test.YtbnjndloeflgiaaGreatPkTA17
import Derived.Test.YtbnjndloeflgiaaGreatPkTA18
import Derived.Test.YtbnjndloeflgiaaGreatPkTA19
import Derived.Test.YtbnjndloeflgiaaGreatPkTA20
import Derived.Test.YtbnjndloeflgiaaGreatPkTA21
import Derived.Test.YtbnjndloeflgiaaGreatPv8
import Derived.Test.YtbnjndloeflgiaaGreatPkTA23
import Derived.Test.YtbnjndloeflgiaaGreatPkTA24
import Derived.Test.YtbnjndloeflgiaaGreatSv5
import Derived.Test.YtbnjndloeflgiaaGreatPkTA26
import Derived.Test.YtbnjndloeflgiaaGreatPkTA27
import Derived.Test.YtbnjndloeflgiaaGreatPkTA28
import Derived.Test.YtbnjndloeflgiaaGreatTo2
import Derived.Test.YtbnjndloeflgiaaGreatPkTA30
import Derived.Test.YtbnjndloeflgiaaGreatSv1
import Derived.Test.YtbnjndloeflgiaaGreatPkTA32
import Derived.Test.YtbnjndloeflgiaaGreatPkTA33
import Derived.Test.YtbnjndloeflgiaaGreatPkTA34
import Derived.Test.YtbnjndloeflgiaaGreatPkTA35
import Derived.Test.YtbnjndloeflgiaaGreatDu2
import Derived.Test.YtbnjndloeflgiaaGreatDu3
import Derived.Test.YtbnjndloeflgiaaGreatDu4
import Derived.Test.YtbnjndloeflgiaaGreatPkTA39
import Derived.Test.YtbnjndloeflgiaaGreatFt0
import Derived.Test.YtbnjndloeflgiaaGreatLta1
import Derived.Test.YtbnjndloeflgiaaGreatPg3
import Derived.Test.YtbnjndloeflgiaaGreatPg4
import Derived.Test.YtbnjndloeflgiaaGreatPg5
import Derived.Test.YtbnjndloeflgiaaGreatPg6
import Derived.Test.YtbnjndloeflgiaaGreatPkTA46
import Derived.Test.YtbnjndloeflgiaaGreatPw2
import Derived.Test.YtbnjndloeflgiaaGreatPkTA48
namespace Go.Proofs.YtbnjndloeflgiaaGreat.fnTable
open Go.ChangeShapes Go.WideShapes Go.ChangeAt Go.RowKit
open Go.ChangeMaps (open_string shut_string)
set_option linter.unusedVariables false

theorem own : ownKnob Tryz.prog.godebug = none := by kernel_rfl
theorem laidOut : laidOutB Tryz.prog = true := by kernel_rfl

def IsRow (k : IntKind) (w : World) (a : Option Addr) (len cap : Nat) (zs : List Int) : Prop :=
  (a = none ∧ len = 0 ∧ cap = 0 ∧ zs = []) ∨
  ∃ x, a = some x ∧ len ≤ cap ∧ cap ≤ maxLen ∧ zs.length = cap ∧ (∀ i, i < zs.length → w.cell? (x.add i) = some (.int k (zs.getD i 0))) ∧ ∀ n ∈ zs, (Lit.int k n).wf = true

open Nd0 Qa0 Pl1 Tm0 Tm1 Tm4 Tm5 Tm6 Fr0 Tm2 Tm3 Tx0 Tx1 Tm8 Tx2 Tm7 Tm12 Tx3 Tr0 Pl2 Rw0 Ap0 Ap1 Rw1 Tm9 Tm10 Tm13 Tm11 Tm14 Vl1 Vl2 Vm0 Fr1 Fr2 Fr3 Fr5 Nd1 Sp2 Ws1 Sp3 Sp4 Sp5 Sp6 Nd3 Ap2 Sp7 Ap3 Sp10 Fm5 Qa2 Fm6 Sp8 Sp9 Sp11 Ap7 Fm7 Fr4 To0 Pg1 Wd1 Wd2 Wd3 Wd4 Fm1 Kp1 Fp1 To1 Ta0 Ta1 Ss0 To0t Pv6 Lift Vm1 Vm2 Kp0 Pv7 Pv8 Pv9 Pv10 Tx4 Vl3 Vl4 Vl5 Ic4 Pv11 Pv12 Ap6 Bt0 Sv5 Pv5 Vm3 Pg2 Pg7 Pg8 Pg9 Pv13 Pg12 Pg13 Pg14 Pv14 Pv15 Fp2 Ss1 Tc2 Tc3 Tc4 Tc5 Tc1 Tc6 To2 Fm2 Wd5 Sv1 Sv3 Sv4 Fm4 Ap9 Td1 Td2 To3 Sv6 Tc7 Tc8 Tc9 Tc10 Ta2 Te1 Td3 Td4 Te3 Sp12 Dr0 Dr1 Dw0 Dw1 Dq0 Du2 Du3 Du4 Du5 Dr4 Ds1 Lw4 Ta3 De0 Dh0 Dh1 Dh2 Dh3 Ft0 Lta1 Pg3 Pg4 Pg5 Pg6 Pv1 Pv3 Pw1 Pw2 Pw3 Pw4
set_option maxHeartbeats 1000000 in
theorem walk (a0 : Option Addr) (len0 cap0 : Nat) (z0 : List Int) (w : World) (w0 : IsRow .u8 w a0 len0 cap0 z0) :
    Calls Tryz.prog 3 #[.slice a0 len0 cap0] w fun e w' => e = .returned (.bool true) ∧ Below w.heap.size w w' := by
  refine lawTable (To2.iTableOf' (Fp2.iFrontOk iTermOk (iReached iTermOk)) iApply) w a0 len0 cap0 ?_
  rcases w0 with ⟨rfl, rfl, rfl, rfl⟩ | ⟨x, rfl, hl, hm, hz, hcell, hwz⟩
  · exact ⟨Nat.zero_le _, .inl rfl⟩
  · exact Dr0.bytes_of hl hm hz hcell hwz

set_option maxRecDepth 100000 in
theorem lifted (os : Os) (started : os.Started) (H : Type) (enc : TypeId × Value → H) :
    ReturnsInHanded {} Tryz.checked os 3 .any (Rows.fnTableSpec.pre6 enc Tryz.prog Tryz.f3 Rows.fnTableRow.domain false) (Rows.fnTableSpec.post enc Tryz.prog Tryz.f3 false true false false) := by
  refine returnsInHanded_of_change (C := Tryz.checked) own started (by kernel_rfl) Tryz.func3
    (ChangeSpec.witness6 (enc := enc) (C := Tryz.checked) false ⟨#[], #[.slice none 0 0], []⟩ 8 (by kernel_rfl) (by kernel_rfl) (by kernel_rfl) (by kernel_rfl)) ?_
  intro W base args ds gs before hval0 hW hcnd _
  have hval : ∀ (j : Nat) t v, Tryz.f3.params[j]? = some t → args[j]? = some v → Value.okWide Tryz.prog W .any base t v := hval0
  have hW' := hW
  obtain ⟨p, q, hA0, hV, rfl, hfz, hnd⟩ := hW
  have hA : DataW.TrodAll enc Tryz.prog W 0 (fun _ => true) true Tryz.f3.params.toList args.toList ds p := hA0
  rw [Tryz.params3] at hA hval
  obtain ⟨v0, vs0, d0, ds0, p0, q0, hargs, rfl, rfl, h0, r0⟩ := trodAll_cons hA
  obtain ⟨rfl, rfl, rfl⟩ := trodAll_nil r0
  obtain rfl : args = #[v0] := by cases args; simp_all
  obtain ⟨rfl, rfl⟩ := trodVars_none hV
  obtain ⟨a0, len0, cap0, rfl⟩ := okWide_slice Tryz.underlying22 (hval 0 22 v0 rfl rfl)
  have k0 := h0
  have lt0 : ∀ x ∈ p0, x.block < W.heap.size := by obtain ⟨m, hm⟩ := k0; exact DataW.trod_lt m _ _ _ hm
  obtain ⟨z0, w0⟩ : ∃ zs, IsRow .u8 W a0 len0 cap0 zs := by
    obtain ⟨fuel, hf⟩ := h0
    rcases open_ints Tryz.underlying22 Tryz.underlying5 (by kernel_rfl) hf with ⟨hcs, _⟩ | ⟨x, l, c, zs, hcs, _, hl, hm, hz, _, hcell, hwz⟩
    · simp [Value.cells] at hcs
      obtain ⟨rfl, rfl, rfl⟩ := hcs
      exact ⟨[], .inl ⟨rfl, rfl, rfl, rfl⟩⟩
    · simp [Value.cells] at hcs
      obtain ⟨rfl, rfl, rfl⟩ := hcs
      exact ⟨zs, .inr ⟨_, rfl, hl, hm, by simpa using hz, hcell, hwz⟩⟩
  clear hA0 hval0
  refine (walk a0 len0 cap0 z0 W w0).mono fun e W' ⟨he, bel⟩ => ?_
  subst he
  exact ⟨_, rfl, _, _, _, [], _, [], hW', trodAll_mk1 (shut_bool Tryz.underlying4 _), (trodAll_cons_mk (Below.trod laidOut (by kernel_rfl) (of_decide_eq_true (by kernel_rfl)) k0 bel lt0) trodAll_mk0), rfl, bel.frame _, fun h => by cases h⟩

theorem over : Rows.fnTableRow.holds Tryz.pinned (OpenSpec.ofChange Rows.fnTableSpec) :=
  OpenClaim.holds_of_wide 3 Tryz.f3 rfl rfl rfl rfl rfl rfl rfl ⟨rfl, rfl, rfl, rfl, rfl⟩ rfl rfl rfl rfl rfl (by kernel_rfl) Tryz.func3 (by kernel_rfl)
    (of_decide_eq_true (by kernel_rfl)) (by unfold Func.isWrapper; first | (rw [if_pos (by decide +kernel)]; kernel_rfl) | (rw [if_neg (by decide +kernel)]; exact ⟨rfl, rfl⟩))
    (fun os started H enc _ => lifted os started H enc)

end Go.Proofs.YtbnjndloeflgiaaGreat.fnTable
namespace Go.Proofs.YtbnjndloeflgiaaGreat
theorem fnTable_holds : Rows.FnTableSaid := fnTable.over
end Go.Proofs.YtbnjndloeflgiaaGreat
