/- Whatever bytes the law is drawn from: a sentence's quantifiers at its front and its rest are right, worth what it is worth and of as many bits; put back behind the rest they are a sentence of the same front, rest and worth; no condition. -/
import Derived.Test.YtebejleeadofcaaGreatRows
import Derived.WalkKit
import Derived.ProofKit
import Derived.OpenShut
import Derived.ShutString
import Derived.ChangeOld
import Derived.Below
import Derived.Test.YtebejleeadofcaaGreatPkFR0
import Derived.Test.YtebejleeadofcaaGreatPkFR1
import Derived.Test.YtebejleeadofcaaGreatPkFR2
import Derived.Test.YtebejleeadofcaaGreatPkFR3
import Derived.Test.YtebejleeadofcaaGreatDu2
import Derived.Test.YtebejleeadofcaaGreatDu3
import Derived.Test.YtebejleeadofcaaGreatDu4
import Derived.Test.YtebejleeadofcaaGreatSp2
import Derived.Test.YtebejleeadofcaaGreatSp3
import Derived.Test.YtebejleeadofcaaGreatPkFR9
import Derived.Test.YtebejleeadofcaaGreatSp7
import Derived.Test.YtebejleeadofcaaGreatAp3
import Derived.Test.YtebejleeadofcaaGreatSp8
import Derived.Test.YtebejleeadofcaaGreatPkFR13
import Derived.Test.YtebejleeadofcaaGreatSp11
import Derived.Test.YtebejleeadofcaaGreatPkFR15
import Derived.Test.YtebejleeadofcaaGreatPkFR16
import Derived.Test.YtebejleeadofcaaGreatPkFR17
import Derived.Test.YtebejleeadofcaaGreatPkFR18
import Derived.Test.YtebejleeadofcaaGreatFr1
import Derived.Test.YtebejleeadofcaaGreatFr2
import Derived.Test.YtebejleeadofcaaGreatPkFR21
import Derived.Test.YtebejleeadofcaaGreatPkFR22
import Derived.Test.YtebejleeadofcaaGreatPkFR23
import Derived.Test.YtebejleeadofcaaGreatPkFR24
import Derived.Test.YtebejleeadofcaaGreatPkFR25
import Derived.Test.YtebejleeadofcaaGreatPkFR26
import Derived.Test.YtebejleeadofcaaGreatSv1
import Derived.Test.YtebejleeadofcaaGreatSv3
import Derived.Test.YtebejleeadofcaaGreatPkFR29
import Derived.Test.YtebejleeadofcaaGreatPkFR30
import Derived.Test.YtebejleeadofcaaGreatFq2
import Derived.Test.YtebejleeadofcaaGreatPkFR32
import Derived.Test.YtebejleeadofcaaGreatPkFR33
import Derived.Test.YtebejleeadofcaaGreatPkFR34
import Derived.Test.YtebejleeadofcaaGreatPkFR35
import Derived.Test.YtebejleeadofcaaGreatPv7
import Derived.Test.YtebejleeadofcaaGreatPv8
import Derived.Test.YtebejleeadofcaaGreatPkFR38
import Derived.Test.YtebejleeadofcaaGreatPkFR39
import Derived.Test.YtebejleeadofcaaGreatSv5
import Derived.Test.YtebejleeadofcaaGreatPkFR41
import Derived.Test.YtebejleeadofcaaGreatPg9
import Derived.Test.YtebejleeadofcaaGreatPv13
import Derived.Test.YtebejleeadofcaaGreatPkFR44
import Derived.Test.YtebejleeadofcaaGreatPkFR45
import Derived.Test.YtebejleeadofcaaGreatFp5
import Derived.Test.YtebejleeadofcaaGreatFp6
import Derived.Test.YtebejleeadofcaaGreatPkFR48
import Derived.Test.YtebejleeadofcaaGreatPkFR49
import Derived.Test.YtebejleeadofcaaGreatPkFR50
import Derived.Test.YtebejleeadofcaaGreatPkFR51
import Derived.Test.YtebejleeadofcaaGreatPw4
namespace Go.Proofs.YtebejleeadofcaaGreat.fnFront
open Go.ChangeShapes Go.WideShapes Go.ChangeAt Go.RowKit
open Go.ChangeMaps (open_string shut_string)
set_option linter.unusedVariables false

theorem own : ownKnob Tryz.prog.godebug = none := by kernel_rfl
theorem laidOut : laidOutB Tryz.prog = true := by kernel_rfl

def IsRow (k : IntKind) (w : World) (a : Option Addr) (len cap : Nat) (zs : List Int) : Prop :=
  (a = none ∧ len = 0 ∧ cap = 0 ∧ zs = []) ∨
  ∃ x, a = some x ∧ len ≤ cap ∧ cap ≤ maxLen ∧ zs.length = cap ∧ (∀ i, i < zs.length → w.cell? (x.add i) = some (.int k (zs.getD i 0))) ∧ ∀ n ∈ zs, (Lit.int k n).wf = true

open Nd0 Nd1 Nd3 Ap2 Ap7 Dr0 Dr1 Dw0 Dw1 Pl1 Tm0 Tm1 Tm2 Tm3 Tm8 Tm4 Tm5 Tm6 Rw0 Ap0 Ap1 Rw1 Tm9 Tm10 Tm11 Dq0 Ws1 Du2 Du3 Du4 Sp2 Sp3 Sp4 Sp5 Sp6 Sp7 Ap3 Sp8 Sp9 Sp10 Sp11 Du5 Dr4 Ds1 Lw4 Lw5 Tx0 Tx1 Tx2 Tm7 Tm12 Tx3 Tr0 Pl2 Tm13 Tm14 Vl1 Vl2 Tx4 Vl3 Vl4 Vl5 Qa0 Fr0 Vm0 Fr1 Fr2 Fr3 Fr5 Fb0 Fr4 To0 Ta0 Ta1 Ss0 Ss1 Ta2 Tc2 Tc3 Tc4 Tc5 Ap9 Td1 Ta3 De0 Dh0 Dh1 To0t Dh2 Dh3 Ff0 Qa2 Pg1 Wd1 Wd2 Wd3 Wd4 Fm1 Fm2 Kp1 Bt0 Wd5 Kp0 Sv1 Sv3 Sv4 Fm4 Ff1 Fb1 Fm5 Fm6 Ap14 Fq0 Qi0 Qi1 Qi2 Fq1 Fq2 Nd4 Pg2 Pg10 Pg11 Fq3 Nd5 Fq4 Fp1 Fp2 Ap8 Fm3 Fp3 Pv6 Lift Vm1 Vm2 Pv7 Pv8 Pv9 Pv10 Ic4 Pv11 Pv12 Ap6 Sv5 Pv5 Vm3 Pg7 Pg8 Pg9 Pv13 Pg12 Pg13 Pg14 Pv14 Pv15 Fp4 Fp5 Fp6 Fp7 Sv6 Sv7 Lfr1 Pg3 Pg4 Pg5 Pg6 Pv16 Pv1 Pv3 Pw1 Pw4
set_option maxHeartbeats 1000000 in
theorem walk (a0 : Option Addr) (len0 cap0 : Nat) (z0 : List Int) (w : World) (w0 : IsRow .u8 w a0 len0 cap0 z0) :
    Calls Tryz.prog 3 #[.slice a0 len0 cap0] w fun e w' => e = .returned (.bool true) ∧ Below w.heap.size w w' := by
  refine lawFront (Fq4.iFront (iSentence iTermOk (iReached iTermOk)) (iReached iTermOk) (iPrune iTermOk (iReached iTermOk))) (Fp2.iFrontOk iTermOk (iReached iTermOk)) (Fp7.iHoldsFront (Fp2.iFrontOk iTermOk (iReached iTermOk)) iApply) (iBits iTermOk (iReached iTermOk)) (Fp3.iBack (Fp2.iFrontOk iTermOk (iReached iTermOk))) (iHolds iTermOk (iReached iTermOk) (iValue iTermOk (iReached iTermOk) iApply)) w a0 len0 cap0 ?_
  rcases w0 with ⟨rfl, rfl, rfl, rfl⟩ | ⟨x, rfl, hl, hm, hz, hcell, hwz⟩
  · exact ⟨Nat.zero_le _, .inl rfl⟩
  · exact Dr0.bytes_of hl hm hz hcell hwz

set_option maxRecDepth 100000 in
theorem lifted (os : Os) (started : os.Started) (H : Type) (enc : TypeId × Value → H) :
    ReturnsInHanded {} Tryz.checked os 3 .any (Rows.fnFrontSpec.pre6 enc Tryz.prog Tryz.f3 Rows.fnFrontRow.domain false) (Rows.fnFrontSpec.post enc Tryz.prog Tryz.f3 false true false false) := by
  refine returnsInHanded_of_change (C := Tryz.checked) own started (by kernel_rfl) Tryz.func3
    (ChangeSpec.witness6 (enc := enc) (C := Tryz.checked) false ⟨#[], #[.slice none 0 0], []⟩ 8 (by kernel_rfl) (by kernel_rfl) (by kernel_rfl) (by kernel_rfl)) ?_
  intro W base args ds gs before hval0 hW hcnd _
  have hval : ∀ (j : Nat) t v, Tryz.f3.params[j]? = some t → args[j]? = some v → Value.okWide Tryz.prog W .any base t v := hval0
  have hW' := hW
  obtain ⟨p, q, hA0, hV, rfl, hfz, hnd⟩ := hW
  have hA : DataW.TrodAll enc Tryz.prog W 0 (fun _ => true) true Tryz.f3.params.toList args.toList ds p := hA0
  rw [Tryz.params3] at hA hval
  obtain ⟨v0, vs0, d0, ds0, p0, q0, hargs, rfl, rfl, h0, r0⟩ := trodAll_cons hA
  obtain ⟨rfl, rfl, rfl⟩ := trodAll_nil r0
  obtain rfl : args = #[v0] := by cases args; simp_all
  obtain ⟨rfl, rfl⟩ := trodVars_none hV
  obtain ⟨a0, len0, cap0, rfl⟩ := okWide_slice Tryz.underlying22 (hval 0 22 v0 rfl rfl)
  have k0 := h0
  have lt0 : ∀ x ∈ p0, x.block < W.heap.size := by obtain ⟨m, hm⟩ := k0; exact DataW.trod_lt m _ _ _ hm
  obtain ⟨z0, w0⟩ : ∃ zs, IsRow .u8 W a0 len0 cap0 zs := by
    obtain ⟨fuel, hf⟩ := h0
    rcases open_ints Tryz.underlying22 Tryz.underlying5 (by kernel_rfl) hf with ⟨hcs, _⟩ | ⟨x, l, c, zs, hcs, _, hl, hm, hz, _, hcell, hwz⟩
    · simp [Value.cells] at hcs
      obtain ⟨rfl, rfl, rfl⟩ := hcs
      exact ⟨[], .inl ⟨rfl, rfl, rfl, rfl⟩⟩
    · simp [Value.cells] at hcs
      obtain ⟨rfl, rfl, rfl⟩ := hcs
      exact ⟨zs, .inr ⟨_, rfl, hl, hm, by simpa using hz, hcell, hwz⟩⟩
  clear hA0 hval0
  refine (walk a0 len0 cap0 z0 W w0).mono fun e W' ⟨he, bel⟩ => ?_
  subst he
  exact ⟨_, rfl, _, _, _, [], _, [], hW', trodAll_mk1 (shut_bool Tryz.underlying4 _), (trodAll_cons_mk (Below.trod laidOut (by kernel_rfl) (of_decide_eq_true (by kernel_rfl)) k0 bel lt0) trodAll_mk0), rfl, bel.frame _, fun h => by cases h⟩

theorem over : Rows.fnFrontRow.holds Tryz.pinned (OpenSpec.ofChange Rows.fnFrontSpec) :=
  OpenClaim.holds_of_wide 3 Tryz.f3 rfl rfl rfl rfl rfl rfl rfl ⟨rfl, rfl, rfl, rfl, rfl⟩ rfl rfl rfl rfl rfl (by kernel_rfl) Tryz.func3 (by kernel_rfl)
    (of_decide_eq_true (by kernel_rfl)) (by unfold Func.isWrapper; first | (rw [if_pos (by decide +kernel)]; kernel_rfl) | (rw [if_neg (by decide +kernel)]; exact ⟨rfl, rfl⟩))
    (fun os started H enc _ => lifted os started H enc)

end Go.Proofs.YtebejleeadofcaaGreat.fnFront
namespace Go.Proofs.YtebejleeadofcaaGreat
theorem fnFront_holds : Rows.FnFrontSaid := fnFront.over
end Go.Proofs.YtebejleeadofcaaGreat
