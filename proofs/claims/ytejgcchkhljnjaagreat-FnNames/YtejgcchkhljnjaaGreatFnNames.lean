/- Whatever bytes the law is drawn from: a variable of a sentence that is renamed to a new number leaves it what it is worth, as many variables, its level, and the way back; no condition. -/
import Derived.Test.YtejgcchkhljnjaaGreatRows
import Derived.WalkKit
import Derived.ProofKit
import Derived.OpenShut
import Derived.ShutString
import Derived.ChangeOld
import Derived.Below
import Derived.Test.YtejgcchkhljnjaaGreatPkNM0
import Derived.Test.YtejgcchkhljnjaaGreatPkNM1
import Derived.Test.YtejgcchkhljnjaaGreatPkNM2
import Derived.Test.YtejgcchkhljnjaaGreatPkNM3
import Derived.Test.YtejgcchkhljnjaaGreatDu2
import Derived.Test.YtejgcchkhljnjaaGreatDu3
import Derived.Test.YtejgcchkhljnjaaGreatDu4
import Derived.Test.YtejgcchkhljnjaaGreatPkNM7
import Derived.Test.YtejgcchkhljnjaaGreatPkNM8
import Derived.Test.YtejgcchkhljnjaaGreatSp7
import Derived.Test.YtejgcchkhljnjaaGreatAp3
import Derived.Test.YtejgcchkhljnjaaGreatSp8
import Derived.Test.YtejgcchkhljnjaaGreatPkNM12
import Derived.Test.YtejgcchkhljnjaaGreatSp11
import Derived.Test.YtejgcchkhljnjaaGreatPkNM14
import Derived.Test.YtejgcchkhljnjaaGreatPkNM15
import Derived.Test.YtejgcchkhljnjaaGreatPkNM16
import Derived.Test.YtejgcchkhljnjaaGreatPkNM17
import Derived.Test.YtejgcchkhljnjaaGreatPkNM18
import Derived.Test.YtejgcchkhljnjaaGreatPkNM19
import Derived.Test.YtejgcchkhljnjaaGreatPkNM20
import Derived.Test.YtejgcchkhljnjaaGreatSv1
import Derived.Test.YtejgcchkhljnjaaGreatPkNM22
import Derived.Test.YtejgcchkhljnjaaGreatPkNM23
import Derived.Test.YtejgcchkhljnjaaGreatSv5
import Derived.Test.YtejgcchkhljnjaaGreatPkNM25
import Derived.Test.YtejgcchkhljnjaaGreatPkNM26
import Derived.Test.YtejgcchkhljnjaaGreatPkNM27
import Derived.Test.YtejgcchkhljnjaaGreatPkNM28
import Derived.Test.YtejgcchkhljnjaaGreatPkNM29
import Derived.Test.YtejgcchkhljnjaaGreatPkNM30
import Derived.Test.YtejgcchkhljnjaaGreatPkNM31
import Derived.Test.YtejgcchkhljnjaaGreatPg4
import Derived.Test.YtejgcchkhljnjaaGreatPg5
import Derived.Test.YtejgcchkhljnjaaGreatPg6
import Derived.Test.YtejgcchkhljnjaaGreatPkNM35
import Derived.Test.YtejgcchkhljnjaaGreatPkNM36
import Derived.Test.YtejgcchkhljnjaaGreatPkNM37
import Derived.Test.YtejgcchkhljnjaaGreatPv8
import Derived.Test.YtejgcchkhljnjaaGreatPkNM39
import Derived.Test.YtejgcchkhljnjaaGreatPkNM40
import Derived.Test.YtejgcchkhljnjaaGreatVm3
import Derived.Test.YtejgcchkhljnjaaGreatPv13
import Derived.Test.YtejgcchkhljnjaaGreatPkNM43
import Derived.Test.YtejgcchkhljnjaaGreatPkNM44
import Derived.Test.YtejgcchkhljnjaaGreatPkNM45
namespace Go.Proofs.YtejgcchkhljnjaaGreat.fnNames
open Go.ChangeShapes Go.WideShapes Go.ChangeAt Go.RowKit
open Go.ChangeMaps (open_string shut_string)
set_option linter.unusedVariables false

theorem own : ownKnob Tryz.prog.godebug = none := by kernel_rfl
theorem laidOut : laidOutB Tryz.prog = true := by kernel_rfl

def IsRow (k : IntKind) (w : World) (a : Option Addr) (len cap : Nat) (zs : List Int) : Prop :=
  (a = none ∧ len = 0 ∧ cap = 0 ∧ zs = []) ∨
  ∃ x, a = some x ∧ len ≤ cap ∧ cap ≤ maxLen ∧ zs.length = cap ∧ (∀ i, i < zs.length → w.cell? (x.add i) = some (.int k (zs.getD i 0))) ∧ ∀ n ∈ zs, (Lit.int k n).wf = true

open Nd0 Nd1 Nd3 Ap2 Ap7 Dr0 Dr1 Dw0 Dw1 Pl1 Tm0 Tm1 Tm2 Tm3 Tm8 Tm4 Tm5 Tm6 Rw0 Ap0 Ap1 Rw1 Tm9 Tm10 Tm11 Dq0 Ws1 Du2 Du3 Du4 Sp2 Sp3 Sp4 Sp5 Sp6 Sp7 Ap3 Sp8 Sp9 Sp10 Sp11 Du5 Dr4 Ds1 Lw4 Lw5 Tm7 Tm12 Tm13 Aq0 Tx0 Tx1 Tx2 Tx3 Tr0 Pl2 Tm14 Vl1 Aq1 Qa0 Fr0 Vl2 Vm0 Fr1 Fr2 Fr3 Tx4 Vl3 Vl4 Vl5 Aq4 Aq5 Aq6 Ic4 Kp1 Bt0 Wd1 Wd2 Wd3 Wd4 Wd5 Kp0 Sv1 Sv3 Sv4 Vm1 Ap6 Sv5 Sv6 Sv7 Am1 Ap13 Am4 Pg1 Pg2 Ap12 Pg10 Pg11 Aw1 Aw3 Pg8 Pg9 Pb1 Pb2 Nd4 Aw2 Qi0 Pb3 Pb4 Pb5 Lnm1 Pg3 Pg4 Pg5 Pg6 Pg7 Pg12 Pg13 Pg14 Pv6 Lift Vm2 Pv7 Pv8 Pv9 Pv10 Pv11 Pv12 Pv5 Vm3 Pv13 Pv14 Pv15 Pv16 Pv1 Pv3 Pw1 Pw2 Pw3 Pw4
set_option maxHeartbeats 1000000 in
theorem walk (a0 : Option Addr) (len0 cap0 : Nat) (z0 : List Int) (w : World) (w0 : IsRow .u8 w a0 len0 cap0 z0) :
    Calls Tryz.prog 4 #[.slice a0 len0 cap0] w fun e w' => e = .returned (.bool true) ∧ Below w.heap.size w w' := by
  refine lawNames iTermOk (iPrune iTermOk (iReached iTermOk)) (iHolds iTermOk (iReached iTermOk) (iValue iTermOk (iReached iTermOk) iApply)) w a0 len0 cap0 ?_
  rcases w0 with ⟨rfl, rfl, rfl, rfl⟩ | ⟨x, rfl, hl, hm, hz, hcell, hwz⟩
  · exact ⟨Nat.zero_le _, .inl rfl⟩
  · exact bytes_of hl hm hz hcell hwz

set_option maxRecDepth 100000 in
theorem lifted (os : Os) (started : os.Started) (H : Type) (enc : TypeId × Value → H) :
    ReturnsInHanded {} Tryz.checked os 4 .any (Rows.fnNamesSpec.pre6 enc Tryz.prog Tryz.f4 Rows.fnNamesRow.domain false) (Rows.fnNamesSpec.post enc Tryz.prog Tryz.f4 false true false false) := by
  refine returnsInHanded_of_change (C := Tryz.checked) own started (by kernel_rfl) Tryz.func4
    (ChangeSpec.witness6 (enc := enc) (C := Tryz.checked) false ⟨#[], #[.slice none 0 0], []⟩ 8 (by kernel_rfl) (by kernel_rfl) (by kernel_rfl) (by kernel_rfl)) ?_
  intro W base args ds gs before hval0 hW hcnd _
  have hval : ∀ (j : Nat) t v, Tryz.f4.params[j]? = some t → args[j]? = some v → Value.okWide Tryz.prog W .any base t v := hval0
  have hW' := hW
  obtain ⟨p, q, hA0, hV, rfl, hfz, hnd⟩ := hW
  have hA : DataW.TrodAll enc Tryz.prog W 0 (fun _ => true) true Tryz.f4.params.toList args.toList ds p := hA0
  rw [Tryz.params4] at hA hval
  obtain ⟨v0, vs0, d0, ds0, p0, q0, hargs, rfl, rfl, h0, r0⟩ := trodAll_cons hA
  obtain ⟨rfl, rfl, rfl⟩ := trodAll_nil r0
  obtain rfl : args = #[v0] := by cases args; simp_all
  obtain ⟨rfl, rfl⟩ := trodVars_none hV
  obtain ⟨a0, len0, cap0, rfl⟩ := okWide_slice Tryz.underlying22 (hval 0 22 v0 rfl rfl)
  have k0 := h0
  have lt0 : ∀ x ∈ p0, x.block < W.heap.size := by obtain ⟨m, hm⟩ := k0; exact DataW.trod_lt m _ _ _ hm
  obtain ⟨z0, w0⟩ : ∃ zs, IsRow .u8 W a0 len0 cap0 zs := by
    obtain ⟨fuel, hf⟩ := h0
    rcases open_ints Tryz.underlying22 Tryz.underlying5 (by kernel_rfl) hf with ⟨hcs, _⟩ | ⟨x, l, c, zs, hcs, _, hl, hm, hz, _, hcell, hwz⟩
    · simp [Value.cells] at hcs
      obtain ⟨rfl, rfl, rfl⟩ := hcs
      exact ⟨[], .inl ⟨rfl, rfl, rfl, rfl⟩⟩
    · simp [Value.cells] at hcs
      obtain ⟨rfl, rfl, rfl⟩ := hcs
      exact ⟨zs, .inr ⟨_, rfl, hl, hm, by simpa using hz, hcell, hwz⟩⟩
  clear hA0 hval0
  refine (walk a0 len0 cap0 z0 W w0).mono fun e W' ⟨he, bel⟩ => ?_
  subst he
  exact ⟨_, rfl, _, _, _, [], _, [], hW', trodAll_mk1 (shut_bool Tryz.underlying4 _), (trodAll_cons_mk (Below.trod laidOut (by kernel_rfl) (of_decide_eq_true (by kernel_rfl)) k0 bel lt0) trodAll_mk0), rfl, bel.frame _, fun h => by cases h⟩

theorem over : Rows.fnNamesRow.holds Tryz.pinned (OpenSpec.ofChange Rows.fnNamesSpec) :=
  OpenClaim.holds_of_wide 4 Tryz.f4 rfl rfl rfl rfl rfl rfl rfl ⟨rfl, rfl, rfl, rfl, rfl⟩ rfl rfl rfl rfl rfl (by kernel_rfl) Tryz.func4 (by kernel_rfl)
    (of_decide_eq_true (by kernel_rfl)) (by unfold Func.isWrapper; first | (rw [if_pos (by decide +kernel)]; kernel_rfl) | (rw [if_neg (by decide +kernel)]; exact ⟨rfl, rfl⟩))
    (fun os started H enc _ => lifted os started H enc)

end Go.Proofs.YtejgcchkhljnjaaGreat.fnNames
namespace Go.Proofs.YtejgcchkhljnjaaGreat
theorem fnNames_holds : Rows.FnNamesSaid := fnNames.over
end Go.Proofs.YtejgcchkhljnjaaGreat
