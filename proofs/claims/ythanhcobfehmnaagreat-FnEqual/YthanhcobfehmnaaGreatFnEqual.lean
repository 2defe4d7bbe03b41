/- Whatever bytes the law is drawn from: a term is equal to itself, equality does not depend on the order, and equal terms are worth the same; no condition. -/
import Derived.Test.YthanhcobfehmnaaGreatRows
import Derived.ProofKit
import Derived.OpenShut
import Derived.ShutString
import Derived.ChangeOld
import Derived.Below
import Derived.Test.YthanhcobfehmnaaGreatPw4
namespace Go.Proofs.YthanhcobfehmnaaGreat.fnEqual
open Go.ChangeShapes Go.WideShapes Go.ChangeAt Go.RowKit
open Go.ChangeMaps (open_string shut_string)
set_option linter.unusedVariables false

theorem own : ownKnob Tryz.prog.godebug = none := by kernel_rfl
theorem laidOut : laidOutB Tryz.prog = true := by kernel_rfl

def IsRow (k : IntKind) (w : World) (a : Option Addr) (len cap : Nat) (zs : List Int) : Prop :=
  (a = none ∧ len = 0 ∧ cap = 0 ∧ zs = []) ∨
  ∃ x, a = some x ∧ len ≤ cap ∧ cap ≤ maxLen ∧ zs.length = cap ∧ (∀ i, i < zs.length → w.cell? (x.add i) = some (.int k (zs.getD i 0))) ∧ ∀ n ∈ zs, (Lit.int k n).wf = true

open Dr0 Dr1 Nd0 Nd1 Nd3 Ap2 Dw0 Dw1 Ap0 Pl1 Ws1 Dw2 Dw3 Dw4 Tm0 Sp2 Sp3 Sp4 Ap1 Tm1 Sp5 Tm2 Sp6 Tm3 Sp7 Tm4 Ap3 Sp8 Sp9 Tm5 Sp10 Rw0 Tm6 Rw1 Tm9 Sp11 Dw5 Dr4 Dw6 Dw7 Dw8 Wd1 Tm8 Tm10 Tm11 Tx0 Tx1 Tx2 Tm7 Tm12 Tx3 Tr0 Pl2 Tm13 Tm14 Vl1 Vl2 Tx4 Vl3 Vl4 Vl5 Ic4 Rp0 Sv2 Dcn1 Aq0 Aq1 Bt0 Wd2 Wd3 Wd4 Wd5 Kp0 Sv1 Vm0 Ap7 Ap13 Qa0 Qi0 Pb3 Am6 Ss0 Ss1 Ss2 Ss9 Ss3 Ss4 Ss5 Ss5b Ss6 Ss7 Ss8 Ap4 Ss10 Cn0 Dcn2 Lw4 Lat Vc0 Aq2 Aq12 Vc1 Pg1 Pg2 Ar0 Pg10 Pg11 Aw1 Aw4 Pb8 Pb9 Ap15 Nd4 Aw2 Pb10 Pb11 Pb12 Vc2 Am5 Am7 Am8 Am9 Kp1 Sv3 Sv4 Vm1 Ap6 Sv5 Sv6 Sv7 Am10 Leq1 Pg3 Pg4 Pg5 Pg6 Pg7 Pg12 Pg13 Pg8 Pg9 Pg14 Pv6 Lift Vm2 Pv7 Pv8 Pv9 Pv10 Pv11 Pv12 Pv5 Vm3 Pv13 Pv14 Pv15 Pv16 Pv1 Pv3 Pw1 Pw4
set_option maxHeartbeats 1000000 in
theorem walk (a0 : Option Addr) (len0 cap0 : Nat) (z0 : List Int) (w : World) (w0 : IsRow .u8 w a0 len0 cap0 z0) :
    Calls Tryz.prog 3 #[.slice a0 len0 cap0] w fun e w' => e = .returned (.bool true) ∧ Below w.heap.size w w' := by
  refine lawEqual iTermOk (iValue iTermOk (iReached iTermOk) iApply) (iHolds iTermOk (iReached iTermOk) (iValue iTermOk (iReached iTermOk) iApply)) w a0 len0 cap0 ?_
  rcases w0 with ⟨rfl, rfl, rfl, rfl⟩ | ⟨x, rfl, hl, hm, hz, hcell, hwz⟩
  · exact ⟨Nat.zero_le _, .inl rfl⟩
  · exact bytes_of hl hm hz hcell hwz

set_option maxRecDepth 100000 in
theorem lifted (os : Os) (started : os.Started) (H : Type) (enc : TypeId × Value → H) :
    ReturnsInHanded {} Tryz.checked os 3 .any (Rows.fnEqualSpec.pre6 enc Tryz.prog Tryz.f3 Rows.fnEqualRow.domain false) (Rows.fnEqualSpec.post enc Tryz.prog Tryz.f3 false true false false) := by
  refine returnsInHanded_of_change (C := Tryz.checked) own started (by kernel_rfl) Tryz.func3
    (ChangeSpec.witness6 (enc := enc) (C := Tryz.checked) false ⟨#[], #[.slice none 0 0], []⟩ 8 (by kernel_rfl) (by kernel_rfl) (by kernel_rfl) (by kernel_rfl)) ?_
  intro W base args ds gs before hval0 hW hcnd _
  have hval : ∀ (j : Nat) t v, Tryz.f3.params[j]? = some t → args[j]? = some v → Value.okWide Tryz.prog W .any base t v := hval0
  have hW' := hW
  obtain ⟨p, q, hA0, hV, rfl, hfz, hnd⟩ := hW
  have hA : DataW.TrodAll enc Tryz.prog W 0 (fun _ => true) true Tryz.f3.params.toList args.toList ds p := hA0
  rw [Tryz.params3] at hA hval
  obtain ⟨v0, vs0, d0, ds0, p0, q0, hargs, rfl, rfl, h0, r0⟩ := trodAll_cons hA
  obtain ⟨rfl, rfl, rfl⟩ := trodAll_nil r0
  obtain rfl : args = #[v0] := by cases args; simp_all
  obtain ⟨rfl, rfl⟩ := trodVars_none hV
  obtain ⟨a0, len0, cap0, rfl⟩ := okWide_slice Tryz.underlying22 (hval 0 22 v0 rfl rfl)
  have k0 := h0
  have lt0 : ∀ x ∈ p0, x.block < W.heap.size := by obtain ⟨m, hm⟩ := k0; exact DataW.trod_lt m _ _ _ hm
  obtain ⟨z0, w0⟩ : ∃ zs, IsRow .u8 W a0 len0 cap0 zs := by
    obtain ⟨fuel, hf⟩ := h0
    rcases open_ints Tryz.underlying22 Tryz.underlying5 (by kernel_rfl) hf with ⟨hcs, _⟩ | ⟨x, l, c, zs, hcs, _, hl, hm, hz, _, hcell, hwz⟩
    · simp [Value.cells] at hcs
      obtain ⟨rfl, rfl, rfl⟩ := hcs
      exact ⟨[], .inl ⟨rfl, rfl, rfl, rfl⟩⟩
    · simp [Value.cells] at hcs
      obtain ⟨rfl, rfl, rfl⟩ := hcs
      exact ⟨zs, .inr ⟨_, rfl, hl, hm, by simpa using hz, hcell, hwz⟩⟩
  clear hA0 hval0
  refine (walk a0 len0 cap0 z0 W w0).mono fun e W' ⟨he, bel⟩ => ?_
  subst he
  exact ⟨_, rfl, _, _, _, [], _, [], hW', trodAll_mk1 (shut_bool Tryz.underlying4 _), (trodAll_cons_mk (Below.trod laidOut (by kernel_rfl) (of_decide_eq_true (by kernel_rfl)) k0 bel lt0) trodAll_mk0), rfl, bel.frame _, fun h => by cases h⟩

theorem over : Rows.fnEqualRow.holds Tryz.pinned (OpenSpec.ofChange Rows.fnEqualSpec) :=
  OpenClaim.holds_of_wide 3 Tryz.f3 rfl rfl rfl rfl rfl rfl rfl ⟨rfl, rfl, rfl, rfl, rfl⟩ rfl rfl rfl rfl rfl (by kernel_rfl) Tryz.func3 (by kernel_rfl)
    (of_decide_eq_true (by kernel_rfl)) (by unfold Func.isWrapper; first | (rw [if_pos (by decide +kernel)]; kernel_rfl) | (rw [if_neg (by decide +kernel)]; exact ⟨rfl, rfl⟩))
    (fun os started H enc _ => lifted os started H enc)

end Go.Proofs.YthanhcobfehmnaaGreat.fnEqual
namespace Go.Proofs.YthanhcobfehmnaaGreat
theorem fnEqual_holds : Rows.FnEqualSaid := fnEqual.over
end Go.Proofs.YthanhcobfehmnaaGreat
