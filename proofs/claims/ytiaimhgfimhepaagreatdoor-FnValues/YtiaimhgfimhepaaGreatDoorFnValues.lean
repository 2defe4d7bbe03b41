/- Whatever bytes the law is drawn from: a term's canonical form, and the term without what its root does not reach, are worth what it is worth; the program's and the library's tables are as their initialisers lay them (tied to the text of the pruned copy). -/
import Derived.Test.YtiaimhgfimhepaaGreatDoorRows
import Derived.WalkKit
import Derived.ProofKit
import Derived.OpenShut
import Derived.ShutString
import Derived.ChangeOld
import Derived.Below
import Derived.OpenVars
import Derived.LaidMore
import Derived.Stop.Joined
import Derived.SevenTiedAt
import Derived.Test.YtiaimhgfimhepaaGreatDoorTie
import Derived.Test.YtiaimhgfimhepaaGreatDoorCards
import Derived.Test.YtiaimhgfimhepaaGreatDoorPkVV0
import Derived.Test.YtiaimhgfimhepaaGreatDoorPkVV1
import Derived.Test.YtiaimhgfimhepaaGreatDoorDw2
import Derived.Test.YtiaimhgfimhepaaGreatDoorPkVV3
import Derived.Test.YtiaimhgfimhepaaGreatDoorDw4
import Derived.Test.YtiaimhgfimhepaaGreatDoorPkVV5
import Derived.Test.YtiaimhgfimhepaaGreatDoorPkVV6
import Derived.Test.YtiaimhgfimhepaaGreatDoorPkVV7
import Derived.Test.YtiaimhgfimhepaaGreatDoorSp8
import Derived.Test.YtiaimhgfimhepaaGreatDoorPkVV9
import Derived.Test.YtiaimhgfimhepaaGreatDoorSp11
import Derived.Test.YtiaimhgfimhepaaGreatDoorPkVV11
import Derived.Test.YtiaimhgfimhepaaGreatDoorPkVV12
import Derived.Test.YtiaimhgfimhepaaGreatDoorPkVV13
import Derived.Test.YtiaimhgfimhepaaGreatDoorPkVV14
import Derived.Test.YtiaimhgfimhepaaGreatDoorPkVV15
import Derived.Test.YtiaimhgfimhepaaGreatDoorPkVV16
import Derived.Test.YtiaimhgfimhepaaGreatDoorSv1
import Derived.Test.YtiaimhgfimhepaaGreatDoorPkVV18
import Derived.Test.YtiaimhgfimhepaaGreatDoorPkVV19
import Derived.Test.YtiaimhgfimhepaaGreatDoorSv5
import Derived.Test.YtiaimhgfimhepaaGreatDoorPkVV21
import Derived.Test.YtiaimhgfimhepaaGreatDoorPkVV22
import Derived.Test.YtiaimhgfimhepaaGreatDoorPkVV23
import Derived.Test.YtiaimhgfimhepaaGreatDoorPkVV24
import Derived.Test.YtiaimhgfimhepaaGreatDoorPt1
import Derived.Test.YtiaimhgfimhepaaGreatDoorShelf2
import Derived.Test.YtiaimhgfimhepaaGreatDoorPkVV27
import Derived.Test.YtiaimhgfimhepaaGreatDoorPg4
import Derived.Test.YtiaimhgfimhepaaGreatDoorPg5
import Derived.Test.YtiaimhgfimhepaaGreatDoorPg6
import Derived.Test.YtiaimhgfimhepaaGreatDoorMp0
import Derived.Test.YtiaimhgfimhepaaGreatDoorPr4
import Derived.Test.YtiaimhgfimhepaaGreatDoorPkVV33
import Derived.Test.YtiaimhgfimhepaaGreatDoorPkVV34
import Derived.Test.YtiaimhgfimhepaaGreatDoorPkVV35
import Derived.Test.YtiaimhgfimhepaaGreatDoorPkVV36
import Derived.Test.YtiaimhgfimhepaaGreatDoorPkVV37
import Derived.Test.YtiaimhgfimhepaaGreatDoorPkVV38
import Derived.Test.YtiaimhgfimhepaaGreatDoorPkVV39
import Derived.Test.YtiaimhgfimhepaaGreatDoorPv7
import Derived.Test.YtiaimhgfimhepaaGreatDoorPv8
import Derived.Test.YtiaimhgfimhepaaGreatDoorPkVV42
import Derived.Test.YtiaimhgfimhepaaGreatDoorPkVV43
import Derived.Test.YtiaimhgfimhepaaGreatDoorPkVV44
import Derived.Test.YtiaimhgfimhepaaGreatDoorPkVV45
import Derived.Test.YtiaimhgfimhepaaGreatDoorPkVV46
import Derived.Test.YtiaimhgfimhepaaGreatDoorPkVV47
namespace Go.Proofs.YtiaimhgfimhepaaGreatDoor.fnValues
open Go.ChangeShapes Go.WideShapes Go.ChangeAt Go.RowKit
open Go.ChangeMaps (open_string shut_string)
set_option linter.unusedVariables false

theorem own : ownKnob Tryz.prog.godebug = none := by kernel_rfl
theorem door_met (os : Os) (args : Array Value) : laidMetH Tryz.prog Rows.fnValuesRow.laid ((World.doorLaid Tryz.prog 400 os).forCall (fun _ _ => 0) ⟨#[], args, []⟩).memory :=
  laidMetH_of_parts3 (fuel := 8) (laidMet_of_run' 8 (by kernel_rfl) (by kernel_rfl)) (by kernel_rfl) (by kernel_rfl)
theorem laidOut : laidOutB Tryz.prog = true := by kernel_rfl

def IsRow (k : IntKind) (w : World) (a : Option Addr) (len cap : Nat) (zs : List Int) : Prop :=
  (a = none ∧ len = 0 ∧ cap = 0 ∧ zs = []) ∨
  ∃ x, a = some x ∧ len ≤ cap ∧ cap ≤ maxLen ∧ zs.length = cap ∧ (∀ i, i < zs.length → w.cell? (x.add i) = some (.int k (zs.getD i 0))) ∧ ∀ n ∈ zs, (Lit.int k n).wf = true

open Dr0 Dr1 Nd0 Nd1 Nd3 Ap2 Dw0 Dw1 Ap0 Pl1 Ws1 Dw2 Dw3 Dw4 Tm0 Sp2 Sp3 Sp4 Ap1 Tm1 Sp5 Tm2 Sp6 Tm3 Sp7 Tm4 Ap3 Sp8 Sp9 Tm5 Sp10 Rw0 Tm6 Rw1 Tm9 Sp11 Dw5 Dr4 Dw6 Dw7 Dw8 Dw9 Lw4 Tx0 Tx1 Tm8 Tx2 Tm7 Tm12 Tx3 Tr0 Pl2 Tm10 Tm13 Tm11 Tm14 Vl1 Vl2 Vm0 Kp1 Bt0 Wd1 Wd2 Wd3 Wd4 Wd5 Kp0 Sv1 Sv3 Sv4 Vm1 Ap6 Sv5 Tx4 Vl3 Vl4 Vl5 Sv6 Ic4 Ss0 Tx5 Tb0 Tb1 Ss1 Ss2 Ss9 Ss3 Ss4 Ss5 Ss5b Ss6 Ss7 Ss8 Ap4 Ss10 Ic3 Pt3 Pt4 Nd2 Nd4 Nd5 Lx7 Pg1 Lv1 Px0 Pr1 Ap5 Pg2 Pt1 Pr2 Pr3 Pg3 Pg4 Pg5 Pg6 Mp0 Pr4 Pr6 Pr7 Pr8 Pr5 Px1 Pr9 Pr10 Pr11 Px4 Pr12 Px2 Px3 Pr13 Pg7 Tx6 Pt2 Pr14 Hs0 Pg10 Pg11 Pv6 Lift Vm2 Pv7 Pv8 Pv9 Pv10 Pv11 Pv12 Pv5 Vm3 Pg8 Pg9 Pv13 Pg12 Pg13 Pg14 Pv14 Pv15 Pv1 Pv3 Pw1 Pw2 Pw3 Pw4
set_option maxHeartbeats 1000000 in
theorem walk (a0 : Option Addr) (len0 cap0 : Nat) (z0 : List Int) (w : World) (w0 : IsRow .u8 w a0 len0 cap0 z0) (wT : Tb1.TabR w) :
    Calls Tryz.prog 3 #[.slice a0 len0 cap0] w fun e w' => e = .returned (.bool true) ∧ Below w.heap.size w w' := by
  refine lawValues (iValue iTermOk (iReached iTermOk) iApply) (iPrune iTermOk (iReached iTermOk)) (Pt4.iCanonC Pr14.iShowTerm Pr13.iReadTerm) w wT a0 len0 cap0 ?_
  rcases w0 with ⟨rfl, rfl, rfl, rfl⟩ | ⟨x, rfl, hl, hm, hz, hcell, hwz⟩
  · exact ⟨Nat.zero_le _, .inl rfl⟩
  · exact bytes_of hl hm hz hcell hwz

set_option maxRecDepth 100000 in
theorem lifted (os : Os) (started : os.Started) (H : Type) (enc : TypeId × Value → H) :
    ReturnsInHanded {} Tryz.checked os 3 .any (fun w args => (Rows.fnValuesSpec.pre enc Tryz.prog Tryz.f3 [] false w args ∧ laidMetH Tryz.prog Rows.fnValuesRow.laid w) ∧ sizedMet enc Tryz.prog Tryz.f3 (OpenSpec.ofChange Rows.fnValuesSpec) false w args) (Rows.fnValuesSpec.post enc Tryz.prog Tryz.f3 false true false false) := by
  refine Hs0.andShaped (C := Tryz.checked) (X := fun w _ => laidMetH Tryz.prog Rows.fnValuesRow.laid w) (fun _ _ _ hh h => h.of_heap hh) own started (by kernel_rfl) Tryz.func3
    (ChangeSpec.witness_shaped (enc := enc) (C := Tryz.checked) (os := os) (X := fun w _ => laidMetH Tryz.prog Rows.fnValuesRow.laid w) false (World.doorLaid Tryz.prog 400 os) #[.slice none 0 0] 8 rfl (World.shaped_of_RefB (by kernel_rfl) (by kernel_rfl)) (by kernel_rfl) (by kernel_rfl) (by kernel_rfl) (door_met os _)) ?_
  intro W base args ds gs before hval0 hW hL hsh
  have hval : ∀ (j : Nat) t v, Tryz.f3.params[j]? = some t → args[j]? = some v → Value.okWide Tryz.prog W .any base t v := hval0
  have hW' := hW
  obtain ⟨p, q, hA0, hV, rfl, hfz, hnd⟩ := hW
  have hA : DataW.TrodAll enc Tryz.prog W 0 (fun _ => true) true Tryz.f3.params.toList args.toList ds p := hA0
  rw [Tryz.params3] at hA hval
  obtain ⟨v0, vs0, d0, ds0, p0, q0, hargs, rfl, rfl, h0, r0⟩ := trodAll_cons hA
  obtain ⟨rfl, rfl, rfl⟩ := trodAll_nil r0
  obtain rfl : args = #[v0] := by cases args; simp_all
  have wT : Tb1.TabR W := Tb1.tabr_of_laid (laid := Rows.fnValuesRow.laid) ((MakeChecks.laidMetH_plain _ _ _ (by kernel_rfl)).mp hL) (by repeat (first | exact List.Mem.head _ | apply List.Mem.tail)) (by repeat (first | exact List.Mem.head _ | apply List.Mem.tail)) (by repeat (first | exact List.Mem.head _ | apply List.Mem.tail)) hsh
  have hV1 := trodVars_one hV
  obtain ⟨_, _, _, _, gd, _, rfl, _⟩ := hV1
  obtain ⟨a0, len0, cap0, rfl⟩ := okWide_slice Tryz.underlying22 (hval 0 22 v0 rfl rfl)
  have k0 := h0
  have lt0 : ∀ x ∈ p0, x.block < W.heap.size := by obtain ⟨m, hm⟩ := k0; exact DataW.trod_lt m _ _ _ hm
  obtain ⟨z0, w0⟩ : ∃ zs, IsRow .u8 W a0 len0 cap0 zs := by
    obtain ⟨fuel, hf⟩ := h0
    rcases open_ints Tryz.underlying22 Tryz.underlying5 (by kernel_rfl) hf with ⟨hcs, _⟩ | ⟨x, l, c, zs, hcs, _, hl, hm, hz, _, hcell, hwz⟩
    · simp [Value.cells] at hcs
      obtain ⟨rfl, rfl, rfl⟩ := hcs
      exact ⟨[], .inl ⟨rfl, rfl, rfl, rfl⟩⟩
    · simp [Value.cells] at hcs
      obtain ⟨rfl, rfl, rfl⟩ := hcs
      exact ⟨zs, .inr ⟨_, rfl, hl, hm, by simpa using hz, hcell, hwz⟩⟩
  clear hA0 hval0
  refine (walk a0 len0 cap0 z0 W w0 wT).mono fun e W' ⟨he, bel⟩ => ?_
  subst he
  exact ⟨_, rfl, _, _, _, [], _, _, hW', trodAll_mk1 (shut_bool Tryz.underlying4 _), (trodAll_cons_mk (Below.trod laidOut (by kernel_rfl) (of_decide_eq_true (by kernel_rfl)) k0 bel lt0) trodAll_mk0), Below.trodVars laidOut bel (by kernel_rfl) hV, bel.frame _, fun h => by cases h⟩

theorem over : Rows.fnValuesRow.holds Tryz.pinned (OpenSpec.ofChange Rows.fnValuesSpec) :=
  OpenClaim.holds_of_wide 3 Tryz.f3 rfl rfl rfl rfl rfl rfl rfl ⟨rfl, rfl, rfl, rfl, rfl⟩ rfl rfl rfl rfl rfl (by kernel_rfl) Tryz.func3 (by kernel_rfl)
    (of_decide_eq_true (by kernel_rfl)) (by unfold Func.isWrapper; first | (rw [if_pos (by decide +kernel)]; kernel_rfl) | (rw [if_neg (by decide +kernel)]; exact ⟨rfl, rfl⟩))
    (fun os started H enc _ => lifted os started H enc)

end Go.Proofs.YtiaimhgfimhepaaGreatDoor.fnValues
namespace Go.Proofs.YtiaimhgfimhepaaGreatDoor
theorem fnValues_holds : Rows.FnValuesCardSaid :=
  Claim7.holds_tied_plain_at .later [] [.data, .data, .data, .sentinel, .sentinel, .data] true (true, "47caa1faf0343f9c3c22857d2617bc1a4798ef24237c6cd201d8c1bb7bd1040f") true
    fnValues.over (fun _ h => by cases h) (by kernel_rfl) (fun _ h => by cases h) fnValues_row_tie rfl ⟨rfl, rfl⟩ (by kernel_rfl) rfl
    (fun f fn hf hfn => by
      obtain rfl : f = 3 := Option.some.inj ((show Tryz.prog.funcNamed Rows.fnValuesRow.func = some 3 by kernel_rfl).symm.trans hf) |>.symm
      obtain rfl : fn = Tryz.f3 := (Option.some.inj (Tryz.func3.symm.trans hfn)).symm
      exact ⟨by kernel_rfl, fun j t ht => by
        rw [Tryz.params3] at ht
        have hm : t ∈ [22] := by simpa using Array.mem_of_getElem? ht
        have hall : ([22].all fun u => !Tryz.prog.wantsStandIn u) = true := by kernel_rfl
        exact (show Tryz.prog.wantsStandIn t = false by simpa using List.all_eq_true.1 hall t hm)⟩)
    (by kernel_rfl)
end Go.Proofs.YtiaimhgfimhepaaGreatDoor
