/- Whatever bytes the law is drawn from: what is written of a term is read as its canonical form, of which the same is written; a text that is cut off is none; the program's and the library's tables are as their initialisers lay them (tied to the text of the pruned copy). -/
import Derived.Test.YtmghkeahlhlclaaGreatDoorRows
import Derived.WalkKit
import Derived.ProofKit
import Derived.OpenShut
import Derived.ShutString
import Derived.ChangeOld
import Derived.Below
import Derived.OpenVars
import Derived.LaidMore
import Derived.Stop.Joined
import Derived.SevenTiedAt
import Derived.Test.YtmghkeahlhlclaaGreatDoorTie
import Derived.Test.YtmghkeahlhlclaaGreatDoorCards
import Derived.Test.YtmghkeahlhlclaaGreatDoorPkA
import Derived.Test.YtmghkeahlhlclaaGreatDoorPkE
import Derived.Test.YtmghkeahlhlclaaGreatDoorPkB
import Derived.Test.YtmghkeahlhlclaaGreatDoorPkF
import Derived.Test.YtmghkeahlhlclaaGreatDoorSp2
import Derived.Test.YtmghkeahlhlclaaGreatDoorDn0
import Derived.Test.YtmghkeahlhlclaaGreatDoorSs9
import Derived.Test.YtmghkeahlhlclaaGreatDoorSp3
import Derived.Test.YtmghkeahlhlclaaGreatDoorSs4
import Derived.Test.YtmghkeahlhlclaaGreatDoorPkG
import Derived.Test.YtmghkeahlhlclaaGreatDoorSp4
import Derived.Test.YtmghkeahlhlclaaGreatDoorSp5
import Derived.Test.YtmghkeahlhlclaaGreatDoorSp6
import Derived.Test.YtmghkeahlhlclaaGreatDoorSp7
import Derived.Test.YtmghkeahlhlclaaGreatDoorSp10
import Derived.Test.YtmghkeahlhlclaaGreatDoorSs6
import Derived.Test.YtmghkeahlhlclaaGreatDoorPkK
import Derived.Test.YtmghkeahlhlclaaGreatDoorPkD
import Derived.Test.YtmghkeahlhlclaaGreatDoorDw2
import Derived.Test.YtmghkeahlhlclaaGreatDoorDw3
import Derived.Test.YtmghkeahlhlclaaGreatDoorDw4
import Derived.Test.YtmghkeahlhlclaaGreatDoorSp8
import Derived.Test.YtmghkeahlhlclaaGreatDoorSp9
import Derived.Test.YtmghkeahlhlclaaGreatDoorPkC
import Derived.Test.YtmghkeahlhlclaaGreatDoorSp11
import Derived.Test.YtmghkeahlhlclaaGreatDoorPkL
import Derived.Test.YtmghkeahlhlclaaGreatDoorPkI
import Derived.Test.YtmghkeahlhlclaaGreatDoorIc3
import Derived.Test.YtmghkeahlhlclaaGreatDoorPkM
import Derived.Test.YtmghkeahlhlclaaGreatDoorPkH
import Derived.Test.YtmghkeahlhlclaaGreatDoorShelf
import Derived.Test.YtmghkeahlhlclaaGreatDoorAp5
import Derived.Test.YtmghkeahlhlclaaGreatDoorPg1
import Derived.Test.YtmghkeahlhlclaaGreatDoorPg2
import Derived.Test.YtmghkeahlhlclaaGreatDoorPt1
import Derived.Test.YtmghkeahlhlclaaGreatDoorShelf2
import Derived.Test.YtmghkeahlhlclaaGreatDoorPkP
import Derived.Test.YtmghkeahlhlclaaGreatDoorPg3
import Derived.Test.YtmghkeahlhlclaaGreatDoorPg4
import Derived.Test.YtmghkeahlhlclaaGreatDoorPg5
import Derived.Test.YtmghkeahlhlclaaGreatDoorIc2
import Derived.Test.YtmghkeahlhlclaaGreatDoorPg6
import Derived.Test.YtmghkeahlhlclaaGreatDoorPkS
import Derived.Test.YtmghkeahlhlclaaGreatDoorPkT
import Derived.Test.YtmghkeahlhlclaaGreatDoorPkU
import Derived.Test.YtmghkeahlhlclaaGreatDoorPkV
namespace Go.Proofs.YtmghkeahlhlclaaGreatDoor.fnText
open Go.ChangeShapes Go.WideShapes Go.ChangeAt Go.RowKit
open Go.ChangeMaps (open_string shut_string)
set_option linter.unusedVariables false

theorem own : ownKnob Tryz.prog.godebug = none := by kernel_rfl
theorem door_met (os : Os) (args : Array Value) : laidMetH Tryz.prog Rows.fnTextRow.laid ((World.doorLaid Tryz.prog 400 os).forCall (fun _ _ => 0) ⟨#[], args, []⟩).memory :=
  laidMetH_of_parts3 (fuel := 8) (laidMet_of_run' 8 (by kernel_rfl) (by kernel_rfl)) (by kernel_rfl) (by kernel_rfl)
theorem laidOut : laidOutB Tryz.prog = true := by kernel_rfl

def IsRow (k : IntKind) (w : World) (a : Option Addr) (len cap : Nat) (zs : List Int) : Prop :=
  (a = none ∧ len = 0 ∧ cap = 0 ∧ zs = []) ∨
  ∃ x, a = some x ∧ len ≤ cap ∧ cap ≤ maxLen ∧ zs.length = cap ∧ (∀ i, i < zs.length → w.cell? (x.add i) = some (.int k (zs.getD i 0))) ∧ ∀ n ∈ zs, (Lit.int k n).wf = true

open Nd0 Pl1 Tm0 Tm1 Tm2 Tm3 Tx0 Ss0 Ws1 Ss1 Ss2 Nd1 Sp2 Nd3 Ap2 Tx1 Tm8 Tx2 Ss9 Ss3 Ap0 Sp3 Tm4 Tm7 Tm12 Tx3 Tx4 Ss4 Ss5 Ss5b Sp4 Ap1 Sp5 Sp6 Sp7 Ap3 Tm5 Sp10 Ss6 Ss7 Ss8 Ap4 Ss10 Dr0 Dr1 Dr5 Dw0 Dw1 Dw2 Dw3 Dw4 Sp8 Sp9 Rw0 Tm6 Rw1 Tm9 Sp11 Dw5 Dr4 Dx1 Dw6 Dw7 Dw8 Dx2 Tx5 Tb0 Tb1 Ic3 Lw4 Nd5 Lt1 Lw5 Lt2 Px0 Pr1 Ap5 Pg1 Pg2 Pt1 Pr2 Pr3 Pg3 Pg4 Pg5 Tm10 Tm11 Pg6 Mp0 Pr4 Pr6 Pr7 Pr8 Pr5 Px1 Pr9 Pr10 Pr11 Px4 Pr12 Px2 Px3 Pr13 Pg7 Tx6 Pt2 Pt3 Pr14 Hs0
set_option maxHeartbeats 1000000 in
theorem walk (a0 : Option Addr) (len0 cap0 : Nat) (z0 : List Int) (w : World) (w0 : IsRow .u8 w a0 len0 cap0 z0) (wT : Tb1.TabR w) :
    Calls Tryz.prog 3 #[.slice a0 len0 cap0] w fun e w' => e = .returned (.bool true) ∧ Below w.heap.size w w' := by
  refine lawText Pr14.iShowTerm Pr13.iReadTerm Pr14.iCanon Pr14.iSame w wT a0 len0 cap0 ?_
  rcases w0 with ⟨rfl, rfl, rfl, rfl⟩ | ⟨x, rfl, hl, hm, hz, hcell, hwz⟩
  · exact ⟨Nat.zero_le _, .inl rfl⟩
  · exact bytes_of hl hm hz hcell hwz

set_option maxRecDepth 100000 in
theorem lifted (os : Os) (started : os.Started) (H : Type) (enc : TypeId × Value → H) :
    ReturnsInHanded {} Tryz.checked os 3 .any (fun w args => (Rows.fnTextSpec.pre enc Tryz.prog Tryz.f3 [] false w args ∧ laidMetH Tryz.prog Rows.fnTextRow.laid w) ∧ sizedMet enc Tryz.prog Tryz.f3 (OpenSpec.ofChange Rows.fnTextSpec) false w args) (Rows.fnTextSpec.post enc Tryz.prog Tryz.f3 false true false false) := by
  refine Hs0.andShaped (C := Tryz.checked) (X := fun w _ => laidMetH Tryz.prog Rows.fnTextRow.laid w) (fun _ _ _ hh h => h.of_heap hh) own started (by kernel_rfl) Tryz.func3
    (ChangeSpec.witness_shaped (enc := enc) (C := Tryz.checked) (os := os) (X := fun w _ => laidMetH Tryz.prog Rows.fnTextRow.laid w) false (World.doorLaid Tryz.prog 400 os) #[.slice none 0 0] 8 rfl (World.shaped_of_RefB (by kernel_rfl) (by kernel_rfl)) (by kernel_rfl) (by kernel_rfl) (by kernel_rfl) (door_met os _)) ?_
  intro W base args ds gs before hval0 hW hL hsh
  have hval : ∀ (j : Nat) t v, Tryz.f3.params[j]? = some t → args[j]? = some v → Value.okWide Tryz.prog W .any base t v := hval0
  have hW' := hW
  obtain ⟨p, q, hA0, hV, rfl, hfz, hnd⟩ := hW
  have hA : DataW.TrodAll enc Tryz.prog W 0 (fun _ => true) true Tryz.f3.params.toList args.toList ds p := hA0
  rw [Tryz.params3] at hA hval
  obtain ⟨v0, vs0, d0, ds0, p0, q0, hargs, rfl, rfl, h0, r0⟩ := trodAll_cons hA
  obtain ⟨rfl, rfl, rfl⟩ := trodAll_nil r0
  obtain rfl : args = #[v0] := by cases args; simp_all
  have wT : Tb1.TabR W := Tb1.tabr_of_laid (laid := Rows.fnTextRow.laid) ((MakeChecks.laidMetH_plain _ _ _ (by kernel_rfl)).mp hL) (by repeat (first | exact List.Mem.head _ | apply List.Mem.tail)) (by repeat (first | exact List.Mem.head _ | apply List.Mem.tail)) (by repeat (first | exact List.Mem.head _ | apply List.Mem.tail)) hsh
  have hV1 := trodVars_one hV
  obtain ⟨_, _, _, _, gd, _, rfl, _⟩ := hV1
  obtain ⟨a0, len0, cap0, rfl⟩ := okWide_slice Tryz.underlying22 (hval 0 22 v0 rfl rfl)
  have k0 := h0
  have lt0 : ∀ x ∈ p0, x.block < W.heap.size := by obtain ⟨m, hm⟩ := k0; exact DataW.trod_lt m _ _ _ hm
  obtain ⟨z0, w0⟩ : ∃ zs, IsRow .u8 W a0 len0 cap0 zs := by
    obtain ⟨fuel, hf⟩ := h0
    rcases open_ints Tryz.underlying22 Tryz.underlying5 (by kernel_rfl) hf with ⟨hcs, _⟩ | ⟨x, l, c, zs, hcs, _, hl, hm, hz, _, hcell, hwz⟩
    · simp [Value.cells] at hcs
      obtain ⟨rfl, rfl, rfl⟩ := hcs
      exact ⟨[], .inl ⟨rfl, rfl, rfl, rfl⟩⟩
    · simp [Value.cells] at hcs
      obtain ⟨rfl, rfl, rfl⟩ := hcs
      exact ⟨zs, .inr ⟨_, rfl, hl, hm, by simpa using hz, hcell, hwz⟩⟩
  clear hA0 hval0
  refine (walk a0 len0 cap0 z0 W w0 wT).mono fun e W' ⟨he, bel⟩ => ?_
  subst he
  exact ⟨_, rfl, _, _, _, [], _, _, hW', trodAll_mk1 (shut_bool Tryz.underlying4 _), (trodAll_cons_mk (Below.trod laidOut (by kernel_rfl) (of_decide_eq_true (by kernel_rfl)) k0 bel lt0) trodAll_mk0), Below.trodVars laidOut bel (by kernel_rfl) hV, bel.frame _, fun h => by cases h⟩

theorem over : Rows.fnTextRow.holds Tryz.pinned (OpenSpec.ofChange Rows.fnTextSpec) :=
  OpenClaim.holds_of_wide 3 Tryz.f3 rfl rfl rfl rfl rfl rfl rfl ⟨rfl, rfl, rfl, rfl, rfl⟩ rfl rfl rfl rfl rfl (by kernel_rfl) Tryz.func3 (by kernel_rfl)
    (of_decide_eq_true (by kernel_rfl)) (by unfold Func.isWrapper; first | (rw [if_pos (by decide +kernel)]; kernel_rfl) | (rw [if_neg (by decide +kernel)]; exact ⟨rfl, rfl⟩))
    (fun os started H enc _ => lifted os started H enc)

end Go.Proofs.YtmghkeahlhlclaaGreatDoor.fnText
namespace Go.Proofs.YtmghkeahlhlclaaGreatDoor
theorem fnText_holds : Rows.FnTextCardSaid :=
  Claim7.holds_tied_plain_at .later [] [.data, .data, .data, .sentinel, .sentinel, .data] true (true, "bd8fa9b6224352a14cc5d3ae6cee93e8b13de8cbdece555a7c305834ca41b4ab") true
    fnText.over (fun _ h => by cases h) (by kernel_rfl) (fun _ h => by cases h) fnText_row_tie rfl ⟨rfl, rfl⟩ (by kernel_rfl) rfl
    (fun f fn hf hfn => by
      obtain rfl : f = 3 := Option.some.inj ((show Tryz.prog.funcNamed Rows.fnTextRow.func = some 3 by kernel_rfl).symm.trans hf) |>.symm
      obtain rfl : fn = Tryz.f3 := (Option.some.inj (Tryz.func3.symm.trans hfn)).symm
      exact ⟨by kernel_rfl, fun j t ht => by
        rw [Tryz.params3] at ht
        have hm : t ∈ [22] := by simpa using Array.mem_of_getElem? ht
        have hall : ([22].all fun u => !Tryz.prog.wantsStandIn u) = true := by kernel_rfl
        exact (show Tryz.prog.wantsStandIn t = false by simpa using List.all_eq_true.1 hall t hm)⟩)
    (by kernel_rfl)
end Go.Proofs.YtmghkeahlhlclaaGreatDoor
