/- For any text, ReadTerm of the program answers as its model does and owns what it answers; the program's and the library's tables are as their initialisers lay them (tied to the text of the pruned copy). -/
import Derived.Test.YtmghkeahlhlclaaDoorRows
import Derived.WalkKit
import Derived.ProofKit
import Derived.OpenShut
import Derived.ShutString
import Derived.ChangeOld
import Derived.Below
import Derived.OpenVars
import Derived.LaidMore
import Derived.Stop.Joined
import Derived.SevenTiedAt
import Derived.Test.YtmghkeahlhlclaaDoorTie
import Derived.Test.YtmghkeahlhlclaaDoorCards
import Derived.Test.YtmghkeahlhlclaaDoorPkA
import Derived.Test.YtmghkeahlhlclaaDoorPkB
import Derived.Test.YtmghkeahlhlclaaDoorPkE
import Derived.Test.YtmghkeahlhlclaaDoorPkF
import Derived.Test.YtmghkeahlhlclaaDoorTx5
import Derived.Test.YtmghkeahlhlclaaDoorTb0
import Derived.Test.YtmghkeahlhlclaaDoorTb1
import Derived.Test.YtmghkeahlhlclaaDoorSp2
import Derived.Test.YtmghkeahlhlclaaDoorDn0
import Derived.Test.YtmghkeahlhlclaaDoorSs9
import Derived.Test.YtmghkeahlhlclaaDoorSp3
import Derived.Test.YtmghkeahlhlclaaDoorSs4
import Derived.Test.YtmghkeahlhlclaaDoorPkG
import Derived.Test.YtmghkeahlhlclaaDoorSp4
import Derived.Test.YtmghkeahlhlclaaDoorSp5
import Derived.Test.YtmghkeahlhlclaaDoorSp6
import Derived.Test.YtmghkeahlhlclaaDoorSp7
import Derived.Test.YtmghkeahlhlclaaDoorSp10
import Derived.Test.YtmghkeahlhlclaaDoorSs6
import Derived.Test.YtmghkeahlhlclaaDoorSs7
import Derived.Test.YtmghkeahlhlclaaDoorSs8
import Derived.Test.YtmghkeahlhlclaaDoorSs10
import Derived.Test.YtmghkeahlhlclaaDoorIc3
import Derived.Test.YtmghkeahlhlclaaDoorLx7
import Derived.Test.YtmghkeahlhlclaaDoorPx0
import Derived.Test.YtmghkeahlhlclaaDoorPr1
import Derived.Test.YtmghkeahlhlclaaDoorShelf
import Derived.Test.YtmghkeahlhlclaaDoorAp5
import Derived.Test.YtmghkeahlhlclaaDoorPg1
import Derived.Test.YtmghkeahlhlclaaDoorPg2
import Derived.Test.YtmghkeahlhlclaaDoorPt1
import Derived.Test.YtmghkeahlhlclaaDoorShelf2
import Derived.Test.YtmghkeahlhlclaaDoorPr2
import Derived.Test.YtmghkeahlhlclaaDoorPr3
import Derived.Test.YtmghkeahlhlclaaDoorPg3
import Derived.Test.YtmghkeahlhlclaaDoorPg4
import Derived.Test.YtmghkeahlhlclaaDoorPg5
import Derived.Test.YtmghkeahlhlclaaDoorPkC
import Derived.Test.YtmghkeahlhlclaaDoorIc2
import Derived.Test.YtmghkeahlhlclaaDoorPg6
import Derived.Test.YtmghkeahlhlclaaDoorMp0
import Derived.Test.YtmghkeahlhlclaaDoorPr4
import Derived.Test.YtmghkeahlhlclaaDoorPr6
import Derived.Test.YtmghkeahlhlclaaDoorPr7
import Derived.Test.YtmghkeahlhlclaaDoorPr8
import Derived.Test.YtmghkeahlhlclaaDoorPr5
import Derived.Test.YtmghkeahlhlclaaDoorPx1
import Derived.Test.YtmghkeahlhlclaaDoorPr9
import Derived.Test.YtmghkeahlhlclaaDoorPkY
import Derived.Test.YtmghkeahlhlclaaDoorPx4
import Derived.Test.YtmghkeahlhlclaaDoorPkX
import Derived.Test.YtmghkeahlhlclaaDoorPkZ
namespace Go.Proofs.YtmghkeahlhlclaaDoor.fnExactReadTerm
open Go.ChangeShapes Go.WideShapes Go.ChangeAt Go.RowKit
open Go.ChangeMaps (open_string shut_string)
set_option linter.unusedVariables false

open Nd0 Op0 Pl1 Tm0 Tm1 Tm2 Tm3 Tx0 Ss0 Tx1 Tm8 Tx2 Tm4 Tm7 Tm12 Tx3 Tx5 Tb0 Tb1 Ws1 Ss1 Ss2 Nd1 Sp2 Nd3 Ap2 Ss9 Ss3 Ap0 Sp3 Tx4 Ss4 Ss5 Ss5b Sp4 Ap1 Sp5 Sp6 Sp7 Ap3 Tm5 Sp10 Ss6 Ss7 Ss8 Ap4 Ss10 Ic3 Nd2 Nd4 Nd5 Lx7 Px0 Pr1 Ap5 Pg1 Pg2 Pt1 Pr2 Pr3 Pg3 Pg4 Pg5 Tm6 Rw0 Rw1 Tm9 Tm10 Tm11 Pg6 Mp0 Pr4 Pr6 Pr7 Pr8 Pr5 Px1 Pr9 Pr10 Pr11 Px4 Pr12 Px2 Px3 Pr13 Hs0

theorem own : ownKnob Tryd.prog.godebug = none := by kernel_rfl
theorem door_met (os : Os) (args : Array Value) : laidMetH Tryd.prog Rows.fnExactReadTermRow.laid ((World.doorLaid Tryd.prog 400 os).forCall (fun _ _ => 0) ⟨#[], args, []⟩).memory :=
  laidMetH_of_parts3 (fuel := 8) (laidMet_of_run' 8 (by kernel_rfl) (by kernel_rfl)) (by kernel_rfl) (by kernel_rfl)
theorem laidOut : laidOutB Tryd.prog = true := by kernel_rfl

set_option maxHeartbeats 1000000 in
theorem walk (a0 : ByteArray) (w0 : a0.size ≤ maxLen) (w : World) (wT : Tb1.TabR w) :
    Calls Tryd.prog 4 #[.string a0] w fun e w' => e = .returned (.bool true) ∧ Below w.heap.size w w' := by
  exact exReadTerm Pr13.iReadTerm w wT a0 w0

set_option maxRecDepth 100000 in
theorem lifted (os : Os) (started : os.Started) (H : Type) (enc : TypeId × Value → H) :
    ReturnsInHanded {} Tryd.checked os 4 .any (fun w args => (Rows.fnExactReadTermSpec.pre enc Tryd.prog Tryd.f4 [] false w args ∧ laidMetH Tryd.prog Rows.fnExactReadTermRow.laid w) ∧ sizedMet enc Tryd.prog Tryd.f4 (OpenSpec.ofChange Rows.fnExactReadTermSpec) false w args) (Rows.fnExactReadTermSpec.post enc Tryd.prog Tryd.f4 false true false false) := by
  refine Hs0.andShaped (C := Tryd.checked) (X := fun w _ => laidMetH Tryd.prog Rows.fnExactReadTermRow.laid w) (fun _ _ _ hh h => h.of_heap hh) own started (by kernel_rfl) Tryd.func4
    (ChangeSpec.witness_shaped (enc := enc) (C := Tryd.checked) (os := os) (X := fun w _ => laidMetH Tryd.prog Rows.fnExactReadTermRow.laid w) false (World.doorLaid Tryd.prog 400 os) #[.string ByteArray.empty] 8 rfl (World.shaped_of_RefB (by kernel_rfl) (by kernel_rfl)) (by kernel_rfl) (by kernel_rfl) (by kernel_rfl) (door_met os _)) ?_
  intro W base args ds gs before hval0 hW hL hsh
  have hval : ∀ (j : Nat) t v, Tryd.f4.params[j]? = some t → args[j]? = some v → Value.okWide Tryd.prog W .any base t v := hval0
  have hW' := hW
  obtain ⟨p, q, hA0, hV, rfl, hfz, hnd⟩ := hW
  have hA : DataW.TrodAll enc Tryd.prog W 0 (fun _ => true) true Tryd.f4.params.toList args.toList ds p := hA0
  rw [Tryd.params4] at hA hval
  obtain ⟨v0, vs0, d0, ds0, p0, q0, hargs, rfl, rfl, h0, r0⟩ := trodAll_cons hA
  obtain ⟨rfl, rfl, rfl⟩ := trodAll_nil r0
  obtain rfl : args = #[v0] := by cases args; simp_all
  have wT : Tb1.TabR W := Tb1.tabr_of_laid (laid := Rows.fnExactReadTermRow.laid) ((MakeChecks.laidMetH_plain _ _ _ (by kernel_rfl)).mp hL) (by repeat (first | exact List.Mem.head _ | apply List.Mem.tail)) (by repeat (first | exact List.Mem.head _ | apply List.Mem.tail)) (by repeat (first | exact List.Mem.head _ | apply List.Mem.tail)) hsh
  have hV1 := trodVars_one hV
  obtain ⟨_, _, _, _, gd, _, rfl, _⟩ := hV1
  obtain ⟨a0, rfl, rfl, rfl, w0⟩ := open_string Tryd.underlying9 (hval 0 9 v0 rfl rfl) h0
  clear hA0 hval0
  refine (walk a0 w0 W wT).mono fun e W' ⟨he, bel⟩ => ?_
  subst he
  exact ⟨_, rfl, _, _, _, [], _, _, hW', trodAll_mk1 (shut_bool Tryd.underlying4 _), (trodAll_cons_mk (shut_string Tryd.underlying9 w0) trodAll_mk0), Below.trodVars laidOut bel (by kernel_rfl) hV, bel.frame _, fun h => by cases h⟩

theorem over : Rows.fnExactReadTermRow.holds Tryd.pinned (OpenSpec.ofChange Rows.fnExactReadTermSpec) :=
  OpenClaim.holds_of_wide 4 Tryd.f4 rfl rfl rfl rfl rfl rfl rfl ⟨rfl, rfl, rfl, rfl, rfl⟩ rfl rfl rfl rfl rfl (by kernel_rfl) Tryd.func4 (by kernel_rfl)
    (of_decide_eq_true (by kernel_rfl)) (by unfold Func.isWrapper; first | (rw [if_pos (by decide +kernel)]; kernel_rfl) | (rw [if_neg (by decide +kernel)]; exact ⟨rfl, rfl⟩))
    (fun os started H enc _ => lifted os started H enc)

end Go.Proofs.YtmghkeahlhlclaaDoor.fnExactReadTerm
namespace Go.Proofs.YtmghkeahlhlclaaDoor
theorem fnExactReadTerm_holds : Rows.FnExactReadTermCardSaid :=
  Claim7.holds_tied_plain_at .later [] [.data, .data, .data, .sentinel, .sentinel, .data] true (true, "90b72248da6263b7d5ef13fe92d93a37cd90a158f0e24d7368ab5eddb59f4fbd") true
    fnExactReadTerm.over (fun _ h => by cases h) (by kernel_rfl) (fun _ h => by cases h) fnExactReadTerm_row_tie rfl ⟨rfl, rfl⟩ (by kernel_rfl) rfl
    (fun f fn hf hfn => by
      obtain rfl : f = 4 := Option.some.inj ((show Tryd.prog.funcNamed Rows.fnExactReadTermRow.func = some 4 by kernel_rfl).symm.trans hf) |>.symm
      obtain rfl : fn = Tryd.f4 := (Option.some.inj (Tryd.func4.symm.trans hfn)).symm
      exact ⟨by kernel_rfl, fun j t ht => by
        rw [Tryd.params4] at ht
        have hm : t ∈ [9] := by simpa using Array.mem_of_getElem? ht
        have hall : ([9].all fun u => !Tryd.prog.wantsStandIn u) = true := by kernel_rfl
        exact (show Tryd.prog.wantsStandIn t = false by simpa using List.all_eq_true.1 hall t hm)⟩)
    (by kernel_rfl)
end Go.Proofs.YtmghkeahlhlclaaDoor
