/- For any two lists of nodes, Same of the program answers as its model does and writes into none; the program's and the library's tables are as their initialisers lay them (tied to the text of the pruned copy). -/
import Derived.Test.YtfkobceajohldaaDoorRows
import Derived.WalkKit
import Derived.ProofKit
import Derived.OpenShut
import Derived.ShutString
import Derived.ChangeOld
import Derived.Below
import Derived.OpenVars
import Derived.LaidMore
import Derived.Stop.Joined
import Derived.SevenTiedAt
import Derived.Test.YtfkobceajohldaaDoorTie
import Derived.Test.YtfkobceajohldaaDoorCards
import Derived.Test.YtfkobceajohldaaDoorPkA
import Derived.Test.YtfkobceajohldaaDoorPkB
import Derived.Test.YtfkobceajohldaaDoorPkE
import Derived.Test.YtfkobceajohldaaDoorPkF
import Derived.Test.YtfkobceajohldaaDoorTx5
import Derived.Test.YtfkobceajohldaaDoorTb0
import Derived.Test.YtfkobceajohldaaDoorSp2
import Derived.Test.YtfkobceajohldaaDoorDn0
import Derived.Test.YtfkobceajohldaaDoorSs9
import Derived.Test.YtfkobceajohldaaDoorSp3
import Derived.Test.YtfkobceajohldaaDoorSs4
import Derived.Test.YtfkobceajohldaaDoorPkG
import Derived.Test.YtfkobceajohldaaDoorSp4
import Derived.Test.YtfkobceajohldaaDoorSp5
import Derived.Test.YtfkobceajohldaaDoorSp6
import Derived.Test.YtfkobceajohldaaDoorSp7
import Derived.Test.YtfkobceajohldaaDoorSp10
import Derived.Test.YtfkobceajohldaaDoorSs6
import Derived.Test.YtfkobceajohldaaDoorSs7
import Derived.Test.YtfkobceajohldaaDoorSs8
import Derived.Test.YtfkobceajohldaaDoorSs10
import Derived.Test.YtfkobceajohldaaDoorIc3
import Derived.Test.YtfkobceajohldaaDoorLx7
import Derived.Test.YtfkobceajohldaaDoorPg1
import Derived.Test.YtfkobceajohldaaDoorPg2
import Derived.Test.YtfkobceajohldaaDoorPg3
import Derived.Test.YtfkobceajohldaaDoorPg4
import Derived.Test.YtfkobceajohldaaDoorPg5
import Derived.Test.YtfkobceajohldaaDoorPkC
import Derived.Test.YtfkobceajohldaaDoorIc2
import Derived.Test.YtfkobceajohldaaDoorPg6
import Derived.Test.YtfkobceajohldaaDoorPg7
import Derived.Test.YtfkobceajohldaaDoorShelf
import Derived.Test.YtfkobceajohldaaDoorAp5
import Derived.Test.YtfkobceajohldaaDoorPt1
import Derived.Test.YtfkobceajohldaaDoorTx6
import Derived.Test.YtfkobceajohldaaDoorPt2
import Derived.Test.YtfkobceajohldaaDoorPt3
namespace Go.Proofs.YtfkobceajohldaaDoor.fnExactSame
open Go.ChangeShapes Go.WideShapes Go.ChangeAt Go.RowKit
open Go.ChangeMaps (open_string shut_string)
set_option linter.unusedVariables false

open Nd0 Op0 Pl1 Tm0 Tm1 Tm2 Tm3 Tx0 Ss0 Tx1 Tm8 Tx2 Tm4 Tm7 Tm12 Tx3 Tx5 Tb0 Ws1 Ss1 Ss2 Nd1 Sp2 Nd3 Ap2 Ss9 Ss3 Ap0 Sp3 Tx4 Ss4 Ss5 Ss5b Sp4 Ap1 Sp5 Sp6 Sp7 Ap3 Tm5 Sp10 Ss6 Ss7 Ss8 Ap4 Ss10 Ic3 Nd2 Nd4 Nd5 Lx7 Pg1 Pg2 Pg3 Pg4 Pg5 Tm6 Rw0 Rw1 Tm9 Tm10 Tm11 Pg6 Pg7 Ap5 Pt1 Tx6 Pt2 Pt3

theorem own : ownKnob Tryd.prog.godebug = none := by kernel_rfl
theorem door_met (os : Os) (args : Array Value) : laidMetH Tryd.prog Rows.fnExactSameRow.laid ((World.doorLaid Tryd.prog 400 os).forCall (fun _ _ => 0) ⟨#[], args, []⟩).memory :=
  laidMetH_of_parts3 (fuel := 8) (laidMet_of_run' 8 (by kernel_rfl) (by kernel_rfl)) (by kernel_rfl) (by kernel_rfl)
theorem laidOut : laidOutB Tryd.prog = true := by kernel_rfl

set_option maxHeartbeats 1000000 in
theorem walk (a0 : Option Addr) (len0 cap0 : Nat) (l0 : List Nd) (hl0 : l0.length = len0) (a1 : Option Addr) (len1 cap1 : Nat) (l1 : List Nd) (hl1 : l1.length = len1) (w : World) (w0 : Nodes w a0 l0) (w1 : Nodes w a1 l1) (wT : Tb0.Tabs w) :
    Calls Tryd.prog 5 #[.slice a0 len0 cap0, .slice a1 len1 cap1] w fun e w' => e = .returned (.bool true) ∧ Below w.heap.size w w' := by
  subst hl0 hl1
  exact exSame (iSameOf (iShowTermOf iTermOk (iReached iTermOk))) w wT a0 a1 l0 l1 cap0 cap1 w0 w1

set_option maxRecDepth 100000 in
theorem lifted (os : Os) (started : os.Started) (H : Type) (enc : TypeId × Value → H) :
    ReturnsInHanded {} Tryd.checked os 5 .any (fun w args => (Rows.fnExactSameSpec.pre enc Tryd.prog Tryd.f5 [] false w args ∧ laidMetH Tryd.prog Rows.fnExactSameRow.laid w) ∧ sizedMet enc Tryd.prog Tryd.f5 (OpenSpec.ofChange Rows.fnExactSameSpec) false w args) (Rows.fnExactSameSpec.post enc Tryd.prog Tryd.f5 false true false false) := by
  refine returnsInHanded_of_change_and (C := Tryd.checked) (X := fun w _ => laidMetH Tryd.prog Rows.fnExactSameRow.laid w) (fun _ _ _ hh h => h.of_heap hh) own started (by kernel_rfl) Tryd.func5
    (ChangeSpec.witness_shaped (enc := enc) (C := Tryd.checked) (os := os) (X := fun w _ => laidMetH Tryd.prog Rows.fnExactSameRow.laid w) false (World.doorLaid Tryd.prog 400 os) #[.slice none 0 0, .slice none 0 0] 8 rfl (World.shaped_of_RefB (by kernel_rfl) (by kernel_rfl)) (by kernel_rfl) (by kernel_rfl) (by kernel_rfl) (door_met os _)) ?_
  intro W base args ds gs before hval0 hW _ _ hL _
  have hval : ∀ (j : Nat) t v, Tryd.f5.params[j]? = some t → args[j]? = some v → Value.okWide Tryd.prog W .any base t v := hval0
  have hW' := hW
  obtain ⟨p, q, hA0, hV, rfl, hfz, hnd⟩ := hW
  have hA : DataW.TrodAll enc Tryd.prog W 0 (fun _ => true) true Tryd.f5.params.toList args.toList ds p := hA0
  rw [Tryd.params5] at hA hval
  obtain ⟨v0, vs0, d0, ds0, p0, q0, hargs, rfl, rfl, h0, r0⟩ := trodAll_cons hA
  obtain ⟨v1, vs1, d1, ds1, p1, q1, hargs1, rfl, rfl, h1, r1⟩ := trodAll_cons r0
  obtain ⟨rfl, rfl, rfl⟩ := trodAll_nil r1
  obtain rfl : args = #[v0, v1] := by cases args; simp_all
  have wT : Tb0.Tabs W := Tb0.tabs_of_laid (laid := Rows.fnExactSameRow.laid) ((MakeChecks.laidMetH_plain _ _ _ (by kernel_rfl)).mp hL) (by repeat (first | exact List.Mem.head _ | apply List.Mem.tail)) (by repeat (first | exact List.Mem.head _ | apply List.Mem.tail))
  have hV1 := trodVars_one hV
  obtain ⟨_, _, _, _, gd, _, rfl, _⟩ := hV1
  obtain ⟨a0, len0, cap0, rfl⟩ := okWide_slice Tryd.underlying22 (hval 0 22 v0 rfl rfl)
  obtain ⟨a1, len1, cap1, rfl⟩ := okWide_slice Tryd.underlying22 (hval 1 22 v1 rfl rfl)
  have k0 := h0
  have k1 := h1
  have lt0 : ∀ x ∈ p0, x.block < W.heap.size := by obtain ⟨m, hm⟩ := k0; exact DataW.trod_lt m _ _ _ hm
  have lt1 : ∀ x ∈ p1, x.block < W.heap.size := by obtain ⟨m, hm⟩ := k1; exact DataW.trod_lt m _ _ _ hm
  obtain ⟨_, l0, hl0, w0⟩ : len0 ≤ maxLen ∧ ∃ l : List Nd, l.length = len0 ∧ Nodes W a0 l := by
    obtain ⟨fuel, hf⟩ := h0
    exact Op0.nodes_open (by simpa [Value.cells] using hf)
  obtain ⟨_, l1, hl1, w1⟩ : len1 ≤ maxLen ∧ ∃ l : List Nd, l.length = len1 ∧ Nodes W a1 l := by
    obtain ⟨fuel, hf⟩ := h1
    exact Op0.nodes_open (by simpa [Value.cells] using hf)
  clear hA0 hval0
  refine (walk a0 len0 cap0 l0 hl0 a1 len1 cap1 l1 hl1 W w0 w1 wT).mono fun e W' ⟨he, bel⟩ => ?_
  subst he
  exact ⟨_, rfl, _, _, _, [], _, _, hW', trodAll_mk1 (shut_bool Tryd.underlying4 _), (trodAll_cons_mk (Below.trod laidOut (by kernel_rfl) (of_decide_eq_true (by kernel_rfl)) k0 bel lt0) (trodAll_cons_mk (Below.trod laidOut (by kernel_rfl) (of_decide_eq_true (by kernel_rfl)) k1 bel lt1) trodAll_mk0)), Below.trodVars laidOut bel (by kernel_rfl) hV, bel.frame _, fun h => by cases h⟩

theorem over : Rows.fnExactSameRow.holds Tryd.pinned (OpenSpec.ofChange Rows.fnExactSameSpec) :=
  OpenClaim.holds_of_wide 5 Tryd.f5 rfl rfl rfl rfl rfl rfl rfl ⟨rfl, rfl, rfl, rfl, rfl⟩ rfl rfl rfl rfl rfl (by kernel_rfl) Tryd.func5 (by kernel_rfl)
    (of_decide_eq_true (by kernel_rfl)) (by unfold Func.isWrapper; first | (rw [if_pos (by decide +kernel)]; kernel_rfl) | (rw [if_neg (by decide +kernel)]; exact ⟨rfl, rfl⟩))
    (fun os started H enc _ => lifted os started H enc)

end Go.Proofs.YtfkobceajohldaaDoor.fnExactSame
namespace Go.Proofs.YtfkobceajohldaaDoor
theorem fnExactSame_holds : Rows.FnExactSameCardSaid :=
  Claim7.holds_tied_plain_at .later [] [.data, .data, .data, .data] true (true, "90b72248da6263b7d5ef13fe92d93a37cd90a158f0e24d7368ab5eddb59f4fbd") true
    fnExactSame.over (fun _ h => by cases h) (by kernel_rfl) (fun _ h => by cases h) fnExactSame_row_tie rfl ⟨rfl, rfl⟩ (by kernel_rfl) rfl
    (fun f fn hf hfn => by
      obtain rfl : f = 5 := Option.some.inj ((show Tryd.prog.funcNamed Rows.fnExactSameRow.func = some 5 by kernel_rfl).symm.trans hf) |>.symm
      obtain rfl : fn = Tryd.f5 := (Option.some.inj (Tryd.func5.symm.trans hfn)).symm
      exact ⟨by kernel_rfl, fun j t ht => by
        rw [Tryd.params5] at ht
        have hm : t ∈ [22, 22] := by simpa using Array.mem_of_getElem? ht
        have hall : ([22, 22].all fun u => !Tryd.prog.wantsStandIn u) = true := by kernel_rfl
        exact (show Tryd.prog.wantsStandIn t = false by simpa using List.all_eq_true.1 hall t hm)⟩)
    (by kernel_rfl)
end Go.Proofs.YtfkobceajohldaaDoor
