/- For any text LoadMachine of the program answers as its model does, writes into no argument, and its answer owns its memory; the library variables are as their initialisers lay them (tied to the text of the pruned copy). -/
import Derived.Test.YtmfpbhjmnadpkaaGreatDoorRows
import Derived.WalkKit
import Derived.ProofKit
import Derived.OpenShut
import Derived.ShutString
import Derived.ChangeOld
import Derived.Below
import Derived.OpenVars
import Derived.LaidMore
import Derived.Stop.Joined
import Derived.SevenTiedAt
import Derived.Test.YtmfpbhjmnadpkaaGreatDoorTie
import Derived.Test.YtmfpbhjmnadpkaaGreatDoorCards
import Derived.Test.YtmfpbhjmnadpkaaGreatDoorPkU0
import Derived.Test.YtmfpbhjmnadpkaaGreatDoorPkU1
import Derived.Test.YtmfpbhjmnadpkaaGreatDoorPkU2
import Derived.Test.YtmfpbhjmnadpkaaGreatDoorPkU3
import Derived.Test.YtmfpbhjmnadpkaaGreatDoorPkU4
import Derived.Test.YtmfpbhjmnadpkaaGreatDoorPkU5
import Derived.Test.YtmfpbhjmnadpkaaGreatDoorPkU6
import Derived.Test.YtmfpbhjmnadpkaaGreatDoorPkU7
import Derived.Test.YtmfpbhjmnadpkaaGreatDoorZa0
import Derived.Test.YtmfpbhjmnadpkaaGreatDoorZa1
import Derived.Test.YtmfpbhjmnadpkaaGreatDoorPkU10
import Derived.Test.YtmfpbhjmnadpkaaGreatDoorPkU11
import Derived.Test.YtmfpbhjmnadpkaaGreatDoorPkU12
import Derived.Test.YtmfpbhjmnadpkaaGreatDoorPkU13
import Derived.Test.YtmfpbhjmnadpkaaGreatDoorPkU14
import Derived.Test.YtmfpbhjmnadpkaaGreatDoorPkU15
import Derived.Test.YtmfpbhjmnadpkaaGreatDoorPkU16
import Derived.Test.YtmfpbhjmnadpkaaGreatDoorMm2
import Derived.Test.YtmfpbhjmnadpkaaGreatDoorPkU18
import Derived.Test.YtmfpbhjmnadpkaaGreatDoorShelf2
import Derived.Test.YtmfpbhjmnadpkaaGreatDoorPkU20
import Derived.Test.YtmfpbhjmnadpkaaGreatDoorPkU21
import Derived.Test.YtmfpbhjmnadpkaaGreatDoorMx0
import Derived.Test.YtmfpbhjmnadpkaaGreatDoorDp1
import Derived.Test.YtmfpbhjmnadpkaaGreatDoorZs2
import Derived.Test.YtmfpbhjmnadpkaaGreatDoorZs3
import Derived.Test.YtmfpbhjmnadpkaaGreatDoorZs4
import Derived.Test.YtmfpbhjmnadpkaaGreatDoorPkU27
import Derived.Test.YtmfpbhjmnadpkaaGreatDoorPkU28
import Derived.Test.YtmfpbhjmnadpkaaGreatDoorZs5
import Derived.Test.YtmfpbhjmnadpkaaGreatDoorPkU30
import Derived.Test.YtmfpbhjmnadpkaaGreatDoorPkU31
import Derived.Test.YtmfpbhjmnadpkaaGreatDoorPkU32
import Derived.Test.YtmfpbhjmnadpkaaGreatDoorPkU33
import Derived.Test.YtmfpbhjmnadpkaaGreatDoorPkU34
import Derived.Test.YtmfpbhjmnadpkaaGreatDoorPkU35
import Derived.Test.YtmfpbhjmnadpkaaGreatDoorZl1
import Derived.Test.YtmfpbhjmnadpkaaGreatDoorPkU37
import Derived.Test.YtmfpbhjmnadpkaaGreatDoorZl7
import Derived.Test.YtmfpbhjmnadpkaaGreatDoorZl8
import Derived.Test.YtmfpbhjmnadpkaaGreatDoorZl9
import Derived.Test.YtmfpbhjmnadpkaaGreatDoorZl10
import Derived.Test.YtmfpbhjmnadpkaaGreatDoorPkU42
import Derived.Test.YtmfpbhjmnadpkaaGreatDoorPkU43
import Derived.Test.YtmfpbhjmnadpkaaGreatDoorZm1
import Derived.Test.YtmfpbhjmnadpkaaGreatDoorPkU45
import Derived.Test.YtmfpbhjmnadpkaaGreatDoorZl12
import Derived.Test.YtmfpbhjmnadpkaaGreatDoorPkU47
import Derived.Test.YtmfpbhjmnadpkaaGreatDoorMk3
import Derived.Test.YtmfpbhjmnadpkaaGreatDoorLx64
namespace Go.Proofs.YtmfpbhjmnadpkaaGreatDoor.fnExactLoadMachine
open Go.ChangeShapes Go.WideShapes Go.ChangeAt Go.RowKit
open Go.ChangeMaps (open_string shut_string)
set_option linter.unusedVariables false

open Hs0 Ta0 Ta1 Nd0 Pl1 Tm0 Tm1 Tm2 Tm3 Tx0 Ss0 Ws1 Ss1 Tc2 Tc3 Tc4 Tc5 Ap9 Td1 Td2 Nd1 Nd2 Nd3 Ap1 Nd6 Za0 Za1 Tc1 Tc6 Tc7 Tc8 Tc9 Tc10 Ta2 Te1 Tk0 Zk0 Qc0 Mm0 Ta3 De0 De1 Dv0 Mc0 Td3 Td4 Mm1 Dq0 Dm1 Mm2 Te3 Vo0 Wp0 Wp1 Zs0 Zt0 Ss2 Ap4 Ap5 Zs1 Qc1 Mx0 Dp1 Zs2 Zs3 Zs4 Ms0 Mi1 Mi2 Mi3 Mi4 Zs5 Zs6 Zs7 Zt1 Zt2 Wp3 Zl0 Zl2 Zl3 Zl4 Zw0 Zw1 Zk1 Ap0 Wp4 Qc2 Mw9 Zl1 Zl5 Zl6 Zl7 Zl8 Zl9 Zl10 Zl11 Zk2 Zm0 Zb0 Zm1 Wp5 Wp2 Wp6 Zl12 Mk0 Mk1 Mk2 Mk3 Lx64

theorem own : ownKnob Tryz.prog.godebug = none := by kernel_rfl
theorem door_met (os : Os) (args : Array Value) : laidMetH Tryz.prog Rows.fnExactLoadMachineRow.laid ((Zt2.laidW os Rows.fnExactLoadMachineRow.laid).forCall (fun _ _ => 0) ⟨#[], args, []⟩).memory := Zt2.met os args
theorem laidOut : laidOutB Tryz.prog = true := by kernel_rfl

set_option maxHeartbeats 1000000 in
theorem walk (a0 : ByteArray) (w0 : a0.size ≤ maxLen) (w : World) (wT : Zs7.TabE w) :
    Calls Tryz.prog 7 #[.string a0] w fun e w' => e = .returned (.bool true) ∧ Below w.heap.size w w' := by
  exact Lx64.exLoad w a0 w0 wT

set_option maxRecDepth 100000 in
theorem lifted (os : Os) (started : os.Started) (H : Type) (enc : TypeId × Value → H) :
    ReturnsInHanded {} Tryz.checked os 7 .any (fun w args => (Rows.fnExactLoadMachineSpec.pre enc Tryz.prog Tryz.f7 [] false w args ∧ laidMetH Tryz.prog Rows.fnExactLoadMachineRow.laid w) ∧ sizedMet enc Tryz.prog Tryz.f7 (OpenSpec.ofChange Rows.fnExactLoadMachineSpec) false w args) (Rows.fnExactLoadMachineSpec.post enc Tryz.prog Tryz.f7 false true false false) := by
  refine Hs0.andShaped (C := Tryz.checked) (X := fun w _ => laidMetH Tryz.prog Rows.fnExactLoadMachineRow.laid w) (fun _ _ _ hh h => h.of_heap hh) own started (by kernel_rfl) Tryz.func7
    (ChangeSpec.witness_shaped (enc := enc) (C := Tryz.checked) (os := os) (X := fun w _ => laidMetH Tryz.prog Rows.fnExactLoadMachineRow.laid w) false (Zt2.laidW os Rows.fnExactLoadMachineRow.laid) #[.string ByteArray.empty] 8 (Zt2.laidW_os _ _) (Zt2.shape os _) (by kernel_rfl) (by kernel_rfl) (by kernel_rfl) (door_met os _)) ?_
  intro W base args ds gs before hval0 hW hL hsh
  have hval : ∀ (j : Nat) t v, Tryz.f7.params[j]? = some t → args[j]? = some v → Value.okWide Tryz.prog W .any base t v := hval0
  have hW' := hW
  obtain ⟨p, q, hA0, hV, rfl, hfz, hnd⟩ := hW
  have hA : DataW.TrodAll enc Tryz.prog W 0 (fun _ => true) true Tryz.f7.params.toList args.toList ds p := hA0
  rw [Tryz.params7] at hA hval
  obtain ⟨v0, vs0, d0, ds0, p0, q0, hargs, rfl, rfl, h0, r0⟩ := trodAll_cons hA
  obtain ⟨rfl, rfl, rfl⟩ := trodAll_nil r0
  obtain rfl : args = #[v0] := by cases args; simp_all
  have wT : Zs7.TabE W := Zt1.tabe_of_laid (laid := Rows.fnExactLoadMachineRow.laid) hL (by repeat (first | exact List.Mem.head _ | apply List.Mem.tail)) (by repeat (first | exact List.Mem.head _ | apply List.Mem.tail)) (by repeat (first | exact List.Mem.head _ | apply List.Mem.tail)) hsh (by repeat (first | exact List.Mem.head _ | apply List.Mem.tail))
  obtain ⟨rfl, rfl⟩ := trodVars_none hV
  obtain ⟨a0, rfl, rfl, rfl, w0⟩ := open_string Tryz.underlying9 (hval 0 9 v0 rfl rfl) h0
  clear hA0 hval0
  refine (walk a0 w0 W wT).mono fun e W' ⟨he, bel⟩ => ?_
  subst he
  exact ⟨_, rfl, _, _, _, [], _, [], hW', trodAll_mk1 (shut_bool Tryz.underlying4 _), (trodAll_cons_mk (shut_string Tryz.underlying9 w0) trodAll_mk0), rfl, bel.frame _, fun h => by cases h⟩

theorem over : Rows.fnExactLoadMachineRow.holds Tryz.pinned (OpenSpec.ofChange Rows.fnExactLoadMachineSpec) :=
  OpenClaim.holds_of_wide 7 Tryz.f7 rfl rfl rfl rfl rfl rfl rfl ⟨rfl, rfl, rfl, rfl, rfl⟩ rfl rfl rfl rfl rfl (by kernel_rfl) Tryz.func7 (by kernel_rfl)
    (of_decide_eq_true (by kernel_rfl)) (by unfold Func.isWrapper; first | (rw [if_pos (by decide +kernel)]; kernel_rfl) | (rw [if_neg (by decide +kernel)]; exact ⟨rfl, rfl⟩))
    (fun os started H enc _ => lifted os started H enc)

end Go.Proofs.YtmfpbhjmnadpkaaGreatDoor.fnExactLoadMachine
namespace Go.Proofs.YtmfpbhjmnadpkaaGreatDoor
theorem fnExactLoadMachine_holds : Rows.FnExactLoadMachineCardSaid :=
  Claim7.holds_tied_plain_at .later [] [.data, .data, .data, .data, .handle, .sentinel, .sentinel, .pinned] true (true, "2f5c71598a1c6f8b5349cbb457a0e8f446ac60e705532263969901ac22da1032") true
    fnExactLoadMachine.over (fun _ h => by cases h) (by kernel_rfl) (fun _ h => by cases h) fnExactLoadMachine_row_tie rfl ⟨rfl, rfl⟩ (by kernel_rfl) rfl
    (fun f fn hf hfn => by
      obtain rfl : f = 7 := Option.some.inj ((show Tryz.prog.funcNamed Rows.fnExactLoadMachineRow.func = some 7 by kernel_rfl).symm.trans hf) |>.symm
      obtain rfl : fn = Tryz.f7 := (Option.some.inj (Tryz.func7.symm.trans hfn)).symm
      exact ⟨by kernel_rfl, fun j t ht => by
        rw [Tryz.params7] at ht
        have hm : t ∈ [9] := by simpa using Array.mem_of_getElem? ht
        have hall : ([9].all fun u => !Tryz.prog.wantsStandIn u) = true := by kernel_rfl
        exact (show Tryz.prog.wantsStandIn t = false by simpa using List.all_eq_true.1 hall t hm)⟩)
    (by kernel_rfl)
end Go.Proofs.YtmfpbhjmnadpkaaGreatDoor
