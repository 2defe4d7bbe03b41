/- For any text Records of the program answers as its model does, and its answer owns its memory; the library variables are as their initialisers lay them (tied to the text of the pruned copy). -/
import Derived.Test.YtficonkpbohpeaaDoorRows
import Derived.WalkKit
import Derived.ProofKit
import Derived.OpenShut
import Derived.ShutString
import Derived.ChangeOld
import Derived.Below
import Derived.OpenVars
import Derived.LaidMore
import Derived.Stop.Joined
import Derived.SevenTiedAt
import Derived.Test.YtficonkpbohpeaaDoorTie
import Derived.Test.YtficonkpbohpeaaDoorCards
import Derived.Test.YtficonkpbohpeaaDoorHs0
import Derived.Test.YtficonkpbohpeaaDoorNd0
import Derived.Test.YtficonkpbohpeaaDoorPl1
import Derived.Test.YtficonkpbohpeaaDoorPkT2
import Derived.Test.YtficonkpbohpeaaDoorPkT3
import Derived.Test.YtficonkpbohpeaaDoorTx0
import Derived.Test.YtficonkpbohpeaaDoorTa0
import Derived.Test.YtficonkpbohpeaaDoorTa1
import Derived.Test.YtficonkpbohpeaaDoorPkT7
import Derived.Test.YtficonkpbohpeaaDoorSs1
import Derived.Test.YtficonkpbohpeaaDoorPkT9
import Derived.Test.YtficonkpbohpeaaDoorPkT10
import Derived.Test.YtficonkpbohpeaaDoorPkT11
import Derived.Test.YtficonkpbohpeaaDoorPkT12
import Derived.Test.YtficonkpbohpeaaDoorTc10
import Derived.Test.YtficonkpbohpeaaDoorAp9
import Derived.Test.YtficonkpbohpeaaDoorPkT15
import Derived.Test.YtficonkpbohpeaaDoorPkT16
import Derived.Test.YtficonkpbohpeaaDoorTk0
import Derived.Test.YtficonkpbohpeaaDoorZk0
import Derived.Test.YtficonkpbohpeaaDoorJn0
import Derived.Test.YtficonkpbohpeaaDoorShelf2
import Derived.Test.YtficonkpbohpeaaDoorZt0
import Derived.Test.YtficonkpbohpeaaDoorJn3
import Derived.Test.YtficonkpbohpeaaDoorJn4
import Derived.Test.YtficonkpbohpeaaDoorJn5
import Derived.Test.YtficonkpbohpeaaDoorPkT25
import Derived.Test.YtficonkpbohpeaaDoorJn6
import Derived.Test.YtficonkpbohpeaaDoorJn1
import Derived.Test.YtficonkpbohpeaaDoorJn7
import Derived.Test.YtficonkpbohpeaaDoorPkT30
import Derived.Test.YtficonkpbohpeaaDoorPkT31
import Derived.Test.YtficonkpbohpeaaDoorNd6
import Derived.Test.YtficonkpbohpeaaDoorPkT33
import Derived.Test.YtficonkpbohpeaaDoorPkT34
import Derived.Test.YtficonkpbohpeaaDoorMk1
import Derived.Test.YtficonkpbohpeaaDoorJm0
import Derived.Test.YtficonkpbohpeaaDoorDr0
import Derived.Test.YtficonkpbohpeaaDoorDr1
import Derived.Test.YtficonkpbohpeaaDoorPkT40
import Derived.Test.YtficonkpbohpeaaDoorPkT43
namespace Go.Proofs.YtficonkpbohpeaaDoor.fnExactRecords
open Go.ChangeShapes Go.WideShapes Go.ChangeAt Go.RowKit
open Go.ChangeMaps (open_string shut_string)
set_option linter.unusedVariables false

open Hs0 Nd0 Pl1 Tm0 Tm1 Tm2 Tm3 Tx0 Ta0 Ta1 Ss0 Ws1 Ss1 Tc2 Tc3 Tc4 Tc5 Tc1 Tc6 Tc7 Tc8 Tc9 Tc10 Ap9 Td1 Td2 Ta2 Te1 Tk0 Zk0 Jn0 Zt0 Jn3 Jn4 Jn5 Ss2 Ap4 Jn6 Jn1 Jn7 Qc0 Nd1 Nd2 Nd3 Ap1 Nd6 Mm0 Qc1 Dq0 Mx0 Mk0 Mk1 Jm0 Jx3

theorem own : ownKnob Tryd.prog.godebug = none := by kernel_rfl
theorem door_met (os : Os) (args : Array Value) : laidMetH Tryd.prog Rows.fnExactRecordsRow.laid ((World.doorLaid Tryd.prog 400 os).forCall (fun _ _ => 0) ⟨#[], args, []⟩).memory :=
  laidMetH_of_parts3 (fuel := 8) (laidMet_of_run' 8 (by kernel_rfl) (by kernel_rfl)) (by kernel_rfl) (by kernel_rfl)
theorem laidOut : laidOutB Tryd.prog = true := by kernel_rfl

set_option maxHeartbeats 1000000 in
theorem walk (a0 : ByteArray) (w0 : a0.size ≤ maxLen) (w : World) (wT : Zt0.TabZ w) :
    Calls Tryd.prog 7 #[.string a0] w fun e w' => e = .returned (.bool true) ∧ Below w.heap.size w w' := by
  exact Jx3.exRecords w a0 w0 wT

set_option maxRecDepth 100000 in
theorem lifted (os : Os) (started : os.Started) (H : Type) (enc : TypeId × Value → H) :
    ReturnsInHanded {} Tryd.checked os 7 .any (fun w args => (Rows.fnExactRecordsSpec.pre enc Tryd.prog Tryd.f7 [] false w args ∧ laidMetH Tryd.prog Rows.fnExactRecordsRow.laid w) ∧ sizedMet enc Tryd.prog Tryd.f7 (OpenSpec.ofChange Rows.fnExactRecordsSpec) false w args) (Rows.fnExactRecordsSpec.post enc Tryd.prog Tryd.f7 false true false false) := by
  refine Hs0.andShaped (C := Tryd.checked) (X := fun w _ => laidMetH Tryd.prog Rows.fnExactRecordsRow.laid w) (fun _ _ _ hh h => h.of_heap hh) own started (by kernel_rfl) Tryd.func7
    (ChangeSpec.witness_shaped (enc := enc) (C := Tryd.checked) (os := os) (X := fun w _ => laidMetH Tryd.prog Rows.fnExactRecordsRow.laid w) false (World.doorLaid Tryd.prog 400 os) #[.string ByteArray.empty] 8 rfl (World.shaped_of_RefB (by kernel_rfl) (by kernel_rfl)) (by kernel_rfl) (by kernel_rfl) (by kernel_rfl) (door_met os _)) ?_
  intro W base args ds gs before hval0 hW hL hsh
  have hval : ∀ (j : Nat) t v, Tryd.f7.params[j]? = some t → args[j]? = some v → Value.okWide Tryd.prog W .any base t v := hval0
  have hW' := hW
  obtain ⟨p, q, hA0, hV, rfl, hfz, hnd⟩ := hW
  have hA : DataW.TrodAll enc Tryd.prog W 0 (fun _ => true) true Tryd.f7.params.toList args.toList ds p := hA0
  rw [Tryd.params7] at hA hval
  obtain ⟨v0, vs0, d0, ds0, p0, q0, hargs, rfl, rfl, h0, r0⟩ := trodAll_cons hA
  obtain ⟨rfl, rfl, rfl⟩ := trodAll_nil r0
  obtain rfl : args = #[v0] := by cases args; simp_all
  have wT : Zt0.TabZ W := Zt0.tabz_of_laid (laid := Rows.fnExactRecordsRow.laid) ((MakeChecks.laidMetH_plain _ _ _ (by kernel_rfl)).mp hL) (by repeat (first | exact List.Mem.head _ | apply List.Mem.tail)) (by repeat (first | exact List.Mem.head _ | apply List.Mem.tail)) (by repeat (first | exact List.Mem.head _ | apply List.Mem.tail)) hsh
  obtain ⟨rfl, rfl⟩ := trodVars_none hV
  obtain ⟨a0, rfl, rfl, rfl, w0⟩ := open_string Tryd.underlying9 (hval 0 9 v0 rfl rfl) h0
  clear hA0 hval0
  refine (walk a0 w0 W wT).mono fun e W' ⟨he, bel⟩ => ?_
  subst he
  exact ⟨_, rfl, _, _, _, [], _, [], hW', trodAll_mk1 (shut_bool Tryd.underlying4 _), (trodAll_cons_mk (shut_string Tryd.underlying9 w0) trodAll_mk0), rfl, bel.frame _, fun h => by cases h⟩

theorem over : Rows.fnExactRecordsRow.holds Tryd.pinned (OpenSpec.ofChange Rows.fnExactRecordsSpec) :=
  OpenClaim.holds_of_wide 7 Tryd.f7 rfl rfl rfl rfl rfl rfl rfl ⟨rfl, rfl, rfl, rfl, rfl⟩ rfl rfl rfl rfl rfl (by kernel_rfl) Tryd.func7 (by kernel_rfl)
    (of_decide_eq_true (by kernel_rfl)) (by unfold Func.isWrapper; first | (rw [if_pos (by decide +kernel)]; kernel_rfl) | (rw [if_neg (by decide +kernel)]; exact ⟨rfl, rfl⟩))
    (fun os started H enc _ => lifted os started H enc)

end Go.Proofs.YtficonkpbohpeaaDoor.fnExactRecords
namespace Go.Proofs.YtficonkpbohpeaaDoor
theorem fnExactRecords_holds : Rows.FnExactRecordsCardSaid :=
  Claim7.holds_tied_plain_at .later [] [.data, .data, .data, .sentinel, .sentinel] true (true, "1897608cf97fefe9f93eca6a4e5724d409b0ffb8525850ecc94a9e3ecb2d3634") true
    fnExactRecords.over (fun _ h => by cases h) (by kernel_rfl) (fun _ h => by cases h) fnExactRecords_row_tie rfl ⟨rfl, rfl⟩ (by kernel_rfl) rfl
    (fun f fn hf hfn => by
      obtain rfl : f = 7 := Option.some.inj ((show Tryd.prog.funcNamed Rows.fnExactRecordsRow.func = some 7 by kernel_rfl).symm.trans hf) |>.symm
      obtain rfl : fn = Tryd.f7 := (Option.some.inj (Tryd.func7.symm.trans hfn)).symm
      exact ⟨by kernel_rfl, fun j t ht => by
        rw [Tryd.params7] at ht
        have hm : t ∈ [9] := by simpa using Array.mem_of_getElem? ht
        have hall : ([9].all fun u => !Tryd.prog.wantsStandIn u) = true := by kernel_rfl
        exact (show Tryd.prog.wantsStandIn t = false by simpa using List.all_eq_true.1 hall t hm)⟩)
    (by kernel_rfl)
end Go.Proofs.YtficonkpbohpeaaDoor
