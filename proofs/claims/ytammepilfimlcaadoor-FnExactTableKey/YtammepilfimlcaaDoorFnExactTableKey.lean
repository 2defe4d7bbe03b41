/- For any table, right or wrong, TableKey of the program answers as its model does; the library tables are as their initialisers lay them (tied to the text of the pruned copy). -/
import Derived.Test.YtammepilfimlcaaDoorRows
import Derived.WalkKit
import Derived.ProofKit
import Derived.OpenShut
import Derived.ShutString
import Derived.ChangeOld
import Derived.Below
import Derived.OpenVars
import Derived.LaidMore
import Derived.Stop.Joined
import Derived.SevenTiedAt
import Derived.Test.YtammepilfimlcaaDoorTie
import Derived.Test.YtammepilfimlcaaDoorCards
import Derived.Test.YtammepilfimlcaaDoorNd0
import Derived.Test.YtammepilfimlcaaDoorOp2
import Derived.Test.YtammepilfimlcaaDoorShelf
import Derived.Test.YtammepilfimlcaaDoorTa0
import Derived.Test.YtammepilfimlcaaDoorTa1
import Derived.Test.YtammepilfimlcaaDoorPl1
import Derived.Test.YtammepilfimlcaaDoorTm0
import Derived.Test.YtammepilfimlcaaDoorTm1
import Derived.Test.YtammepilfimlcaaDoorTm2
import Derived.Test.YtammepilfimlcaaDoorTm3
import Derived.Test.YtammepilfimlcaaDoorTx0
import Derived.Test.YtammepilfimlcaaDoorSs0
import Derived.Test.YtammepilfimlcaaDoorWs1
import Derived.Test.YtammepilfimlcaaDoorSs1
import Derived.Test.YtammepilfimlcaaDoorTc2
import Derived.Test.YtammepilfimlcaaDoorTc3
import Derived.Test.YtammepilfimlcaaDoorTc4
import Derived.Test.YtammepilfimlcaaDoorTc5
import Derived.Test.YtammepilfimlcaaDoorTc1
import Derived.Test.YtammepilfimlcaaDoorTc6
import Derived.Test.YtammepilfimlcaaDoorTc7
import Derived.Test.YtammepilfimlcaaDoorTc8
import Derived.Test.YtammepilfimlcaaDoorTc9
import Derived.Test.YtammepilfimlcaaDoorTc10
import Derived.Test.YtammepilfimlcaaDoorAp9
import Derived.Test.YtammepilfimlcaaDoorTd1
import Derived.Test.YtammepilfimlcaaDoorTd2
import Derived.Test.YtammepilfimlcaaDoorTa2
import Derived.Test.YtammepilfimlcaaDoorTe1
import Derived.Test.YtammepilfimlcaaDoorTk0
import Derived.Test.YtammepilfimlcaaDoorLx24
namespace Go.Proofs.YtammepilfimlcaaDoor.fnExactTableKey
open Go.ChangeShapes Go.WideShapes Go.ChangeAt Go.RowKit
open Go.ChangeMaps (open_string shut_string)
set_option linter.unusedVariables false

open Nd0 Op2 Ta0 Ta1 Pl1 Tm0 Tm1 Tm2 Tm3 Tx0 Ss0 Ws1 Ss1 Tc2 Tc3 Tc4 Tc5 Tc1 Tc6 Tc7 Tc8 Tc9 Tc10 Ap9 Td1 Td2 Ta2 Te1 Tk0 Lx24

theorem own : ownKnob Tryd.prog.godebug = none := by kernel_rfl
theorem door_met (os : Os) (args : Array Value) : laidMetH Tryd.prog Rows.fnExactTableKeyRow.laid ((World.doorLaid Tryd.prog 400 os).forCall (fun _ _ => 0) ⟨#[], args, []⟩).memory :=
  laidMetH_of_parts3 (fuel := 8) (laidMet_of_run' 8 (by kernel_rfl) (by kernel_rfl)) (by kernel_rfl) (by kernel_rfl)
theorem laidOut : laidOutB Tryd.prog = true := by kernel_rfl

set_option maxHeartbeats 1000000 in
theorem walk (N0 : Int) (S0 : ByteArray) (w : World) (w0 : S0.size ≤ maxLen) (wT : Tk0.TabK w) :
    Calls Tryd.prog 5 #[.agg #[.int .i64 N0, .string S0]] w fun e w' => e = .returned (.bool true) ∧ Below w.heap.size w w' := by
  exact exTableKey N0 S0 w w0 wT

set_option maxRecDepth 100000 in
theorem lifted (os : Os) (started : os.Started) (H : Type) (enc : TypeId × Value → H) :
    ReturnsInHanded {} Tryd.checked os 5 .any (fun w args => (Rows.fnExactTableKeySpec.pre enc Tryd.prog Tryd.f5 [] false w args ∧ laidMetH Tryd.prog Rows.fnExactTableKeyRow.laid w) ∧ sizedMet enc Tryd.prog Tryd.f5 (OpenSpec.ofChange Rows.fnExactTableKeySpec) false w args) (Rows.fnExactTableKeySpec.post enc Tryd.prog Tryd.f5 false true false false) := by
  refine returnsInHanded_of_change_and (C := Tryd.checked) (X := fun w _ => laidMetH Tryd.prog Rows.fnExactTableKeyRow.laid w) (fun _ _ _ hh h => h.of_heap hh) own started (by kernel_rfl) Tryd.func5
    (ChangeSpec.witness_shaped (enc := enc) (C := Tryd.checked) (os := os) (X := fun w _ => laidMetH Tryd.prog Rows.fnExactTableKeyRow.laid w) false (World.doorLaid Tryd.prog 400 os) #[.agg #[.int .i64 0, .string ByteArray.empty]] 8 rfl (World.shaped_of_RefB (by kernel_rfl) (by kernel_rfl)) (by kernel_rfl) (by kernel_rfl) (by kernel_rfl) (door_met os _)) ?_
  intro W base args ds gs before hval0 hW _ _ hL _
  have hval : ∀ (j : Nat) t v, Tryd.f5.params[j]? = some t → args[j]? = some v → Value.okWide Tryd.prog W .any base t v := hval0
  have hW' := hW
  obtain ⟨p, q, hA0, hV, rfl, hfz, hnd⟩ := hW
  have hA : DataW.TrodAll enc Tryd.prog W 0 (fun _ => true) true Tryd.f5.params.toList args.toList ds p := hA0
  rw [Tryd.params5] at hA hval
  obtain ⟨v0, vs0, d0, ds0, p0, q0, hargs, rfl, rfl, h0, r0⟩ := trodAll_cons hA
  obtain ⟨rfl, rfl, rfl⟩ := trodAll_nil r0
  obtain rfl : args = #[v0] := by cases args; simp_all
  have wT : Tk0.TabK W := Tk0.tabk_of_laid (laid := Rows.fnExactTableKeyRow.laid) ((MakeChecks.laidMetH_plain _ _ _ (by kernel_rfl)).mp hL) (by repeat (first | exact List.Mem.head _ | apply List.Mem.tail))
  obtain ⟨rfl, rfl⟩ := trodVars_none hV
  obtain ⟨cs0, rfl, _⟩ := okWide_struct Tryd.underlying38 (hval 0 38 v0 rfl rfl)
  have k0 := h0
  have lt0 : ∀ x ∈ p0, x.block < W.heap.size := by obtain ⟨m, hm⟩ := k0; exact DataW.trod_lt m _ _ _ hm
  obtain ⟨N0, S0, hn0, w0⟩ : ∃ (N : Int) (S : ByteArray), cs0.toList = [.int .i64 N, .string S] ∧ S.size ≤ maxLen := by
    obtain ⟨fuel, hf⟩ := h0
    exact Op2.table_open (by simpa [Value.cells] using hf)
  obtain rfl : cs0 = #[.int .i64 N0, .string S0] := by cases cs0; simp_all
  clear hA0 hval0
  refine (walk N0 S0 W w0 wT).mono fun e W' ⟨he, bel⟩ => ?_
  subst he
  exact ⟨_, rfl, _, _, _, [], _, [], hW', trodAll_mk1 (shut_bool Tryd.underlying4 _), (trodAll_cons_mk (Below.trod laidOut (by kernel_rfl) (of_decide_eq_true (by kernel_rfl)) k0 bel lt0) trodAll_mk0), rfl, bel.frame _, fun h => by cases h⟩

theorem over : Rows.fnExactTableKeyRow.holds Tryd.pinned (OpenSpec.ofChange Rows.fnExactTableKeySpec) :=
  OpenClaim.holds_of_wide 5 Tryd.f5 rfl rfl rfl rfl rfl rfl rfl ⟨rfl, rfl, rfl, rfl, rfl⟩ rfl rfl rfl rfl rfl (by kernel_rfl) Tryd.func5 (by kernel_rfl)
    (of_decide_eq_true (by kernel_rfl)) (by unfold Func.isWrapper; first | (rw [if_pos (by decide +kernel)]; kernel_rfl) | (rw [if_neg (by decide +kernel)]; exact ⟨rfl, rfl⟩))
    (fun os started H enc _ => lifted os started H enc)

end Go.Proofs.YtammepilfimlcaaDoor.fnExactTableKey
namespace Go.Proofs.YtammepilfimlcaaDoor
theorem fnExactTableKey_holds : Rows.FnExactTableKeyCardSaid :=
  Claim7.holds_tied_plain_at .later [] [.data, .data, .data] true (true, "2ab6bee29816cffe8246407bede7eaeab94e75fe73e342d8c1b031442c760338") false
    fnExactTableKey.over (fun _ h => by cases h) (by kernel_rfl) (fun _ h => by cases h) fnExactTableKey_row_tie rfl ⟨rfl, rfl⟩ (by kernel_rfl) rfl
    (fun f fn hf hfn => by
      obtain rfl : f = 5 := Option.some.inj ((show Tryd.prog.funcNamed Rows.fnExactTableKeyRow.func = some 5 by kernel_rfl).symm.trans hf) |>.symm
      obtain rfl : fn = Tryd.f5 := (Option.some.inj (Tryd.func5.symm.trans hfn)).symm
      exact ⟨by kernel_rfl, fun j t ht => by
        rw [Tryd.params5] at ht
        have hm : t ∈ [38] := by simpa using Array.mem_of_getElem? ht
        have hall : ([38].all fun u => !Tryd.prog.wantsStandIn u) = true := by kernel_rfl
        exact (show Tryd.prog.wantsStandIn t = false by simpa using List.all_eq_true.1 hall t hm)⟩)
    (by kernel_rfl)
end Go.Proofs.YtammepilfimlcaaDoor
