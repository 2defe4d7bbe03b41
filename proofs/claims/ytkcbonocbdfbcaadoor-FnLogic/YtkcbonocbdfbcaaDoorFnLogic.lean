/- Whatever bytes the law is drawn from: the tables of what is not, of both and of just one are these value by value, and two tables have one key just when they are one; the library tables are as their initialisers lay them (tied to the text of the pruned copy). -/
import Derived.Test.YtkcbonocbdfbcaaDoorRows
import Derived.WalkKit
import Derived.ProofKit
import Derived.OpenShut
import Derived.ShutString
import Derived.ChangeOld
import Derived.Below
import Derived.OpenVars
import Derived.LaidMore
import Derived.Stop.Joined
import Derived.SevenTiedAt
import Derived.Test.YtkcbonocbdfbcaaDoorTie
import Derived.Test.YtkcbonocbdfbcaaDoorCards
import Derived.Test.YtkcbonocbdfbcaaDoorTa0
import Derived.Test.YtkcbonocbdfbcaaDoorTa1
import Derived.Test.YtkcbonocbdfbcaaDoorNd0
import Derived.Test.YtkcbonocbdfbcaaDoorPl1
import Derived.Test.YtkcbonocbdfbcaaDoorTm0
import Derived.Test.YtkcbonocbdfbcaaDoorTm1
import Derived.Test.YtkcbonocbdfbcaaDoorTm2
import Derived.Test.YtkcbonocbdfbcaaDoorTm3
import Derived.Test.YtkcbonocbdfbcaaDoorTx0
import Derived.Test.YtkcbonocbdfbcaaDoorSs0
import Derived.Test.YtkcbonocbdfbcaaDoorWs1
import Derived.Test.YtkcbonocbdfbcaaDoorSs1
import Derived.Test.YtkcbonocbdfbcaaDoorTc2
import Derived.Test.YtkcbonocbdfbcaaDoorTc3
import Derived.Test.YtkcbonocbdfbcaaDoorTc4
import Derived.Test.YtkcbonocbdfbcaaDoorTc5
import Derived.Test.YtkcbonocbdfbcaaDoorAp9
import Derived.Test.YtkcbonocbdfbcaaDoorTd1
import Derived.Test.YtkcbonocbdfbcaaDoorTd2
import Derived.Test.YtkcbonocbdfbcaaDoorDr0
import Derived.Test.YtkcbonocbdfbcaaDoorDr1
import Derived.Test.YtkcbonocbdfbcaaDoorDr4
import Derived.Test.YtkcbonocbdfbcaaDoorTdr
import Derived.Test.YtkcbonocbdfbcaaDoorTds
import Derived.Test.YtkcbonocbdfbcaaDoorTc1
import Derived.Test.YtkcbonocbdfbcaaDoorTc6
import Derived.Test.YtkcbonocbdfbcaaDoorTc7
import Derived.Test.YtkcbonocbdfbcaaDoorTc8
import Derived.Test.YtkcbonocbdfbcaaDoorTdt
import Derived.Test.YtkcbonocbdfbcaaDoorTdu
import Derived.Test.YtkcbonocbdfbcaaDoorShelf
import Derived.Test.YtkcbonocbdfbcaaDoorTc9
import Derived.Test.YtkcbonocbdfbcaaDoorTc10
import Derived.Test.YtkcbonocbdfbcaaDoorTa2
import Derived.Test.YtkcbonocbdfbcaaDoorTe1
import Derived.Test.YtkcbonocbdfbcaaDoorTk0
import Derived.Test.YtkcbonocbdfbcaaDoorTa4
import Derived.Test.YtkcbonocbdfbcaaDoorTe2
import Derived.Test.YtkcbonocbdfbcaaDoorTd3
import Derived.Test.YtkcbonocbdfbcaaDoorTa3
import Derived.Test.YtkcbonocbdfbcaaDoorTd4
import Derived.Test.YtkcbonocbdfbcaaDoorTe3
import Derived.Test.YtkcbonocbdfbcaaDoorAp0
import Derived.Test.YtkcbonocbdfbcaaDoorTd5
import Derived.Test.YtkcbonocbdfbcaaDoorTe4
import Derived.Test.YtkcbonocbdfbcaaDoorLh1
import Derived.Test.YtkcbonocbdfbcaaDoorLl1
namespace Go.Proofs.YtkcbonocbdfbcaaDoor.fnLogic
open Go.ChangeShapes Go.WideShapes Go.ChangeAt Go.RowKit
open Go.ChangeMaps (open_string shut_string)
set_option linter.unusedVariables false

theorem own : ownKnob Tryd.prog.godebug = none := by kernel_rfl
theorem door_met (os : Os) (args : Array Value) : laidMetH Tryd.prog Rows.fnLogicRow.laid ((World.doorLaid Tryd.prog 400 os).forCall (fun _ _ => 0) ⟨#[], args, []⟩).memory :=
  laidMetH_of_parts3 (fuel := 8) (laidMet_of_run' 8 (by kernel_rfl) (by kernel_rfl)) (by kernel_rfl) (by kernel_rfl)
theorem laidOut : laidOutB Tryd.prog = true := by kernel_rfl

def IsRow (k : IntKind) (w : World) (a : Option Addr) (len cap : Nat) (zs : List Int) : Prop :=
  (a = none ∧ len = 0 ∧ cap = 0 ∧ zs = []) ∨
  ∃ x, a = some x ∧ len ≤ cap ∧ cap ≤ maxLen ∧ zs.length = cap ∧ (∀ i, i < zs.length → w.cell? (x.add i) = some (.int k (zs.getD i 0))) ∧ ∀ n ∈ zs, (Lit.int k n).wf = true

open Ta0 Ta1 Nd0 Pl1 Tm0 Tm1 Tm2 Tm3 Tx0 Ss0 Ws1 Ss1 Tc2 Tc3 Tc4 Tc5 Ap9 Td1 Td2 Dr0 Dr1 Dr4 Tdr Tds Tc1 Tc6 Tc7 Tc8 Tdt Tdu Tc9 Tc10 Ta2 Te1 Tk0 Ta4 Te2 Td3 Ta3 Td4 Te3 Ap0 Td5 Te4 Lh1 Ll1
set_option maxHeartbeats 1000000 in
theorem walk (a0 : Option Addr) (len0 cap0 : Nat) (z0 : List Int) (w : World) (w0 : IsRow .u8 w a0 len0 cap0 z0) (wT : Tk0.TabK w) :
    Calls Tryd.prog 4 #[.slice a0 len0 cap0] w fun e w' => e = .returned (.bool true) ∧ Below w.heap.size w w' := by
  refine lawLogic w wT a0 len0 cap0 ?_
  rcases w0 with ⟨rfl, rfl, rfl, rfl⟩ | ⟨x, rfl, hl, hm, hz, hcell, hwz⟩
  · exact ⟨Nat.zero_le _, .inl rfl⟩
  · exact Dr0.bytes_of hl hm hz hcell hwz

set_option maxRecDepth 100000 in
theorem lifted (os : Os) (started : os.Started) (H : Type) (enc : TypeId × Value → H) :
    ReturnsInHanded {} Tryd.checked os 4 .any (fun w args => (Rows.fnLogicSpec.pre enc Tryd.prog Tryd.f4 [] false w args ∧ laidMetH Tryd.prog Rows.fnLogicRow.laid w) ∧ sizedMet enc Tryd.prog Tryd.f4 (OpenSpec.ofChange Rows.fnLogicSpec) false w args) (Rows.fnLogicSpec.post enc Tryd.prog Tryd.f4 false true false false) := by
  refine returnsInHanded_of_change_and (C := Tryd.checked) (X := fun w _ => laidMetH Tryd.prog Rows.fnLogicRow.laid w) (fun _ _ _ hh h => h.of_heap hh) own started (by kernel_rfl) Tryd.func4
    (ChangeSpec.witness_shaped (enc := enc) (C := Tryd.checked) (os := os) (X := fun w _ => laidMetH Tryd.prog Rows.fnLogicRow.laid w) false (World.doorLaid Tryd.prog 400 os) #[.slice none 0 0] 8 rfl (World.shaped_of_RefB (by kernel_rfl) (by kernel_rfl)) (by kernel_rfl) (by kernel_rfl) (by kernel_rfl) (door_met os _)) ?_
  intro W base args ds gs before hval0 hW _ _ hL _
  have hval : ∀ (j : Nat) t v, Tryd.f4.params[j]? = some t → args[j]? = some v → Value.okWide Tryd.prog W .any base t v := hval0
  have hW' := hW
  obtain ⟨p, q, hA0, hV, rfl, hfz, hnd⟩ := hW
  have hA : DataW.TrodAll enc Tryd.prog W 0 (fun _ => true) true Tryd.f4.params.toList args.toList ds p := hA0
  rw [Tryd.params4] at hA hval
  obtain ⟨v0, vs0, d0, ds0, p0, q0, hargs, rfl, rfl, h0, r0⟩ := trodAll_cons hA
  obtain ⟨rfl, rfl, rfl⟩ := trodAll_nil r0
  obtain rfl : args = #[v0] := by cases args; simp_all
  have wT : Tk0.TabK W := Tk0.tabk_of_laid (laid := Rows.fnLogicRow.laid) ((MakeChecks.laidMetH_plain _ _ _ (by kernel_rfl)).mp hL) (by repeat (first | exact List.Mem.head _ | apply List.Mem.tail))
  obtain ⟨rfl, rfl⟩ := trodVars_none hV
  obtain ⟨a0, len0, cap0, rfl⟩ := okWide_slice Tryd.underlying22 (hval 0 22 v0 rfl rfl)
  have k0 := h0
  have lt0 : ∀ x ∈ p0, x.block < W.heap.size := by obtain ⟨m, hm⟩ := k0; exact DataW.trod_lt m _ _ _ hm
  obtain ⟨z0, w0⟩ : ∃ zs, IsRow .u8 W a0 len0 cap0 zs := by
    obtain ⟨fuel, hf⟩ := h0
    rcases open_ints Tryd.underlying22 Tryd.underlying5 (by kernel_rfl) hf with ⟨hcs, _⟩ | ⟨x, l, c, zs, hcs, _, hl, hm, hz, _, hcell, hwz⟩
    · simp [Value.cells] at hcs
      obtain ⟨rfl, rfl, rfl⟩ := hcs
      exact ⟨[], .inl ⟨rfl, rfl, rfl, rfl⟩⟩
    · simp [Value.cells] at hcs
      obtain ⟨rfl, rfl, rfl⟩ := hcs
      exact ⟨zs, .inr ⟨_, rfl, hl, hm, by simpa using hz, hcell, hwz⟩⟩
  clear hA0 hval0
  refine (walk a0 len0 cap0 z0 W w0 wT).mono fun e W' ⟨he, bel⟩ => ?_
  subst he
  exact ⟨_, rfl, _, _, _, [], _, [], hW', trodAll_mk1 (shut_bool Tryd.underlying4 _), (trodAll_cons_mk (Below.trod laidOut (by kernel_rfl) (of_decide_eq_true (by kernel_rfl)) k0 bel lt0) trodAll_mk0), rfl, bel.frame _, fun h => by cases h⟩

theorem over : Rows.fnLogicRow.holds Tryd.pinned (OpenSpec.ofChange Rows.fnLogicSpec) :=
  OpenClaim.holds_of_wide 4 Tryd.f4 rfl rfl rfl rfl rfl rfl rfl ⟨rfl, rfl, rfl, rfl, rfl⟩ rfl rfl rfl rfl rfl (by kernel_rfl) Tryd.func4 (by kernel_rfl)
    (of_decide_eq_true (by kernel_rfl)) (by unfold Func.isWrapper; first | (rw [if_pos (by decide +kernel)]; kernel_rfl) | (rw [if_neg (by decide +kernel)]; exact ⟨rfl, rfl⟩))
    (fun os started H enc _ => lifted os started H enc)

end Go.Proofs.YtkcbonocbdfbcaaDoor.fnLogic
namespace Go.Proofs.YtkcbonocbdfbcaaDoor
theorem fnLogic_holds : Rows.FnLogicCardSaid :=
  Claim7.holds_tied_plain_at .later [] [.data, .data, .data] true (true, "2ab6bee29816cffe8246407bede7eaeab94e75fe73e342d8c1b031442c760338") false
    fnLogic.over (fun _ h => by cases h) (by kernel_rfl) (fun _ h => by cases h) fnLogic_row_tie rfl ⟨rfl, rfl⟩ (by kernel_rfl) rfl
    (fun f fn hf hfn => by
      obtain rfl : f = 4 := Option.some.inj ((show Tryd.prog.funcNamed Rows.fnLogicRow.func = some 4 by kernel_rfl).symm.trans hf) |>.symm
      obtain rfl : fn = Tryd.f4 := (Option.some.inj (Tryd.func4.symm.trans hfn)).symm
      exact ⟨by kernel_rfl, fun j t ht => by
        rw [Tryd.params4] at ht
        have hm : t ∈ [22] := by simpa using Array.mem_of_getElem? ht
        have hall : ([22].all fun u => !Tryd.prog.wantsStandIn u) = true := by kernel_rfl
        exact (show Tryd.prog.wantsStandIn t = false by simpa using List.all_eq_true.1 hall t hm)⟩)
    (by kernel_rfl)
end Go.Proofs.YtkcbonocbdfbcaaDoor
