/- Whatever bytes the law is drawn from: the machine of a row and a table comes to its end within three steps for each place of its tree, with the verdict that Decide tells, whatever room it has to remember; the library tables are as their initialisers lay them (tied to the text of the pruned copy). -/
import Derived.Test.YtldeakifeifgdaaDoorRows
import Derived.WalkKit
import Derived.ProofKit
import Derived.OpenShut
import Derived.ShutString
import Derived.ChangeOld
import Derived.Below
import Derived.OpenVars
import Derived.LaidMore
import Derived.Stop.Joined
import Derived.SevenTiedAt
import Derived.Test.YtldeakifeifgdaaDoorTie
import Derived.Test.YtldeakifeifgdaaDoorCards
import Derived.Test.YtldeakifeifgdaaDoorPkQc
import Derived.Test.YtldeakifeifgdaaDoorPkQa
import Derived.Test.YtldeakifeifgdaaDoorPkQd
import Derived.Test.YtldeakifeifgdaaDoorPkQb
import Derived.Test.YtldeakifeifgdaaDoorPkQe
import Derived.Test.YtldeakifeifgdaaDoorPkQf
import Derived.Test.YtldeakifeifgdaaDoorPkQh
import Derived.Test.YtldeakifeifgdaaDoorPkQi
import Derived.Test.YtldeakifeifgdaaDoorPkQn
import Derived.Test.YtldeakifeifgdaaDoorMx0
import Derived.Test.YtldeakifeifgdaaDoorPkQo
import Derived.Test.YtldeakifeifgdaaDoorPkQj
import Derived.Test.YtldeakifeifgdaaDoorMm1
import Derived.Test.YtldeakifeifgdaaDoorShelf
import Derived.Test.YtldeakifeifgdaaDoorPkQl
import Derived.Test.YtldeakifeifgdaaDoorTk0
import Derived.Test.YtldeakifeifgdaaDoorMu3
import Derived.Test.YtldeakifeifgdaaDoorMu4
import Derived.Test.YtldeakifeifgdaaDoorPkQk
import Derived.Test.YtldeakifeifgdaaDoorMu5
import Derived.Test.YtldeakifeifgdaaDoorPkQm
import Derived.Test.YtldeakifeifgdaaDoorMu6
import Derived.Test.YtldeakifeifgdaaDoorMu7
import Derived.Test.YtldeakifeifgdaaDoorMu8
import Derived.Test.YtldeakifeifgdaaDoorPkR4
import Derived.Test.YtldeakifeifgdaaDoorMc1
import Derived.Test.YtldeakifeifgdaaDoorMw0
import Derived.Test.YtldeakifeifgdaaDoorPkQq
import Derived.Test.YtldeakifeifgdaaDoorCp0
import Derived.Test.YtldeakifeifgdaaDoorPkQr
import Derived.Test.YtldeakifeifgdaaDoorMw16
import Derived.Test.YtldeakifeifgdaaDoorPkQs
import Derived.Test.YtldeakifeifgdaaDoorPkQt
import Derived.Test.YtldeakifeifgdaaDoorMw19
import Derived.Test.YtldeakifeifgdaaDoorPkQu
import Derived.Test.YtldeakifeifgdaaDoorMw20
import Derived.Test.YtldeakifeifgdaaDoorPkR1
import Derived.Test.YtldeakifeifgdaaDoorPkR3
import Derived.Test.YtldeakifeifgdaaDoorPkR2
import Derived.Test.YtldeakifeifgdaaDoorIa0
import Derived.Test.YtldeakifeifgdaaDoorLmc1
namespace Go.Proofs.YtldeakifeifgdaaDoor.fnMachine
open Go.ChangeShapes Go.WideShapes Go.ChangeAt Go.RowKit
open Go.ChangeMaps (open_string shut_string)
set_option linter.unusedVariables false

theorem own : ownKnob Tryd.prog.godebug = none := by kernel_rfl
theorem door_met (os : Os) (args : Array Value) : laidMetH Tryd.prog Rows.fnMachineRow.laid ((World.doorLaid Tryd.prog 400 os).forCall (fun _ _ => 0) ⟨#[], args, []⟩).memory :=
  laidMetH_of_parts3 (fuel := 8) (laidMet_of_run' 8 (by kernel_rfl) (by kernel_rfl)) (by kernel_rfl) (by kernel_rfl)
theorem laidOut : laidOutB Tryd.prog = true := by kernel_rfl

def IsRow (k : IntKind) (w : World) (a : Option Addr) (len cap : Nat) (zs : List Int) : Prop :=
  (a = none ∧ len = 0 ∧ cap = 0 ∧ zs = []) ∨
  ∃ x, a = some x ∧ len ≤ cap ∧ cap ≤ maxLen ∧ zs.length = cap ∧ (∀ i, i < zs.length → w.cell? (x.add i) = some (.int k (zs.getD i 0))) ∧ ∀ n ∈ zs, (Lit.int k n).wf = true

open Ta0 Ta1 Nd0 Pl1 Tm0 Tm1 Tm2 Tm3 Tx0 Ss0 Ws1 Ss1 Ta2 Tc2 Tc3 Tc4 Tc5 Ap9 Td1 Ta3 De0 De1 Dv0 Mc0 Ap0 Nd1 Nd2 Nd3 Ap1 Nd6 Qc0 Qc2 Cl0 Mm0 Qc1 Dq0 Mx0 Mu1 Mu2 Td2 Td3 Td4 Mm1 Tc1 Tc6 Tc7 Tc8 Tc9 Tc10 Te1 Tk0 Mu3 Mu4 Dm1 Mm2 Mu5 Ms0 Te3 Mi1 Mi2 Mi3 Mi4 Mi5 Mu6 Mu7 Mu8 Ap11 Sa0 Mc1 Mw0 Mw1 Mw2 Mw3 Mw4 Mw5 Mw6 Cp0 Mw7 Mw8 Mw10 Mw16 Mw9 Mw11 Mw12 Mw13 Mw17 Mw18 Mw19 Mw14 Mw15 Mw20 Dr0 Dr1 Dr4 Tdw Ddr Dm2 Dp1 Dp3 Td5 Te4 Dp4 Dp5 Dm3 Wd1 Dr2 Dr3 Wd2 Wd3 Wd4 Wd5 Lw0 Ia0 Lmc1
set_option maxHeartbeats 1000000 in
theorem walk (a0 : Option Addr) (len0 cap0 : Nat) (z0 : List Int) (w : World) (w0 : IsRow .u8 w a0 len0 cap0 z0) (wT : Tk0.TabK w) :
    Calls Tryd.prog 3 #[.slice a0 len0 cap0] w fun e w' => e = .returned (.bool true) ∧ Below w.heap.size w w' := by
  refine Lmc1.lawMachine w a0 len0 cap0 ?_ wT
  rcases w0 with ⟨rfl, rfl, rfl, rfl⟩ | ⟨x, rfl, hl, hm, hz, hcell, hwz⟩
  · exact ⟨Nat.zero_le _, .inl rfl⟩
  · exact Dr0.bytes_of hl hm hz hcell hwz

set_option maxRecDepth 100000 in
theorem lifted (os : Os) (started : os.Started) (H : Type) (enc : TypeId × Value → H) :
    ReturnsInHanded {} Tryd.checked os 3 .any (fun w args => (Rows.fnMachineSpec.pre enc Tryd.prog Tryd.f3 [] false w args ∧ laidMetH Tryd.prog Rows.fnMachineRow.laid w) ∧ sizedMet enc Tryd.prog Tryd.f3 (OpenSpec.ofChange Rows.fnMachineSpec) false w args) (Rows.fnMachineSpec.post enc Tryd.prog Tryd.f3 false true false false) := by
  refine returnsInHanded_of_change_and (C := Tryd.checked) (X := fun w _ => laidMetH Tryd.prog Rows.fnMachineRow.laid w) (fun _ _ _ hh h => h.of_heap hh) own started (by kernel_rfl) Tryd.func3
    (ChangeSpec.witness_shaped (enc := enc) (C := Tryd.checked) (os := os) (X := fun w _ => laidMetH Tryd.prog Rows.fnMachineRow.laid w) false (World.doorLaid Tryd.prog 400 os) #[.slice none 0 0] 8 rfl (World.shaped_of_RefB (by kernel_rfl) (by kernel_rfl)) (by kernel_rfl) (by kernel_rfl) (by kernel_rfl) (door_met os _)) ?_
  intro W base args ds gs before hval0 hW _ _ hL _
  have hval : ∀ (j : Nat) t v, Tryd.f3.params[j]? = some t → args[j]? = some v → Value.okWide Tryd.prog W .any base t v := hval0
  have hW' := hW
  obtain ⟨p, q, hA0, hV, rfl, hfz, hnd⟩ := hW
  have hA : DataW.TrodAll enc Tryd.prog W 0 (fun _ => true) true Tryd.f3.params.toList args.toList ds p := hA0
  rw [Tryd.params3] at hA hval
  obtain ⟨v0, vs0, d0, ds0, p0, q0, hargs, rfl, rfl, h0, r0⟩ := trodAll_cons hA
  obtain ⟨rfl, rfl, rfl⟩ := trodAll_nil r0
  obtain rfl : args = #[v0] := by cases args; simp_all
  have wT : Tk0.TabK W := Tk0.tabk_of_laid (laid := Rows.fnMachineRow.laid) ((MakeChecks.laidMetH_plain _ _ _ (by kernel_rfl)).mp hL) (by repeat (first | exact List.Mem.head _ | apply List.Mem.tail))
  obtain ⟨rfl, rfl⟩ := trodVars_none hV
  obtain ⟨a0, len0, cap0, rfl⟩ := okWide_slice Tryd.underlying22 (hval 0 22 v0 rfl rfl)
  have k0 := h0
  have lt0 : ∀ x ∈ p0, x.block < W.heap.size := by obtain ⟨m, hm⟩ := k0; exact DataW.trod_lt m _ _ _ hm
  obtain ⟨z0, w0⟩ : ∃ zs, IsRow .u8 W a0 len0 cap0 zs := by
    obtain ⟨fuel, hf⟩ := h0
    rcases open_ints Tryd.underlying22 Tryd.underlying5 (by kernel_rfl) hf with ⟨hcs, _⟩ | ⟨x, l, c, zs, hcs, _, hl, hm, hz, _, hcell, hwz⟩
    · simp [Value.cells] at hcs
      obtain ⟨rfl, rfl, rfl⟩ := hcs
      exact ⟨[], .inl ⟨rfl, rfl, rfl, rfl⟩⟩
    · simp [Value.cells] at hcs
      obtain ⟨rfl, rfl, rfl⟩ := hcs
      exact ⟨zs, .inr ⟨_, rfl, hl, hm, by simpa using hz, hcell, hwz⟩⟩
  clear hA0 hval0
  refine (walk a0 len0 cap0 z0 W w0 wT).mono fun e W' ⟨he, bel⟩ => ?_
  subst he
  exact ⟨_, rfl, _, _, _, [], _, [], hW', trodAll_mk1 (shut_bool Tryd.underlying4 _), (trodAll_cons_mk (Below.trod laidOut (by kernel_rfl) (of_decide_eq_true (by kernel_rfl)) k0 bel lt0) trodAll_mk0), rfl, bel.frame _, fun h => by cases h⟩

theorem over : Rows.fnMachineRow.holds Tryd.pinned (OpenSpec.ofChange Rows.fnMachineSpec) :=
  OpenClaim.holds_of_wide 3 Tryd.f3 rfl rfl rfl rfl rfl rfl rfl ⟨rfl, rfl, rfl, rfl, rfl⟩ rfl rfl rfl rfl rfl (by kernel_rfl) Tryd.func3 (by kernel_rfl)
    (of_decide_eq_true (by kernel_rfl)) (by unfold Func.isWrapper; first | (rw [if_pos (by decide +kernel)]; kernel_rfl) | (rw [if_neg (by decide +kernel)]; exact ⟨rfl, rfl⟩))
    (fun os started H enc _ => lifted os started H enc)

end Go.Proofs.YtldeakifeifgdaaDoor.fnMachine
namespace Go.Proofs.YtldeakifeifgdaaDoor
theorem fnMachine_holds : Rows.FnMachineCardSaid :=
  Claim7.holds_tied_plain_at .later [] [.data, .data, .data] true (true, "19670ddad77d92ae29eaa686c7654b8ed21d1cfdc689c33667998c1ef3cd1ed2") false
    fnMachine.over (fun _ h => by cases h) (by kernel_rfl) (fun _ h => by cases h) fnMachine_row_tie rfl ⟨rfl, rfl⟩ (by kernel_rfl) rfl
    (fun f fn hf hfn => by
      obtain rfl : f = 3 := Option.some.inj ((show Tryd.prog.funcNamed Rows.fnMachineRow.func = some 3 by kernel_rfl).symm.trans hf) |>.symm
      obtain rfl : fn = Tryd.f3 := (Option.some.inj (Tryd.func3.symm.trans hfn)).symm
      exact ⟨by kernel_rfl, fun j t ht => by
        rw [Tryd.params3] at ht
        have hm : t ∈ [22] := by simpa using Array.mem_of_getElem? ht
        have hall : ([22].all fun u => !Tryd.prog.wantsStandIn u) = true := by kernel_rfl
        exact (show Tryd.prog.wantsStandIn t = false by simpa using List.all_eq_true.1 hall t hm)⟩)
    (by kernel_rfl)
end Go.Proofs.YtldeakifeifgdaaDoor
