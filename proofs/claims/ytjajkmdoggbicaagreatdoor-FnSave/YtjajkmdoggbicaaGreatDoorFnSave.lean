/- Whatever bytes the law is drawn from: a machine some steps behind its start comes back from its text and goes on as if nothing had been, the model writes the same texts, and of a text without memo lines no beginning is one; the library variables are as their initialisers lay them (tied to the text of the pruned copy). -/
import Derived.Test.YtjajkmdoggbicaaGreatDoorRows
import Derived.WalkKit
import Derived.ProofKit
import Derived.OpenShut
import Derived.ShutString
import Derived.ChangeOld
import Derived.Below
import Derived.OpenVars
import Derived.LaidMore
import Derived.Stop.Joined
import Derived.SevenTiedAt
import Derived.Test.YtjajkmdoggbicaaGreatDoorTie
import Derived.Test.YtjajkmdoggbicaaGreatDoorCards
import Derived.Test.YtjajkmdoggbicaaGreatDoorPkSV0
import Derived.Test.YtjajkmdoggbicaaGreatDoorPkSV1
import Derived.Test.YtjajkmdoggbicaaGreatDoorPkSV2
import Derived.Test.YtjajkmdoggbicaaGreatDoorPkSV3
import Derived.Test.YtjajkmdoggbicaaGreatDoorPkSV4
import Derived.Test.YtjajkmdoggbicaaGreatDoorPkSV5
import Derived.Test.YtjajkmdoggbicaaGreatDoorPkSV6
import Derived.Test.YtjajkmdoggbicaaGreatDoorPkSV7
import Derived.Test.YtjajkmdoggbicaaGreatDoorPkSV8
import Derived.Test.YtjajkmdoggbicaaGreatDoorPkSV9
import Derived.Test.YtjajkmdoggbicaaGreatDoorPkSV10
import Derived.Test.YtjajkmdoggbicaaGreatDoorPkSV11
import Derived.Test.YtjajkmdoggbicaaGreatDoorTk0
import Derived.Test.YtjajkmdoggbicaaGreatDoorMu3
import Derived.Test.YtjajkmdoggbicaaGreatDoorPkSV14
import Derived.Test.YtjajkmdoggbicaaGreatDoorMm2
import Derived.Test.YtjajkmdoggbicaaGreatDoorMu5
import Derived.Test.YtjajkmdoggbicaaGreatDoorPkSV17
import Derived.Test.YtjajkmdoggbicaaGreatDoorPkSV18
import Derived.Test.YtjajkmdoggbicaaGreatDoorPkSV19
import Derived.Test.YtjajkmdoggbicaaGreatDoorMu7
import Derived.Test.YtjajkmdoggbicaaGreatDoorMu8
import Derived.Test.YtjajkmdoggbicaaGreatDoorPkSV22
import Derived.Test.YtjajkmdoggbicaaGreatDoorPkSV23
import Derived.Test.YtjajkmdoggbicaaGreatDoorPkSV24
import Derived.Test.YtjajkmdoggbicaaGreatDoorPkSV25
import Derived.Test.YtjajkmdoggbicaaGreatDoorPkSV26
import Derived.Test.YtjajkmdoggbicaaGreatDoorPkSV27
import Derived.Test.YtjajkmdoggbicaaGreatDoorZs3
import Derived.Test.YtjajkmdoggbicaaGreatDoorZs4
import Derived.Test.YtjajkmdoggbicaaGreatDoorPkSV30
import Derived.Test.YtjajkmdoggbicaaGreatDoorPkSV31
import Derived.Test.YtjajkmdoggbicaaGreatDoorSa0
import Derived.Test.YtjajkmdoggbicaaGreatDoorMu9
import Derived.Test.YtjajkmdoggbicaaGreatDoorPkSV34
import Derived.Test.YtjajkmdoggbicaaGreatDoorPkSV35
import Derived.Test.YtjajkmdoggbicaaGreatDoorCp0
import Derived.Test.YtjajkmdoggbicaaGreatDoorPkSV37
import Derived.Test.YtjajkmdoggbicaaGreatDoorPkSV38
import Derived.Test.YtjajkmdoggbicaaGreatDoorPkSV39
import Derived.Test.YtjajkmdoggbicaaGreatDoorPkSV40
import Derived.Test.YtjajkmdoggbicaaGreatDoorMw14
import Derived.Test.YtjajkmdoggbicaaGreatDoorMw15
import Derived.Test.YtjajkmdoggbicaaGreatDoorPkSV43
import Derived.Test.YtjajkmdoggbicaaGreatDoorZs6
import Derived.Test.YtjajkmdoggbicaaGreatDoorPkSV45
import Derived.Test.YtjajkmdoggbicaaGreatDoorZm1
import Derived.Test.YtjajkmdoggbicaaGreatDoorPkSV47
import Derived.Test.YtjajkmdoggbicaaGreatDoorPkSV48
import Derived.Test.YtjajkmdoggbicaaGreatDoorZl7
import Derived.Test.YtjajkmdoggbicaaGreatDoorZl8
import Derived.Test.YtjajkmdoggbicaaGreatDoorPkSV51
namespace Go.Proofs.YtjajkmdoggbicaaGreatDoor.fnSave
open Go.ChangeShapes Go.WideShapes Go.ChangeAt Go.RowKit
open Go.ChangeMaps (open_string shut_string)
set_option linter.unusedVariables false

theorem own : ownKnob Tryz.prog.godebug = none := by kernel_rfl
theorem door_met (os : Os) (args : Array Value) : laidMetH Tryz.prog Rows.fnSaveRow.laid ((Zt2.laidW os Rows.fnSaveRow.laid).forCall (fun _ _ => 0) ⟨#[], args, []⟩).memory := Zt2.met os args
theorem laidOut : laidOutB Tryz.prog = true := by kernel_rfl

def IsRow (k : IntKind) (w : World) (a : Option Addr) (len cap : Nat) (zs : List Int) : Prop :=
  (a = none ∧ len = 0 ∧ cap = 0 ∧ zs = []) ∨
  ∃ x, a = some x ∧ len ≤ cap ∧ cap ≤ maxLen ∧ zs.length = cap ∧ (∀ i, i < zs.length → w.cell? (x.add i) = some (.int k (zs.getD i 0))) ∧ ∀ n ∈ zs, (Lit.int k n).wf = true

open Nd0 Ap0 Nd1 Nd2 Nd3 Ap1 Nd6 Qc0 Qc2 Cl0 Ta0 Ta1 Pl1 Tm0 Tm1 Tm2 Tm3 Tx0 Ss0 Ws1 Ss1 Mm0 Qc1 Tc2 Tc3 Ta2 Dqa Mx0 Mu1 Mu2 Tc4 Tc5 Ap9 Td1 Ta3 De0 De1 Dv0 Mc0 Td2 Td3 Td4 Mm1 Tc1 Tc6 Tc7 Tc8 Tc9 Tc10 Te1 Tk0 Mu3 Mu4 Dm1 Mm2 Mu5 Ms0 Te3 Mi1 Mi2 Mi3 Mi4 Mi5 Mu6 Mu7 Mu8 Rdp Za0 Za1 Zk0 Vo0 Wp0 Wp1 Zs0 Wp3 Zl0 Zl2 Zt0 Ss2 Ap4 Ap5 Zs1 Dp1 Zs2 Zs3 Zs4 Zs5 Sq0 Dr0 Dr1 Dr4 Tdw Ddr Ap11 Sa0 Mu9 Rd0 Mw0 Mw1 Mw2 Mw3 Mw4 Mw5 Mw6 Cp0 Mw7 Mw8 Mw10 Mw16 Mw9 Mw11 Mw12 Mw13 Mw17 Mw18 Mw19 Mw14 Mw15 Mw20 Sq1 Zs6 Zs7 Zm0 Zb0 Zm1 Zk1 Wp4 Zl1 Zl3 Zl5 Zl6 Zl7 Zl8 Zl9 Zl10 Zl11 Lw4 Lat Wd1 Dr2 Dr3 Wd2 Wd3 Wd4 Wd5 Lw0 Lsv1 Hs0 Zt1 Zt2
set_option maxHeartbeats 1000000 in
theorem walk (a0 : Option Addr) (len0 cap0 : Nat) (z0 : List Int) (w : World) (w0 : IsRow .u8 w a0 len0 cap0 z0) (wT : Zs7.TabE w) :
    Calls Tryz.prog 4 #[.slice a0 len0 cap0] w fun e w' => e = .returned (.bool true) ∧ Below w.heap.size w w' := by
  refine Lsv1.lawSave w wT a0 len0 cap0 ?_
  rcases w0 with ⟨rfl, rfl, rfl, rfl⟩ | ⟨x, rfl, hl, hm, hz, hcell, hwz⟩
  · exact ⟨Nat.zero_le _, .inl rfl⟩
  · exact Dr0.bytes_of hl hm hz hcell hwz

set_option maxRecDepth 100000 in
theorem lifted (os : Os) (started : os.Started) (H : Type) (enc : TypeId × Value → H) :
    ReturnsInHanded {} Tryz.checked os 4 .any (fun w args => (Rows.fnSaveSpec.pre enc Tryz.prog Tryz.f4 [] false w args ∧ laidMetH Tryz.prog Rows.fnSaveRow.laid w) ∧ sizedMet enc Tryz.prog Tryz.f4 (OpenSpec.ofChange Rows.fnSaveSpec) false w args) (Rows.fnSaveSpec.post enc Tryz.prog Tryz.f4 false true false false) := by
  refine Hs0.andShaped (C := Tryz.checked) (X := fun w _ => laidMetH Tryz.prog Rows.fnSaveRow.laid w) (fun _ _ _ hh h => h.of_heap hh) own started (by kernel_rfl) Tryz.func4
    (ChangeSpec.witness_shaped (enc := enc) (C := Tryz.checked) (os := os) (X := fun w _ => laidMetH Tryz.prog Rows.fnSaveRow.laid w) false (Zt2.laidW os Rows.fnSaveRow.laid) #[.slice none 0 0] 8 (Zt2.laidW_os _ _) (Zt2.shape os _) (by kernel_rfl) (by kernel_rfl) (by kernel_rfl) (door_met os _)) ?_
  intro W base args ds gs before hval0 hW hL hsh
  have hval : ∀ (j : Nat) t v, Tryz.f4.params[j]? = some t → args[j]? = some v → Value.okWide Tryz.prog W .any base t v := hval0
  have hW' := hW
  obtain ⟨p, q, hA0, hV, rfl, hfz, hnd⟩ := hW
  have hA : DataW.TrodAll enc Tryz.prog W 0 (fun _ => true) true Tryz.f4.params.toList args.toList ds p := hA0
  rw [Tryz.params4] at hA hval
  obtain ⟨v0, vs0, d0, ds0, p0, q0, hargs, rfl, rfl, h0, r0⟩ := trodAll_cons hA
  obtain ⟨rfl, rfl, rfl⟩ := trodAll_nil r0
  obtain rfl : args = #[v0] := by cases args; simp_all
  have wT : Zs7.TabE W := Zt1.tabe_of_laid (laid := Rows.fnSaveRow.laid) hL (by repeat (first | exact List.Mem.head _ | apply List.Mem.tail)) (by repeat (first | exact List.Mem.head _ | apply List.Mem.tail)) (by repeat (first | exact List.Mem.head _ | apply List.Mem.tail)) hsh (by repeat (first | exact List.Mem.head _ | apply List.Mem.tail))
  obtain ⟨rfl, rfl⟩ := trodVars_none hV
  obtain ⟨a0, len0, cap0, rfl⟩ := okWide_slice Tryz.underlying22 (hval 0 22 v0 rfl rfl)
  have k0 := h0
  have lt0 : ∀ x ∈ p0, x.block < W.heap.size := by obtain ⟨m, hm⟩ := k0; exact DataW.trod_lt m _ _ _ hm
  obtain ⟨z0, w0⟩ : ∃ zs, IsRow .u8 W a0 len0 cap0 zs := by
    obtain ⟨fuel, hf⟩ := h0
    rcases open_ints Tryz.underlying22 Tryz.underlying5 (by kernel_rfl) hf with ⟨hcs, _⟩ | ⟨x, l, c, zs, hcs, _, hl, hm, hz, _, hcell, hwz⟩
    · simp [Value.cells] at hcs
      obtain ⟨rfl, rfl, rfl⟩ := hcs
      exact ⟨[], .inl ⟨rfl, rfl, rfl, rfl⟩⟩
    · simp [Value.cells] at hcs
      obtain ⟨rfl, rfl, rfl⟩ := hcs
      exact ⟨zs, .inr ⟨_, rfl, hl, hm, by simpa using hz, hcell, hwz⟩⟩
  clear hA0 hval0
  refine (walk a0 len0 cap0 z0 W w0 wT).mono fun e W' ⟨he, bel⟩ => ?_
  subst he
  exact ⟨_, rfl, _, _, _, [], _, [], hW', trodAll_mk1 (shut_bool Tryz.underlying4 _), (trodAll_cons_mk (Below.trod laidOut (by kernel_rfl) (of_decide_eq_true (by kernel_rfl)) k0 bel lt0) trodAll_mk0), rfl, bel.frame _, fun h => by cases h⟩

theorem over : Rows.fnSaveRow.holds Tryz.pinned (OpenSpec.ofChange Rows.fnSaveSpec) :=
  OpenClaim.holds_of_wide 4 Tryz.f4 rfl rfl rfl rfl rfl rfl rfl ⟨rfl, rfl, rfl, rfl, rfl⟩ rfl rfl rfl rfl rfl (by kernel_rfl) Tryz.func4 (by kernel_rfl)
    (of_decide_eq_true (by kernel_rfl)) (by unfold Func.isWrapper; first | (rw [if_pos (by decide +kernel)]; kernel_rfl) | (rw [if_neg (by decide +kernel)]; exact ⟨rfl, rfl⟩))
    (fun os started H enc _ => lifted os started H enc)

end Go.Proofs.YtjajkmdoggbicaaGreatDoor.fnSave
namespace Go.Proofs.YtjajkmdoggbicaaGreatDoor
theorem fnSave_holds : Rows.FnSaveCardSaid :=
  Claim7.holds_tied_plain_at .later [] [.data, .data, .data, .data, .handle, .sentinel, .sentinel, .pinned] true (true, "eb7dd23adff2f1d3de6553589c1f38edaba4ae5bb7f6dcacf05b113f7fb1a553") true
    fnSave.over (fun _ h => by cases h) (by kernel_rfl) (fun _ h => by cases h) fnSave_row_tie rfl ⟨rfl, rfl⟩ (by kernel_rfl) rfl
    (fun f fn hf hfn => by
      obtain rfl : f = 4 := Option.some.inj ((show Tryz.prog.funcNamed Rows.fnSaveRow.func = some 4 by kernel_rfl).symm.trans hf) |>.symm
      obtain rfl : fn = Tryz.f4 := (Option.some.inj (Tryz.func4.symm.trans hfn)).symm
      exact ⟨by kernel_rfl, fun j t ht => by
        rw [Tryz.params4] at ht
        have hm : t ∈ [22] := by simpa using Array.mem_of_getElem? ht
        have hall : ([22].all fun u => !Tryz.prog.wantsStandIn u) = true := by kernel_rfl
        exact (show Tryz.prog.wantsStandIn t = false by simpa using List.all_eq_true.1 hall t hm)⟩)
    (by kernel_rfl)
end Go.Proofs.YtjajkmdoggbicaaGreatDoor
