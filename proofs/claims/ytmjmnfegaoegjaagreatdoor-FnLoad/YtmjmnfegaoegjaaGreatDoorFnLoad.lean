/- Whatever bytes the law is drawn from: a text that LoadMachine of the program reads is just the text that SaveMachine writes of that machine, which is a right one, and the model reads the same texts; the library variables are as their initialisers lay them (tied to the text of the pruned copy). -/
import Derived.Test.YtmjmnfegaoegjaaGreatDoorRows
import Derived.WalkKit
import Derived.ProofKit
import Derived.OpenShut
import Derived.ShutString
import Derived.ChangeOld
import Derived.Below
import Derived.OpenVars
import Derived.LaidMore
import Derived.Stop.Joined
import Derived.SevenTiedAt
import Derived.Test.YtmjmnfegaoegjaaGreatDoorTie
import Derived.Test.YtmjmnfegaoegjaaGreatDoorCards
import Derived.Test.YtmjmnfegaoegjaaGreatDoorPkLD0
import Derived.Test.YtmjmnfegaoegjaaGreatDoorPkLD1
import Derived.Test.YtmjmnfegaoegjaaGreatDoorPkLD2
import Derived.Test.YtmjmnfegaoegjaaGreatDoorPkLD3
import Derived.Test.YtmjmnfegaoegjaaGreatDoorPkLD4
import Derived.Test.YtmjmnfegaoegjaaGreatDoorPkLD5
import Derived.Test.YtmjmnfegaoegjaaGreatDoorMm2
import Derived.Test.YtmjmnfegaoegjaaGreatDoorPkLD7
import Derived.Test.YtmjmnfegaoegjaaGreatDoorPkLD8
import Derived.Test.YtmjmnfegaoegjaaGreatDoorMu2
import Derived.Test.YtmjmnfegaoegjaaGreatDoorPkLD10
import Derived.Test.YtmjmnfegaoegjaaGreatDoorMu3
import Derived.Test.YtmjmnfegaoegjaaGreatDoorMu4
import Derived.Test.YtmjmnfegaoegjaaGreatDoorMu5
import Derived.Test.YtmjmnfegaoegjaaGreatDoorPkLD14
import Derived.Test.YtmjmnfegaoegjaaGreatDoorPkLD15
import Derived.Test.YtmjmnfegaoegjaaGreatDoorMu6
import Derived.Test.YtmjmnfegaoegjaaGreatDoorMu7
import Derived.Test.YtmjmnfegaoegjaaGreatDoorMu8
import Derived.Test.YtmjmnfegaoegjaaGreatDoorPkLD19
import Derived.Test.YtmjmnfegaoegjaaGreatDoorPkLD20
import Derived.Test.YtmjmnfegaoegjaaGreatDoorWp4
import Derived.Test.YtmjmnfegaoegjaaGreatDoorPkLD22
import Derived.Test.YtmjmnfegaoegjaaGreatDoorRd1
import Derived.Test.YtmjmnfegaoegjaaGreatDoorPkLD24
import Derived.Test.YtmjmnfegaoegjaaGreatDoorZa1
import Derived.Test.YtmjmnfegaoegjaaGreatDoorPkLD26
import Derived.Test.YtmjmnfegaoegjaaGreatDoorPkLD27
import Derived.Test.YtmjmnfegaoegjaaGreatDoorPkLD28
import Derived.Test.YtmjmnfegaoegjaaGreatDoorZs2
import Derived.Test.YtmjmnfegaoegjaaGreatDoorZs3
import Derived.Test.YtmjmnfegaoegjaaGreatDoorZs4
import Derived.Test.YtmjmnfegaoegjaaGreatDoorZs5
import Derived.Test.YtmjmnfegaoegjaaGreatDoorPkLD33
import Derived.Test.YtmjmnfegaoegjaaGreatDoorZm1
import Derived.Test.YtmjmnfegaoegjaaGreatDoorRd2
import Derived.Test.YtmjmnfegaoegjaaGreatDoorPkLD36
import Derived.Test.YtmjmnfegaoegjaaGreatDoorZl1
import Derived.Test.YtmjmnfegaoegjaaGreatDoorPkLD38
import Derived.Test.YtmjmnfegaoegjaaGreatDoorPkLD39
import Derived.Test.YtmjmnfegaoegjaaGreatDoorZl7
import Derived.Test.YtmjmnfegaoegjaaGreatDoorZl8
import Derived.Test.YtmjmnfegaoegjaaGreatDoorZl9
import Derived.Test.YtmjmnfegaoegjaaGreatDoorZl10
import Derived.Test.YtmjmnfegaoegjaaGreatDoorPkLD44
import Derived.Test.YtmjmnfegaoegjaaGreatDoorPkLD45
import Derived.Test.YtmjmnfegaoegjaaGreatDoorZk2
import Derived.Test.YtmjmnfegaoegjaaGreatDoorZl12
import Derived.Test.YtmjmnfegaoegjaaGreatDoorPkLD48
namespace Go.Proofs.YtmjmnfegaoegjaaGreatDoor.fnLoad
open Go.ChangeShapes Go.WideShapes Go.ChangeAt Go.RowKit
open Go.ChangeMaps (open_string shut_string)
set_option linter.unusedVariables false

theorem own : ownKnob Tryz.prog.godebug = none := by kernel_rfl
theorem door_met (os : Os) (args : Array Value) : laidMetH Tryz.prog Rows.fnLoadRow.laid ((Zt2.laidW os Rows.fnLoadRow.laid).forCall (fun _ _ => 0) ⟨#[], args, []⟩).memory := Zt2.met os args
theorem laidOut : laidOutB Tryz.prog = true := by kernel_rfl

def IsRow (k : IntKind) (w : World) (a : Option Addr) (len cap : Nat) (zs : List Int) : Prop :=
  (a = none ∧ len = 0 ∧ cap = 0 ∧ zs = []) ∨
  ∃ x, a = some x ∧ len ≤ cap ∧ cap ≤ maxLen ∧ zs.length = cap ∧ (∀ i, i < zs.length → w.cell? (x.add i) = some (.int k (zs.getD i 0))) ∧ ∀ n ∈ zs, (Lit.int k n).wf = true

open Ta0 Ta1 Nd0 Pl1 Tm0 Tm1 Tm2 Tm3 Tx0 Ss0 Ws1 Ss1 Tc2 Tc3 Tc4 Tc5 Ap9 Td1 Td2 Dr0 Dr1 Dr4 Tdw Nd1 Nd2 Nd3 Ap1 Nd6 Ta2 Dq0 Ddr Qc0 Mm0 Ta3 De0 De1 Dv0 Mc0 Td3 Td4 Mm1 Dm1 Mm2 Qc1 Mx0 Ap11 Sa0 Ap0 Qc2 Cl0 Mu1 Mu2 Tc1 Tc6 Tc7 Tc8 Tc9 Tc10 Te1 Tk0 Mu3 Mu4 Mu5 Ms0 Te3 Mi1 Mi2 Mi3 Mi4 Mi5 Mu6 Mu7 Mu8 Mu9 Rd0 Rdp Mw9 Vo0 Wp0 Wp1 Wp3 Wp4 Wp5 Wp2 Wp6 Rd1 Ss2 Dr5 Za0 Za1 Zk0 Zs0 Zt0 Ap4 Ap5 Zs1 Zm0 Zb0 Dp1 Zs2 Zs3 Zs4 Zs5 Zs6 Zs7 Zm1 Rd2 Zl0 Zk1 Zl1 Zl2 Zl3 Zl5 Zl6 Zl7 Zl8 Zl9 Zl10 Zl11 Zl4 Zw0 Zw1 Zk2 Zl12 Wd1 Dr2 Dr3 Wd2 Wd3 Wd4 Wd5 Lw0 Lld1 Hs0 Zt1 Zt2
set_option maxHeartbeats 1000000 in
theorem walk (a0 : Option Addr) (len0 cap0 : Nat) (z0 : List Int) (w : World) (w0 : IsRow .u8 w a0 len0 cap0 z0) (wT : Zs7.TabE w) :
    Calls Tryz.prog 5 #[.slice a0 len0 cap0] w fun e w' => e = .returned (.bool true) ∧ Below w.heap.size w w' := by
  refine Lld1.lawLoad w wT a0 len0 cap0 ?_
  rcases w0 with ⟨rfl, rfl, rfl, rfl⟩ | ⟨x, rfl, hl, hm, hz, hcell, hwz⟩
  · exact ⟨Nat.zero_le _, .inl rfl⟩
  · exact Dr0.bytes_of hl hm hz hcell hwz

set_option maxRecDepth 100000 in
theorem lifted (os : Os) (started : os.Started) (H : Type) (enc : TypeId × Value → H) :
    ReturnsInHanded {} Tryz.checked os 5 .any (fun w args => (Rows.fnLoadSpec.pre enc Tryz.prog Tryz.f5 [] false w args ∧ laidMetH Tryz.prog Rows.fnLoadRow.laid w) ∧ sizedMet enc Tryz.prog Tryz.f5 (OpenSpec.ofChange Rows.fnLoadSpec) false w args) (Rows.fnLoadSpec.post enc Tryz.prog Tryz.f5 false true false false) := by
  refine Hs0.andShaped (C := Tryz.checked) (X := fun w _ => laidMetH Tryz.prog Rows.fnLoadRow.laid w) (fun _ _ _ hh h => h.of_heap hh) own started (by kernel_rfl) Tryz.func5
    (ChangeSpec.witness_shaped (enc := enc) (C := Tryz.checked) (os := os) (X := fun w _ => laidMetH Tryz.prog Rows.fnLoadRow.laid w) false (Zt2.laidW os Rows.fnLoadRow.laid) #[.slice none 0 0] 8 (Zt2.laidW_os _ _) (Zt2.shape os _) (by kernel_rfl) (by kernel_rfl) (by kernel_rfl) (door_met os _)) ?_
  intro W base args ds gs before hval0 hW hL hsh
  have hval : ∀ (j : Nat) t v, Tryz.f5.params[j]? = some t → args[j]? = some v → Value.okWide Tryz.prog W .any base t v := hval0
  have hW' := hW
  obtain ⟨p, q, hA0, hV, rfl, hfz, hnd⟩ := hW
  have hA : DataW.TrodAll enc Tryz.prog W 0 (fun _ => true) true Tryz.f5.params.toList args.toList ds p := hA0
  rw [Tryz.params5] at hA hval
  obtain ⟨v0, vs0, d0, ds0, p0, q0, hargs, rfl, rfl, h0, r0⟩ := trodAll_cons hA
  obtain ⟨rfl, rfl, rfl⟩ := trodAll_nil r0
  obtain rfl : args = #[v0] := by cases args; simp_all
  have wT : Zs7.TabE W := Zt1.tabe_of_laid (laid := Rows.fnLoadRow.laid) hL (by repeat (first | exact List.Mem.head _ | apply List.Mem.tail)) (by repeat (first | exact List.Mem.head _ | apply List.Mem.tail)) (by repeat (first | exact List.Mem.head _ | apply List.Mem.tail)) hsh (by repeat (first | exact List.Mem.head _ | apply List.Mem.tail))
  obtain ⟨rfl, rfl⟩ := trodVars_none hV
  obtain ⟨a0, len0, cap0, rfl⟩ := okWide_slice Tryz.underlying22 (hval 0 22 v0 rfl rfl)
  have k0 := h0
  have lt0 : ∀ x ∈ p0, x.block < W.heap.size := by obtain ⟨m, hm⟩ := k0; exact DataW.trod_lt m _ _ _ hm
  obtain ⟨z0, w0⟩ : ∃ zs, IsRow .u8 W a0 len0 cap0 zs := by
    obtain ⟨fuel, hf⟩ := h0
    rcases open_ints Tryz.underlying22 Tryz.underlying5 (by kernel_rfl) hf with ⟨hcs, _⟩ | ⟨x, l, c, zs, hcs, _, hl, hm, hz, _, hcell, hwz⟩
    · simp [Value.cells] at hcs
      obtain ⟨rfl, rfl, rfl⟩ := hcs
      exact ⟨[], .inl ⟨rfl, rfl, rfl, rfl⟩⟩
    · simp [Value.cells] at hcs
      obtain ⟨rfl, rfl, rfl⟩ := hcs
      exact ⟨zs, .inr ⟨_, rfl, hl, hm, by simpa using hz, hcell, hwz⟩⟩
  clear hA0 hval0
  refine (walk a0 len0 cap0 z0 W w0 wT).mono fun e W' ⟨he, bel⟩ => ?_
  subst he
  exact ⟨_, rfl, _, _, _, [], _, [], hW', trodAll_mk1 (shut_bool Tryz.underlying4 _), (trodAll_cons_mk (Below.trod laidOut (by kernel_rfl) (of_decide_eq_true (by kernel_rfl)) k0 bel lt0) trodAll_mk0), rfl, bel.frame _, fun h => by cases h⟩

theorem over : Rows.fnLoadRow.holds Tryz.pinned (OpenSpec.ofChange Rows.fnLoadSpec) :=
  OpenClaim.holds_of_wide 5 Tryz.f5 rfl rfl rfl rfl rfl rfl rfl ⟨rfl, rfl, rfl, rfl, rfl⟩ rfl rfl rfl rfl rfl (by kernel_rfl) Tryz.func5 (by kernel_rfl)
    (of_decide_eq_true (by kernel_rfl)) (by unfold Func.isWrapper; first | (rw [if_pos (by decide +kernel)]; kernel_rfl) | (rw [if_neg (by decide +kernel)]; exact ⟨rfl, rfl⟩))
    (fun os started H enc _ => lifted os started H enc)

end Go.Proofs.YtmjmnfegaoegjaaGreatDoor.fnLoad
namespace Go.Proofs.YtmjmnfegaoegjaaGreatDoor
theorem fnLoad_holds : Rows.FnLoadCardSaid :=
  Claim7.holds_tied_plain_at .later [] [.data, .data, .data, .data, .handle, .sentinel, .sentinel, .pinned] true (true, "9f0a1733be7a6aa68927ebaa3320bffeacd6400d93988f03272ba1a8b1feb6a4") true
    fnLoad.over (fun _ h => by cases h) (by kernel_rfl) (fun _ h => by cases h) fnLoad_row_tie rfl ⟨rfl, rfl⟩ (by kernel_rfl) rfl
    (fun f fn hf hfn => by
      obtain rfl : f = 5 := Option.some.inj ((show Tryz.prog.funcNamed Rows.fnLoadRow.func = some 5 by kernel_rfl).symm.trans hf) |>.symm
      obtain rfl : fn = Tryz.f5 := (Option.some.inj (Tryz.func5.symm.trans hfn)).symm
      exact ⟨by kernel_rfl, fun j t ht => by
        rw [Tryz.params5] at ht
        have hm : t ∈ [22] := by simpa using Array.mem_of_getElem? ht
        have hall : ([22].all fun u => !Tryz.prog.wantsStandIn u) = true := by kernel_rfl
        exact (show Tryz.prog.wantsStandIn t = false by simpa using List.all_eq_true.1 hall t hm)⟩)
    (by kernel_rfl)
end Go.Proofs.YtmjmnfegaoegjaaGreatDoor
