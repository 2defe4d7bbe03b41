/- For any machine, right or wrong, SaveMachine of the program answers as its model does and writes into none; the library variables are as their initialisers lay them (tied to the text of the pruned copy). -/
import Derived.Test.YtmpbedfiamlbpaaGreatDoorRows
import Derived.WalkKit
import Derived.ProofKit
import Derived.OpenShut
import Derived.ShutString
import Derived.ChangeOld
import Derived.Below
import Derived.OpenVars
import Derived.LaidMore
import Derived.Stop.Joined
import Derived.SevenTiedAt
import Derived.Test.YtmpbedfiamlbpaaGreatDoorTie
import Derived.Test.YtmpbedfiamlbpaaGreatDoorCards
import Derived.Test.YtmpbedfiamlbpaaGreatDoorPkS0
import Derived.Test.YtmpbedfiamlbpaaGreatDoorPkS1
import Derived.Test.YtmpbedfiamlbpaaGreatDoorPkS2
import Derived.Test.YtmpbedfiamlbpaaGreatDoorTa0
import Derived.Test.YtmpbedfiamlbpaaGreatDoorPkS4
import Derived.Test.YtmpbedfiamlbpaaGreatDoorPkS5
import Derived.Test.YtmpbedfiamlbpaaGreatDoorPkS6
import Derived.Test.YtmpbedfiamlbpaaGreatDoorPkS7
import Derived.Test.YtmpbedfiamlbpaaGreatDoorPkS8
import Derived.Test.YtmpbedfiamlbpaaGreatDoorPkS9
import Derived.Test.YtmpbedfiamlbpaaGreatDoorPkS10
import Derived.Test.YtmpbedfiamlbpaaGreatDoorZa0
import Derived.Test.YtmpbedfiamlbpaaGreatDoorZa1
import Derived.Test.YtmpbedfiamlbpaaGreatDoorPkS13
import Derived.Test.YtmpbedfiamlbpaaGreatDoorPkS14
import Derived.Test.YtmpbedfiamlbpaaGreatDoorPkS15
import Derived.Test.YtmpbedfiamlbpaaGreatDoorPkS16
import Derived.Test.YtmpbedfiamlbpaaGreatDoorPkS17
import Derived.Test.YtmpbedfiamlbpaaGreatDoorPkS18
import Derived.Test.YtmpbedfiamlbpaaGreatDoorTd4
import Derived.Test.YtmpbedfiamlbpaaGreatDoorPkS20
import Derived.Test.YtmpbedfiamlbpaaGreatDoorDm1
import Derived.Test.YtmpbedfiamlbpaaGreatDoorMm2
import Derived.Test.YtmpbedfiamlbpaaGreatDoorPkS23
import Derived.Test.YtmpbedfiamlbpaaGreatDoorZs0
import Derived.Test.YtmpbedfiamlbpaaGreatDoorShelf2
import Derived.Test.YtmpbedfiamlbpaaGreatDoorPkS26
import Derived.Test.YtmpbedfiamlbpaaGreatDoorZs1
import Derived.Test.YtmpbedfiamlbpaaGreatDoorQc1
import Derived.Test.YtmpbedfiamlbpaaGreatDoorMx0
import Derived.Test.YtmpbedfiamlbpaaGreatDoorDp1
import Derived.Test.YtmpbedfiamlbpaaGreatDoorZs2
import Derived.Test.YtmpbedfiamlbpaaGreatDoorZs3
import Derived.Test.YtmpbedfiamlbpaaGreatDoorZs4
import Derived.Test.YtmpbedfiamlbpaaGreatDoorPkS34
import Derived.Test.YtmpbedfiamlbpaaGreatDoorPkS35
import Derived.Test.YtmpbedfiamlbpaaGreatDoorMi4
import Derived.Test.YtmpbedfiamlbpaaGreatDoorZs5
import Derived.Test.YtmpbedfiamlbpaaGreatDoorZs6
import Derived.Test.YtmpbedfiamlbpaaGreatDoorPkS39
import Derived.Test.YtmpbedfiamlbpaaGreatDoorZt2
import Derived.Test.YtmpbedfiamlbpaaGreatDoorMx1
import Derived.Test.YtmpbedfiamlbpaaGreatDoorZm0
import Derived.Test.YtmpbedfiamlbpaaGreatDoorZb0
import Derived.Test.YtmpbedfiamlbpaaGreatDoorZm1
import Derived.Test.YtmpbedfiamlbpaaGreatDoorLx63
namespace Go.Proofs.YtmpbedfiamlbpaaGreatDoor.fnExactSaveMachine
open Go.ChangeShapes Go.WideShapes Go.ChangeAt Go.RowKit
open Go.ChangeMaps (open_string shut_string)
set_option linter.unusedVariables false

open Nd0 Qc0 Qc3 Op2 Nd1 Nd2 Nd3 Ap1 Nd6 Op4 Ta0 Ta1 Pl1 Tm0 Tm1 Tm2 Tm3 Tx0 Ss0 Ws1 Ss1 Mm0 Op5 Hs0 Tc2 Tc3 Tc4 Tc5 Ap9 Td1 Td2 Za0 Za1 Tc1 Tc6 Tc7 Tc8 Tc9 Tc10 Ta2 Te1 Tk0 Zk0 Ta3 De0 De1 Dv0 Mc0 Td3 Td4 Mm1 Dq0 Dm1 Mm2 Te3 Vo0 Wp0 Wp1 Zs0 Zt0 Ss2 Ap4 Ap5 Zs1 Qc1 Mx0 Dp1 Zs2 Zs3 Zs4 Ms0 Mi1 Mi2 Mi3 Mi4 Zs5 Zs6 Zs7 Zt1 Zt2 Mx1 Zm0 Zb0 Zm1 Lx63

theorem own : ownKnob Tryz.prog.godebug = none := by kernel_rfl
theorem door_met (os : Os) (args : Array Value) : laidMetH Tryz.prog Rows.fnExactSaveMachineRow.laid ((Zt2.laidW os Rows.fnExactSaveMachineRow.laid).forCall (fun _ _ => 0) ⟨#[], args, []⟩).memory := Zt2.met os args
theorem laidOut : laidOutB Tryz.prog = true := by kernel_rfl

set_option maxHeartbeats 1000000 in
theorem walk (m0 : Mm0.Mc) (ra0 va0 ma0 : Option Addr) (rc0 vc0 mc0 : Nat) (w : World) (w0 : Mm0.Mr w m0 ra0 va0 ma0) (s0 : m0.S.size ≤ maxLen) (k0 : ∀ x ∈ m0.memo, x.k.size ≤ maxLen) (wT : Zs7.TabE w) :
    Calls Tryz.prog 6 #[Mm0.mval m0 ra0 va0 ma0 rc0 vc0 mc0] w fun e w' => e = .returned (.bool true) ∧ Below w.heap.size w w' := by
  exact Lx63.exSaveMachine w m0 ra0 va0 ma0 rc0 vc0 mc0 w0 s0 k0 wT

set_option maxRecDepth 100000 in
theorem lifted (os : Os) (started : os.Started) (H : Type) (enc : TypeId × Value → H) :
    ReturnsInHanded {} Tryz.checked os 6 .any (fun w args => (Rows.fnExactSaveMachineSpec.pre enc Tryz.prog Tryz.f6 [] false w args ∧ laidMetH Tryz.prog Rows.fnExactSaveMachineRow.laid w) ∧ sizedMet enc Tryz.prog Tryz.f6 (OpenSpec.ofChange Rows.fnExactSaveMachineSpec) false w args) (Rows.fnExactSaveMachineSpec.post enc Tryz.prog Tryz.f6 false true false false) := by
  refine Hs0.andShaped (C := Tryz.checked) (X := fun w _ => laidMetH Tryz.prog Rows.fnExactSaveMachineRow.laid w) (fun _ _ _ hh h => h.of_heap hh) own started (by kernel_rfl) Tryz.func6
    (ChangeSpec.witness_shaped (enc := enc) (C := Tryz.checked) (os := os) (X := fun w _ => laidMetH Tryz.prog Rows.fnExactSaveMachineRow.laid w) false (Zt2.laidW os Rows.fnExactSaveMachineRow.laid) #[.agg #[.slice none 0 0, .int .i64 0, .string ByteArray.empty, .int .i64 0, .slice none 0 0, .int .i64 0, .bool false, .int .i64 0, .int .i64 0, .int .i64 0, .slice none 0 0]] 8 (Zt2.laidW_os _ _) (Zt2.shape os _) (by kernel_rfl) (by kernel_rfl) (by kernel_rfl) (door_met os _)) ?_
  intro W base args ds gs before hval0 hW hL hsh
  have hval : ∀ (j : Nat) t v, Tryz.f6.params[j]? = some t → args[j]? = some v → Value.okWide Tryz.prog W .any base t v := hval0
  have hW' := hW
  obtain ⟨p, q, hA0, hV, rfl, hfz, hnd⟩ := hW
  have hA : DataW.TrodAll enc Tryz.prog W 0 (fun _ => true) true Tryz.f6.params.toList args.toList ds p := hA0
  rw [Tryz.params6] at hA hval
  obtain ⟨v0, vs0, d0, ds0, p0, q0, hargs, rfl, rfl, h0, r0⟩ := trodAll_cons hA
  obtain ⟨rfl, rfl, rfl⟩ := trodAll_nil r0
  obtain rfl : args = #[v0] := by cases args; simp_all
  have wT : Zs7.TabE W := Zt1.tabe_of_laid (laid := Rows.fnExactSaveMachineRow.laid) hL (by repeat (first | exact List.Mem.head _ | apply List.Mem.tail)) (by repeat (first | exact List.Mem.head _ | apply List.Mem.tail)) (by repeat (first | exact List.Mem.head _ | apply List.Mem.tail)) hsh (by repeat (first | exact List.Mem.head _ | apply List.Mem.tail))
  obtain ⟨rfl, rfl⟩ := trodVars_none hV
  obtain ⟨cs0, rfl, _⟩ := okWide_struct Tryz.underlying54 (hval 0 54 v0 rfl rfl)
  have k0 := h0
  have lt0 : ∀ x ∈ p0, x.block < W.heap.size := by obtain ⟨m, hm⟩ := k0; exact DataW.trod_lt m _ _ _ hm
  obtain ⟨m0, ra0, va0, ma0, rc0, vc0, mc0, hn0, w0, s0, kk0⟩ : ∃ (m0 : Mm0.Mc) (ra0 va0 ma0 : Option Addr) (rc0 vc0 mc0 : Nat), cs0.toList = [.slice ra0 m0.row.length rc0, .int .i64 m0.N, .string m0.S, .int .i64 m0.room, .slice va0 m0.vals.length vc0, .int .i64 m0.ret, .bool m0.over, .int .i64 m0.steps, .int .i64 m0.looks, .int .i64 m0.hits, .slice ma0 m0.memo.length mc0] ∧ Mm0.Mr W m0 ra0 va0 ma0 ∧ m0.S.size ≤ maxLen ∧ ∀ x ∈ m0.memo, x.k.size ≤ maxLen := by
    obtain ⟨fuel, hf⟩ := h0
    exact Op5.machine_open (by simpa [Value.cells] using hf)
  obtain rfl : cs0 = #[.slice ra0 m0.row.length rc0, .int .i64 m0.N, .string m0.S, .int .i64 m0.room, .slice va0 m0.vals.length vc0, .int .i64 m0.ret, .bool m0.over, .int .i64 m0.steps, .int .i64 m0.looks, .int .i64 m0.hits, .slice ma0 m0.memo.length mc0] := by cases cs0; simp_all
  clear hA0 hval0
  refine (walk m0 ra0 va0 ma0 rc0 vc0 mc0 W w0 s0 kk0 wT).mono fun e W' ⟨he, bel⟩ => ?_
  subst he
  exact ⟨_, rfl, _, _, _, [], _, [], hW', trodAll_mk1 (shut_bool Tryz.underlying4 _), (trodAll_cons_mk (Below.trod laidOut (by kernel_rfl) (of_decide_eq_true (by kernel_rfl)) k0 bel lt0) trodAll_mk0), rfl, bel.frame _, fun h => by cases h⟩

theorem over : Rows.fnExactSaveMachineRow.holds Tryz.pinned (OpenSpec.ofChange Rows.fnExactSaveMachineSpec) :=
  OpenClaim.holds_of_wide 6 Tryz.f6 rfl rfl rfl rfl rfl rfl rfl ⟨rfl, rfl, rfl, rfl, rfl⟩ rfl rfl rfl rfl rfl (by kernel_rfl) Tryz.func6 (by kernel_rfl)
    (of_decide_eq_true (by kernel_rfl)) (by unfold Func.isWrapper; first | (rw [if_pos (by decide +kernel)]; kernel_rfl) | (rw [if_neg (by decide +kernel)]; exact ⟨rfl, rfl⟩))
    (fun os started H enc _ => lifted os started H enc)

end Go.Proofs.YtmpbedfiamlbpaaGreatDoor.fnExactSaveMachine
namespace Go.Proofs.YtmpbedfiamlbpaaGreatDoor
theorem fnExactSaveMachine_holds : Rows.FnExactSaveMachineCardSaid :=
  Claim7.holds_tied_plain_at .later [] [.data, .data, .data, .data, .handle, .sentinel, .sentinel, .pinned] true (true, "2f5c71598a1c6f8b5349cbb457a0e8f446ac60e705532263969901ac22da1032") true
    fnExactSaveMachine.over (fun _ h => by cases h) (by kernel_rfl) (fun _ h => by cases h) fnExactSaveMachine_row_tie rfl ⟨rfl, rfl⟩ (by kernel_rfl) rfl
    (fun f fn hf hfn => by
      obtain rfl : f = 6 := Option.some.inj ((show Tryz.prog.funcNamed Rows.fnExactSaveMachineRow.func = some 6 by kernel_rfl).symm.trans hf) |>.symm
      obtain rfl : fn = Tryz.f6 := (Option.some.inj (Tryz.func6.symm.trans hfn)).symm
      exact ⟨by kernel_rfl, fun j t ht => by
        rw [Tryz.params6] at ht
        have hm : t ∈ [54] := by simpa using Array.mem_of_getElem? ht
        have hall : ([54].all fun u => !Tryz.prog.wantsStandIn u) = true := by kernel_rfl
        exact (show Tryz.prog.wantsStandIn t = false by simpa using List.all_eq_true.1 hall t hm)⟩)
    (by kernel_rfl)
end Go.Proofs.YtmpbedfiamlbpaaGreatDoor
