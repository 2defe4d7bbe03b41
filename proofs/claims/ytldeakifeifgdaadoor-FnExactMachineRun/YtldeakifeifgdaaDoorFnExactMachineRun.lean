/- For any machine and number of steps, right or wrong, MachineRun of the program answers as its model does, writes into no argument, and its answer owns its memory; the library tables are as their initialisers lay them (tied to the text of the pruned copy). -/
import Derived.Test.YtldeakifeifgdaaDoorRows
import Derived.WalkKit
import Derived.ProofKit
import Derived.OpenShut
import Derived.ShutString
import Derived.ChangeOld
import Derived.Below
import Derived.OpenVars
import Derived.LaidMore
import Derived.Stop.Joined
import Derived.SevenTiedAt
import Derived.Test.YtldeakifeifgdaaDoorTie
import Derived.Test.YtldeakifeifgdaaDoorCards
import Derived.Test.YtldeakifeifgdaaDoorPkQa
import Derived.Test.YtldeakifeifgdaaDoorPkQb
import Derived.Test.YtldeakifeifgdaaDoorPkQc
import Derived.Test.YtldeakifeifgdaaDoorPkQd
import Derived.Test.YtldeakifeifgdaaDoorPkQe
import Derived.Test.YtldeakifeifgdaaDoorPkQf
import Derived.Test.YtldeakifeifgdaaDoorMx0
import Derived.Test.YtldeakifeifgdaaDoorPkQh
import Derived.Test.YtldeakifeifgdaaDoorPkQi
import Derived.Test.YtldeakifeifgdaaDoorPkQj
import Derived.Test.YtldeakifeifgdaaDoorMm1
import Derived.Test.YtldeakifeifgdaaDoorPkQk
import Derived.Test.YtldeakifeifgdaaDoorPkQl
import Derived.Test.YtldeakifeifgdaaDoorPkQm
import Derived.Test.YtldeakifeifgdaaDoorPkQn
import Derived.Test.YtldeakifeifgdaaDoorPkQo
import Derived.Test.YtldeakifeifgdaaDoorMw0
import Derived.Test.YtldeakifeifgdaaDoorShelf
import Derived.Test.YtldeakifeifgdaaDoorTk0
import Derived.Test.YtldeakifeifgdaaDoorMu3
import Derived.Test.YtldeakifeifgdaaDoorMu4
import Derived.Test.YtldeakifeifgdaaDoorPkQq
import Derived.Test.YtldeakifeifgdaaDoorCp0
import Derived.Test.YtldeakifeifgdaaDoorPkQr
import Derived.Test.YtldeakifeifgdaaDoorMw16
import Derived.Test.YtldeakifeifgdaaDoorPkQs
import Derived.Test.YtldeakifeifgdaaDoorMu5
import Derived.Test.YtldeakifeifgdaaDoorMu6
import Derived.Test.YtldeakifeifgdaaDoorPkQt
import Derived.Test.YtldeakifeifgdaaDoorMu7
import Derived.Test.YtldeakifeifgdaaDoorMu8
import Derived.Test.YtldeakifeifgdaaDoorMw19
import Derived.Test.YtldeakifeifgdaaDoorPkQu
import Derived.Test.YtldeakifeifgdaaDoorMw20
import Derived.Test.YtldeakifeifgdaaDoorPkQv
import Derived.Test.YtldeakifeifgdaaDoorMx1
import Derived.Test.YtldeakifeifgdaaDoorMu9
import Derived.Test.YtldeakifeifgdaaDoorMw21
import Derived.Test.YtldeakifeifgdaaDoorLx45
namespace Go.Proofs.YtldeakifeifgdaaDoor.fnExactMachineRun
open Go.ChangeShapes Go.WideShapes Go.ChangeAt Go.RowKit
open Go.ChangeMaps (open_string shut_string)
set_option linter.unusedVariables false

open Nd0 Qc0 Qc3 Op2 Nd1 Nd2 Nd3 Ap1 Nd6 Op4 Ta0 Ta1 Pl1 Tm0 Tm1 Tm2 Tm3 Tx0 Ss0 Ws1 Ss1 Mm0 Op5 Qc1 Tc2 Tc3 Ta2 Dq0 Mx0 Tc4 Tc5 Ap9 Td1 Ta3 De0 De1 Dv0 Mc0 Td2 Td3 Td4 Mm1 Dm1 Mm2 Ms0 Tc1 Tc6 Tc7 Tc8 Tc9 Tc10 Te1 Te3 Mi1 Mi2 Mi3 Mi4 Mi5 Ap0 Qc2 Cl0 Mu1 Mu2 Mw0 Tk0 Mu3 Mu4 Mw1 Mw2 Mw3 Mw4 Mw5 Mw6 Cp0 Mw7 Mw8 Mw10 Mw16 Mw9 Mw11 Mw12 Mw13 Mu5 Mu6 Mw17 Mw18 Mu7 Mu8 Mw19 Mw14 Mw15 Mw20 Mk0 Mk1 Mk2 Mk3 Mx1 Mu9 Mw21 Lx45

theorem own : ownKnob Tryd.prog.godebug = none := by kernel_rfl
theorem door_met (os : Os) (args : Array Value) : laidMetH Tryd.prog Rows.fnExactMachineRunRow.laid ((World.doorLaid Tryd.prog 400 os).forCall (fun _ _ => 0) ⟨#[], args, []⟩).memory :=
  laidMetH_of_parts3 (fuel := 8) (laidMet_of_run' 8 (by kernel_rfl) (by kernel_rfl)) (by kernel_rfl) (by kernel_rfl)
theorem laidOut : laidOutB Tryd.prog = true := by kernel_rfl

set_option maxHeartbeats 1000000 in
theorem walk (m0 : Mm0.Mc) (ra0 va0 ma0 : Option Addr) (rc0 vc0 mc0 : Nat) (a1 : Int) (w : World) (w0 : Mm0.Mr w m0 ra0 va0 ma0) (s0 : m0.S.size ≤ maxLen) (k0 : ∀ x ∈ m0.memo, x.k.size ≤ maxLen) (w1 : (Lit.int .i64 a1).wf = true) (wT : Tk0.TabK w) :
    Calls Tryd.prog 5 #[Mm0.mval m0 ra0 va0 ma0 rc0 vc0 mc0, .int .i64 a1] w fun e w' => e = .returned (.bool true) ∧ Below w.heap.size w w' := by
  exact Lx45.exMachineRun w m0 ra0 va0 ma0 rc0 vc0 mc0 a1 w0 s0 k0 wT

set_option maxRecDepth 100000 in
theorem lifted (os : Os) (started : os.Started) (H : Type) (enc : TypeId × Value → H) :
    ReturnsInHanded {} Tryd.checked os 5 .any (fun w args => (Rows.fnExactMachineRunSpec.pre enc Tryd.prog Tryd.f5 [] false w args ∧ laidMetH Tryd.prog Rows.fnExactMachineRunRow.laid w) ∧ sizedMet enc Tryd.prog Tryd.f5 (OpenSpec.ofChange Rows.fnExactMachineRunSpec) false w args) (Rows.fnExactMachineRunSpec.post enc Tryd.prog Tryd.f5 false true false false) := by
  refine returnsInHanded_of_change_and (C := Tryd.checked) (X := fun w _ => laidMetH Tryd.prog Rows.fnExactMachineRunRow.laid w) (fun _ _ _ hh h => h.of_heap hh) own started (by kernel_rfl) Tryd.func5
    (ChangeSpec.witness_shaped (enc := enc) (C := Tryd.checked) (os := os) (X := fun w _ => laidMetH Tryd.prog Rows.fnExactMachineRunRow.laid w) false (World.doorLaid Tryd.prog 400 os) #[.agg #[.slice none 0 0, .int .i64 0, .string ByteArray.empty, .int .i64 0, .slice none 0 0, .int .i64 0, .bool false, .int .i64 0, .int .i64 0, .int .i64 0, .slice none 0 0], .int .i64 0] 8 rfl (World.shaped_of_RefB (by kernel_rfl) (by kernel_rfl)) (by kernel_rfl) (by kernel_rfl) (by kernel_rfl) (door_met os _)) ?_
  intro W base args ds gs before hval0 hW _ _ hL _
  have hval : ∀ (j : Nat) t v, Tryd.f5.params[j]? = some t → args[j]? = some v → Value.okWide Tryd.prog W .any base t v := hval0
  have hW' := hW
  obtain ⟨p, q, hA0, hV, rfl, hfz, hnd⟩ := hW
  have hA : DataW.TrodAll enc Tryd.prog W 0 (fun _ => true) true Tryd.f5.params.toList args.toList ds p := hA0
  rw [Tryd.params5] at hA hval
  obtain ⟨v0, vs0, d0, ds0, p0, q0, hargs, rfl, rfl, h0, r0⟩ := trodAll_cons hA
  obtain ⟨v1, vs1, d1, ds1, p1, q1, hargs1, rfl, rfl, h1, r1⟩ := trodAll_cons r0
  obtain ⟨rfl, rfl, rfl⟩ := trodAll_nil r1
  obtain rfl : args = #[v0, v1] := by cases args; simp_all
  have wT : Tk0.TabK W := Tk0.tabk_of_laid (laid := Rows.fnExactMachineRunRow.laid) ((MakeChecks.laidMetH_plain _ _ _ (by kernel_rfl)).mp hL) (by repeat (first | exact List.Mem.head _ | apply List.Mem.tail))
  obtain ⟨rfl, rfl⟩ := trodVars_none hV
  obtain ⟨cs0, rfl, _⟩ := okWide_struct Tryd.underlying44 (hval 0 44 v0 rfl rfl)
  have k0 := h0
  have lt0 : ∀ x ∈ p0, x.block < W.heap.size := by obtain ⟨m, hm⟩ := k0; exact DataW.trod_lt m _ _ _ hm
  obtain ⟨m0, ra0, va0, ma0, rc0, vc0, mc0, hn0, w0, s0, kk0⟩ : ∃ (m0 : Mm0.Mc) (ra0 va0 ma0 : Option Addr) (rc0 vc0 mc0 : Nat), cs0.toList = [.slice ra0 m0.row.length rc0, .int .i64 m0.N, .string m0.S, .int .i64 m0.room, .slice va0 m0.vals.length vc0, .int .i64 m0.ret, .bool m0.over, .int .i64 m0.steps, .int .i64 m0.looks, .int .i64 m0.hits, .slice ma0 m0.memo.length mc0] ∧ Mm0.Mr W m0 ra0 va0 ma0 ∧ m0.S.size ≤ maxLen ∧ ∀ x ∈ m0.memo, x.k.size ≤ maxLen := by
    obtain ⟨fuel, hf⟩ := h0
    exact Op5.machine_open (by simpa [Value.cells] using hf)
  obtain rfl : cs0 = #[.slice ra0 m0.row.length rc0, .int .i64 m0.N, .string m0.S, .int .i64 m0.room, .slice va0 m0.vals.length vc0, .int .i64 m0.ret, .bool m0.over, .int .i64 m0.steps, .int .i64 m0.looks, .int .i64 m0.hits, .slice ma0 m0.memo.length mc0] := by cases cs0; simp_all
  obtain ⟨a1, rfl, rfl, rfl, w1⟩ := open_int Tryd.underlying3 (hval 1 3 v1 rfl rfl) h1
  clear hA0 hval0
  refine (walk m0 ra0 va0 ma0 rc0 vc0 mc0 a1 W w0 s0 kk0 w1 wT).mono fun e W' ⟨he, bel⟩ => ?_
  subst he
  exact ⟨_, rfl, _, _, _, [], _, [], hW', trodAll_mk1 (shut_bool Tryd.underlying4 _), (trodAll_cons_mk (Below.trod laidOut (by kernel_rfl) (of_decide_eq_true (by kernel_rfl)) k0 bel lt0) (trodAll_cons_mk (shut_int Tryd.underlying3 w1) trodAll_mk0)), rfl, bel.frame _, fun h => by cases h⟩

theorem over : Rows.fnExactMachineRunRow.holds Tryd.pinned (OpenSpec.ofChange Rows.fnExactMachineRunSpec) :=
  OpenClaim.holds_of_wide 5 Tryd.f5 rfl rfl rfl rfl rfl rfl rfl ⟨rfl, rfl, rfl, rfl, rfl⟩ rfl rfl rfl rfl rfl (by kernel_rfl) Tryd.func5 (by kernel_rfl)
    (of_decide_eq_true (by kernel_rfl)) (by unfold Func.isWrapper; first | (rw [if_pos (by decide +kernel)]; kernel_rfl) | (rw [if_neg (by decide +kernel)]; exact ⟨rfl, rfl⟩))
    (fun os started H enc _ => lifted os started H enc)

end Go.Proofs.YtldeakifeifgdaaDoor.fnExactMachineRun
namespace Go.Proofs.YtldeakifeifgdaaDoor
theorem fnExactMachineRun_holds : Rows.FnExactMachineRunCardSaid :=
  Claim7.holds_tied_plain_at .later [] [.data, .data, .data] true (true, "19670ddad77d92ae29eaa686c7654b8ed21d1cfdc689c33667998c1ef3cd1ed2") false
    fnExactMachineRun.over (fun _ h => by cases h) (by kernel_rfl) (fun _ h => by cases h) fnExactMachineRun_row_tie rfl ⟨rfl, rfl⟩ (by kernel_rfl) rfl
    (fun f fn hf hfn => by
      obtain rfl : f = 5 := Option.some.inj ((show Tryd.prog.funcNamed Rows.fnExactMachineRunRow.func = some 5 by kernel_rfl).symm.trans hf) |>.symm
      obtain rfl : fn = Tryd.f5 := (Option.some.inj (Tryd.func5.symm.trans hfn)).symm
      exact ⟨by kernel_rfl, fun j t ht => by
        rw [Tryd.params5] at ht
        have hm : t ∈ [44, 3] := by simpa using Array.mem_of_getElem? ht
        have hall : ([44, 3].all fun u => !Tryd.prog.wantsStandIn u) = true := by kernel_rfl
        exact (show Tryd.prog.wantsStandIn t = false by simpa using List.all_eq_true.1 hall t hm)⟩)
    (by kernel_rfl)
end Go.Proofs.YtldeakifeifgdaaDoor
