/- For any job, right or wrong, JobEnd of the program answers as its model does, writes into no argument, and its answer owns its memory; the tables are as their initialisers lay them (tied to the text of the pruned copy). -/
import Derived.Test.YtladjpombohpaaaGreatDoorRows
import Derived.ShutString
import Derived.ChangeOld
import Derived.Below
import Derived.OpenVars
import Derived.LaidMore
import Derived.SevenTiedAt
import Derived.Test.YtladjpombohpaaaGreatDoorTie
import Derived.Test.YtladjpombohpaaaGreatDoorCards
import Derived.Test.YtladjpombohpaaaGreatDoorPkJN1
import Derived.Test.YtladjpombohpaaaGreatDoorLx72
namespace Go.Proofs.YtladjpombohpaaaGreatDoor.fnExactJobEnd
open Go.ChangeShapes Go.WideShapes Go.ChangeAt Go.RowKit
open Go.ChangeMaps (open_string shut_string)
set_option linter.unusedVariables false

open Nd0 Qc0 Qc3 Op2 Nd1 Nd2 Nd3 Ap1 Nd6 Op4 Ta0 Ta1 Pl1 Tm0 Tm1 Tm2 Tm3 Tx0 Ss0 Ws1 Ss1 Mm0 Op5 Op7 Jg0 Tc2 Tc3 Tc4 Tc5 Tc1 Tc6 Tc7 Tc8 Tc9 Tc10 Ap9 Td1 Td2 Ta2 Te1 Tk0 Jt0 Zt2 Qc1 Dqa Mx0 Jb0 Je0 Ta3 De0 De1 Dv0 Mc0 Td3 Td4 Mm1 Dm1 Mm2 Ms0 Te3 Mi1 Mi2 Mi3 Mi4 Mi5 Ap0 Qc2 Cl0 Mu1 Mu2 Mw0 Mu3 Mu4 Mw1 Mw2 Mw3 Mw4 Mw5 Mw6 Cp0 Mw7 Mw8 Mw10 Mw16 Mw9 Mw11 Mw12 Mw13 Mu5 Mu6 Mw17 Mw18 Mu7 Mu8 Mw19 Mw14 Mw15 Mw20 Je1 Jl0 Jb2 Jb2p Jb3 Mk0 Mk1 Mk2 Mk3 Mx1 Mu9 Mw21 Je2 Je3 Je4 Je5 Je6 Je7 Je8 Jk1 Jb1 Lx72

theorem own : ownKnob Tryz.prog.godebug = none := by kernel_rfl
theorem door_met (os : Os) (args : Array Value) : laidMetH Tryz.prog Rows.fnExactJobEndRow.laid ((Zt2.laidW os Rows.fnExactJobEndRow.laid).forCall (fun _ _ => 0) ⟨#[], args, []⟩).memory := Zt2.met os args
theorem laidOut : laidOutB Tryz.prog = true := by kernel_rfl

set_option maxHeartbeats 1000000 in
theorem walk (st0 : Int) (m0 : Mm0.Mc) (jr0 : ByteArray) (sy0 : Int) (ra0 va0 ma0 : Option Addr) (rc0 vc0 mc0 : Nat) (w : World) (w0 : Mm0.Mr w m0 ra0 va0 ma0) (s0 : m0.S.size ≤ maxLen) (k0 : ∀ x ∈ m0.memo, x.k.size ≤ maxLen) (z0 : jr0.size ≤ maxLen) (wT : Tk0.TabK w) :
    Calls Tryz.prog 3 #[Jb0.jval st0 m0 jr0 sy0 ra0 va0 ma0 rc0 vc0 mc0] w fun e w' => e = .returned (.bool true) ∧ Below w.heap.size w w' := by
  exact Lx72.exJobEnd w st0 m0 jr0 sy0 ra0 va0 ma0 rc0 vc0 mc0 w0 s0 k0 z0 wT

set_option maxRecDepth 100000 in
theorem lifted (os : Os) (started : os.Started) (H : Type) (enc : TypeId × Value → H) :
    ReturnsInHanded {} Tryz.checked os 3 .any (fun w args => (Rows.fnExactJobEndSpec.pre enc Tryz.prog Tryz.f3 [] false w args ∧ laidMetH Tryz.prog Rows.fnExactJobEndRow.laid w) ∧ sizedMet enc Tryz.prog Tryz.f3 (OpenSpec.ofChange Rows.fnExactJobEndSpec) false w args) (Rows.fnExactJobEndSpec.post enc Tryz.prog Tryz.f3 false true false false) := by
  refine returnsInHanded_of_change_and (C := Tryz.checked) (X := fun w _ => laidMetH Tryz.prog Rows.fnExactJobEndRow.laid w) (fun _ _ _ hh h => h.of_heap hh) own started (by kernel_rfl) Tryz.func3
    (ChangeSpec.witness_shaped (enc := enc) (C := Tryz.checked) (os := os) (X := fun w _ => laidMetH Tryz.prog Rows.fnExactJobEndRow.laid w) false (Zt2.laidW os Rows.fnExactJobEndRow.laid) #[.agg #[.int .i64 0, .slice none 0 0, .int .i64 0, .string ByteArray.empty, .int .i64 0, .slice none 0 0, .int .i64 0, .bool false, .int .i64 0, .int .i64 0, .int .i64 0, .slice none 0 0, .string ByteArray.empty, .int .i64 0]] 8 (Zt2.laidW_os _ _) (Zt2.shape os _) (by kernel_rfl) (by kernel_rfl) (by kernel_rfl) (door_met os _)) ?_
  intro W base args ds gs before hval0 hW _ _ hL _
  have hval : ∀ (j : Nat) t v, Tryz.f3.params[j]? = some t → args[j]? = some v → Value.okWide Tryz.prog W .any base t v := hval0
  have hW' := hW
  obtain ⟨p, q, hA0, hV, rfl, hfz, hnd⟩ := hW
  have hA : DataW.TrodAll enc Tryz.prog W 0 (fun _ => true) true Tryz.f3.params.toList args.toList ds p := hA0
  rw [Tryz.params3] at hA hval
  obtain ⟨v0, vs0, d0, ds0, p0, q0, hargs, rfl, rfl, h0, r0⟩ := trodAll_cons hA
  obtain ⟨rfl, rfl, rfl⟩ := trodAll_nil r0
  obtain rfl : args = #[v0] := by cases args; simp_all
  have wT : Tk0.TabK W := Jt0.tabk_of_laidH (laid := Rows.fnExactJobEndRow.laid) hL (by repeat (first | exact List.Mem.head _ | apply List.Mem.tail))
  have hV1 := trodVars_one hV
  obtain ⟨_, _, _, _, gd, _, rfl, _⟩ := hV1
  obtain ⟨cs0, rfl, _⟩ := okWide_struct Tryz.underlying30 (hval 0 30 v0 rfl rfl)
  have k0 := h0
  have lt0 : ∀ x ∈ p0, x.block < W.heap.size := by obtain ⟨m, hm⟩ := k0; exact DataW.trod_lt m _ _ _ hm
  obtain ⟨st0, m0, jr0, sy0, ra0, va0, ma0, rc0, vc0, mc0, hn0, w0, s0, kk0, z0⟩ : ∃ (st0 : Int) (m0 : Mm0.Mc) (jr0 : ByteArray) (sy0 : Int) (ra0 va0 ma0 : Option Addr) (rc0 vc0 mc0 : Nat), cs0.toList = [.int .i64 st0, .slice ra0 m0.row.length rc0, .int .i64 m0.N, .string m0.S, .int .i64 m0.room, .slice va0 m0.vals.length vc0, .int .i64 m0.ret, .bool m0.over, .int .i64 m0.steps, .int .i64 m0.looks, .int .i64 m0.hits, .slice ma0 m0.memo.length mc0, .string jr0, .int .i64 sy0] ∧ Mm0.Mr W m0 ra0 va0 ma0 ∧ m0.S.size ≤ maxLen ∧ (∀ x ∈ m0.memo, x.k.size ≤ maxLen) ∧ jr0.size ≤ maxLen := by
    obtain ⟨fuel, hf⟩ := h0
    exact Op7.job_open (by simpa [Value.cells] using hf)
  obtain rfl : cs0 = #[.int .i64 st0, .slice ra0 m0.row.length rc0, .int .i64 m0.N, .string m0.S, .int .i64 m0.room, .slice va0 m0.vals.length vc0, .int .i64 m0.ret, .bool m0.over, .int .i64 m0.steps, .int .i64 m0.looks, .int .i64 m0.hits, .slice ma0 m0.memo.length mc0, .string jr0, .int .i64 sy0] := by cases cs0; simp_all
  clear hA0 hval0
  refine (walk st0 m0 jr0 sy0 ra0 va0 ma0 rc0 vc0 mc0 W w0 s0 kk0 z0 wT).mono fun e W' ⟨he, bel⟩ => ?_
  subst he
  exact ⟨_, rfl, _, _, _, [], _, _, hW', trodAll_mk1 (shut_bool Tryz.underlying4 _), (trodAll_cons_mk (Below.trod laidOut (by kernel_rfl) (of_decide_eq_true (by kernel_rfl)) k0 bel lt0) trodAll_mk0), Below.trodVars laidOut bel (by kernel_rfl) hV, bel.frame _, fun h => by cases h⟩

set_option maxHeartbeats 8000000 in
theorem closed : joinedFacts Tryz.prog 3 Tryz.f3 Rows.fnExactJobEndSpec Rows.fnExactJobEndRow = true := by
  unfold joinedFacts
  repeat' (with_reducible refine (Bool.and_eq_true _ _).mpr ⟨?_, ?_⟩)
  all_goals (as_aux_lemma => kernel_rfl)
theorem over : Rows.fnExactJobEndRow.holds Tryz.pinned (OpenSpec.ofChange Rows.fnExactJobEndSpec) :=
  OpenClaim.holds_of_wide 3 Tryz.f3 rfl rfl rfl rfl rfl rfl rfl ⟨rfl, rfl, rfl, rfl, rfl⟩ rfl rfl rfl rfl rfl (by kernel_rfl) Tryz.func3 closed
    (of_decide_eq_true (by kernel_rfl)) (by unfold Func.isWrapper; first | (rw [if_pos (by decide +kernel)]; kernel_rfl) | (rw [if_neg (by decide +kernel)]; exact ⟨rfl, rfl⟩))
    (fun os started H enc _ => lifted os started H enc)

end Go.Proofs.YtladjpombohpaaaGreatDoor.fnExactJobEnd
namespace Go.Proofs.YtladjpombohpaaaGreatDoor
theorem fnExactJobEnd_holds : Rows.FnExactJobEndCardSaid :=
  Claim7.holds_tied_plain_at .later [] [.data, .data, .data, .data, .handle, .sentinel, .sentinel, .data, .pinned] true (true, "593b4e1328041a39b3473b375673f6cec0eb92209c302253bcac7733ee970d80") true
    fnExactJobEnd.over (fun _ h => by cases h) (by kernel_rfl) (fun _ h => by cases h) fnExactJobEnd_row_tie rfl ⟨rfl, rfl⟩ (by kernel_rfl) rfl
    (fun f fn hf hfn => by
      obtain rfl : f = 3 := Option.some.inj ((show Tryz.prog.funcNamed Rows.fnExactJobEndRow.func = some 3 by kernel_rfl).symm.trans hf) |>.symm
      obtain rfl : fn = Tryz.f3 := (Option.some.inj (Tryz.func3.symm.trans hfn)).symm
      exact ⟨by kernel_rfl, fun j t ht => by
        rw [Tryz.params3] at ht
        have hm : t ∈ [30] := by simpa using Array.mem_of_getElem? ht
        have hall : ([30].all fun u => !Tryz.prog.wantsStandIn u) = true := by kernel_rfl
        exact (show Tryz.prog.wantsStandIn t = false by simpa using List.all_eq_true.1 hall t hm)⟩)
    (Jg0.goesBy _ rfl)
end Go.Proofs.YtladjpombohpaaaGreatDoor
