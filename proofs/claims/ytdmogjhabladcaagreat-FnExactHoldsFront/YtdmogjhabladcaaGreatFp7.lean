/- The program's HoldsFront, walked whole. -/
import Derived.Test.YtdmogjhabladcaaGreatFp6
import Derived.Test.YtdmogjhabladcaaGreatFm4
namespace Go.Proofs.YtdmogjhabladcaaGreat.Fp7
open Go.RowKit
open Nd0 Qa0 Pl1 Tm0 Tm1 Tm6 Tm8 Tr0 Rw0 Vl1 Vl2 Vm0 Vm2 Kp1 Pv12 Pv15 Fr0 Fr1 Fr4 Qi0 Qi1 Fp1 Ic4 Fp4 Fp5 Fp6
open Fm1 (iRowOf)
open Fp2 (IFrontOk)
open Fm4 (hfB hfV)
set_option linter.unusedVariables false

theorem wo_cons {ws : List Int} {l : List Nd} (hl1 : 1 ≤ l.length) {x : Qu} {q : List Qu} (hx : TyQ ws x) (hbit : ∀ e, EnvOk ws e → hf q (root l) e = 0 ∨ hf q (root l) e = 1) (ih : PWo ws l q) : PWo ws l (x :: q) := by
  obtain ⟨al, vr, bits⟩ := x
  cases al
  · exact wo_gen hl1 hx hbit ih rfl rfl rfl (qv_some _ _) (findSome vr bits) (setSome vr bits) (enters_of Tryz.func204 (by kernel_rfl) rfl) (enters_of Tryz.func202 (by kernel_rfl) rfl) (iVarSome vr bits) (iSetSome vr bits)
  · exact wo_gen hl1 hx hbit ih rfl rfl rfl (qv_all _ _) (findAll vr bits) (setAll vr bits) (enters_of Tryz.func201 (by kernel_rfl) rfl) (enters_of Tryz.func199 (by kernel_rfl) rfl) (iVarAll vr bits) (iSetAll vr bits)
theorem pWo (hIA : IApply) {ws : List Int} {l : List Nd} (hT : termOk l = true) (hty : Ty ws (root l)) (hw : (root l).wid = 1) : ∀ q : List Qu, (∀ x ∈ q, TyQ ws x) → PWo ws l q := by
  intro q
  have hR : Rt (root l) := (rt_all (down_of hT) (fun k hk => term_node hT hk) (l.length - 1) (by have := term_len hT; omega)).1
  induction q with
  | nil => intro _; exact wo_nil hIA hT hty
  | cons x q ih =>
    intro hq
    refine wo_cons (term_len hT).1 (hq x (by simp)) (fun e he => ?_) (ih (fun y hy => hq y (by simp [hy])))
    cases q with
    | nil => exact ty_bit hR hty he hw
    | cons y q => exact hf_bit y q _ e
theorem root_wid {l : List Nd} (hT : termOk l = true) (h : (nth l (l.length - 1)).w = 1) : (root l).wid = 1 := by
  have := (rt_all (down_of hT) (fun k hk => term_node hT hk) (l.length - 1) (by have := term_len hT; omega)).2
  exact this.trans h
theorem pWo_of (hIA : IApply) {q : List Qu} {l : List Nd} (hf : frontOkB q l = true) : ∃ ws, PWo ws l q ∧ EnvOk ws (List.replicate 8 0) := by
  obtain ⟨hT, hr, ws, hw, hg⟩ := fo_of hf
  refine ⟨ws, pWo hIA hT (rest_ty (q := q) hT hg (l.length - 1) (by have := term_len hT; omega) (reach_root (term_len hT).1)) (root_wid hT hr) q (fun x hx => ?_), env_zero ws (wq_bound _ _ hw)⟩
  obtain ⟨i, hi, rfl⟩ := List.mem_iff_getElem.1 hx
  rw [qth_get hi]
  exact wq_ty _ _ (Nat.le_refl _) hw i hi
theorem agg_zero : agg (List.replicate 8 0) = .agg #[.int .i64 0, .int .i64 0, .int .i64 0, .int .i64 0, .int .i64 0, .int .i64 0, .int .i64 0, .int .i64 0] := rfl

def IHoldsFront : Prop := ∀ (w : World) (aq a : Option Addr) (q : List Qu) (l : List Nd) (cq c : Nat), Qus w aq q → q.length ≤ 1048576 → Nodes w a l → l.length ≤ c → l.length ≤ 1048576 →
    Calls Tryz.prog 24 #[.slice aq q.length cq, .slice a l.length c] w fun e w' => e = .returned (.tuple #[.int .i64 (hfV q l), .bool (hfB q l)]) ∧ Below w.heap.size w w'

set_option maxRecDepth 100000 in
set_option maxHeartbeats 4000000 in
theorem iHoldsFront (hFO : IFrontOk) (hIA : IApply) : IHoldsFront := by
  intro w aq a q l cq c hQ hl hN hcap hll
  have HN : Hid (Nodes w a l) := hN
  have HQ : Hid (Qus w aq q) := hQ
  have HFO : Hid IFrontOk := hFO
  have HIA : Hid IApply := hIA
  have HCAP : Hid (l.length ≤ c) := hcap
  clear hN hQ hFO hcap hIA
  go_enter Tryz.func24, Tryz.ntmps24
  go_wp2_with fail
  refine (iRowOf w aq q cq HQ.out hl).mono ?_
  rintro e w1 ⟨⟨ar, cr, rfl, _⟩, hb1⟩
  have HB1 : Hid (Below w.heap.size w w1) := hb1
  clear hb1
  cases hfe : fewB q
  · have HV : Hid (hfV q l = 0 ∧ hfB q l = false) := by
      have h : hfB q l = false := by unfold hfB; rw [hfe]; simp
      exact ⟨by unfold hfV; rw [h]; rfl, h⟩
    go_wp2
    go_ret2
    rw [HV.out.1, HV.out.2]
    exact ⟨rfl, HB1.out⟩
  · go_wp2_with fail
    refine (HFO.out w1 aq a q l cq c (HQ.out.below HB1.out) hl (HN.out.below HB1.out) HCAP.out hll).mono ?_
    rintro e w2 ⟨rfl, hb2⟩
    have HB2 : Hid (Below w.heap.size w w2) := HB1.out.trans (hb2.mono HB1.out.size)
    clear hb2
    cases hfo : frontOkB q l
    · have HV : Hid (hfV q l = 0 ∧ hfB q l = false) := by
        have h : hfB q l = false := by unfold hfB; rw [hfo]; rfl
        exact ⟨by unfold hfV; rw [h]; rfl, h⟩
      go_wp2
      go_ret2
      rw [HV.out.1, HV.out.2]
      exact ⟨rfl, HB2.out⟩
    · have HV : Hid (hfV q l = hf q (root l) (List.replicate 8 0) ∧ hfB q l = true) := by
        have h : hfB q l = true := by unfold hfB; rw [hfo, hfe]; rfl
        exact ⟨by unfold hfV; rw [h]; rfl, h⟩
      obtain ⟨ws, hp, he⟩ := pWo_of HIA.out hfo
      have HP : Hid (PWo ws l q) := hp
      have HE : Hid (EnvOk ws (List.replicate 8 0)) := he
      clear hp he hfo hfe
      go_wp2_with fail
      refine (iQuantsC w2 aq q cq (HQ.out.below HB2.out) hl).mono ?_
      rintro e w3 ⟨⟨ai, ci, rfl, hqv, hqc, _⟩, hb3⟩
      have HB3 : Hid (Below w.heap.size w w3) := HB2.out.trans (hb3.mono HB2.out.size)
      have hcall := HP.out w3 ai a ci c (List.replicate 8 0) hqv hqc (HN.out.below HB3.out) HE.out
      rw [agg_zero] at hcall
      have HC : Hid (Calls Tryz.prog 66 #[.slice ai q.length ci, .slice a l.length c, .agg #[.int .i64 0, .int .i64 0, .int .i64 0, .int .i64 0, .int .i64 0, .int .i64 0, .int .i64 0, .int .i64 0]] w3 fun x w' => x = .returned (.int .i64 (hf q (root l) (List.replicate 8 0))) ∧ Below w3.heap.size w3 w') := hcall
      clear hcall hqv hqc hb3 HE
      generalize hf q (root l) (List.replicate 8 0) = val at HV HC
      go_wp2_with fail
      refine HC.out.mono ?_
      rintro e w4 ⟨rfl, hb4⟩
      have HB4 : Hid (Below w.heap.size w w4) := HB3.out.trans (hb4.mono HB3.out.size)
      clear hb4
      go_wp2
      go_ret2
      rw [HV.out.1, HV.out.2]
      exact ⟨rfl, HB4.out⟩

end Go.Proofs.YtdmogjhabladcaaGreat.Fp7
