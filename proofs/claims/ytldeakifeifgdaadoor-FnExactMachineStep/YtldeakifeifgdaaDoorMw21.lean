/- MachineStep and MachineRun of program and model: one answer, in memory of its own. -/
import Derived.Test.YtldeakifeifgdaaDoorMw20
import Derived.Test.YtldeakifeifgdaaDoorPkQv
import Derived.Test.YtldeakifeifgdaaDoorMx1
import Derived.Test.YtldeakifeifgdaaDoorMu9
namespace Go.Proofs.YtldeakifeifgdaaDoor.Mw21
open Go.RowKit
open Nd0 (Kept Ints Ats At lt_of_cell)
open Ap0 Ap1 Qc0 Mm0 Mx0 Mx1 Mu2 Mu6 Mu8 Mu9 Mw19 Mw20 Mk3 Tk0
open Mm2 (mokB)
open Ta1
open Ss0 (bs bs_size)
open Ss1 (tl bs_tl)
set_option linter.unusedVariables false

/-- A machine's lists that may be written, in the blocks from B on and below U. -/
structure Rg (W : World) (B U : Nat) (m : Mc) (ra va ma : Option Addr) : Prop where
  wm : Wm W B m.row m.vals m.memo ra va ma
  lt : ∀ b, anyAt m.row.length m.vals.length m.memo.length ra va ma b → b < U
  ax : Ax m.row.length m.vals.length m.memo.length ra va ma
theorem Rg.kept {W W' : World} {B U : Nat} {m : Mc} {ra va ma : Option Addr} (h : Rg W B U m ra va ma) {S : Nat → Prop} (k : Kept S W W') (hs : ∀ b, B ≤ b → b < U → ¬ S b) : Rg W' B U m ra va ma :=
  ⟨h.wm.kept k (fun b hb => hs b (h.wm.ge (.inl hb)).1 (h.lt b (.inl hb))) (fun b hb => hs b (h.wm.ge (.inr (.inl hb))).1 (h.lt b (.inr (.inl hb)))) (fun b hb => hs b (h.wm.ge (.inr (.inr hb))).1 (h.lt b (.inr (.inr hb)))), h.lt, h.ax⟩
theorem Rg.below {W W' : World} {B U : Nat} {m : Mc} {ra va ma : Option Addr} (h : Rg W B U m ra va ma) (k : Below W.heap.size W W') : Rg W' B U m ra va ma := h.kept (S := fun _ => False) (Kept.ofBelow k) (fun _ _ _ h => h)
theorem Rg.of_po {W : World} {B : Nat} {m : Mc} {ra va ma : Option Addr} {rc vc mc : Nat} (h : PO W B m ra va ma rc vc mc) : Rg W B W.heap.size m ra va ma := by
  obtain ⟨a1, c1, e1, f1⟩ := h.row.form
  obtain ⟨a2, c2, e2, f2⟩ := h.vals.form
  obtain ⟨a3, c3, e3, f3, _⟩ := h.memo.form
  cases e1
  cases e2
  cases e3
  have wm : Wm W B m.row m.vals m.memo ra va ma := ⟨f1, f2, f3⟩
  exact ⟨wm, fun b hb => (wm.ge hb).2, fun k h1 h2 => h.rv k h1.2 h2.2, fun k h1 h2 => h.rm k h1.2 h2.2, fun k h1 h2 => h.vm k h1.2 h2.2⟩
theorem Rg.of_to {W : World} {B U1 U2 : Nat} {m : Mc} {ra va ma : Option Addr} (h0 : B ≤ U1) (h1 : U1 ≤ U2) (h2 : U2 ≤ W.heap.size) (hr : Nd6.BoolsIn W B U1 ra m.row) (hv : Nd0.IntsIn W U1 U2 va m.vals) (hm : SnsIn W U2 W.heap.size ma m.memo) : Rg W B W.heap.size m ra va ma := by
  have wm : Wm W B m.row m.vals m.memo ra va ma := ⟨hr.wr, (wi_mono hv h0 (Nat.le_refl _)).wints, (ws_mono hm (by omega) (Nat.le_refl _)).wr⟩
  exact ⟨wm, fun b hb => (wm.ge hb).2, fun k a b => by have := hr.ats a; have := hv.ats b; omega, fun k a b => by have := hr.ats a; have := hm.ats b; omega, fun k a b => by have := hv.ats a; have := hm.ats b; omega⟩
/-- What both come to. -/
def Out (W : World) (M : Mc) (e : Ending) (w' : World) : Prop := ∃ ra va ma rc vc mc, e = .returned (mval M ra va ma rc vc mc) ∧ Rg w' W.heap.size w'.heap.size M ra va ma ∧ Below W.heap.size W w'
theorem out_run {W : World} {M : Mc} {e : Ending} {w' : World} (h : RunOut W M e w') : Out W M e w' := by
  obtain ⟨ra, va, ma, rc, vc, mc, h1, h2, h3⟩ := h
  exact ⟨ra, va, ma, rc, vc, mc, h1, Rg.of_po h2, h3⟩
theorem out_mo {W : World} {M : Mc} {e : Ending} {w' : World} (h : ∃ ra va ma rc vc mc, e = .returned (mval M ra va ma rc vc mc) ∧ MO w' W.heap.size M ra va ma rc vc mc ∧ Below W.heap.size W w') : Out W M e w' := by
  obtain ⟨ra, va, ma, rc, vc, mc, h1, h2, h3⟩ := h
  exact ⟨ra, va, ma, rc, vc, mc, h1, Rg.of_po (PO.of h2), h3⟩
def Short (M : Mc) : Prop := M.row.length ≤ 1048576 ∧ M.vals.length ≤ 1048576 ∧ M.memo.length ≤ 1048576
theorem Rm.short {n : Nat} {F : Nat → Bool} {m : Mc} (hn : n ≤ 12) (h : Rm n F m) : Short m := by
  have h1 := h.ok.row
  have h2 := h.ok.vals
  have h3 := h.ok.memo
  have h4 := h.ok.room
  have h5 := h.hN
  exact ⟨by omega, by omega, by omega⟩
theorem Rm.go {n : Nat} {F : Nat → Bool} {m : Mc} (h : Rm n F m) (hl : m.looks < 1000000000) (hh : m.hits < 1000000000) : Rm n F (stepM n F m) := by
  obtain ⟨k1, k2, k3, _, _⟩ := step_ok (F := F) h.ok h.hN hl hh
  exact ⟨k2.trans h.hN, k3.trans h.hS, k1⟩
theorem Rm.run {n : Nat} {F : Nat → Bool} (k : Nat) : ∀ {m : Mc}, Rm n F m → Rm n F (runM n F k m) := by
  induction k with
  | zero => exact fun h => h
  | succ k ih =>
    intro m h
    by_cases e : m.over = true ∨ 1000000000 ≤ m.looks ∨ 1000000000 ≤ m.hits
    · rw [runM_stop e]; exact h
    · rw [runM_next e]
      exact ih (Rm.go h (by apply Classical.byContradiction; intro c; exact e (.inr (.inl (by omega)))) (by apply Classical.byContradiction; intro c; exact e (.inr (.inr (by omega)))))
theorem rm_of {m : Mc} (h : mokB m = true) : ∃ (n : Nat) (F : Nat → Bool), n ≤ 12 ∧ Rm n F m := by
  have ok := (mok_iff m).1 h
  obtain ⟨n, F, hn, hN, hS⟩ := tok_tab ok.tab
  exact ⟨n, F, hn, hN, by rw [← hS, bs_tl], ok⟩

theorem bRun (m : Mc) (N : Int) (hr : m.row.length ≤ 1048576) (hS : m.S.size ≤ 1048576) (hv : m.vals.length ≤ 1048576) (hm : m.memo.length ≤ 1048576) (hk : ∀ x ∈ m.memo, x.k.size ≤ maxLen) :
    ∃ M, Short M ∧ (∀ (W : World) ra va ma rc vc mc, Mr W m ra va ma → Calls Tryd.prog 21 #[mval m ra va ma rc vc mc, .int .i64 N] W (Out W M)) ∧
      (∀ (W : World) ra va ma rc vc mc, TabK W → Mr W m ra va ma → Calls Tryd.prog 11 #[mval m ra va ma rc vc mc, .int .i64 N] W (Out W M)) := by
  by_cases h : mokB m = true ∧ 0 ≤ N ∧ N ≤ 100000
  · obtain ⟨n, F, hn, ok⟩ := rm_of h.1
    obtain ⟨k, rfl⟩ : ∃ k : Nat, N = (k : Int) := ⟨N.toNat, by omega⟩
    have hk1 : k ≤ 100000 := by omega
    refine ⟨runM n F k m, Rm.short hn (Rm.run k ok), fun W ra va ma rc vc mc hR => ?_, fun W ra va ma rc vc mc hT hR => ?_⟩
    · exact (sRun n F m ra va ma rc vc mc k W hn ok.hN ok.hS ok.ok hk1 hR).mono fun e w' h => out_mo h
    · exact (iRun n F m ra va ma rc vc mc k W hn ok hk1 hR hk hT).mono fun e w' h => out_run h
  · refine ⟨m, ⟨hr, hv, hm⟩, fun W ra va ma rc vc mc hR => ?_, fun W ra va ma rc vc mc hT hR => ?_⟩
    · exact (sRun0 m ra va ma rc vc mc N W hr hS hv hm hR h).mono fun e w' h => out_mo h
    · exact (iRunBad W N m ra va ma rc vc mc hS hR hr hv hm hk h).mono fun e w' h => out_run h

theorem bStep (m : Mc) (hr : m.row.length ≤ 1048576) (hS : m.S.size ≤ 1048576) (hv : m.vals.length ≤ 1048576) (hm : m.memo.length ≤ 1048576) (hk : ∀ x ∈ m.memo, x.k.size ≤ maxLen) :
    ∃ M, Short M ∧ (∀ (W : World) ra va ma rc vc mc, Mr W m ra va ma → Calls Tryd.prog 15 #[mval m ra va ma rc vc mc] W (Out W M)) ∧
      (∀ (W : World) ra va ma rc vc mc, TabK W → Mr W m ra va ma → Calls Tryd.prog 17 #[mval m ra va ma rc vc mc] W (Out W M)) := by
  by_cases h : mokB m = true
  · obtain ⟨n, F, hn, ok⟩ := rm_of h
    refine ⟨stM n F m, ?_, fun W ra va ma rc vc mc hR => ?_, fun W ra va ma rc vc mc hT hR => ?_⟩
    · rw [← run_one]; exact Rm.short hn (Rm.run 1 ok)
    · by_cases h2 : 1000000000 ≤ m.looks ∨ 1000000000 ≤ m.hits
      · have e : stM n F m = m := by unfold Mw20.stM; exact if_pos h2
        rw [e]
        exact (sMStep0 m ra va ma rc vc mc W hr hS hv hm hR (fun c => by have := c.2; omega)).mono fun e w' h => out_mo h
      · have e : stM n F m = stepM n F m := by unfold Mw20.stM; exact if_neg h2
        rw [e]
        exact (sMStep n F m ra va ma rc vc mc W hn ok.hN ok.hS ok.ok (by omega) (by omega) hr hS hv hm hR).mono fun e w' h => out_mo h
    · rw [← run_one]
      exact (iStepOf W m (runM n F 1 m) ra va ma rc vc mc fun W' hb => iRun n F m ra va ma rc vc mc 1 W' hn ok (by omega) (hR.below hb) hk (hT.below hb)).mono fun e w' h => out_run h
  · refine ⟨m, ⟨hr, hv, hm⟩, fun W ra va ma rc vc mc hR => ?_, fun W ra va ma rc vc mc hT hR => ?_⟩
    · exact (sMStep0 m ra va ma rc vc mc W hr hS hv hm hR (fun c => h c.1)).mono fun e w' h => out_mo h
    · exact (iStepOf W m m ra va ma rc vc mc fun W' hb => iRunBad W' 1 m ra va ma rc vc mc hS (hR.below hb) hr hv hm hk (fun c => h c.1)).mono fun e w' h => out_run h
end Go.Proofs.YtldeakifeifgdaaDoor.Mw21
