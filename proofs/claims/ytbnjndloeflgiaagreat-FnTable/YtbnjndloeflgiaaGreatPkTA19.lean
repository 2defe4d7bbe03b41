/- Small texts of mine, one behind the other. -/
import Derived.Deep.MidRow
import Derived.Deep.RegionHeld
import Derived.Test.YtbnjndloeflgiaaGreatPkTA18
import Derived.Test.YtbnjndloeflgiaaGreatPkTA2
import Derived.Test.YtbnjndloeflgiaaGreatPkTA1
import Derived.Test.YtbnjndloeflgiaaGreatPkTA16
/- The walk of the program's FrontOk. -/
namespace Go.Proofs.YtbnjndloeflgiaaGreat.Fp1
open Go.RowKit
open Nd0 Qa0 Tm0 Tm1 Tm2 Tm5 Tm6 Tm8 Rw0 Rw1 Kp1 Fr0
open Fm1 (quAt)
open Pg1 (iWidthOk iVarOk iQuant)
open Lx1 (ITermOk)
open Lx2 (IReached)
open Ws1 (ret_int ret_bool)
set_option linter.unusedVariables false

def aggI (r : Nat → Int) : Value := .agg #[.int .i64 (r 0), .int .i64 (r 1), .int .i64 (r 2), .int .i64 (r 3), .int .i64 (r 4), .int .i64 (r 5), .int .i64 (r 6), .int .i64 (r 7)]
def listI (r : Nat → Int) : List Value := [.int .i64 (r 0), .int .i64 (r 1), .int .i64 (r 2), .int .i64 (r 3), .int .i64 (r 4), .int .i64 (r 5), .int .i64 (r 6), .int .i64 (r 7)]
set_option maxRecDepth 100000 in
set_option maxHeartbeats 1000000 in
theorem results_wid {w : World} {gr : Nat} {r : Nat → Int} {b : Bool} {tmps : Array Value} (hp : tmps.getD 2 undef = .pointer (some ⟨gr, 0, none⟩)) (hq : tmps.getD 3 undef = .bool b) (hc : ∀ v : Nat, v < 8 → w.cell? ⟨gr, v, none⟩ = some (.int .i64 (r v))) :
    (results Tryz.f49 tmps).run Tryz.prog w = .ok (.tuple #[aggI r, .bool b]) w := by
  have hr : w.rangeAt gr 0 (listI r) := fun j v hv => by
    rw [Nat.zero_add]
    have hj : j < 8 := by
      have := (List.getElem?_eq_some_iff.1 hv).1
      simpa [listI] using this
    rw [hc j hj]
    rcases (show j = 0 ∨ j = 1 ∨ j = 2 ∨ j = 3 ∨ j = 4 ∨ j = 5 ∨ j = 6 ∨ j = 7 by omega) with h | h | h | h | h | h | h | h <;> subst h <;> exact hv
  have hl := run_loadVar_mid (P := Tryz.prog) w gr 0 63 (listI r) _ hr Tryz.underlying63 rfl rfl
  have hp' : tmps[2]?.getD undef = .pointer (some ⟨gr, 0, none⟩) := by simpa using hp
  have hq' : tmps[3]?.getD undef = .bool b := by simpa using hq
  simp [results, hp', hq', asAddr, hl]
  rfl
theorem kept_set8 {S : Nat → Prop} {gr : Nat} {u w : World} (h : Kept S u w) (hs : S gr) (v0 v1 v2 v3 v4 v5 v6 v7 : Value) : Kept S u ((((((((w.setCell ⟨gr, 0, none⟩ v0).setCell ⟨gr, 1, none⟩ v1).setCell ⟨gr, 2, none⟩ v2).setCell ⟨gr, 3, none⟩ v3).setCell ⟨gr, 4, none⟩ v4).setCell ⟨gr, 5, none⟩ v5).setCell ⟨gr, 6, none⟩ v6).setCell ⟨gr, 7, none⟩ v7) :=
  (((((((h.setCell hs _).setCell hs _).setCell hs _).setCell hs _).setCell hs _).setCell hs _).setCell hs _).setCell hs _
theorem row_set8 {gr : Nat} {w : World} {f : Nat → Value} (h : Row w gr 8 f) (r : Nat → Int) : ∀ v, v < 8 → ((((((((w.setCell ⟨gr, 0, none⟩ (.int .i64 (r 0))).setCell ⟨gr, 1, none⟩ (.int .i64 (r 1))).setCell ⟨gr, 2, none⟩ (.int .i64 (r 2))).setCell ⟨gr, 3, none⟩ (.int .i64 (r 3))).setCell ⟨gr, 4, none⟩ (.int .i64 (r 4))).setCell ⟨gr, 5, none⟩ (.int .i64 (r 5))).setCell ⟨gr, 6, none⟩ (.int .i64 (r 6))).setCell ⟨gr, 7, none⟩ (.int .i64 (r 7))).cell? ⟨gr, v, none⟩ = some (.int .i64 (r v)) := by
  have h8 := (((((((h.set (p := 0) (by omega) (.int .i64 (r 0))).set (p := 1) (by omega) (.int .i64 (r 1))).set (p := 2) (by omega) (.int .i64 (r 2))).set (p := 3) (by omega) (.int .i64 (r 3))).set (p := 4) (by omega) (.int .i64 (r 4))).set (p := 5) (by omega) (.int .i64 (r 5))).set (p := 6) (by omega) (.int .i64 (r 6))).set (p := 7) (by omega) (.int .i64 (r 7))
  intro v hv
  rw [(h8 v hv).1]
  rcases (show v = 0 ∨ v = 1 ∨ v = 2 ∨ v = 3 ∨ v = 4 ∨ v = 5 ∨ v = 6 ∨ v = 7 by omega) with h | h | h | h | h | h | h | h <;> subst h <;> rfl
def WF (q : List Qu) (r : Nat → Int) (b : Bool) : Prop := b = (wqTo q q.length).isSome ∧ ∀ ws, wqTo q q.length = some ws → ∀ v : Nat, v < 8 → r v = wd ws (v : Int)
def WRes (q : List Qu) (e : Ending) : Prop := ∃ r b, e = .returned (.tuple #[aggI r, .bool b]) ∧ WF q r b
theorem wf_no {q : List Qu} (h : wqTo q q.length = none) (r : Nat → Int) : WF q r false := ⟨by rw [h]; rfl, fun ws hw => by rw [h] at hw; cases hw⟩
theorem wf_yes {q : List Qu} {us : List Int} (h : wqTo q q.length = some us) {r : Nat → Int} (hr : ∀ v : Nat, v < 8 → r v = wd us (v : Int)) : WF q r true := ⟨by rw [h]; rfl, fun ws hw => by rw [h] at hw; cases hw; exact hr⟩
theorem wd_zero8 {v : Nat} (hv : v < 8) : wd (List.replicate 8 0) (v : Int) = 0 := by
  rcases (show v = 0 ∨ v = 1 ∨ v = 2 ∨ v = 3 ∨ v = 4 ∨ v = 5 ∨ v = 6 ∨ v = 7 by omega) with h | h | h | h | h | h | h | h <;> subst h <;> rfl

set_option maxRecDepth 100000 in
set_option maxHeartbeats 4000000 in
theorem iWidthsOf (w : World) (a : Option Addr) (q : List Qu) (c : Nat) (hN : Qus w a q) (hl : q.length ≤ 1048576) :
    Calls Tryz.prog 49 #[.slice a q.length c] w fun e w' => WRes q e ∧ Below w.heap.size w w' := by
  have HN : Hid (Qus w a q) := hN
  clear hN
  obtain ⟨gr, hgr⟩ : ∃ gr : Nat, gr = w.heap.size := ⟨_, rfl⟩
  obtain ⟨g, hg⟩ : ∃ g : Nat, g = w.heap.size + 1 := ⟨_, rfl⟩
  obtain ⟨z8, hz8⟩ : ∃ z8 : Obj, z8 = .cells #[.int .i64 0, .int .i64 0, .int .i64 0, .int .i64 0, .int .i64 0, .int .i64 0, .int .i64 0, .int .i64 0] 63 := ⟨_, rfl⟩
  obtain ⟨wa, hwa⟩ : ∃ wa : World, wa = (w.alloc z8).alloc z8 := ⟨_, rfl⟩
  have hsa : wa.heap.size = w.heap.size + 2 := by rw [hwa]; simp
  have hBz : Below w.heap.size w (w.alloc z8) := (Below.refl _ _).alloc (Nat.le_refl _) _
  have hBa : Below (w.alloc z8).heap.size (w.alloc z8) wa := by rw [hwa]; exact (Below.refl _ _).alloc (Nat.le_refl _) _
  have HBA : Hid (Below w.heap.size w wa) := hBz.trans (hBa.mono (by simp))
  have hnew : ∀ W : World, Row (W.alloc z8) W.heap.size 8 (fun i => .int .i64 (wd (List.replicate 8 0) (i : Int))) := fun W => by
    rw [hz8]
    exact Row.new _ _ _ _ _ (fun i hi => by
      rcases (show i = 0 ∨ i = 1 ∨ i = 2 ∨ i = 3 ∨ i = 4 ∨ i = 5 ∨ i = 6 ∨ i = 7 by omega) with h | h | h | h | h | h | h | h <;> subst h <;> rfl)
  have HR0 : Hid (Row wa g 8 (fun i => .int .i64 (wd (List.replicate 8 0) (i : Int)))) := by
    have h := hnew (w.alloc z8)
    rw [← hwa, show (w.alloc z8).heap.size = g by rw [hg]; simp] at h
    exact h
  have HRR : Hid (Row wa gr 8 (fun _ => .int .i64 0)) := by
    refine Row.below ?_ hBa
    rw [hgr]
    exact (hnew w).congr (fun i hi => by rw [wd_zero8 hi])
  have HG : Hid (gr = w.heap.size ∧ g = w.heap.size + 1 ∧ wa.heap.size = w.heap.size + 2) := ⟨hgr, hg, hsa⟩
  rw [hz8] at hwa
  clear hBz hBa hnew hsa hz8
  go_enter Tryz.func49, Tryz.ntmps49
  go_wp2
  rw [← hwa, ← hg, ← hgr]
  clear hwa hg hgr
  go_loopw [9] (fun x wr => ∃ k : Nat, k ≤ q.length ∧ x = .int .i64 k ∧ ∃ ws, wqTo q k = some ws ∧ Row wr g 8 (fun i => .int .i64 (wd ws (i : Int))) ∧ Kept (fun b => b = g) wa wr) (fun x _ => q.length - (intOf x).toNat)
  case atStart => exact ⟨0, Nat.zero_le _, rfl, _, rfl, HR0.out, Kept.refl _ _⟩
  case round =>
    obtain ⟨k, hk, rfl, ws, hq, hr, hkk⟩ := hrel
    have HWL : Hid (ws.length = 8) := wq_len ws hq
    have HQ : Hid (wqTo q k = some ws) := hq
    have HR : Hid (Row wr g 8 (fun i => .int .i64 (wd ws (i : Int)))) := hr
    have HK : Hid (Kept (fun b => b = g) wa wr) := hkk
    have HGR : Hid (gr < wr.heap.size ∧ g < wr.heap.size ∧ gr ≠ g) := by
      have h1 := HG.out
      have h2 := hkk.size
      exact ⟨by omega, by omega, by omega⟩
    have HBW : Hid (Below w.heap.size w wr) := by
      have h1 := HG.out
      exact HBA.out.trans (hkk.below (fun b (hb : b = g) => by omega) HBA.out.size)
    have HRG : Hid (Row wr gr 8 (fun _ => .int .i64 0)) := HRR.out.kept hkk (fun h => HGR.out.2.2 h)
    clear hq hr hkk
    have HEND : Hid (∀ (W : World), Kept (fun b => b = g) wr W → ∀ v0 v1 v2 v3 v4 v5 v6 v7 : Value, Below w.heap.size w ((((((((W.setCell ⟨gr, 0, none⟩ v0).setCell ⟨gr, 1, none⟩ v1).setCell ⟨gr, 2, none⟩ v2).setCell ⟨gr, 3, none⟩ v3).setCell ⟨gr, 4, none⟩ v4).setCell ⟨gr, 5, none⟩ v5).setCell ⟨gr, 6, none⟩ v6).setCell ⟨gr, 7, none⟩ v7)) := fun W hW v0 v1 v2 v3 v4 v5 v6 v7 => by
      have h1 := HG.out
      have h2 := Kept.past (Kept.ofBelow (S := fun _ => False) HBW.out) hW (fun b h => .inr (by have h' : b = g := h; omega))
      have h3 := Kept.past h2 (kept_set8 (S := fun b => b = gr) (Kept.refl _ W) rfl v0 v1 v2 v3 v4 v5 v6 v7) (fun b h => .inr (by have h' : b = gr := h; omega))
      exact ⟨h3.os, h3.tape, h3.output, h3.size, fun b hb => h3.block b hb (fun h => h)⟩
    by_cases hlt : k < q.length
    · have hlz : (k : Int) < (q.length : Int) := by omega
      obtain ⟨b, o, rfl, hc⟩ := quAt (HN.out.below HBW.out) hlt
      obtain ⟨p0, p1, p2⟩ := hc k hlt
      clear hc
      have HST : Hid (wqTo q (k + 1) = wqStep ws (qth q k)) := wq_succ HQ.out
      have HBAD : Hid (wqTo q (k + 1) = none → wqTo q q.length = none) := fun h => wq_none h _ (by omega)
      unfold wqStep at HST
      generalize (qth q k).all = al at p0
      generalize (qth q k).vr = v at HST p1
      generalize (qth q k).bits = bt at HST p2
      obtain ⟨wx, hwx⟩ : ∃ wx : World, wx = wr.alloc (.cells #[.bool al, .int .i64 v, .int .i64 bt] 37) := ⟨_, rfl⟩
      obtain ⟨gx, hgx⟩ : ∃ gx : Nat, gx = wr.heap.size := ⟨_, rfl⟩
      have hkx : Kept (fun b => b = g) wr wx := by rw [hwx]; exact (Kept.refl _ _).alloc _
      have HKX : Hid (Kept (fun b => b = g) wr wx) := hkx
      have hbx : Below wr.heap.size wr wx := by rw [hwx]; exact (Below.refl _ _).alloc (Nat.le_refl _) _
      have HRX : Hid (Row wx g 8 (fun i => .int .i64 (wd ws (i : Int)))) := HR.out.below hbx
      have HRGX : Hid (Row wx gr 8 (fun _ => .int .i64 0)) := HRG.out.below hbx
      have x1 : wx.cell? ⟨gx, 1, none⟩ = some (.int .i64 v) := by rw [hwx, hgx, World.cell?_alloc_new]; rfl
      have x2 : wx.cell? ⟨gx, 2, none⟩ = some (.int .i64 bt) := by rw [hwx, hgx, World.cell?_alloc_new]; rfl
      obtain ⟨k0, f0⟩ := HRGX.out 0 (by omega)
      obtain ⟨k1, f1⟩ := HRGX.out 1 (by omega)
      obtain ⟨k2, f2⟩ := HRGX.out 2 (by omega)
      obtain ⟨k3, f3⟩ := HRGX.out 3 (by omega)
      obtain ⟨k4, f4⟩ := HRGX.out 4 (by omega)
      obtain ⟨k5, f5⟩ := HRGX.out 5 (by omega)
      obtain ⟨k6, f6⟩ := HRGX.out 6 (by omega)
      obtain ⟨k7, f7⟩ := HRGX.out 7 (by omega)
      clear hkx hbx
      by_cases hv : 0 ≤ v ∧ v ≤ 7
      · have hd : decide (0 ≤ v ∧ v ≤ 7) = true := decide_eq_true hv
        obtain ⟨kk, rfl⟩ := Int.eq_ofNat_of_zero_le hv.1
        have hz8 : (kk : Int) < 8 := by omega
        by_cases hb : 1 ≤ bt ∧ bt ≤ 8
        · have hd2 : decide (1 ≤ bt ∧ bt ≤ 8) = true := decide_eq_true hb
          obtain ⟨c1, c2'⟩ := HRX.out kk (by omega)
          dsimp only at c1
          by_cases hz : wd ws (kk : Int) = 0
          · have HQ2 : Hid (wqTo q (k + 1) = some (ws.set kk bt)) := by
              show _ = _
              rw [HST.out, if_pos ⟨hv.1, hv.2, hb.1, hb.2, hz⟩, Int.toNat_natCast]
            rw [hz] at c1
            clear hv hb k0 k1 k2 k3 k4 k5 k6 k7 f0 f1 f2 f3 f4 f5 f6 f7
            go_wp2_with fail
            rw [← hwx, ← hgx]
            clear hwx hgx
            refine (iVarOk _ _).mono ?_
            rintro e w' ⟨rfl, hw'⟩
            rw [hd]
            have hw'' := hw'.symm
            clear hw'
            subst hw''
            go_wp2_with (go_at_call 48; refine (iWidthOk _ _).mono ?_; rintro e w' ⟨rfl, hw'⟩; rw [hd2]; have hw'' := hw'.symm; clear hw'; subst hw'')
            go_roundw
            case rel => exact ⟨k + 1, by omega, by go_num, ws.set kk bt, HQ2.out, row_set_int HRX.out HWL.out (by omega) _, (HK.out.trans HKX.out).setCell (p := ⟨g, kk, none⟩) rfl _⟩
            case measure => simp [intOf]; omega
          · have HF : Hid (wqTo q q.length = none) := HBAD.out (by rw [HST.out, if_neg (fun h => hz h.2.2.2.2)])
            have hzb : (wd ws (kk : Int) != 0) = true := by simpa using hz
            generalize wd ws (kk : Int) = z at c1 hz hzb
            clear hv hb
            go_wp2_with fail
            rw [← hwx, ← hgx]
            clear hwx hgx
            refine (iVarOk _ _).mono ?_
            rintro e w' ⟨rfl, hw'⟩
            rw [hd]
            have hw'' := hw'.symm
            clear hw'
            subst hw''
            go_wp2_with (go_at_call 48; refine (iWidthOk _ _).mono ?_; rintro e w' ⟨rfl, hw'⟩; rw [hd2]; have hw'' := hw'.symm; clear hw'; subst hw'')
            try simp only [Exit.inBlock, Exit.then]
            refine bodyPost_ret (results_wid (r := fun _ => 0) (b := false) rfl rfl (row_set8 HRGX.out (fun _ => 0))) rfl ?_
            exact ⟨⟨_, _, rfl, wf_no HF.out _⟩, HEND.out wx HKX.out _ _ _ _ _ _ _ _⟩
        · have hd2 : decide (1 ≤ bt ∧ bt ≤ 8) = false := decide_eq_false hb
          have HF : Hid (wqTo q q.length = none) := HBAD.out (by rw [HST.out, if_neg (fun h => hb ⟨h.2.2.1, h.2.2.2.1⟩)])
          clear hv hb
          go_wp2_with fail
          rw [← hwx, ← hgx]
          clear hwx hgx
          refine (iVarOk _ _).mono ?_
          rintro e w' ⟨rfl, hw'⟩
          rw [hd]
          have hw'' := hw'.symm
          clear hw'
          subst hw''
          go_wp2_with (go_at_call 48; refine (iWidthOk _ _).mono ?_; rintro e w' ⟨rfl, hw'⟩; rw [hd2]; have hw'' := hw'.symm; clear hw'; subst hw'')
          try simp only [Exit.inBlock, Exit.then]
          refine bodyPost_ret (results_wid (r := fun _ => 0) (b := false) rfl rfl (row_set8 HRGX.out (fun _ => 0))) rfl ?_
          exact ⟨⟨_, _, rfl, wf_no HF.out _⟩, HEND.out wx HKX.out _ _ _ _ _ _ _ _⟩
      · have hd : decide (0 ≤ v ∧ v ≤ 7) = false := decide_eq_false hv
        have HF : Hid (wqTo q q.length = none) := HBAD.out (by rw [HST.out, if_neg (fun h => hv ⟨h.1, h.2.1⟩)])
        clear hv
        go_wp2_with fail
        rw [← hwx, ← hgx]
        clear hwx hgx
        refine (iVarOk _ _).mono ?_
        rintro e w' ⟨rfl, hw'⟩
        rw [hd]
        have hw'' := hw'.symm
        clear hw'
        subst hw''
        go_wp2
        try simp only [Exit.inBlock, Exit.then]
        refine bodyPost_ret (results_wid (r := fun _ => 0) (b := false) rfl rfl (row_set8 HRGX.out (fun _ => 0))) rfl ?_
        exact ⟨⟨_, _, rfl, wf_no HF.out _⟩, HEND.out wx HKX.out _ _ _ _ _ _ _ _⟩
    · have HF : Hid (wqTo q q.length = some ws) := by
        show _ = _
        rw [← show k = q.length by omega]; exact HQ.out
      obtain ⟨r, hr⟩ : ∃ r : Nat → Int, r = fun (v : Nat) => wd ws (v : Int) := ⟨_, rfl⟩
      have HWF : Hid (WF q r true) := wf_yes HF.out (fun v _ => by rw [hr])
      have HRr : Hid (Row wr g 8 (fun i => .int .i64 (r i))) := by rw [hr]; exact HR.out
      clear hr
      obtain ⟨e0, _⟩ := HRr.out 0 (by omega)
      obtain ⟨e1, _⟩ := HRr.out 1 (by omega)
      obtain ⟨e2, _⟩ := HRr.out 2 (by omega)
      obtain ⟨e3, _⟩ := HRr.out 3 (by omega)
      obtain ⟨e4, _⟩ := HRr.out 4 (by omega)
      obtain ⟨e5, _⟩ := HRr.out 5 (by omega)
      obtain ⟨e6, _⟩ := HRr.out 6 (by omega)
      obtain ⟨e7, _⟩ := HRr.out 7 (by omega)
      obtain ⟨k0, f0⟩ := HRG.out 0 (by omega)
      obtain ⟨k1, f1⟩ := HRG.out 1 (by omega)
      obtain ⟨k2, f2⟩ := HRG.out 2 (by omega)
      obtain ⟨k3, f3⟩ := HRG.out 3 (by omega)
      obtain ⟨k4, f4⟩ := HRG.out 4 (by omega)
      obtain ⟨k5, f5⟩ := HRG.out 5 (by omega)
      obtain ⟨k6, f6⟩ := HRG.out 6 (by omega)
      obtain ⟨k7, f7⟩ := HRG.out 7 (by omega)
      go_wp2
      try simp only [Exit.inBlock, Exit.then]
      refine bodyPost_ret (results_wid (r := r) (b := true) rfl rfl (row_set8 HRG.out r)) rfl ?_
      exact ⟨⟨_, _, rfl, HWF.out⟩, HEND.out wr (Kept.refl _ _) _ _ _ _ _ _ _ _⟩

def hasQ (l : List Nd) : Bool := (List.range l.length).any fun i => quant (nth l i).op
set_option maxRecDepth 100000 in
set_option maxHeartbeats 1000000 in
theorem iHasQ (w : World) (a : Option Addr) (l : List Nd) (c : Nat) (hN : Nodes w a l) (hl : l.length ≤ 1048576) :
    Calls Tryz.prog 51 #[.slice a l.length c] w fun e w' => e = .returned (.bool (hasQ l)) ∧ Below w.heap.size w w' := by
  have HN : Hid (Nodes w a l) := hN
  clear hN
  go_enter Tryz.func51, Tryz.ntmps51
  go_wp2
  go_loopw [7] (fun x wr => ∃ k : Nat, k ≤ l.length ∧ x = .int .i64 k ∧ (∀ i, i < k → quant (nth l i).op = false) ∧ Below w.heap.size w wr) (fun x _ => l.length - (intOf x).toNat)
  case atStart => exact ⟨0, Nat.zero_le _, rfl, fun i hi => by omega, Below.refl _ _⟩
  case round =>
    obtain ⟨k, hk, rfl, hq, hb⟩ := hrel
    have HQ : Hid (∀ i, i < k → quant (nth l i).op = false) := hq
    have HB : Hid (Below w.heap.size w wr) := hb
    clear hq hb
    by_cases hlt : k < l.length
    · have hlz : (k : Int) < (l.length : Int) := by omega
      rcases (HN.out.below HB.out).2 with h0 | ⟨xb, xo, rfl, hc⟩
      · omega
      obtain ⟨p0, p1, p2, p3, p4, p5⟩ := hc k hlt
      rw [nth_get hlt] at p0 p1 p2 p3 p4 p5
      clear hc
      have HX : Hid (quant (nth l k).op = true → hasQ l = true) := fun h => List.any_eq_true.2 ⟨k, List.mem_range.2 hlt, h⟩
      have HY : Hid (quant (nth l k).op = false → ∀ i, i < k + 1 → quant (nth l i).op = false) := fun h i hi => by
        by_cases e : i = k
        · subst e; exact h
        · exact HQ.out i (by omega)
      generalize nth l k = n at p0 p1 p2 p3 p4 p5 HX HY
      have HBX : Hid (Below w.heap.size w (wr.alloc (.cells #[.int .i64 n.op, .int .i64 n.w, .int .i64 n.k, .int .i64 n.a, .int .i64 n.b, .int .i64 n.c] 50))) := HB.out.alloc HB.out.size _
      cases hqu : quant n.op
      · go_wp2_with (go_at_call 66; refine (iQuant _ _).mono ?_; rintro e w' ⟨rfl, rfl⟩; rw [hqu])
        go_roundw
        case rel => exact ⟨k + 1, by omega, by go_num, HY.out hqu, HBX.out⟩
        case measure => simp [intOf]; omega
      · have HT : Hid (hasQ l = true) := HX.out hqu
        go_wp2_with (go_at_call 66; refine (iQuant _ _).mono ?_; rintro e w' ⟨rfl, rfl⟩; rw [hqu])
        go_ret
        exact ⟨ret_bool HT.out.symm, HBX.out⟩
    · have HF : Hid (hasQ l = false) := by
        show _ = _
        unfold hasQ
        rw [List.any_eq_false]
        intro i hi
        rw [HQ.out i (by have := List.mem_range.1 hi; omega)]; simp
      go_wp2
      go_ret
      exact ⟨ret_bool HF.out.symm, HB.out⟩
theorem hasQ_no {l : List Nd} (h : hasQ l = false) : ∀ i, i < l.length → quant (nth l i).op = false := by
  intro i hi
  unfold hasQ at h
  rw [List.any_eq_false] at h
  simpa using h i (List.mem_range.2 hi)
theorem hasQ_yes {l : List Nd} (h : hasQ l = true) : ∃ i, i < l.length ∧ quant (nth l i).op = true := by
  obtain ⟨i, h1, h2⟩ := List.any_eq_true.1 h
  exact ⟨i, List.mem_range.1 h1, h2⟩

end Go.Proofs.YtbnjndloeflgiaaGreat.Fp1

/- The program's varsAt: what the variables are at a place. -/
namespace Go.Proofs.YtbnjndloeflgiaaGreat.To1
open Go.RowKit
open Nd0 Qa0 Tm0 Tm1 Tm6 Rw0 Rw1 Kp1 Fr0 Fp1 To0
open Pl1 (p2)
open Fm1 (quAt)
set_option linter.unusedVariables false

def aggE (e : List Int) : Value := .agg #[.int .i64 (wd e 0), .int .i64 (wd e 1), .int .i64 (wd e 2), .int .i64 (wd e 3), .int .i64 (wd e 4), .int .i64 (wd e 5), .int .i64 (wd e 6), .int .i64 (wd e 7)]
set_option maxRecDepth 100000 in
set_option maxHeartbeats 1000000 in
theorem results_vars {w : World} {gr : Nat} {r : Nat → Int} {tmps : Array Value} (hp : tmps.getD 4 undef = .pointer (some ⟨gr, 0, none⟩)) (hc : ∀ v : Nat, v < 8 → w.cell? ⟨gr, v, none⟩ = some (.int .i64 (r v))) :
    (results Tryz.f27 tmps).run Tryz.prog w = .ok (aggI r) w := by
  have hr : w.rangeAt gr 0 (listI r) := fun j v hv => by
    rw [Nat.zero_add]
    have hj : j < 8 := by
      have := (List.getElem?_eq_some_iff.1 hv).1
      simpa [listI] using this
    rw [hc j hj]
    rcases (show j = 0 ∨ j = 1 ∨ j = 2 ∨ j = 3 ∨ j = 4 ∨ j = 5 ∨ j = 6 ∨ j = 7 by omega) with h | h | h | h | h | h | h | h <;> subst h <;> exact hv
  have hl := run_loadVar_mid (P := Tryz.prog) w gr 0 63 (listI r) _ hr Tryz.underlying63 rfl rfl
  have hp' : tmps[4]?.getD undef = .pointer (some ⟨gr, 0, none⟩) := by simpa using hp
  simp [results, hp', asAddr, hl]
  rfl
theorem row_list {w : World} {g : Nat} {ws us : List Int} (h : Row w g 8 (fun i => .int .i64 (wd ws (i : Int)))) (e : ws = us) : Row w g 8 (fun i => .int .i64 (wd us (i : Int))) := by rw [← e]; exact h
theorem past8 {w wr : World} {gr : Nat} (hb : Below w.heap.size w wr) (hg : w.heap.size ≤ gr) (v0 v1 v2 v3 v4 v5 v6 v7 : Value) : Below w.heap.size w ((((((((wr.setCell ⟨gr, 0, none⟩ v0).setCell ⟨gr, 1, none⟩ v1).setCell ⟨gr, 2, none⟩ v2).setCell ⟨gr, 3, none⟩ v3).setCell ⟨gr, 4, none⟩ v4).setCell ⟨gr, 5, none⟩ v5).setCell ⟨gr, 6, none⟩ v6).setCell ⟨gr, 7, none⟩ v7) :=
  hb.trans ((kept_set8 (S := fun b => b = gr) (Kept.refl _ wr) rfl v0 v1 v2 v3 v4 v5 v6 v7).below (fun b (h : b = gr) => by omega) hb.size)
theorem cut_mod (x b : Nat) (hb : b ≤ 8) : ((x : Int) % 256) % ((2 ^ b : Nat) : Int) = ((x % 2 ^ b : Nat) : Int) := by
  have h : (2 ^ b : Nat) ∣ 256 := by
    rcases (show b = 0 ∨ b = 1 ∨ b = 2 ∨ b = 3 ∨ b = 4 ∨ b = 5 ∨ b = 6 ∨ b = 7 ∨ b = 8 by omega) with h | h | h | h | h | h | h | h | h <;> subst h <;> decide
  have h2 : x % 256 % 2 ^ b = x % 2 ^ b := Nat.mod_mod_of_dvd x h
  rw [← h2]
  generalize 2 ^ b = m
  rw [Int.natCast_emod, Int.natCast_emod]
  rfl
theorem shr64 (x b : Nat) (hb : b ≤ 8) : Op.shift .shr .i64 (x : Int) .i64 (b : Int) = pure (.int .i64 ((x / 2 ^ b : Nat) : Int)) := by
  have hm : min ((b : Int)).toNat 64 = b := by omega
  have hn : ¬ (b : Int) < 0 := by omega
  simp only [Op.shift, IntKind.bits, hm, if_neg hn]
  have : (x : Int).fdiv (2 ^ b) = ((x / 2 ^ b : Nat) : Int) := by
    rw [Int.fdiv_eq_ediv_of_nonneg _ (Int.le_of_lt (Int.pow_pos (by decide)))]
    push_cast
    rfl
  rw [this]

set_option maxRecDepth 100000 in
set_option maxHeartbeats 8000000 in
theorem iVarsAt (w : World) (aq : Option Addr) (q : List Qu) (cq p : Nat) (hN : Qus w aq q) (hl : q.length ≤ 1048576) (hty : ∀ i, i < q.length → 0 ≤ (qth q i).vr ∧ (qth q i).vr ≤ 7 ∧ 1 ≤ (qth q i).bits ∧ (qth q i).bits ≤ 8) (hp : p ≤ 1048576) :
    Calls Tryz.prog 27 #[.slice aq q.length cq, .int .i64 (p : Int)] w fun e w' => e = .returned (aggE (envL q p)) ∧ Below w.heap.size w w' := by
  have HN : Hid (Qus w aq q) := hN
  have HTY : Hid (∀ i, i < q.length → 0 ≤ (qth q i).vr ∧ (qth q i).vr ≤ 7 ∧ 1 ≤ (qth q i).bits ∧ (qth q i).bits ≤ 8) := hty
  clear hN hty
  obtain ⟨gr, hgr⟩ : ∃ gr : Nat, gr = w.heap.size := ⟨_, rfl⟩
  obtain ⟨g, hg⟩ : ∃ g : Nat, g = w.heap.size + 1 := ⟨_, rfl⟩
  obtain ⟨z8, hz8⟩ : ∃ z8 : Obj, z8 = .cells #[.int .i64 0, .int .i64 0, .int .i64 0, .int .i64 0, .int .i64 0, .int .i64 0, .int .i64 0, .int .i64 0] 63 := ⟨_, rfl⟩
  obtain ⟨wa, hwa⟩ : ∃ wa : World, wa = (w.alloc z8).alloc z8 := ⟨_, rfl⟩
  have hsa : wa.heap.size = w.heap.size + 2 := by rw [hwa]; simp
  have hBz : Below w.heap.size w (w.alloc z8) := (Below.refl _ _).alloc (Nat.le_refl _) _
  have hBa : Below (w.alloc z8).heap.size (w.alloc z8) wa := by rw [hwa]; exact (Below.refl _ _).alloc (Nat.le_refl _) _
  have HBA : Hid (Below w.heap.size w wa) := hBz.trans (hBa.mono (by simp))
  have hnew : ∀ W : World, Row (W.alloc z8) W.heap.size 8 (fun i => .int .i64 (wd (List.replicate 8 0) (i : Int))) := fun W => by
    rw [hz8]
    exact Row.new _ _ _ _ _ (fun i hi => by
      rcases (show i = 0 ∨ i = 1 ∨ i = 2 ∨ i = 3 ∨ i = 4 ∨ i = 5 ∨ i = 6 ∨ i = 7 by omega) with h | h | h | h | h | h | h | h <;> subst h <;> rfl)
  have HR0 : Hid (Row wa g 8 (fun i => .int .i64 (wd (List.replicate 8 0) (i : Int)))) := by
    have h := hnew (w.alloc z8)
    rw [← hwa, show (w.alloc z8).heap.size = g by rw [hg]; simp] at h
    exact h
  have HRR : Hid (Row wa gr 8 (fun _ => .int .i64 0)) := by
    refine Row.below ?_ hBa
    rw [hgr]
    exact (hnew w).congr (fun i hi => by rw [wd_zero8 hi])
  have HG : Hid (gr = w.heap.size ∧ g = w.heap.size + 1 ∧ wa.heap.size = w.heap.size + 2) := ⟨hgr, hg, hsa⟩
  have hw1 : IntKind.i64.wrap ((q.length : Int) - 1) = (q.length : Int) - 1 := by rw [IntKind.wrap_i64] <;> omega
  rw [hz8] at hwa
  clear hBz hBa hnew hsa hz8
  go_enter Tryz.func27, Tryz.ntmps27
  go_wp2
  rw [← hwa, ← hg, ← hgr]
  clear hwa hg hgr
  go_loopw [6, 1] (fun x y wr => ∃ k pl : Nat, k ≤ q.length ∧ x = .int .i64 ((k : Int) - 1) ∧ y = .int .i64 (pl : Int) ∧ pl = p / 2 ^ bitL (q.drop k) ∧ Row wr g 8 (fun i => .int .i64 (wd (envL (q.drop k) p) (i : Int))) ∧ Kept (fun b => b = g) wa wr) (fun x _ _ => (intOf x + 1).toNat)
  case atStart => exact ⟨q.length, p, Nat.le_refl _, rfl, rfl, by rw [List.drop_length]; simp [bitL], row_list HR0.out (by rw [List.drop_length]; rfl), Kept.refl _ _⟩
  case round =>
    obtain ⟨k, pl, hk, rfl, rfl, hpl, hr, hkk⟩ := hrel
    have hpm : pl ≤ 1048576 := by rw [hpl]; exact Nat.le_trans (Nat.div_le_self _ _) hp
    have HPL : Hid (pl = p / 2 ^ bitL (q.drop k)) := hpl
    have HR : Hid (Row wr g 8 (fun i => .int .i64 (wd (envL (q.drop k) p) (i : Int)))) := hr
    have HK : Hid (Kept (fun b => b = g) wa wr) := hkk
    have HGR : Hid (gr < wr.heap.size ∧ g < wr.heap.size ∧ gr ≠ g) := by
      have h1 := HG.out
      have h2 := hkk.size
      exact ⟨by omega, by omega, by omega⟩
    have HBW : Hid (Below w.heap.size w wr) := by
      have h1 := HG.out
      exact HBA.out.trans (hkk.below (fun b (hb : b = g) => by omega) HBA.out.size)
    have HRG : Hid (Row wr gr 8 (fun _ => .int .i64 0)) := HRR.out.kept hkk (fun h => HGR.out.2.2 h)
    clear hpl hr hkk
    by_cases hlt : 0 < k
    · obtain ⟨j, rfl⟩ : ∃ j, k = j + 1 := ⟨k - 1, by omega⟩
      have hj : j < q.length := by omega
      have hbl : g ≠ (aq.map (·.block)).getD 0 ∨ True := .inr trivial
      obtain ⟨b, o, rfl, hc⟩ := quAt HN.out hj
      have hbw : b < w.heap.size := lt_of_cell (hc j hj).c0
      have hbg : b ≠ g := by have := HG.out; omega
      obtain ⟨_, p1', p2'⟩ := hc j hj
      have p1 : wr.cell? ⟨b, o + j * 3 + 1, none⟩ = some (.int .i64 (qth q j).vr) := by rw [HBW.out.cell (p := ⟨b, o + j * 3 + 1, none⟩) hbw]; exact p1'
      have p2 : wr.cell? ⟨b, o + j * 3 + 2, none⟩ = some (.int .i64 (qth q j).bits) := by rw [HBW.out.cell (p := ⟨b, o + j * 3 + 2, none⟩) hbw]; exact p2'
      clear hc p1' p2' hbl
      have HED : Hid _ := env_drop hj p
      have HBD : Hid _ := bit_drop hj
      obtain ⟨t1, t2, t3, t4⟩ := HTY.out j hj
      generalize (qth q j).vr = v at p1 t1 t2 HED
      generalize (qth q j).bits = bt at p2 t3 t4 HED HBD
      obtain ⟨vv, rfl⟩ := Int.eq_ofNat_of_zero_le t1
      obtain ⟨bb, rfl⟩ := Int.eq_ofNat_of_zero_le (show 0 ≤ bt by omega)
      simp only [Int.toNat_natCast] at HED HBD
      have hv8 : (vv : Int) < 8 := by omega
      have hb8 : bb ≤ 8 := by omega
      have hjz : ((j + 1 : Nat) : Int) - 1 = (j : Int) := by omega
      rw [hjz]
      have hge : (j : Int) ≥ 0 := by omega
      have hlz : (j : Int) < (q.length : Int) := by omega
      have hwu : IntKind.u8.wrap (pl : Int) = (pl : Int) % 256 := by rw [IntKind.wrap_u8]
      have hm0 : 0 ≤ (pl : Int) % 256 := by omega
      have hm1 : (pl : Int) % 256 ≤ 255 := by omega
      have hcm : (pl : Int) % 256 % Pl1.p2 ((bb : Nat) : Int).toNat = ((pl % 2 ^ bb : Nat) : Int) := by
        rw [Int.toNat_natCast]
        exact (by simpa [Pl1.p2] using cut_mod pl bb hb8)
      have HCT : Hid (∀ W : World, Calls Tryz.prog 53 #[.int .u8 ((pl : Int) % 256), .int .i64 ((bb : Nat) : Int)] W fun e w' => e = .returned (.int .u8 ((pl % 2 ^ bb : Nat) : Int)) ∧ w' = W) := fun W => (Wd1.cut _ _ W hm0 hm1 t3 t4).mono (fun e w' h => ⟨by rw [h.1, hcm], h.2⟩)
      have hlt2 : pl % 2 ^ bb < 256 := by
        have h1 := Nat.mod_lt pl (Nat.two_pow_pos bb)
        have h2 : 2 ^ bb ≤ 2 ^ 8 := Nat.pow_le_pow_right (by omega) hb8
        omega
      have hsh := shr64 pl bb hb8
      have HSH : Hid ((pl : Int) / 2 ^ bb = ((pl / 2 ^ bb : Nat) : Int)) := by show _ = _; push_cast; rfl
      have HPN : Hid (pl / 2 ^ bb = p / 2 ^ bitL (q.drop j)) := by
        show _ = _
        rw [HPL.out, HBD.out, Nat.div_div_eq_div_mul, ← Nat.pow_add, Nat.add_comm]
      have HEN : Hid (envL (q.drop j) p = (envL (q.drop (j + 1)) p).set vv ((pl % 2 ^ bb : Nat) : Int)) := by
        show _ = _
        rw [HED.out, HPL.out]
      clear HED HBD hcm hm0 hm1
      generalize hx : pl % 2 ^ bb = x at HCT HEN hlt2
      clear hx
      have hwx : IntKind.i64.wrap (x : Int) = (x : Int) := by rw [IntKind.wrap_i64] <;> omega
      obtain ⟨c1, c2⟩ := HR.out vv (by omega)
      dsimp only at c1
      generalize wd (envL (q.drop (j + 1)) p) (vv : Int) = old at c1
      have s1 : ((wr.setCell ⟨g, vv, none⟩ (.int .i64 (x : Int))).drew).cell? ⟨b, o + j * 3 + 1, none⟩ = some (.int .i64 (vv : Int)) := (set_other (fun e => hbg (congrArg Addr.block e).symm)).trans p1
      have s2 : ((wr.setCell ⟨g, vv, none⟩ (.int .i64 (x : Int))).drew).cell? ⟨b, o + j * 3 + 2, none⟩ = some (.int .i64 (bb : Int)) := (set_other (fun e => hbg (congrArg Addr.block e).symm)).trans p2
      have HR9 : Hid (Row (wr.setCell ⟨g, vv, none⟩ (.int .i64 (x : Int))).drew g 8 (fun i => .int .i64 (wd (envL (q.drop j) p) (i : Int)))) := Row.drew (row_list (row_set_int HR.out (env_len _ _) (by omega) _) HEN.out.symm)
      have HK9 : Hid (Kept (fun b => b = g) wa (wr.setCell ⟨g, vv, none⟩ (.int .i64 (x : Int))).drew) := (HK.out.setCell (p := ⟨g, vv, none⟩) rfl _).drew
      go_wp2_with fail
      go_region_held (fun w' => w'.cell? ⟨b, o + j * 3 + 1, none⟩ = some (.int .i64 (vv : Int)) ∧ w'.cell? ⟨b, o + j * 3 + 2, none⟩ = some (.int .i64 (bb : Int))) ((first | exact ⟨p1, p2⟩ | exact ⟨s1, s2⟩)) ((go_at_call 53; refine (HCT.out _).mono ?_; rintro e wn ⟨rfl, rfl⟩))
      go_wp2
      go_roundw
      case rel => exact ⟨j, pl / 2 ^ bb, by omega, by go_num, by rw [HSH.out], HPN.out, HR9.out, HK9.out⟩
      case measure => simp [intOf] <;> omega
    · obtain rfl : k = 0 := by omega
      have hge : ¬ ((0 : Nat) : Int) - 1 ≥ 0 := by omega
      obtain ⟨r, hr⟩ : ∃ r : Nat → Int, r = fun (v : Nat) => wd (envL q p) (v : Int) := ⟨_, rfl⟩
      have HRr : Hid (Row wr g 8 (fun i => .int .i64 (r i))) := by rw [hr]; exact HR.out
      have HAG : Hid (aggI r = aggE (envL q p)) := by rw [hr]; rfl
      clear hr
      obtain ⟨e0, _⟩ := HRr.out 0 (by omega)
      obtain ⟨e1, _⟩ := HRr.out 1 (by omega)
      obtain ⟨e2, _⟩ := HRr.out 2 (by omega)
      obtain ⟨e3, _⟩ := HRr.out 3 (by omega)
      obtain ⟨e4, _⟩ := HRr.out 4 (by omega)
      obtain ⟨e5, _⟩ := HRr.out 5 (by omega)
      obtain ⟨e6, _⟩ := HRr.out 6 (by omega)
      obtain ⟨e7, _⟩ := HRr.out 7 (by omega)
      obtain ⟨k0, f0⟩ := HRG.out 0 (by omega)
      obtain ⟨k1, f1⟩ := HRG.out 1 (by omega)
      obtain ⟨k2, f2⟩ := HRG.out 2 (by omega)
      obtain ⟨k3, f3⟩ := HRG.out 3 (by omega)
      obtain ⟨k4, f4⟩ := HRG.out 4 (by omega)
      obtain ⟨k5, f5⟩ := HRG.out 5 (by omega)
      obtain ⟨k6, f6⟩ := HRG.out 6 (by omega)
      obtain ⟨k7, f7⟩ := HRG.out 7 (by omega)
      go_wp2
      try simp only [Exit.inBlock, Exit.then]
      refine bodyPost_ret (results_vars (r := r) rfl (row_set8 HRG.out r)) rfl ?_
      refine ⟨by rw [HAG.out], ?_⟩
      exact past8 HBW.out (by have := HG.out; omega) _ _ _ _ _ _ _ _

end Go.Proofs.YtbnjndloeflgiaaGreat.To1
