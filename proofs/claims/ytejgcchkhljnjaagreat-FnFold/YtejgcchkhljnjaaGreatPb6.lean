/- What the program's constantOf makes of a node whose parts are constants. -/
import Derived.Lib.QuietBelow
import Derived.BigQuiet
import Derived.Test.YtejgcchkhljnjaaGreatPkFO28
import Derived.Test.YtejgcchkhljnjaaGreatPkFO19
import Derived.Test.YtejgcchkhljnjaaGreatPkFO17
import Derived.Test.YtejgcchkhljnjaaGreatPkFO24
namespace Go.Proofs.YtejgcchkhljnjaaGreat.Pb6
open Go.RowKit
open Nd0 Nd3 Pl1 Tm0 Tm1 Tm5 Tm8 Rw0 Pg1 Aq0 Aq1 Aw2 Vl1 Ic4
open Aw1 (nv)
open Go.Sort (grow)
set_option linter.unusedVariables false

set_option maxRecDepth 100000 in
theorem res_const {w : World} {g : Nat} {n : Nd} {b : Bool} {tmps : Array Value} (hp : tmps.getD 4 undef = .pointer (some ⟨g, 0, none⟩)) (hq : tmps.getD 5 undef = .bool b) (h : NodeAt w g 0 n) :
    (results Tryz.f48 tmps).run Tryz.prog w = .ok (.tuple #[nv n, .bool b]) w := by
  have hr : w.rangeAt g 0 [.int .i64 n.op, .int .i64 n.w, .int .i64 n.k, .int .i64 n.a, .int .i64 n.b, .int .i64 n.c] := fun j v hv => by
    rw [Nat.zero_add]
    have hj : j < 6 := by
      have := (List.getElem?_eq_some_iff.1 hv).1
      simpa using this
    rcases (show j = 0 ∨ j = 1 ∨ j = 2 ∨ j = 3 ∨ j = 4 ∨ j = 5 by omega) with h' | h' | h' | h' | h' | h' <;> subst h'
    · rw [← hv]; exact h.c0
    · rw [← hv]; exact h.c1
    · rw [← hv]; exact h.c2
    · rw [← hv]; exact h.c3
    · rw [← hv]; exact h.c4
    · rw [← hv]; exact h.c5
  have hl := run_loadVar_mid (P := Tryz.prog) w g 0 53 _ _ hr Tryz.underlying53 rfl rfl
  have hp' : tmps[4]?.getD undef = .pointer (some ⟨g, 0, none⟩) := by simpa using hp
  have hq' : tmps[5]?.getD undef = .bool b := by simpa using hq
  simp [results, hp', hq', asAddr, hl]

structure Cst (w : World) (n : Nd) (W : World) (f : Nat → Int) : Prop where
  bel : Below w.heap.size w W
  n2 : NodeAt W w.heap.size 0 n
  n4 : NodeAt W (w.heap.size + 1) 0 Nd.zero
  f4 : ∀ j, W.frozen? ⟨w.heap.size + 1, j, none⟩ = false
  v6 : Row W (w.heap.size + 1 + 1) 3 (fun i => .int .i64 (f i))
theorem Cst.below {w W W' : World} {n : Nd} {f : Nat → Int} (h : Cst w n W f) (k : Below W.heap.size W W') : Cst w n W' f :=
  ⟨h.bel.trans (k.mono h.bel.size), h.n2.below k h.n2.lt, h.n4.below k h.n4.lt, fun j => by rw [k.frozen h.n4.lt]; exact h.f4 j, h.v6.below k⟩
theorem Cst.set {w W : World} {n : Nd} {f : Nat → Int} (h : Cst w n W f) {i : Nat} (hi : i < 3) (x : Int) : Cst w n (W.setCell ⟨w.heap.size + 1 + 1, i, none⟩ (.int .i64 x)) (fun j => if j = i then x else f j) := by
  have k : Kept (fun b => b = w.heap.size + 1 + 1) W (W.setCell ⟨w.heap.size + 1 + 1, i, none⟩ (.int .i64 x)) := (Kept.refl (fun b => b = w.heap.size + 1 + 1) W).setCell (p := ⟨w.heap.size + 1 + 1, i, none⟩) rfl _
  refine ⟨h.bel.trans (k.below (fun b (hb : b = _) => by omega) h.bel.size), Pb3.nodeAt_kept h.n2 k (by omega), Pb3.nodeAt_kept h.n4 k (by omega), fun j => by rw [k.frozen (p := ⟨w.heap.size + 1, j, none⟩) h.n4.lt (by simp)]; exact h.f4 j, (h.v6.set hi _).congr (fun j hj => ?_)⟩
  by_cases e : j = i
  · simp [e]
  · simp [e]
theorem Cst.fin {w W : World} {n : Nd} {f : Nat → Int} (h : Cst w n W f) (y : Nd) : Below w.heap.size w (setNode W (w.heap.size + 1) 0 y) ∧ NodeAt (setNode W (w.heap.size + 1) 0 y) (w.heap.size + 1) 0 y := by
  have k := setNode_keptS (S := fun b => b = w.heap.size + 1) (b := w.heap.size + 1) (p := 0) (n := y) rfl (Kept.refl (fun b => b = w.heap.size + 1) W)
  exact ⟨h.bel.trans (k.below (fun b (hb : b = _) => by omega) h.bel.size), setNode_same h.n4⟩

def conR (n : Nd) (ps : List Nd) : Nd := if conB n ps then conN n ps else Nd.zero
theorem conB_bad {n : Nd} {ps : List Nd} {m : Nat} (h : m < ps.length) (ho : ((nth ps m).op == 0) = false) : conB n ps = false := by
  unfold conB
  have : (ps.all fun p => p.op == 0) = false := by
    rw [List.all_eq_false]
    exact ⟨ps[m], List.getElem_mem h, by rw [nth_get h]; simpa using ho⟩
  rw [this, Bool.and_false]

set_option maxRecDepth 100000 in
set_option maxHeartbeats 4000000 in
theorem iConst (hAP : IApply) (n : Nd) (a : Option Addr) (ps : List Nd) (c : Nat) (w : World) (hN : Nodes w a ps) (h3 : ps.length ≤ 3) (hwf : (Lit.int .i64 n.k).wf = true) :
    Calls Tryz.prog 48 #[nv n, .slice a ps.length c] w fun e w' => e = .returned (.tuple #[nv (conR n ps), .bool (conB n ps)]) ∧ Below w.heap.size w w' := by
  have HAP : Hid IApply := hAP
  have HWF : Hid ((Lit.int .i64 n.k).wf = true) := hwf
  obtain ⟨W1, hW1⟩ : ∃ W1 : World, W1 = w.alloc (.cells #[.int .i64 n.op, .int .i64 n.w, .int .i64 n.k, .int .i64 n.a, .int .i64 n.b, .int .i64 n.c] 53) := ⟨_, rfl⟩
  obtain ⟨W2, hW2⟩ : ∃ W2 : World, W2 = W1.alloc (.cells #[.int .i64 0, .int .i64 0, .int .i64 0, .int .i64 0, .int .i64 0, .int .i64 0] 53) := ⟨_, rfl⟩
  obtain ⟨W, hW⟩ : ∃ W : World, W = W2.alloc (.cells #[.int .i64 0, .int .i64 0, .int .i64 0] 99) := ⟨_, rfl⟩
  have HC : Hid (Cst w n W (fun _ => 0)) := by
    have s1 : W1.heap.size = w.heap.size + 1 := by rw [hW1]; simp
    have s2 : W2.heap.size = w.heap.size + 1 + 1 := by rw [hW2]; simp [s1]
    have b1 : Below w.heap.size w W1 := by rw [hW1]; exact (Below.refl _ _).alloc (Nat.le_refl _) _
    have b2 : Below W1.heap.size W1 W2 := by rw [hW2]; exact (Below.refl _ _).alloc (Nat.le_refl _) _
    have b3 : Below W2.heap.size W2 W := by rw [hW]; exact (Below.refl _ _).alloc (Nat.le_refl _) _
    have n1 : NodeAt W1 w.heap.size 0 n := by rw [hW1]; exact ⟨by simp, by simp, by simp, by simp, by simp, by simp⟩
    have n2 : NodeAt W2 (w.heap.size + 1) 0 Nd.zero := by rw [← s1, hW2]; exact ⟨by simp [Nd.zero], by simp [Nd.zero], by simp [Nd.zero], by simp [Nd.zero], by simp [Nd.zero], by simp [Nd.zero]⟩
    refine ⟨b1.trans ((b2.mono (by omega)).trans (b3.mono (by omega))), (n1.below b2 (by omega)).below b3 (by omega), n2.below b3 (by omega), fun j => ?_, ?_⟩
    · rw [b3.frozen (by simp; omega), ← s1, hW2]; simp
    · rw [← s2, hW]
      refine Row.new _ _ _ _ _ (fun i hi => ?_)
      rcases (show i = 0 ∨ i = 1 ∨ i = 2 by omega) with h | h | h <;> subst h <;> rfl
  have HN0 : Hid (Nodes w a ps) := hN
  have HCR : Hid (conR n ps = if conB n ps then conN n ps else Nd.zero) := rfl
  clear hN hAP hwf
  go_enter Tryz.func48, Tryz.ntmps48
  go_upto_region 2 with fail
  rw [← hW1, ← hW2, ← hW]
  clear hW1 hW2 hW
  go_wp2_with fail
  go_loopw [12] (fun q wr => ∃ m : Nat, m ≤ ps.length ∧ q = .int .i64 m ∧ Cst w n wr (fun i => if i < m then (nth ps i).k else 0) ∧ ∀ i, i < m → ((nth ps i).op == 0) = true) (fun q _ => ps.length - (intOf q).toNat)
  case atStart => exact ⟨0, Nat.zero_le _, rfl, HC.out, fun i hi => by omega⟩
  case round =>
    clear HC
    obtain ⟨m, hm, rfl, hc, hall⟩ := hrel
    have HC : Hid (Cst w n wr (fun i => if i < m then (nth ps i).k else 0)) := hc
    have HN : Hid (Nodes wr a ps) := HN0.out.below hc.bel
    have HA : Hid (∀ i, i < m → ((nth ps i).op == 0) = true) := hall
    clear hc hall
    by_cases hlt : m < ps.length
    · have hmz : (m : Int) < (ps.length : Int) := by omega
      rcases HN.out.2 with h0 | ⟨xb, xo, rfl, hx⟩
      · omega
      obtain ⟨p0, p1, p2, p3, p4, p5⟩ := hx m hlt
      rw [nth_get hlt] at p0 p1 p2 p3 p4 p5
      have HBAD : Hid (((nth ps m).op == 0) = false → conB n ps = false) := fun h => conB_bad hlt h
      have HGOOD : Hid (((nth ps m).op == 0) = true → ∀ i, i < m + 1 → ((nth ps i).op == 0) = true) := fun h i hi => by
        by_cases e : i = m
        · subst e; exact h
        · exact HA.out i (by omega)
      have HK : Hid (∀ i, (if i < m + 1 then (nth ps i).k else 0) = if i = m then (nth ps m).k else if i < m then (nth ps i).k else 0) := fun i => by
        by_cases e : i = m
        · subst e; simp
        · rw [if_neg e]
          by_cases e2 : i < m
          · rw [if_pos e2, if_pos (by omega)]
          · rw [if_neg e2, if_neg (by omega)]
      generalize hf : (fun i => if i < m then (nth ps i).k else 0) = f at HC
      have HKF : Hid (∀ i, (if i < m + 1 then (nth ps i).k else 0) = if i = m then (nth ps m).k else f i) := fun i => by rw [← hf]; exact HK.out i
      generalize nth ps m = x at p0 p1 p2 p3 p4 p5 HBAD HGOOD HKF
      clear hx HK hf
      obtain ⟨W1, hW1⟩ : ∃ W1 : World, W1 = wr.alloc (.cells #[.int .i64 x.op, .int .i64 x.w, .int .i64 x.k, .int .i64 x.a, .int .i64 x.b, .int .i64 x.c] 53) := ⟨_, rfl⟩
      have HB1 : Hid (Below wr.heap.size wr W1) := by rw [hW1]; exact (Below.refl _ _).alloc (Nat.le_refl _) _
      have q0 : W1.cell? ⟨wr.heap.size, 0, none⟩ = some (.int .i64 x.op) := by rw [hW1]; simp
      have q2 : W1.cell? ⟨wr.heap.size, 2, none⟩ = some (.int .i64 x.k) := by rw [hW1]; simp
      have HC1 : Hid (Cst w n W1 f) := HC.out.below HB1.out
      have hm3 : (m : Int) < 3 := by omega
      obtain ⟨v0, v1⟩ := HC1.out.v6 m (by omega)
      obtain ⟨r0, r1, r2, r3, r4, r5⟩ := HC1.out.n4
      simp only [Nat.zero_add] at r1 r2 r3 r4 r5
      have f0 := HC1.out.f4 0
      have f1 := HC1.out.f4 1
      have f2 := HC1.out.f4 2
      have f3 := HC1.out.f4 3
      have f4 := HC1.out.f4 4
      have f5 := HC1.out.f4 5
      go_upto_region 5 with fail
      rw [← hW1]
      clear hW1 p0 p1 p2 p3 p4 p5
      cases hop : (x.op == 0)
      · have HF : Hid (conB n ps = false) := HBAD.out hop
        have hne : (x.op != 0) = true := by simpa using hop
        clear hop HBAD HGOOD
        go_wp2_with fail
        have HE : Hid (Below w.heap.size w (setNode W1 (w.heap.size + 1) 0 Nd.zero) ∧ NodeAt (setNode W1 (w.heap.size + 1) 0 Nd.zero) (w.heap.size + 1) 0 Nd.zero) := HC1.out.fin Nd.zero
        refine bodyPost_ret (v := .tuple #[nv Nd.zero, .bool false]) (res_const (g := w.heap.size + 1) (n := Nd.zero) rfl rfl HE.out.2) rfl ?_
        rw [HCR.out, HF.out]
        exact ⟨rfl, HE.out.1⟩
      · have hne : (x.op != 0) = false := by simpa using hop
        have HG2 : Hid (∀ i, i < m + 1 → ((nth ps i).op == 0) = true) := HGOOD.out hop
        clear hop HBAD HGOOD r0 r1 r2 r3 r4 r5 f0 f1 f2 f3 f4 f5
        go_wp2_with fail
        go_roundw
        case rel =>
          refine ⟨m + 1, by omega, by go_num, ?_, HG2.out⟩
          have h9 := HC1.out.set (i := m) (by omega) x.k
          have e : (fun i => if i < m + 1 then (nth ps i).k else 0) = (fun j => if j = m then x.k else f j) := funext HKF.out
          rw [e]; exact h9
        case measure => simp [intOf]; omega
    · have e : m = ps.length := by omega
      subst e
      have HALL : Hid (ps.all (fun p => p.op == 0) = true) := by
        show _ = _
        rw [List.all_eq_true]
        intro x hx
        obtain ⟨i, hi, rfl⟩ := List.getElem_of_mem hx
        have := HA.out i hi
        rw [nth_get hi]; exact this
      have HCB : Hid (conB n ps = (decide (0 < ps.length) && !quant n.op)) := by show _ = _; unfold conB; rw [HALL.out, Bool.and_true]
      obtain ⟨r0, r1, r2, r3, r4, r5⟩ := HC.out.n4
      simp only [Nat.zero_add] at r1 r2 r3 r4 r5
      obtain ⟨p0, p1, p2, p3, p4, p5⟩ := HC.out.n2
      simp only [Nat.zero_add] at p1 p2 p3 p4 p5
      have f0 := HC.out.f4 0
      have f1 := HC.out.f4 1
      have f2 := HC.out.f4 2
      have f3 := HC.out.f4 3
      have f4 := HC.out.f4 4
      have f5 := HC.out.f4 5
      have HE : Hid (Below w.heap.size w (setNode wr (w.heap.size + 1) 0 Nd.zero) ∧ NodeAt (setNode wr (w.heap.size + 1) 0 Nd.zero) (w.heap.size + 1) 0 Nd.zero) := HC.out.fin Nd.zero
      by_cases h0 : ps.length = 0
      · have hz : ((ps.length : Int) == 0) = true := beq_iff_eq.2 (by omega)
        have HF : Hid (conB n ps = false) := by show _ = _; rw [HCB.out, h0]; rfl
        clear h0
        go_wp2_with fail
        refine bodyPost_ret (v := .tuple #[nv Nd.zero, .bool false]) (res_const (g := w.heap.size + 1) (n := Nd.zero) rfl rfl HE.out.2) rfl ?_
        rw [HCR.out, HF.out]
        exact ⟨rfl, HE.out.1⟩
      · have hz : ((ps.length : Int) == 0) = false := beq_eq_false_iff_ne.2 (by omega)
        have hnil : ¬ ps = [] := fun h => h0 (by rw [h]; rfl)
        cases hq : quant n.op
        · have HF : Hid (conB n ps = true) := by show _ = _; rw [HCB.out, hq, decide_eq_true (by omega)]; rfl
          have HKO : Hid (∀ i, (if i < ps.length then (nth ps i).k else 0) = kOf ps i) := fun i => by
            unfold kOf
            by_cases e : i < ps.length
            · rw [if_pos e]; rfl
            · rw [if_neg e, List.getD_eq_getElem?_getD, List.getElem?_eq_none (by omega)]; rfl
          have HV : Hid (∀ i, i < 3 → wr.cell? ⟨w.heap.size + 1 + 1, i, none⟩ = some (.int .i64 (kOf ps i))) := fun i hi => by
            rw [← HKO.out i]; exact (HC.out.v6 i hi).1
          rcases HN.out.2 with h9 | ⟨xb, xo, rfl, hx⟩
          · omega
          obtain ⟨-, w1, -, -, -, -⟩ := hx 0 (by omega)
          have HW0 : Hid (wr.cell? ⟨xb, xo + 1, none⟩ = some (.int .i64 (ps.getD 0 Nd.zero).w)) := by
            show _ = _
            rw [nth_get (by omega)] at w1
            rw [show ps.getD 0 Nd.zero = nth ps 0 from rfl]
            simpa using w1
          obtain ⟨y, hy⟩ : ∃ y : Int, y = applyL n.op n.w n.k (ps.getD 0 Nd.zero).w (kOf ps 0) (kOf ps 1) (kOf ps 2) := ⟨_, rfl⟩
          have HQ : Hid (∀ d os, Calls Tryz.prog 98 #[nv n, .int .i64 (ps.getD 0 Nd.zero).w, .int .i64 (kOf ps 0), .int .i64 (kOf ps 1), .int .i64 (kOf ps 2)] (grow (redrawn wr d) os) fun e w'' => e = .returned (.int .i64 y) ∧ ∃ p : Regrown, w'' = grow (redrawn wr p.d) p.os) := fun d os => by
            rw [hy]; exact Calls.regrown_of (HAP.out n _ _ _ _ _ HWF.out)
          have HCN : Hid (conN n ps = ⟨0, n.w, y, 0, 0, 0⟩) := by show _ = _; unfold conN; rw [hy]
          clear hy hx w1 HKO HALL HCB
          generalize (ps.getD 0 Nd.zero).w = ww at HW0 HQ
          have x0 : ∀ d os, (grow (redrawn wr d) os).cell? ⟨w.heap.size + 1 + 1, 0, none⟩ = some (.int .i64 (kOf ps 0)) := fun d os => cell_regrown (HV.out 0 (by omega)) d os
          have x1 : ∀ d os, (grow (redrawn wr d) os).cell? ⟨w.heap.size + 1 + 1, 1, none⟩ = some (.int .i64 (kOf ps 1)) := fun d os => cell_regrown (HV.out 1 (by omega)) d os
          have x2 : ∀ d os, (grow (redrawn wr d) os).cell? ⟨w.heap.size + 1 + 1, 2, none⟩ = some (.int .i64 (kOf ps 2)) := fun d os => cell_regrown (HV.out 2 (by omega)) d os
          have xw : ∀ d os, (grow (redrawn wr d) os).cell? ⟨xb, xo + 1, none⟩ = some (.int .i64 ww) := fun d os => cell_regrown HW0.out d os
          have y0 : ∀ d os, (grow (redrawn wr d) os).cell? ⟨w.heap.size, 0, none⟩ = some (.int .i64 n.op) := fun d os => cell_regrown p0 d os
          have y1 : ∀ d os, (grow (redrawn wr d) os).cell? ⟨w.heap.size, 1, none⟩ = some (.int .i64 n.w) := fun d os => cell_regrown p1 d os
          have y2 : ∀ d os, (grow (redrawn wr d) os).cell? ⟨w.heap.size, 2, none⟩ = some (.int .i64 n.k) := fun d os => cell_regrown p2 d os
          have y3 : ∀ d os, (grow (redrawn wr d) os).cell? ⟨w.heap.size, 3, none⟩ = some (.int .i64 n.a) := fun d os => cell_regrown p3 d os
          have y4 : ∀ d os, (grow (redrawn wr d) os).cell? ⟨w.heap.size, 4, none⟩ = some (.int .i64 n.b) := fun d os => cell_regrown p4 d os
          have y5 : ∀ d os, (grow (redrawn wr d) os).cell? ⟨w.heap.size, 5, none⟩ = some (.int .i64 n.c) := fun d os => cell_regrown p5 d os
          generalize kOf ps 0 = k0 at HQ x0
          generalize kOf ps 1 = k1 at HQ x1
          generalize kOf ps 2 = k2 at HQ x2
          have hl0 : (0 : Int) < (ps.length : Int) := by omega
          go_upto_region 11 with (go_at_call 97; refine (iQuant _ _).mono ?_; rintro e w' ⟨rfl, hz1⟩; have hz2 := hz1.symm; clear hz1; subst hz2; rw [hq])
          refine wp_region_quiet_below (by kernel_rfl) (by kernel_rfl) ?_
          iterate 13 (go_big_quiet_step ((go_at_call 98; exact HQ.out _ _)))
          refine wpQuiet_nil ?_
          intro w4 hw9
          have hb4 : Below wr.heap.size wr w4 := by obtain ⟨pp, hw8⟩ := hw9; subst hw8; exact below_regrown wr pp.d pp.os
          have HC4 : Hid (Cst w n w4 (fun i => if i < ps.length then (nth ps i).k else 0)) := HC.out.below hb4
          clear hw9 hb4 x0 x1 x2 xw y0 y1 y2 y3 y4 y5 p0 p1 p2 p3 p4 p5 r0 r1 r2 r3 r4 r5 f0 f1 f2 f3 f4 f5 HE HC HV
          obtain ⟨-, p1, -, -, -, -⟩ := HC4.out.n2
          simp only [Nat.zero_add] at p1
          obtain ⟨r0, r1, r2, r3, r4, r5⟩ := HC4.out.n4
          simp only [Nat.zero_add] at r1 r2 r3 r4 r5
          have f0 := HC4.out.f4 0
          have f1 := HC4.out.f4 1
          have f2 := HC4.out.f4 2
          have f3 := HC4.out.f4 3
          have f4 := HC4.out.f4 4
          have f5 := HC4.out.f4 5
          go_wp2_with fail
          have HE : Hid (Below w.heap.size w (setNode w4 (w.heap.size + 1) 0 ⟨0, n.w, y, 0, 0, 0⟩) ∧ NodeAt (setNode w4 (w.heap.size + 1) 0 ⟨0, n.w, y, 0, 0, 0⟩) (w.heap.size + 1) 0 ⟨0, n.w, y, 0, 0, 0⟩) := HC4.out.fin ⟨0, n.w, y, 0, 0, 0⟩
          refine bodyPost_ret (v := .tuple #[nv ⟨0, n.w, y, 0, 0, 0⟩, .bool true]) (res_const (g := w.heap.size + 1) (n := ⟨0, n.w, y, 0, 0, 0⟩) rfl rfl HE.out.2) rfl ?_
          rw [HCR.out, HF.out, if_pos rfl, HCN.out]
          exact ⟨rfl, HE.out.1⟩
        · have HF : Hid (conB n ps = false) := by show _ = _; rw [HCB.out, hq]; simp
          go_wp2_with (go_at_call 97; refine (iQuant _ _).mono ?_; rintro e w' ⟨rfl, rfl⟩; rw [hq])
          refine bodyPost_ret (v := .tuple #[nv Nd.zero, .bool false]) (res_const (g := w.heap.size + 1) (n := Nd.zero) rfl rfl HE.out.2) rfl ?_
          rw [HCR.out, HF.out]
          exact ⟨rfl, HE.out.1⟩

end Go.Proofs.YtejgcchkhljnjaaGreat.Pb6
