/- Small texts of mine, one behind the other. -/
import Derived.Shelf.Abstract
import Derived.Test.YtejgcchkhljnjaaGreatPb6
import Derived.Test.YtejgcchkhljnjaaGreatPkFO24
import Derived.Test.YtejgcchkhljnjaaGreatPkFO18
import Derived.Test.YtejgcchkhljnjaaGreatPkFO14
import Derived.Test.YtejgcchkhljnjaaGreatPkFO20
import Derived.Test.YtejgcchkhljnjaaGreatPkFO17
import Derived.Test.YtejgcchkhljnjaaGreatAm6
import Derived.Test.YtejgcchkhljnjaaGreatPkFO28
/- The program's Fold. -/
namespace Go.Proofs.YtejgcchkhljnjaaGreat.Pb7
open Go.RowKit
open Nd0 Nd3 Pl1 Tm0 Tm1 Tm3 Tm5 Tm8 Pg1 Aq0 Aq1 Aw2 Vl1 Ic4 Pb6
open Vm0 (wf_small node_k)
open Aw1 (nv)
open Lx1 (ITermOk)
open Lx4 (IPrune)
set_option linter.unusedVariables false

set_option maxRecDepth 100000 in
theorem res_fold {w : World} {g : Nat} {n : Nd} {tmps : Array Value} (hp : tmps.getD 6 undef = .pointer (some ⟨g, 0, none⟩)) (h : NodeAt w g 0 n) :
    (results Tryz.f47 tmps).run Tryz.prog w = .ok (nv n) w := by
  have hr : w.rangeAt g 0 [.int .i64 n.op, .int .i64 n.w, .int .i64 n.k, .int .i64 n.a, .int .i64 n.b, .int .i64 n.c] := fun j v hv => by
    rw [Nat.zero_add]
    have hj : j < 6 := by
      have := (List.getElem?_eq_some_iff.1 hv).1
      simpa using this
    rcases (show j = 0 ∨ j = 1 ∨ j = 2 ∨ j = 3 ∨ j = 4 ∨ j = 5 by omega) with h' | h' | h' | h' | h' | h' <;> subst h'
    · rw [← hv]; exact h.c0
    · rw [← hv]; exact h.c1
    · rw [← hv]; exact h.c2
    · rw [← hv]; exact h.c3
    · rw [← hv]; exact h.c4
    · rw [← hv]; exact h.c5
  have hl := run_loadVar_mid (P := Tryz.prog) w g 0 53 _ _ hr Tryz.underlying53 rfl rfl
  have hp' : tmps[6]?.getD undef = .pointer (some ⟨g, 0, none⟩) := by simpa using hp
  simp [results, hp', asAddr, hl]

set_option maxRecDepth 100000 in
set_option maxHeartbeats 4000000 in
theorem iFold1 (hAP : IApply) (i : Int) (n : Nd) (a : Option Addr) (c : Nat) (ps : List Nd) (w : World) (hN : Nodes w a ps) (h3 : ps.length ≤ 3) (hwf : (Lit.int .i64 n.k).wf = true) (j : Nat) :
    Calls Tryz.prog 47 (#[.int .i64 i, nv n, .slice a ps.length c] ++ #[]) w fun e w' => e = .returned (nv (foldF j n ps)) ∧ Below w.heap.size w w' := by
  obtain ⟨W1, hW1⟩ : ∃ W1 : World, W1 = w.alloc (.cells #[.int .i64 n.op, .int .i64 n.w, .int .i64 n.k, .int .i64 n.a, .int .i64 n.b, .int .i64 n.c] 53) := ⟨_, rfl⟩
  obtain ⟨W, hW⟩ : ∃ W : World, W = W1.alloc (.cells #[.int .i64 0, .int .i64 0, .int .i64 0, .int .i64 0, .int .i64 0, .int .i64 0] 53) := ⟨_, rfl⟩
  have hs1 : W1.heap.size = w.heap.size + 1 := by rw [hW1]; simp
  have hs2 : W.heap.size = w.heap.size + 2 := by rw [hW]; simp [hs1]
  have HBW : Hid (Below w.heap.size w W) := by rw [hW, hW1]; exact ((Below.refl _ _).alloc (Nat.le_refl _) _).alloc (by simp) _
  have HG4 : Hid (NodeAt W w.heap.size 0 n) := by
    have h1 : NodeAt W1 w.heap.size 0 n := by rw [hW1]; exact ⟨by simp, by simp, by simp, by simp, by simp, by simp⟩
    have hbb : Below W1.heap.size W1 W := by rw [hW]; exact (Below.refl _ _).alloc (Nat.le_refl _) _
    exact h1.below hbb (by omega)
  have HG6 : Hid (NodeAt W (w.heap.size + 1) 0 Nd.zero ∧ ∀ j, W.frozen? ⟨w.heap.size + 1, j, none⟩ = false) := by
    rw [← hs1, hW]
    exact ⟨⟨by simp [Nd.zero], by simp [Nd.zero], by simp [Nd.zero], by simp [Nd.zero], by simp [Nd.zero], by simp [Nd.zero]⟩, fun j => by simp⟩
  have HCO : Hid (Calls Tryz.prog 48 #[nv n, .slice a ps.length c] W fun e w' => e = .returned (.tuple #[nv (conR n ps), .bool (conB n ps)]) ∧ Below W.heap.size W w') := iConst hAP n a ps c W (hN.below HBW.out) h3 hwf
  have HFO : Hid (foldF j n ps = if conB n ps then conN n ps else n) := rfl
  have HCR : Hid (conR n ps = if conB n ps then conN n ps else Nd.zero) := rfl
  obtain ⟨q0, q1, q2, q3, q4, q5⟩ := HG4.out
  simp only [Nat.zero_add] at q1 q2 q3 q4 q5
  clear hN hAP hwf h3
  go_enter Tryz.func47, Tryz.ntmps47
  go_upto_region 1 with fail
  rw [← hW1, ← hW]
  clear hW1 hW
  go_wp2_with fail
  refine (HCO.out).mono ?_
  rintro e w1 ⟨rfl, hb1⟩
  have HB1 : Hid (Below w.heap.size w w1) := HBW.out.trans (hb1.mono (by omega))
  have H4 : Hid (NodeAt w1 w.heap.size 0 n) := HG4.out.below hb1 (by omega)
  have H6 : Hid (NodeAt w1 (w.heap.size + 1) 0 Nd.zero ∧ ∀ j, w1.frozen? ⟨w.heap.size + 1, j, none⟩ = false) := ⟨HG6.out.1.below hb1 (by omega), fun j => by rw [hb1.frozen (by simp; omega)]; exact HG6.out.2 j⟩
  have hsz1 : w.heap.size + 2 ≤ w1.heap.size := by have := hb1.size; omega
  clear hb1 q0 q1 q2 q3 q4 q5 HG4 HG6 HCO HBW
  obtain ⟨W2, hW2⟩ : ∃ W2 : World, W2 = w1.alloc (.cells #[.int .i64 (conR n ps).op, .int .i64 (conR n ps).w, .int .i64 (conR n ps).k, .int .i64 (conR n ps).a, .int .i64 (conR n ps).b, .int .i64 (conR n ps).c] 53) := ⟨_, rfl⟩
  have HB2 : Hid (Below w1.heap.size w1 W2) := by rw [hW2]; exact (Below.refl _ _).alloc (Nat.le_refl _) _
  have H7 : Hid (NodeAt W2 w1.heap.size 0 (conR n ps)) := by rw [hW2]; exact ⟨by simp, by simp, by simp, by simp, by simp, by simp⟩
  have H42 : Hid (NodeAt W2 w.heap.size 0 n) := H4.out.below HB2.out (by omega)
  have H62 : Hid (NodeAt W2 (w.heap.size + 1) 0 Nd.zero) := H6.out.1.below HB2.out (by omega)
  have hfz : ∀ j, W2.frozen? ⟨w.heap.size + 1, j, none⟩ = false := fun j => by rw [HB2.out.frozen (by simp; omega)]; exact H6.out.2 j
  have f0 := hfz 0
  have f1 := hfz 1
  have f2 := hfz 2
  have f3 := hfz 3
  have f4 := hfz 4
  have f5 := hfz 5
  have HFIN : Hid (∀ y, Below w.heap.size w (setNode W2 (w.heap.size + 1) 0 y) ∧ NodeAt (setNode W2 (w.heap.size + 1) 0 y) (w.heap.size + 1) 0 y) := fun y => by
    have k := setNode_keptS (S := fun b => b = w.heap.size + 1) (b := w.heap.size + 1) (p := 0) (n := y) rfl (Kept.refl (fun b => b = w.heap.size + 1) W2)
    have hb2 : Below w.heap.size w W2 := HB1.out.trans (HB2.out.mono (by omega))
    exact ⟨hb2.trans (k.below (fun b (hb : b = _) => by omega) hb2.size), setNode_same H62.out⟩
  clear hfz H4 H6
  go_upto_region 2 with fail
  rw [← hW2]
  clear hW2
  obtain ⟨r0, r1, r2, r3, r4, r5⟩ := H62.out
  simp only [Nat.zero_add] at r1 r2 r3 r4 r5
  cases hcb : conB n ps
  · rw [hcb] at HFO
    obtain ⟨q0, q1, q2, q3, q4, q5⟩ := H42.out
    simp only [Nat.zero_add] at q1 q2 q3 q4 q5
    have HS := (HFIN.out n).2
    have HSS : Hid (NodeAt (setNode W2 (w.heap.size + 1) 0 n) (w.heap.size + 1) 0 n) := HS
    clear HS
    go_wp2_with fail
    refine bodyPost_ret (v := nv n) (res_fold (g := w.heap.size + 1) (n := n) rfl HSS.out) rfl ?_
    rw [HFO.out]
    exact ⟨rfl, (HFIN.out n).1⟩
  · rw [hcb] at HFO HCR
    have HCR2 : Hid (conR n ps = conN n ps) := by show _ = _; rw [HCR.out]; rfl
    have HFO2 : Hid (foldF j n ps = conN n ps) := by show _ = _; rw [HFO.out]; rfl
    rw [HCR2.out] at H7
    generalize conN n ps = x at H7 HFO2
    obtain ⟨q0, q1, q2, q3, q4, q5⟩ := H7.out
    simp only [Nat.zero_add] at q1 q2 q3 q4 q5
    have HSS : Hid (NodeAt (setNode W2 (w.heap.size + 1) 0 x) (w.heap.size + 1) 0 x) := (HFIN.out x).2
    go_wp2_with fail
    refine bodyPost_ret (v := nv x) (res_fold (g := w.heap.size + 1) (n := x) rfl HSS.out) rfl ?_
    rw [HFO2.out]
    exact ⟨rfl, (HFIN.out x).1⟩

set_option maxRecDepth 100000 in
set_option maxHeartbeats 2000000 in
theorem iFold (hTO : ITermOk) (hAP : IApply) (hP : IPrune) (w : World) (a : Option Addr) (l : List Nd) (c : Nat) (hN : Nodes w a l) (hcap : l.length ≤ c) (hlen : l.length ≤ 1048576) :
    Calls Tryz.prog 12 #[.slice a l.length c] w fun e w' => (∃ a' c', e = .returned (.tuple #[.slice a' (foldL l).length c', .bool (termOk l)]) ∧ WNodes w' w.heap.size a' (foldL l) ∧ (foldL l).length ≤ c') ∧ Below w.heap.size w w' := by
  have HN : Hid (Nodes w a l) := hN
  have HTO : Hid ITermOk := hTO
  have HAP : Hid IApply := hAP
  have HP : Hid IPrune := hP
  have HCAP : Hid (l.length ≤ c) := hcap
  have HFL : Hid (foldL l = if termOk l then pruneL (foldTo l l.length) else []) := rfl
  clear hcap hN hTO hAP hP
  go_enter Tryz.func12, Tryz.ntmps12
  go_wp2_with fail
  refine (HTO.out _ a l c HN.out HCAP.out hlen).mono ?_
  rintro e w1 ⟨rfl, hb1⟩
  have HB1 : Hid (Below w.heap.size w w1) := hb1
  have HN1 : Hid (Nodes w1 a l) := HN.out.below hb1
  clear hb1
  cases hT : termOk l
  · have HT : Hid (termOk l = false) := hT
    have HFL2 : Hid (foldL l = []) := by show _ = _; unfold foldL; rw [hT]; rfl
    clear hT HFL
    go_wp2
    go_ret2
    rw [HT.out, HFL2.out]
    exact ⟨⟨_, _, rfl, ⟨Nat.zero_le _, .inl rfl⟩, Nat.zero_le _⟩, HB1.out.alloc HB1.out.size _⟩
  · have HT : Hid (termOk l = true) := hT
    have HFL2 : Hid (foldL l = pruneL (foldTo l l.length)) := by show _ = _; unfold foldL; rw [hT]; rfl
    clear hT HFL
    have HW : Hid (Calls Tryz.prog 46 #[.slice a l.length c, .func (.func 47) #[] #[]] w1 fun e w' => (∃ a', e = .returned (.slice a' l.length l.length) ∧ WNodes w' w1.heap.size a' (wk Nd.zero foldF l l.length)) ∧ Below w1.heap.size w1 w') :=
      wNode _ _ foldF w1 a l c HN1.out (down_of HT.out) hlen (enters_of Tryz.func47 (by kernel_rfl) rfl) (fun W' i a' c' hi hb hI => iFold1 HAP.out _ _ _ _ _ _ hI (by rw [said_len]; exact parts_le _) (wf_small (node_k (down_of HT.out) (fun k hk => term_node HT.out hk) hi)) _)
    have HFT : Hid (wk Nd.zero foldF l l.length = foldTo l l.length) := rfl
    have HLL : Hid ((foldTo l l.length).length = l.length) := wk_length _ _ _ _
    go_wp2_with fail
    refine (HW.out).mono ?_
    rintro e w2 ⟨⟨a2, rfl, hw2⟩, hb2⟩
    rw [HFT.out] at hw2
    have HB2 : Hid (Below w.heap.size w w2) := HB1.out.trans (hb2.mono HB1.out.size)
    have HPP : Hid (Calls Tryz.prog 45 #[.slice a2 l.length l.length] w2 fun e w' => (∃ a' c', e = .returned (.slice a' (pruneL (foldTo l l.length)).length c') ∧ WNodes w' w2.heap.size a' (pruneL (foldTo l l.length)) ∧ (pruneL (foldTo l l.length)).length ≤ c') ∧ Below w2.heap.size w2 w') := by
      have h9 := HP.out w2 a2 (foldTo l l.length) l.length hw2.nodes (by rw [HLL.out]; exact Nat.le_refl _) (by rw [HLL.out]; exact hlen)
      rw [HLL.out] at h9
      exact h9
    clear hw2 hb2 HW
    go_wp2_with fail
    refine (HPP.out).mono ?_
    rintro e w3 ⟨⟨a3, c3, rfl, hw3, hc3⟩, hb3⟩
    have HB3 : Hid (Below w.heap.size w w3) := HB2.out.trans (hb3.mono HB2.out.size)
    have HW3 : Hid (WNodes w3 w.heap.size a3 (pruneL (foldTo l l.length))) := by
      obtain ⟨h1, h2⟩ := hw3
      refine ⟨h1, ?_⟩
      rcases h2 with h0 | ⟨b2, o2, ha, hB, hcc, hf⟩
      · exact .inl h0
      · exact .inr ⟨b2, o2, ha, by have := HB2.out.size; omega, hcc, hf⟩
    have HC3 : Hid ((pruneL (foldTo l l.length)).length ≤ c3) := hc3
    clear hw3 hb3 hc3 HPP
    go_wp2
    go_ret2
    rw [HT.out, HFL2.out]
    exact ⟨⟨_, _, rfl, HW3.out, HC3.out⟩, HB3.out⟩

end Go.Proofs.YtejgcchkhljnjaaGreat.Pb7

/- The walk of the law FnFold. -/
namespace Go.Proofs.YtejgcchkhljnjaaGreat.Lfo1
open Go.RowKit
open Nd0 Nd3 Tm0 Dw0 Dw5 Dw8 Lw4 Aq0 Aq1 Aq15 Ap0 Vl1 Ic4 Dcn1
open Dr0 (Cur Only Bytes Off)
open Lx1 (ITermOk)
open Lx4 (IPrune)
open Lw5 (sameNodes)
open Lat (lat3)
open Am6 (sFold)
open Pb2 (iLevel)
open Pb7 (iFold)
open Ws1 (ret_int ret_bool)
set_option linter.unusedVariables false

theorem ints_cap {w : World} {B c : Nat} {a : Option Addr} {l : List Int} (h : Ows w B (.slice a l.length c) l) : Ints w a l ∧ l.length ≤ c := by
  obtain ⟨a', c', hv, hw⟩ := h.form
  simp only [Value.slice.injEq] at hv
  rw [hv.1]
  refine ⟨hw.ints, ?_⟩
  rcases h.2 with ⟨e, h0⟩ | ⟨g9, cap, cur, e, hb, hg, hn, _⟩
  · omega
  · simp only [Value.slice.injEq] at e
    omega
theorem drawn {B : Nat} {u w : World} (h : Below B u w) (m : Nat) : Below B u (w.drewN m) := ⟨h.os, h.tape, h.output, h.size, h.block⟩

def FPost (w : World) (e : Ending) (w' : World) : Prop :=
  ∃ (g c : Nat) (L : List Nd), e = .returned (.slice (some ⟨g, 0, none⟩) L.length c) ∧ Nodes w' (some ⟨g, 0, none⟩) L ∧ Below w.heap.size w w' ∧ 1 ≤ L.length ∧ L.length ≤ 81 ∧ L.length ≤ c

set_option maxHeartbeats 1000000 in
theorem drawFold (w : World) (a : Option Addr) (len cap : Nat) (hb : Bytes w a len) :
    Calls Tryz.prog 11 #[.slice a len cap] w (FPost w) := by
  have HB : Hid (Bytes w a len) := hb
  clear hb
  go_enter Tryz.func11, Tryz.ntmps11
  go_wp2_with fail
  refine (Dr4.new _ a len cap HB.out).mono ?_
  rintro e w1 ⟨rfl, hc, hb1⟩
  have HC : Hid (Cur w1 w.heap.size a len cap) := hc
  have HB1 : Hid (Below w.heap.size w w1) := hb1
  clear hc hb1
  go_wp2_with fail
  refine (constNodes _ w.heap.size a len cap HC.out (low_of HB.out)).mono ?_
  rintro e w2 ⟨g, c, L, rfl, hn, hbg, hgs, hcu, hk, h1, h2, h3⟩
  have HN2 : Hid (Nodes w2 (some ⟨g, 0, none⟩) L) := hn
  have HB2 : Hid (Below w.heap.size w w2) := HB1.out.trans (hk.below (fun k (e : k = w.heap.size) => by omega) HB1.out.size)
  clear hn hcu hk hgs hbg
  go_wp2
  go_ret
  exact ⟨g, c, L, rfl, HN2.out, HB2.out, h1, h2, h3⟩

set_option maxRecDepth 100000 in
set_option maxHeartbeats 8000000 in
theorem lawFold (hTO : ITermOk) (hAP : IApply) (hPR : IPrune) (hVA : IValue) (w : World) (a : Option Addr) (len cap : Nat) (hb : Bytes w a len) :
    Calls Tryz.prog 3 #[.slice a len cap] w fun e w' => e = .returned (.bool true) ∧ Below w.heap.size w w' := by
  have HB : Hid (Bytes w a len) := hb
  have HTO : Hid ITermOk := hTO
  have HAP : Hid IApply := hAP
  have HPR : Hid IPrune := hPR
  have HVA : Hid IValue := hVA
  clear hTO hAP hPR hVA
  by_cases hs : 1048576 < len
  · clear hb
    go_enter Tryz.func3, Tryz.ntmps3
    go_wp2_with fail
    refine (lbig _ a len cap true (by simp; omega)).mono ?_
    rintro e w' ⟨rfl, rfl⟩
    go_wp2
    go_ret
    exact ⟨rfl, Below.refl _ _⟩
  have hsl : len ≤ 1048576 := by omega
  clear hb
  go_enter Tryz.func3, Tryz.ntmps3
  go_wp2_with fail
  refine (lbig _ a len cap false (by simp; omega)).mono ?_
  rintro e w0 ⟨rfl, hz⟩
  have hz' := hz.symm
  clear hz
  subst hz'
  go_wp2_with fail
  refine (drawFold _ a len cap HB.out).mono ?_
  rintro e w1 ⟨g, c, L, rfl, hn, hb1, hl1, hl2, hcL⟩
  have HCL : Hid (L.length ≤ c) := hcL
  have HN1 : Hid (Nodes w1 (some ⟨g, 0, none⟩) L) := hn
  have HB1 : Hid (Below w.heap.size w w1) := hb1
  clear hn hb1 hcL
  obtain ⟨U, hU⟩ : ∃ U, U = foldL L := ⟨_, rfl⟩
  have hul : U.length ≤ L.length := by rw [hU]; exact foldL_le L
  have HUL : Hid (U.length ≤ L.length) := hul
  have hu81 : U.length ≤ 81 := by omega
  have HIF : Hid (∀ W, Nodes W (some ⟨g, 0, none⟩) L → Calls Tryz.prog 12 #[.slice (some ⟨g, 0, none⟩) L.length c] W fun e w' => (∃ a' c', e = .returned (.tuple #[.slice a' U.length c', .bool (termOk L)]) ∧ WNodes w' W.heap.size a' U ∧ U.length ≤ c') ∧ Below W.heap.size W w') := fun W h => by
    rw [hU]; exact iFold HTO.out HAP.out HPR.out W _ L c h HCL.out (by omega)
  have HSF : Hid (∀ W, Nodes W (some ⟨g, 0, none⟩) L → Calls Tryz.prog 13 #[.slice (some ⟨g, 0, none⟩) L.length c] W fun e w' => (∃ a' c', e = .returned (.tuple #[.slice a' U.length c', .bool (termOk L)]) ∧ WNodes w' W.heap.size a' U) ∧ Below W.heap.size W w') := fun W h => by
    rw [hU]; exact sFold W _ L c h
  cases hT : termOk L
  · have HU0 : Hid (U = []) := by show U = []; rw [hU]; unfold foldL; rw [hT]; rfl
    rw [hT] at HIF HSF
    clear hT hU hul hu81 HUL
    have hu := HU0.out
    clear HU0
    subst hu
    go_wp2_with fail
    refine (HIF.out _ HN1.out).mono ?_
    rintro e w2 ⟨⟨a2, c2, rfl, hw2, hc2⟩, hb2⟩
    have HN2 : Hid (Nodes w2 (some ⟨g, 0, none⟩) L) := HN1.out.below hb2
    have HU2 : Hid (Nodes w2 a2 []) := hw2.nodes
    have HB2 : Hid (Below w.heap.size w w2) := HB1.out.trans (hb2.mono HB1.out.size)
    clear hw2 hc2 hb2 HN1 HB1
    go_wp2_with fail
    refine (HSF.out _ HN2.out).mono ?_
    rintro e w3 ⟨⟨a3, c3, rfl, hw3⟩, hb3⟩
    have HU3 : Hid (Nodes w3 a2 []) := HU2.out.below hb3
    have HV3 : Hid (Nodes w3 a3 []) := hw3.nodes
    have HB3 : Hid (Below w.heap.size w w3) := HB2.out.trans (hb3.mono HB2.out.size)
    clear hw3 hb3 HN2 HB2 HU2
    go_wp2_with fail
    refine (sameNodes _ a2 a3 [] c2 c3 HU3.out HV3.out).mono ?_
    rintro e w4 ⟨rfl, m, rfl⟩
    have HB4 : Hid (Below w.heap.size w (w3.drewN m)) := drawn HB3.out m
    go_wp2_with fail
    go_ret
    exact ⟨rfl, HB4.out⟩
  · have HLV : Hid (levelL U ≤ levelL L) := by show levelL U ≤ levelL L; rw [hU]; exact fold_level hT
    have HFF : Hid (foldL U = U) := by show foldL U = U; rw [hU]; exact fold_fold hT
    have HVV : Hid (∀ E x, valueL L E = some x → valueL U E = some x) := fun E x h => by rw [hU]; exact fold_value h
    rw [hT] at HIF HSF
    clear hT hU hul
    go_wp2_with fail
    refine (HIF.out _ HN1.out).mono ?_
    rintro e w2 ⟨⟨a2, c2, rfl, hw2, hc2⟩, hb2⟩
    have HCU : Hid (U.length ≤ c2) := hc2
    have HN2 : Hid (Nodes w2 (some ⟨g, 0, none⟩) L) := HN1.out.below hb2
    have HU2 : Hid (Nodes w2 a2 U) := hw2.nodes
    have HB2 : Hid (Below w.heap.size w w2) := HB1.out.trans (hb2.mono HB1.out.size)
    clear hw2 hc2 hb2 HN1 HB1 HIF
    go_wp2_with fail
    refine (HSF.out _ HN2.out).mono ?_
    rintro e w3 ⟨⟨a3, c3, rfl, hw3⟩, hb3⟩
    have HN3 : Hid (Nodes w3 (some ⟨g, 0, none⟩) L) := HN2.out.below hb3
    have HU3 : Hid (Nodes w3 a2 U) := HU2.out.below hb3
    have HV3 : Hid (Nodes w3 a3 U) := hw3.nodes
    have HB3 : Hid (Below w.heap.size w w3) := HB2.out.trans (hb3.mono HB2.out.size)
    clear hw3 hb3 HN2 HB2 HU2 HSF
    go_wp2_with fail
    refine (sameNodes _ a2 a3 U c2 c3 HU3.out HV3.out).mono ?_
    rintro e w4 ⟨rfl, m, hw4⟩
    have hbd : Below w3.heap.size w3 w4 := by rw [hw4]; exact drawn (Below.refl _ _) m
    have HN4 : Hid (Nodes w4 (some ⟨g, 0, none⟩) L) := HN3.out.below hbd
    have HU4 : Hid (Nodes w4 a2 U) := HU3.out.below hbd
    have HB4 : Hid (Below w.heap.size w w4) := HB3.out.trans (hbd.mono HB3.out.size)
    clear hw4 hbd HN3 HU3 HV3 HB3
    go_wp2_with fail
    go_loopw [8, 9] (fun ev q wr => ∃ (j : Nat) (E : List Int), j ≤ 8 ∧ q = .int .i64 (j : Int) ∧ E.length = j ∧ Ows wr w4.heap.size ev E ∧ Below w4.heap.size w4 wr) (fun _ q _ => 8 - (intOf q).toNat)
    case atStart => exact ⟨0, [], Nat.zero_le _, rfl, rfl, Ows.lit _ _ (Nat.le_refl _), (Below.refl _ _).alloc (Nat.le_refl _) _⟩
    case round =>
      obtain ⟨j, E, hj, rfl, hel, ho, hb⟩ := hrel
      obtain ⟨ae, ce, rfl, -⟩ := ho.form
      have HO : Hid (Ows wr w4.heap.size (.slice ae E.length ce) E) := ho
      have HBI : Hid (Below w4.heap.size w4 wr) := hb
      have HEL : Hid (E.length = j) := hel
      have hE8 : E.length ≤ 8 := by omega
      have hws : w4.heap.size ≤ wr.heap.size := hb.size
      clear ho hb hel
      by_cases hlj : j < 8
      · have hljz : (j : Int) < 8 := by omega
        obtain ⟨x, hx0, hx1, hxc⟩ := lat3 wr a len cap ((j : Int) + 3) (by omega) (by omega) (HB.out.below (HB4.out.trans (HBI.out.mono HB4.out.size))) hsl
        have HXC : Hid (Calls Tryz.prog 15 #[.slice a len cap, .int .i64 ((j : Int) + 3)] wr fun e w' => e = .returned (.int .i64 x) ∧ w' = wr) := hxc wr (Below.refl _ _)
        clear hxc
        go_wp2_with fail
        refine HXC.out.mono ?_
        rintro e w' ⟨rfl, hz⟩
        have hz' := hz.symm
        clear hz HXC
        subst hz'
        have hr0 : 0 ≤ x % 2 := by omega
        have hr1 : x % 2 ≤ 1 := by omega
        go_wp2_with (at_builtin; go_must (refine app_int _ rfl _ _ rfl w4.heap.size (.slice ae E.length ce) E _ rfl rfl HO.out hws (by omega) ?_; intro g7 cp7 w7 ho7 hk7 hg7))
        have HO7 : Hid (Ows w7 w4.heap.size (.slice (some ⟨g7, 0, none⟩) (E.length + 1) cp7) (E ++ [x % 2])) := ho7
        have HB7 : Hid (Below w4.heap.size w4 w7) := HBI.out.trans (hk7.below (fun b hb => (HO.out.lt b hb).1) hws)
        clear ho7 hk7 hg7
        go_wp2_with fail
        go_roundw
        case rel => exact ⟨j + 1, E ++ [x % 2], by omega, by go_num, by rw [List.length_append, HEL.out]; rfl, HO7.out, HB7.out⟩
        case measure => simp [intOf]; omega
      · have e : j = 8 := by omega
        have HIN : Hid (Ints wr ae E ∧ E.length ≤ ce) := ints_cap HO.out
        have HN9 : Hid (Nodes wr (some ⟨g, 0, none⟩) L) := HN4.out.below HBI.out
        have HU9 : Hid (Nodes wr a2 U) := HU4.out.below HBI.out
        have HB9 : Hid (Below w.heap.size w wr) := HB4.out.trans (HBI.out.mono HB4.out.size)
        subst e
        clear HO HBI hws HN4 HU4 HB4
        have HV1 : Hid (Calls Tryz.prog 16 #[.slice (some ⟨g, 0, none⟩) L.length c, .slice ae E.length ce] wr fun x w' => x = .returned (.tuple #[.int .i64 ((valueL L E).getD 0), .bool (valueL L E).isSome]) ∧ Below wr.heap.size wr w') := HVA.out wr _ ae L E c ce HN9.out HCL.out (by omega) HIN.out.1 HIN.out.2
        have HV2 : Hid (∀ W, Below wr.heap.size wr W → Calls Tryz.prog 16 #[.slice a2 U.length c2, .slice ae E.length ce] W fun x w' => x = .returned (.tuple #[.int .i64 ((valueL U E).getD 0), .bool (valueL U E).isSome]) ∧ Below W.heap.size W w') := fun W hW => HVA.out W _ ae U E c2 ce (HU9.out.below hW) HCU.out (by omega) (HIN.out.1.below hW) HIN.out.2
        have HFU : Hid (∀ W, Nodes W a2 U → Calls Tryz.prog 12 #[.slice a2 U.length c2] W fun e w' => (∃ a' c' ok, e = .returned (.tuple #[.slice a' U.length c', .bool ok]) ∧ Nodes w' a' U) ∧ Below W.heap.size W w') := fun W h => by
          refine (iFold HTO.out HAP.out HPR.out W _ U c2 h HCU.out (by omega)).mono ?_
          rw [HFF.out]
          rintro e w' ⟨⟨a', c', he, hn, _⟩, hb⟩
          exact ⟨⟨a', c', _, he, hn.nodes⟩, hb⟩
        have HLU : Hid (∀ W, Nodes W a2 U → Calls Tryz.prog 17 #[.slice a2 U.length c2] W fun e w' => e = .returned (.int .i64 (levelL U)) ∧ Below W.heap.size W w') := fun W h => iLevel HTO.out W _ U c2 h HCU.out (by omega)
        have HLL : Hid (∀ W, Nodes W (some ⟨g, 0, none⟩) L → Calls Tryz.prog 17 #[.slice (some ⟨g, 0, none⟩) L.length c] W fun e w' => e = .returned (.int .i64 (levelL L)) ∧ Below W.heap.size W w') := fun W h => iLevel HTO.out W _ L c h HCL.out (by omega)
        obtain ⟨p, ok1, q, ok2, hv1, hv2, hpq⟩ : ∃ (p : Int) (ok1 : Bool) (q : Int) (ok2 : Bool), (p = (valueL L E).getD 0 ∧ ok1 = (valueL L E).isSome) ∧ (q = (valueL U E).getD 0 ∧ ok2 = (valueL U E).isSome) ∧ (ok1 = true → ok2 = true ∧ p = q) := by
          refine ⟨_, _, _, _, ⟨rfl, rfl⟩, ⟨rfl, rfl⟩, fun h => ?_⟩
          cases hl : valueL L E with
          | none => rw [hl] at h; cases h
          | some x => rw [HVV.out E x hl]; exact ⟨rfl, rfl⟩
        rw [← hv1.1, ← hv1.2] at HV1
        rw [← hv2.1, ← hv2.2] at HV2
        have HPQ : Hid (ok1 = true → ok2 = true ∧ p = q) := hpq
        have hlv : levelL U ≤ levelL L := HLV.out
        generalize levelL U = lu at HLU hlv
        generalize levelL L = ll at HLL hlv
        have hulz : (U.length : Int) ≤ (L.length : Int) := by have := HUL.out; omega
        clear hv1 hv2 hpq HFF HVV HLV
        go_wp2_with fail
        refine HV1.out.mono ?_
        rintro e w5 ⟨rfl, hb5⟩
        have HB5 : Hid (Below wr.heap.size wr w5) := hb5
        clear hb5 HV1
        go_wp2_with fail
        refine (HV2.out _ HB5.out).mono ?_
        rintro e w6 ⟨rfl, hb6⟩
        have HB6 : Hid (Below wr.heap.size wr w6) := HB5.out.trans (hb6.mono HB5.out.size)
        clear hb6 HV2 HB5
        go_wp2_with fail
        refine (HFU.out _ (HU9.out.below HB6.out)).mono ?_
        rintro e w7 ⟨⟨a7, c7, ok7, rfl, hn7⟩, hb7⟩
        have HN7 : Hid (Nodes w7 a7 U) := hn7
        have HB7 : Hid (Below wr.heap.size wr w7) := HB6.out.trans (hb7.mono HB6.out.size)
        clear hn7 hb7 HFU HB6
        have HLAST : Hid (∀ m W1 W2, Below w7.heap.size w7 W1 → Below W1.heap.size W1 W2 → W1 = w7.drewN m → Below w.heap.size w W2) := fun m W1 W2 h1 h2 _ => HB9.out.trans ((HB7.out.trans ((h1.trans (h2.mono h1.size)).mono HB7.out.size)).mono HB9.out.size)
        cases ok1
        · clear HPQ
          go_wp2_with fail
          refine (sameNodes _ a7 a2 U c7 c2 HN7.out (HU9.out.below HB7.out)).mono ?_
          rintro e w8 ⟨rfl, m, hw8⟩
          have hbd : Below w7.heap.size w7 w8 := by rw [hw8]; exact drawn (Below.refl _ _) m
          have HB8 : Hid (Below wr.heap.size wr w8) := HB7.out.trans (hbd.mono HB7.out.size)
          clear hbd hw8
          go_wp2_with fail
          refine (HLU.out _ (HU9.out.below HB8.out)).mono ?_
          rintro e w9 ⟨rfl, hb9⟩
          have HB10 : Hid (Below wr.heap.size wr w9) := HB8.out.trans (hb9.mono HB8.out.size)
          clear hb9
          go_wp2_with fail
          refine (HLL.out _ (HN9.out.below HB10.out)).mono ?_
          rintro e w10 ⟨rfl, hb10⟩
          have HB11 : Hid (Below w.heap.size w w10) := HB9.out.trans ((HB10.out.trans (hb10.mono HB10.out.size)).mono HB9.out.size)
          clear hb10
          go_wp2_with fail
          go_ret
          exact ⟨rfl, HB11.out⟩
        · obtain ⟨ho2, hpq⟩ := HPQ.out rfl
          subst ho2 hpq
          have hpp : (p == p) = true := by simp
          clear HPQ
          go_wp2_with fail
          refine (sameNodes _ a7 a2 U c7 c2 HN7.out (HU9.out.below HB7.out)).mono ?_
          rintro e w8 ⟨rfl, m, hw8⟩
          have hbd : Below w7.heap.size w7 w8 := by rw [hw8]; exact drawn (Below.refl _ _) m
          have HB8 : Hid (Below wr.heap.size wr w8) := HB7.out.trans (hbd.mono HB7.out.size)
          clear hbd hw8
          go_wp2_with fail
          refine (HLU.out _ (HU9.out.below HB8.out)).mono ?_
          rintro e w9 ⟨rfl, hb9⟩
          have HB10 : Hid (Below wr.heap.size wr w9) := HB8.out.trans (hb9.mono HB8.out.size)
          clear hb9
          go_wp2_with fail
          refine (HLL.out _ (HN9.out.below HB10.out)).mono ?_
          rintro e w10 ⟨rfl, hb10⟩
          have HB11 : Hid (Below w.heap.size w w10) := HB9.out.trans ((HB10.out.trans (hb10.mono HB10.out.size)).mono HB9.out.size)
          clear hb10
          go_wp2_with fail
          go_ret
          exact ⟨rfl, HB11.out⟩

end Go.Proofs.YtejgcchkhljnjaaGreat.Lfo1
