/- The walk of the law FnPrune, out of contracts of the program's TermOk, Reached, Free, Sentence, Bits and Prune. -/
import Derived.Deep.RegionHeld
import Derived.Test.YtlicobjkjikjoaaDw8
import Derived.Test.YtlicobjkjikjoaaPkD
import Derived.Test.YtlicobjkjikjoaaPkC
import Derived.Test.YtlicobjkjikjoaaIc2
import Derived.Test.YtlicobjkjikjoaaSp4
import Derived.Test.YtlicobjkjikjoaaSp11
import Derived.Test.YtlicobjkjikjoaaLf1
namespace Go.Proofs.Ytlicobjkjikjoaa.Lp1
open Go.RowKit
open Nd0 Nd3 Ap0 Ap2 Tm0 Tm2 Tm3 Tm4 Tm6 Tm11 Tm13 Tm14 Dw0 Dw3 Dw5 Dw8 Lw4
open Dr0 (Cur Only Bytes Off)
open Lx1 (ITermOk)
open Lx2 (IReached)
open Lx3 (IFree)
open Lx4 (IPrune)
open Lx6 (ISentence IBits)
open Lf1 (sameInts below_drewN)
open Sp4 (sTermOk)
open Sp11 (sSentence)
open Ws1 (ret_int ret_bool)
set_option linter.unusedVariables false

set_option maxHeartbeats 1000000 in
theorem sameNodes (w : World) (a a' : Option Addr) (l : List Nd) (c c' : Nat) (h : Nodes w a l) (h' : Nodes w a' l) :
    Calls Try.prog 17 #[.slice a l.length c, .slice a' l.length c'] w fun e w' => e = .returned (.bool true) ∧ ∃ m, w' = w.drewN m := by
  have H : Hid (Nodes w a l) := h
  have H' : Hid (Nodes w a' l) := h'
  have hm := h.1
  unfold maxLen at hm
  clear h h'
  go_enter Try.func17, Try.ntmps17
  go_wp2
  go_loopw [5] (fun i wr => ∃ k : Nat, k ≤ l.length ∧ i = .int .i64 k ∧ ∃ m, wr = w.drewN m) (fun i _ => l.length - (intOf i).toNat)
  case atStart => exact ⟨0, Nat.zero_le _, rfl, 0, rfl⟩
  case round =>
    obtain ⟨k, hk, rfl, m, rfl⟩ := hrel
    by_cases hlt : k < l.length
    · have hlz : (k : Int) < (l.length : Int) := by omega
      rcases H.out.2 with h0 | ⟨xb, xo, rfl, hc⟩
      · omega
      rcases H'.out.2 with h0 | ⟨yb, yo, rfl, hc'⟩
      · omega
      obtain ⟨p0, p1, p2, p3, p4, p5⟩ := hc k hlt
      obtain ⟨q0, q1, q2, q3, q4, q5⟩ := hc' k hlt
      clear hc hc'
      generalize l[k] = x at p0 p1 p2 p3 p4 p5 q0 q1 q2 q3 q4 q5
      obtain ⟨x0, x1, x2, x3, x4, x5⟩ := x
      simp only at p0 p1 p2 p3 p4 p5 q0 q1 q2 q3 q4 q5
      go_wp2
      go_quiet (fail)
      go_wp2
      go_roundw
      case rel => exact ⟨k + 1, by omega, by go_num, _, rfl⟩
      case measure => simp [intOf]; omega
    · go_wp2
      go_ret
      exact ⟨rfl, _, rfl⟩

/-- What stands behind the law's first calls: both lists of nodes, the reached places, and the operators of both roots. -/
structure St (w0 : World) (g : Nat) (L : List Nd) (mb mo : Nat) (M : List Nd) (a4 : Option Addr) (rop : Int) (w' : World) : Prop where
  bel : Below w0.heap.size w0 w'
  nl : Nodes w' (some ⟨g, 0, none⟩) L
  nm : Nodes w' (some ⟨mb, mo, none⟩) M
  na : Ints w' a4 ((List.range M.length).map fun (i : Nat) => (i : Int))
  pm : w'.cell? ⟨mb, mo + (M.length - 1) * 6, none⟩ = some (.int .i64 rop)
  pn : w'.cell? ⟨g, (L.length - 1) * 6, none⟩ = some (.int .i64 rop)
theorem St.on {w0 : World} {g : Nat} {L : List Nd} {mb mo : Nat} {M : List Nd} {a4 : Option Addr} {rop : Int} {w' w'' : World} (h : St w0 g L mb mo M a4 rop w') (k : Below w'.heap.size w' w'') : St w0 g L mb mo M a4 rop w'' :=
  ⟨h.bel.trans (k.mono h.bel.size), h.nl.below k, h.nm.below k, h.na.below k, by rw [k.cell (lt_of_cell h.pm)]; exact h.pm, by rw [k.cell (lt_of_cell h.pn)]; exact h.pn⟩
theorem St.drew {w0 : World} {g : Nat} {L : List Nd} {mb mo : Nat} {M : List Nd} {a4 : Option Addr} {rop : Int} {w' : World} (h : St w0 g L mb mo M a4 rop w') : St w0 g L mb mo M a4 rop w'.drew :=
  h.on (Below.refl _ _).drew

set_option maxRecDepth 100000 in
set_option maxHeartbeats 8000000 in
theorem lawPrune (hTO : ITermOk) (hRE : IReached) (hFR : IFree) (hSE : ISentence) (hBI : IBits) (hPR : IPrune) (w : World) (a : Option Addr) (len cap : Nat) (hb : Bytes w a len) :
    Calls Try.prog 3 #[.slice a len cap] w fun e w' => e = .returned (.bool true) ∧ Below w.heap.size w w' := by
  have HB : Hid (Bytes w a len) := hb
  have HTO : Hid ITermOk := hTO
  have HRE : Hid IReached := hRE
  have HFR : Hid IFree := hFR
  have HSE : Hid ISentence := hSE
  have HBI : Hid IBits := hBI
  have HPR : Hid IPrune := hPR
  clear hb hTO hRE hFR hSE hBI hPR
  by_cases hs : 1048576 < len
  · go_enter Try.func3, Try.ntmps3
    go_wp2_with fail
    refine (lbig _ a len cap true (by simp; omega)).mono ?_
    rintro e w' ⟨rfl, rfl⟩
    go_wp2
    go_ret
    exact ⟨rfl, Below.refl _ _⟩
  have hsl : len ≤ 1048576 := by omega
  go_enter Try.func3, Try.ntmps3
  go_wp2_with fail
  refine (lbig _ a len cap false (by simp; omega)).mono ?_
  rintro e w0 ⟨rfl, rfl⟩
  go_wp2_with fail
  refine (drawPrune _ a len cap HB.out).mono ?_
  rintro e w1 ⟨g, c, L, rfl, hn, hb1, hl1, hl2, hcL⟩
  have HCL : Hid (L.length ≤ c) := hcL
  clear hcL
  have HN1 : Hid (Nodes w1 (some ⟨g, 0, none⟩) L) := hn
  have HB1 : Hid (Below w0.heap.size w0 w1) := hb1
  clear hn hb1
  go_wp2_with fail
  refine (HPR.out _ _ L c HN1.out HCL.out (by omega)).mono ?_
  rintro e w2 ⟨⟨a2, c2, rfl, hi2, hcM⟩, hb2⟩
  have HCM : Hid ((pruneL L).length ≤ c2) := hcM
  clear hcM
  have HN2 : Hid (Nodes w2 (some ⟨g, 0, none⟩) L) := HN1.out.below hb2
  have HM2 : Hid (Nodes w2 a2 (pruneL L)) := hi2.nodes
  have HB2 : Hid (Below w0.heap.size w0 w2) := HB1.out.trans (hb2.mono HB1.out.size)
  clear hi2 hb2 HN1 HB1
  go_wp2_with fail
  refine (sTermOk _ _ L c HN2.out).mono ?_
  rintro e w3 ⟨rfl, hb3⟩
  have HN3 : Hid (Nodes w3 (some ⟨g, 0, none⟩) L) := HN2.out.below hb3
  have HM3 : Hid (Nodes w3 a2 (pruneL L)) := HM2.out.below hb3
  have HB3 : Hid (Below w0.heap.size w0 w3) := HB2.out.trans (hb3.mono HB2.out.size)
  clear hb3 HN2 HM2 HB2
  cases hT : termOk L
  · have HT : Hid (termOk L = false) := hT
    have hpz : (pruneL L).length = 0 := by unfold pruneL; rw [hT]; rfl
    have HS : Hid (sentB L = false) := sent_term hT
    rw [hpz]
    clear hT hpz
    go_wp2_with fail
    refine (HTO.out _ _ L c HN3.out HCL.out (by omega)).mono ?_
    rintro e w4 ⟨rfl, hb4⟩
    rw [HT.out]
    have HN4 : Hid (Nodes w4 (some ⟨g, 0, none⟩) L) := HN3.out.below hb4
    have HB4 : Hid (Below w0.heap.size w0 w4) := HB3.out.trans (hb4.mono HB3.out.size)
    clear hb4 HN3 HB3
    go_wp2_with fail
    refine (HSE.out _ _ L c HN4.out HCL.out (by omega)).mono ?_
    rintro e w5 ⟨rfl, hb5⟩
    rw [HS.out]
    have HB5 : Hid (Below w0.heap.size w0 w5) := HB4.out.trans (hb5.mono HB4.out.size)
    clear hb5
    go_wp2
    go_ret
    exact ⟨rfl, HB5.out⟩
  · have hle := pruneL_le L
    have hr1 := (prune_root hT).2
    have HPT := prune_term hT
    have HRM := prune_reached hT
    have HRL := reached_len hT
    have HOP := (prune_root_op hT).1
    have HFM := prune_free hT
    have HSM := prune_sent hT
    have HBM := prune_bits hT
    have HPM := prune_prune hT
    generalize pruneL L = M at HCM HM3 hle hr1 HPT HRM HRL HOP HFM HSM HBM HPM ⊢
    replace HPT : Hid _ := HPT
    replace HRM : Hid _ := HRM
    replace HRL : Hid _ := HRL
    replace HOP : Hid _ := HOP
    replace HFM : Hid _ := HFM
    replace HSM : Hid _ := HSM
    replace HBM : Hid _ := HBM
    replace HPM : Hid _ := HPM
    clear hT
    have hM80 : M.length ≤ 81 := by omega
    go_wp2_with fail
    refine (HRE.out _ _ M c2 HM3.out HCM.out (by omega)).mono ?_
    rw [HRM.out]
    rintro e w4 ⟨⟨a4, c4, rfl, hi4⟩, hb4⟩
    have HA4 : Hid (Ints w4 a4 ((List.range M.length).map fun (i : Nat) => (i : Int))) := hi4.ints
    have HN4 : Hid (Nodes w4 (some ⟨g, 0, none⟩) L) := HN3.out.below hb4
    have HM4 : Hid (Nodes w4 a2 M) := HM3.out.below hb4
    have HB4 : Hid (Below w0.heap.size w0 w4) := HB3.out.trans (hb4.mono HB3.out.size)
    clear hi4 hb4 HN3 HM3 HB3
    rw [List.length_map, List.length_range]
    rcases HM4.out.2 with h0 | ⟨mb, mo, rfl, hcm⟩
    · omega
    rcases HN4.out.2 with h0 | ⟨b', o', he, hcn⟩
    · omega
    cases he
    have pm := (hcm (M.length - 1) (by omega)).c0
    have pn := (hcn (L.length - 1) (by omega)).c0
    rw [nth_get (by omega : M.length - 1 < M.length)] at pm
    rw [nth_get (by omega : L.length - 1 < L.length), ← HOP.out, Nat.zero_add] at pn
    clear hcm hcn
    generalize (nth M (M.length - 1)).op = rop at pm pn
    have HS4 : Hid (St w0 g L mb mo M a4 rop w4) := ⟨HB4.out, HN4.out, HM4.out, HA4.out, pm, pn⟩
    clear pm pn HA4 HN4 HM4 HB4
    have g1 : (0 : Int) ≤ (M.length : Int) - 1 := by omega
    have g2 : (M.length : Int) - 1 < (M.length : Int) := by omega
    have g3 : (0 : Int) ≤ (L.length : Int) - 1 := by omega
    have g4 : (L.length : Int) - 1 < (L.length : Int) := by omega
    have g5 : (1 : Int) ≤ (M.length : Int) := by omega
    have g6 : (1 : Int) ≤ (L.length : Int) := by omega
    have e1 : IntKind.i64.wrap ((M.length : Int) - 1) = (M.length : Int) - 1 := by rw [IntKind.wrap_i64]; omega
    have e2 : ((M.length : Int) - 1).toNat = M.length - 1 := by omega
    have f1 : IntKind.i64.wrap ((L.length : Int) - 1) = (L.length : Int) - 1 := by rw [IntKind.wrap_i64]; omega
    have f2 : ((L.length : Int) - 1).toNat = L.length - 1 := by omega
    go_wp2_with fail
    refine wp_region_held_drew (S := St w0 g L mb mo M a4 rop) (by kernel_rfl) HS4.out.drew (fun hHeld => ?_)
    refine wpAnyH_take (i := 0) (v := ?_) rfl (by kernel_rfl) (by kernel_rfl) (by kernel_rfl) (fun _ _ _ h => h) (Or.inl ⟨by rfl, ?_⟩) hHeld ?_
    rotate_left
    · (intro v9 hS9; go_simp; try with_reducible rfl)
    try simp only [Act.put, List.setIfInBounds_toArray, List.set_cons_zero, List.set_cons_succ, List.getElem_toArray, List.getElem_cons_zero]
    refine wpAnyH_ready (rs := [1]) (by kernel_rfl) (by simp) ?_
    refine AllReadyH.cons rfl (fun K hK => ?_) AllReadyH.nil
    go_simp
    go_wp2_with (go_at_call 11; refine (HTO.out _ _ M c2 hHeld.nm HCM.out (by omega)).mono ?_; rintro e w5 ⟨rfl, hb5⟩; have HS5 : Hid (St w0 g L mb mo M a4 rop w5) := St.on hHeld hb5; clear hb5; rw [HPT.out])
    refine hK.out _ _ HS5.out (fun hNext => ?_)
    clear hK K hHeld
    have hHeld := hNext
    clear hNext
    refine wpAnyH_take (i := 2) (v := ?_) rfl (by kernel_rfl) (by kernel_rfl) (by kernel_rfl) (fun _ _ _ h => h) (Or.inl ⟨by rfl, ?_⟩) hHeld ?_
    rotate_left
    · (intro v9 hS9; go_simp; try with_reducible rfl)
    try simp only [Act.put, List.setIfInBounds_toArray, List.set_cons_zero, List.set_cons_succ, List.getElem_toArray, List.getElem_cons_zero, List.getElem_cons_succ]
    refine wpAnyH_take (i := 3) (v := ?_) rfl (by kernel_rfl) (by kernel_rfl) (by kernel_rfl) (fun _ _ _ h => h) (Or.inl ⟨by rfl, ?_⟩) hHeld ?_
    rotate_left
    · (intro v9 hS9; go_simp; try with_reducible rfl)
    try simp only [Act.put, List.setIfInBounds_toArray, List.set_cons_zero, List.set_cons_succ, List.getElem_toArray, List.getElem_cons_zero, List.getElem_cons_succ]
    refine wpAnyH_take (i := 4) (v := ?_) rfl (by kernel_rfl) (by kernel_rfl) (by kernel_rfl) (fun _ _ _ h => h) (Or.inl ⟨by rfl, ?_⟩) hHeld ?_
    rotate_left
    · (intro v9 hS9; go_simp; try with_reducible rfl)
    try simp only [Act.put, List.setIfInBounds_toArray, List.set_cons_zero, List.set_cons_succ, List.getElem_toArray, List.getElem_cons_zero, List.getElem_cons_succ]
    refine wpAnyH_take (i := 5) (v := ?_) rfl (by kernel_rfl) (by kernel_rfl) (by kernel_rfl) (fun _ _ _ h => h) (Or.inl ⟨by rfl, ?_⟩) hHeld ?_
    rotate_left
    · (intro v9 hS9; go_simp; try with_reducible rfl)
    try simp only [Act.put, List.setIfInBounds_toArray, List.set_cons_zero, List.set_cons_succ, List.getElem_toArray, List.getElem_cons_zero, List.getElem_cons_succ]
    refine wpAnyH_take (i := 6) (v := ?_) rfl (by kernel_rfl) (by kernel_rfl) (by kernel_rfl) (fun _ _ _ h => h) (Or.inl ⟨by rfl, ?_⟩) hHeld ?_
    rotate_left
    · (intro v9 hS9; go_simp; try with_reducible rfl)
    try simp only [Act.put, List.setIfInBounds_toArray, List.set_cons_zero, List.set_cons_succ, List.getElem_toArray, List.getElem_cons_zero, List.getElem_cons_succ]
    refine wpAnyH_take (i := 7) (v := ?_) rfl (by kernel_rfl) (by kernel_rfl) (by kernel_rfl) (fun _ _ _ h => h) (Or.inl ⟨by rfl, ?_⟩) hHeld ?_
    rotate_left
    · (intro v9 hS9; go_simp; try with_reducible rfl)
    try simp only [Act.put, List.setIfInBounds_toArray, List.set_cons_zero, List.set_cons_succ, List.getElem_toArray, List.getElem_cons_zero, List.getElem_cons_succ]
    refine wpAnyH_take (i := 8) (v := ?_) rfl (by kernel_rfl) (by kernel_rfl) (by kernel_rfl) (fun _ _ _ h => h) (Or.inl ⟨by rfl, ?_⟩) hHeld ?_
    rotate_left
    · (intro v9 hS9; go_simp; try with_reducible rfl)
    try simp only [Act.put, List.setIfInBounds_toArray, List.set_cons_zero, List.set_cons_succ, List.getElem_toArray, List.getElem_cons_zero, List.getElem_cons_succ]
    refine wpAnyH_take (i := 9) (v := ?_) rfl (by kernel_rfl) (by kernel_rfl) (by kernel_rfl) (fun _ _ _ h => h) (Or.inl ⟨by rfl, ?_⟩) hHeld ?_
    rotate_left
    · (intro v9 hS9; go_simp; try with_reducible rfl)
    try simp only [Act.put, List.setIfInBounds_toArray, List.set_cons_zero, List.set_cons_succ, List.getElem_toArray, List.getElem_cons_zero, List.getElem_cons_succ]
    refine wpAnyH_take (i := 10) (v := ?_) rfl (by kernel_rfl) (by kernel_rfl) (by kernel_rfl) (fun _ _ _ h => h) (Or.inl ⟨by rfl, ?_⟩) hHeld ?_
    rotate_left
    · (intro v9 hS9; go_simp; try with_reducible rfl)
    try simp only [Act.put, List.setIfInBounds_toArray, List.set_cons_zero, List.set_cons_succ, List.getElem_toArray, List.getElem_cons_zero, List.getElem_cons_succ]
    refine wpAnyH_take (i := 11) (v := ?_) rfl (by kernel_rfl) (by kernel_rfl) (by kernel_rfl) (fun _ _ _ h => h) (Or.inl ⟨by rfl, ?_⟩) hHeld ?_
    rotate_left
    · (intro v9 hS9; go_simp; try with_reducible rfl)
    try simp only [Act.put, List.setIfInBounds_toArray, List.set_cons_zero, List.set_cons_succ, List.getElem_toArray, List.getElem_cons_zero, List.getElem_cons_succ]
    refine wpAnyH_take (i := 14) (v := ?_) rfl (by kernel_rfl) (by kernel_rfl) (by kernel_rfl) (fun _ _ _ h => h) (Or.inl ⟨by rfl, ?_⟩) hHeld ?_
    rotate_left
    · (intro v9 hS9; go_simp; try with_reducible rfl)
    try simp only [Act.put, List.setIfInBounds_toArray, List.set_cons_zero, List.set_cons_succ, List.getElem_toArray, List.getElem_cons_zero, List.getElem_cons_succ]
    refine wpAnyH_take (i := 15) (v := ?_) rfl (by kernel_rfl) (by kernel_rfl) (by kernel_rfl) (fun _ _ _ h => h) (Or.inl ⟨by rfl, ?_⟩) hHeld ?_
    rotate_left
    · (intro v9 hS9; go_simp; try with_reducible rfl)
    try simp only [Act.put, List.setIfInBounds_toArray, List.set_cons_zero, List.set_cons_succ, List.getElem_toArray, List.getElem_cons_zero, List.getElem_cons_succ]
    refine wpAnyH_ready (rs := [12]) (by kernel_rfl) (by simp) ?_
    refine AllReadyH.cons rfl (fun K hK => ?_) AllReadyH.nil
    go_simp
    go_wp2_with (go_at_call 13; refine (HRE.out _ _ L c hHeld.nl HCL.out (by omega)).mono ?_; rintro e w6 ⟨⟨a6, c6, rfl, hi6⟩, hb6⟩; have HS6 : Hid (St w0 g L mb mo M a4 rop w6) := St.on hHeld hb6; clear hb6 hi6; rw [HRL.out])
    refine hK.out _ _ HS6.out (fun hNext => ?_)
    clear hK K hHeld
    have hHeld := hNext
    clear hNext
    refine wpAnyH_take (i := 13) (v := ?_) rfl (by kernel_rfl) (by kernel_rfl) (by kernel_rfl) (fun _ _ _ h => h) (Or.inl ⟨by rfl, ?_⟩) hHeld ?_
    rotate_left
    · (intro v9 hS9; go_simp; try with_reducible rfl)
    try simp only [Act.put, List.setIfInBounds_toArray, List.set_cons_zero, List.set_cons_succ, List.getElem_toArray, List.getElem_cons_zero, List.getElem_cons_succ]
    refine wpAnyH_take (i := 16) (v := ?_) rfl (by kernel_rfl) (by kernel_rfl) (by kernel_rfl) (fun _ _ _ h => h) (Or.inl ⟨by rfl, ?_⟩) hHeld ?_
    rotate_left
    · (intro v9 hS9; go_simp; try with_reducible rfl)
    try simp only [Act.put, List.setIfInBounds_toArray, List.set_cons_zero, List.set_cons_succ, List.getElem_toArray, List.getElem_cons_zero, List.getElem_cons_succ]
    refine wpAnyH_take (i := 17) (v := ?_) rfl (by kernel_rfl) (by kernel_rfl) (by kernel_rfl) (fun _ _ _ h => h) (Or.inl ⟨by rfl, ?_⟩) hHeld ?_
    rotate_left
    · (intro v9 hS9; go_simp; try with_reducible rfl)
    try simp only [Act.put, List.setIfInBounds_toArray, List.set_cons_zero, List.set_cons_succ, List.getElem_toArray, List.getElem_cons_zero, List.getElem_cons_succ]
    refine wpAnyH_take (i := 18) (v := ?_) rfl (by kernel_rfl) (by kernel_rfl) (by kernel_rfl) (fun _ _ _ h => h) (Or.inl ⟨by rfl, ?_⟩) hHeld ?_
    rotate_left
    · (intro v9 hS9; go_simp; try with_reducible rfl)
    try simp only [Act.put, List.setIfInBounds_toArray, List.set_cons_zero, List.set_cons_succ, List.getElem_toArray, List.getElem_cons_zero, List.getElem_cons_succ]
    refine wpAnyH_take (i := 19) (v := ?_) rfl (by kernel_rfl) (by kernel_rfl) (by kernel_rfl) (fun _ _ _ h => h) (Or.inl ⟨by rfl, ?_⟩) hHeld ?_
    rotate_left
    · (intro v9 hS9; go_simp; try with_reducible rfl)
    try simp only [Act.put, List.setIfInBounds_toArray, List.set_cons_zero, List.set_cons_succ, List.getElem_toArray, List.getElem_cons_zero, List.getElem_cons_succ]
    refine wpAnyH_take (i := 20) (v := ?_) rfl (by kernel_rfl) (by kernel_rfl) (by kernel_rfl) (fun _ _ _ h => h) (Or.inl ⟨by rfl, ?_⟩) hHeld ?_
    rotate_left
    · (intro v9 hS9; go_simp; try with_reducible rfl)
    try simp only [Act.put, List.setIfInBounds_toArray, List.set_cons_zero, List.set_cons_succ, List.getElem_toArray, List.getElem_cons_zero, List.getElem_cons_succ]
    refine wpAnyH_take (i := 21) (v := ?_) rfl (by kernel_rfl) (by kernel_rfl) (by kernel_rfl) (fun _ _ _ h => h) (Or.inl ⟨by rfl, ?_⟩) hHeld ?_
    rotate_left
    · (intro v9 hS9; go_simp; try with_reducible rfl)
    try simp only [Act.put, List.setIfInBounds_toArray, List.set_cons_zero, List.set_cons_succ, List.getElem_toArray, List.getElem_cons_zero, List.getElem_cons_succ]
    refine wpAnyH_take (i := 22) (v := ?_) rfl (by kernel_rfl) (by kernel_rfl) (by kernel_rfl) (fun _ _ _ h => h) (Or.inl ⟨by rfl, ?_⟩) hHeld ?_
    rotate_left
    · (intro v9 hS9; go_simp; try with_reducible rfl)
    try simp only [Act.put, List.setIfInBounds_toArray, List.set_cons_zero, List.set_cons_succ, List.getElem_toArray, List.getElem_cons_zero, List.getElem_cons_succ]
    refine wpAnyH_take (i := 23) (v := ?_) rfl (by kernel_rfl) (by kernel_rfl) (by kernel_rfl) (fun _ _ _ h => h) (Or.inl ⟨by rfl, ?_⟩) hHeld ?_
    rotate_left
    · (intro v9 hS9; go_simp; exact rfl)
    try simp only [Act.put, List.setIfInBounds_toArray, List.set_cons_zero, List.set_cons_succ, List.getElem_toArray, List.getElem_cons_zero, List.getElem_cons_succ]
    refine wpAnyH_take (i := 24) (v := ?_) rfl (by kernel_rfl) (by kernel_rfl) (by kernel_rfl) (fun _ _ _ h => h) (Or.inl ⟨by rfl, ?_⟩) hHeld ?_
    rotate_left
    · (intro v9 hS9; go_simp; try with_reducible rfl)
    try simp only [Act.put, List.setIfInBounds_toArray, List.set_cons_zero, List.set_cons_succ, List.getElem_toArray, List.getElem_cons_zero, List.getElem_cons_succ]
    refine wpAnyH_take (i := 25) (v := ?_) rfl (by kernel_rfl) (by kernel_rfl) (by kernel_rfl) (fun _ _ _ h => h) (Or.inl ⟨by rfl, ?_⟩) hHeld ?_
    rotate_left
    · (intro v9 hS9; obtain ⟨_, _, _, _, pm, pn⟩ := hS9; go_simp; try with_reducible rfl)
    try simp only [Act.put, List.setIfInBounds_toArray, List.set_cons_zero, List.set_cons_succ, List.getElem_toArray, List.getElem_cons_zero, List.getElem_cons_succ]
    refine wpAnyH_take (i := 26) (v := ?_) rfl (by kernel_rfl) (by kernel_rfl) (by kernel_rfl) (fun _ _ _ h => h) (Or.inl ⟨by rfl, ?_⟩) hHeld ?_
    rotate_left
    · (intro v9 hS9; go_simp; try with_reducible rfl)
    try simp only [Act.put, List.setIfInBounds_toArray, List.set_cons_zero, List.set_cons_succ, List.getElem_toArray, List.getElem_cons_zero, List.getElem_cons_succ]
    refine wpAnyH_take (i := 27) (v := ?_) rfl (by kernel_rfl) (by kernel_rfl) (by kernel_rfl) (fun _ _ _ h => h) (Or.inl ⟨by rfl, ?_⟩) hHeld ?_
    rotate_left
    · (intro v9 hS9; go_simp; try with_reducible rfl)
    try simp only [Act.put, List.setIfInBounds_toArray, List.set_cons_zero, List.set_cons_succ, List.getElem_toArray, List.getElem_cons_zero, List.getElem_cons_succ]
    refine wpAnyH_take (i := 28) (v := ?_) rfl (by kernel_rfl) (by kernel_rfl) (by kernel_rfl) (fun _ _ _ h => h) (Or.inl ⟨by rfl, ?_⟩) hHeld ?_
    rotate_left
    · (intro v9 hS9; go_simp; try with_reducible rfl)
    try simp only [Act.put, List.setIfInBounds_toArray, List.set_cons_zero, List.set_cons_succ, List.getElem_toArray, List.getElem_cons_zero, List.getElem_cons_succ]
    refine wpAnyH_take (i := 29) (v := ?_) rfl (by kernel_rfl) (by kernel_rfl) (by kernel_rfl) (fun _ _ _ h => h) (Or.inl ⟨by rfl, ?_⟩) hHeld ?_
    rotate_left
    · (intro v9 hS9; go_simp; try with_reducible rfl)
    try simp only [Act.put, List.setIfInBounds_toArray, List.set_cons_zero, List.set_cons_succ, List.getElem_toArray, List.getElem_cons_zero, List.getElem_cons_succ]
    refine wpAnyH_take (i := 30) (v := ?_) rfl (by kernel_rfl) (by kernel_rfl) (by kernel_rfl) (fun _ _ _ h => h) (Or.inl ⟨by rfl, ?_⟩) hHeld ?_
    rotate_left
    · (intro v9 hS9; go_simp; exact rfl)
    try simp only [Act.put, List.setIfInBounds_toArray, List.set_cons_zero, List.set_cons_succ, List.getElem_toArray, List.getElem_cons_zero, List.getElem_cons_succ]
    refine wpAnyH_take (i := 31) (v := ?_) rfl (by kernel_rfl) (by kernel_rfl) (by kernel_rfl) (fun _ _ _ h => h) (Or.inl ⟨by rfl, ?_⟩) hHeld ?_
    rotate_left
    · (intro v9 hS9; go_simp; try with_reducible rfl)
    try simp only [Act.put, List.setIfInBounds_toArray, List.set_cons_zero, List.set_cons_succ, List.getElem_toArray, List.getElem_cons_zero, List.getElem_cons_succ]
    refine wpAnyH_take (i := 32) (v := ?_) rfl (by kernel_rfl) (by kernel_rfl) (by kernel_rfl) (fun _ _ _ h => h) (Or.inl ⟨by rfl, ?_⟩) hHeld ?_
    rotate_left
    · (intro v9 hS9; obtain ⟨_, _, _, _, pm, pn⟩ := hS9; go_simp; try with_reducible rfl)
    try simp only [Act.put, List.setIfInBounds_toArray, List.set_cons_zero, List.set_cons_succ, List.getElem_toArray, List.getElem_cons_zero, List.getElem_cons_succ]
    refine wpAnyH_take (i := 33) (v := ?_) rfl (by kernel_rfl) (by kernel_rfl) (by kernel_rfl) (fun _ _ _ h => h) (Or.inl ⟨by rfl, ?_⟩) hHeld ?_
    rotate_left
    · (intro v9 hS9; go_simp; try with_reducible rfl)
    try simp only [Act.put, List.setIfInBounds_toArray, List.set_cons_zero, List.set_cons_succ, List.getElem_toArray, List.getElem_cons_zero, List.getElem_cons_succ]
    refine wpAnyH_take (i := 34) (v := ?_) rfl (by kernel_rfl) (by kernel_rfl) (by kernel_rfl) (fun _ _ _ h => h) (Or.inl ⟨by rfl, ?_⟩) hHeld ?_
    rotate_left
    · (intro v9 hS9; go_simp; try with_reducible rfl)
    try simp only [Act.put, List.setIfInBounds_toArray, List.set_cons_zero, List.set_cons_succ, List.getElem_toArray, List.getElem_cons_zero, List.getElem_cons_succ]
    refine wpAnyH_done (by kernel_rfl) ?_ _
    clear g1 g2 g3 g4 HS4 HS5
    have HS7 : Hid (St w0 g L mb mo M a4 rop _) := hHeld
    clear hHeld
    go_wp2
    go_loopw [6] (fun i wr => ∃ k : Nat, k ≤ M.length ∧ i = .int .i64 k ∧ wr = w6) (fun i _ => M.length - (intOf i).toNat)
    case atStart => exact ⟨0, Nat.zero_le _, rfl, rfl⟩
    case round =>
      obtain ⟨k, hk, rfl, rfl⟩ := hrel
      by_cases hlt : k < M.length
      · have hkz : (k : Int) < (M.length : Int) := by omega
        rcases HS7.out.na.2 with h0 | ⟨ab, ao, rfl, hca⟩
        · rw [List.length_map, List.length_range] at h0; omega
        have q0 := hca k (by simp; omega)
        clear hca
        simp only [List.getElem_map, List.getElem_range] at q0
        go_wp2
        go_roundw
        case rel => exact ⟨k + 1, by omega, by go_num, by trivial⟩
        case measure => simp [intOf]; omega
      · have hkz : ¬ (k : Int) < (M.length : Int) := by omega
        have HN7 : Hid (Nodes wr (some ⟨g, 0, none⟩) L) := HS7.out.nl
        have HM7 : Hid (Nodes wr (some ⟨mb, mo, none⟩) M) := HS7.out.nm
        have HB7 : Hid (Below w0.heap.size w0 wr) := HS7.out.bel
        clear HS7
        go_wp2_with fail
        refine (HFR.out _ _ M c2 HM7.out HCM.out (by omega)).mono ?_
        rw [HFM.out]
        rintro e w8 ⟨⟨a8, c8, rfl, hi8⟩, hb8⟩
        have HI8 : Hid (Ints w8 a8 (freeL L)) := hi8.ints
        have HN8 : Hid (Nodes w8 (some ⟨g, 0, none⟩) L) := HN7.out.below hb8
        have HM8 : Hid (Nodes w8 (some ⟨mb, mo, none⟩) M) := HM7.out.below hb8
        have HB8 : Hid (Below w0.heap.size w0 w8) := HB7.out.trans (hb8.mono HB7.out.size)
        clear hi8 hb8 HN7 HM7 HB7
        go_wp2_with fail
        refine (HFR.out _ _ L c HN8.out HCL.out (by omega)).mono ?_
        rintro e w9 ⟨⟨a9, c9, rfl, hi9⟩, hb9⟩
        have HI9 : Hid (Ints w9 a8 (freeL L)) := HI8.out.below hb9
        have HJ9 : Hid (Ints w9 a9 (freeL L)) := hi9.ints
        have HN9 : Hid (Nodes w9 (some ⟨g, 0, none⟩) L) := HN8.out.below hb9
        have HM9 : Hid (Nodes w9 (some ⟨mb, mo, none⟩) M) := HM8.out.below hb9
        have HB9 : Hid (Below w0.heap.size w0 w9) := HB8.out.trans (hb9.mono HB8.out.size)
        clear hi9 hb9 HI8 HN8 HM8 HB8
        go_wp2_with fail
        refine (sameInts _ a8 a9 (freeL L) c8 c9 HI9.out HJ9.out).mono ?_
        rintro e wa ⟨rfl, ma, rfl⟩
        have hda : Below w9.heap.size w9 (w9.drewN ma) := below_drewN (Below.refl _ _) _
        have HNa : Hid (Nodes (w9.drewN ma) (some ⟨g, 0, none⟩) L) := HN9.out.below hda
        have HMa : Hid (Nodes (w9.drewN ma) (some ⟨mb, mo, none⟩) M) := HM9.out.below hda
        have HBa : Hid (Below w0.heap.size w0 (w9.drewN ma)) := HB9.out.trans (hda.mono HB9.out.size)
        clear hda HI9 HJ9 HN9 HM9 HB9
        generalize w9.drewN ma = wa at HNa HMa HBa ⊢
        go_wp2_with fail
        refine (HSE.out _ _ M c2 HMa.out HCM.out (by omega)).mono ?_
        rw [HSM.out]
        rintro e wb ⟨rfl, hbb⟩
        have HNb : Hid (Nodes wb (some ⟨g, 0, none⟩) L) := HNa.out.below hbb
        have HMb : Hid (Nodes wb (some ⟨mb, mo, none⟩) M) := HMa.out.below hbb
        have HBb : Hid (Below w0.heap.size w0 wb) := HBa.out.trans (hbb.mono HBa.out.size)
        clear hbb HNa HMa HBa
        go_wp2_with fail
        refine (HSE.out _ _ L c HNb.out HCL.out (by omega)).mono ?_
        rintro e wc ⟨rfl, hbc⟩
        have HNc : Hid (Nodes wc (some ⟨g, 0, none⟩) L) := HNb.out.below hbc
        have HMc : Hid (Nodes wc (some ⟨mb, mo, none⟩) M) := HMb.out.below hbc
        have HBc : Hid (Below w0.heap.size w0 wc) := HBb.out.trans (hbc.mono HBb.out.size)
        clear hbc HNb HMb HBb
        go_wp2_with fail
        refine (HBI.out _ _ M c2 HMc.out HCM.out (by omega)).mono ?_
        rw [HBM.out]
        rintro e wd ⟨rfl, hbd⟩
        have HNd : Hid (Nodes wd (some ⟨g, 0, none⟩) L) := HNc.out.below hbd
        have HMd : Hid (Nodes wd (some ⟨mb, mo, none⟩) M) := HMc.out.below hbd
        have HBd : Hid (Below w0.heap.size w0 wd) := HBc.out.trans (hbd.mono HBc.out.size)
        clear hbd HNc HMc HBc
        go_wp2_with fail
        refine (HBI.out _ _ L c HNd.out HCL.out (by omega)).mono ?_
        rintro e we ⟨rfl, hbe⟩
        have HNe : Hid (Nodes we (some ⟨g, 0, none⟩) L) := HNd.out.below hbe
        have HMe : Hid (Nodes we (some ⟨mb, mo, none⟩) M) := HMd.out.below hbe
        have HBe : Hid (Below w0.heap.size w0 we) := HBd.out.trans (hbe.mono HBd.out.size)
        clear hbe HNd HMd HBd
        go_wp2_with fail
        refine (HPR.out _ _ M c2 HMe.out HCM.out (by omega)).mono ?_
        rw [HPM.out]
        rintro e wf ⟨⟨af, cf, rfl, hif, _⟩, hbf⟩
        have HPf : Hid (Nodes wf af M) := hif.nodes
        have HNf : Hid (Nodes wf (some ⟨g, 0, none⟩) L) := HNe.out.below hbf
        have HMf : Hid (Nodes wf (some ⟨mb, mo, none⟩) M) := HMe.out.below hbf
        have HBf : Hid (Below w0.heap.size w0 wf) := HBe.out.trans (hbf.mono HBe.out.size)
        clear hif hbf HNe HMe HBe
        go_wp2_with fail
        refine (sameNodes _ af _ M cf c2 HPf.out HMf.out).mono ?_
        rintro e wg ⟨rfl, mg, rfl⟩
        have hdg : Below wf.heap.size wf (wf.drewN mg) := below_drewN (Below.refl _ _) _
        have HNg : Hid (Nodes (wf.drewN mg) (some ⟨g, 0, none⟩) L) := HNf.out.below hdg
        have HBg : Hid (Below w0.heap.size w0 (wf.drewN mg)) := HBf.out.trans (hdg.mono HBf.out.size)
        clear hdg HPf HNf HMf HBf
        generalize wf.drewN mg = wg at HNg HBg ⊢
        go_wp2_with fail
        refine (HSE.out _ _ L c HNg.out HCL.out (by omega)).mono ?_
        rintro e wh ⟨rfl, hbh⟩
        have HNh : Hid (Nodes wh (some ⟨g, 0, none⟩) L) := HNg.out.below hbh
        have HBh : Hid (Below w0.heap.size w0 wh) := HBg.out.trans (hbh.mono HBg.out.size)
        clear hbh HNg HBg
        go_wp2_with fail
        refine (sSentence _ _ L c HNh.out).mono ?_
        rintro e wi ⟨rfl, hbi⟩
        have HBi : Hid (Below w0.heap.size w0 wi) := HBh.out.trans (hbi.mono HBh.out.size)
        clear hbi HNh HBh
        go_wp2
        go_ret
        exact ⟨rfl, HBi.out⟩

end Go.Proofs.Ytlicobjkjikjoaa.Lp1
