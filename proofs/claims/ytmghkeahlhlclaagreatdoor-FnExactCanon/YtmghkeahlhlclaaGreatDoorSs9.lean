/- The walk of the model's text of a node. -/
import Derived.Deep.CutRange
import Derived.Deep.CutBlock
import Derived.Deep.RegionWith
import Derived.Test.YtmghkeahlhlclaaGreatDoorPkF
import Derived.Test.YtmghkeahlhlclaaGreatDoorSp2
import Derived.Test.YtmghkeahlhlclaaGreatDoorDn0
import Derived.Test.YtmghkeahlhlclaaGreatDoorPkE
namespace Go.Proofs.YtmghkeahlhlclaaGreatDoor.Ss9
open Go.RowKit
open Nd0 Tm0 Tx0 Tx2 Ss0 Ss1 Ss2
open Sp2 (sParts)
open Pl1 (wok wok_lt)
set_option linter.unusedVariables false

/-- The numbers that are written of a right node are small, and its parts are there. -/
structure Wr (n : Nd) (m : Nat) : Prop where
  w0 : 0 ≤ n.w
  w1 : n.w ≤ 8
  k0 : n.op = 0 ∨ n.op = 1 ∨ n.op = 17 ∨ n.op = 19 ∨ n.op = 20 → 0 ≤ n.k ∧ n.k ≤ 255
  b0 : n.op = 19 ∨ n.op = 20 → 0 ≤ n.b ∧ n.b ≤ 8
  ps : ∀ p ∈ parts n, 0 ≤ p ∧ p < (m : Int)
  op : 0 ≤ n.op ∧ n.op ≤ 20
theorem wr_of {l : List Nd} {i : Nat} (hw : ∀ j, j < i → (nth l j).w ≤ 8) (h : nodeOk l i = true) : Wr (nth l i) i := by
  have hwd := node_width h
  have hp := Tm1.parts_ok h
  have hs : shapeOk (nth l i) ((parts (nth l i)).map (width l)) = true := by
    simp only [nodeOk, Bool.and_eq_true] at h; exact h.2
  have hps : ∀ p ∈ parts (nth l i), 0 ≤ p ∧ p < (i : Int) := by
    intro p hpm
    obtain ⟨j, hj, rfl⟩ := List.getElem_of_mem hpm
    exact hp j hj
  have hws : ∀ p ∈ parts (nth l i), width l p ≤ 8 := by
    intro p hpm
    have := hps p hpm
    exact hw p.toNat (by omega)
  generalize nth l i = n at hwd hs hps hws
  have hop : 0 ≤ n.op ∧ n.op ≤ 20 := by
    by_cases e : 0 ≤ n.op ∧ n.op ≤ 20
    · exact e
    · unfold shapeOk at hs
      rw [if_neg (by omega), if_neg (by omega), if_neg (by omega), if_neg (by omega), if_neg (by omega), if_neg (by omega), if_neg (by omega), if_neg (by omega), if_neg (by omega)] at hs
      cases hs
  refine ⟨by omega, hwd.2, ?_, ?_, hps, hop⟩
  · intro hk
    unfold shapeOk at hs
    rcases hk with e | e | e | e
    · rw [if_pos e] at hs
      simp only [Bool.and_eq_true] at hs
      exact wok_lt hs.1
    · rw [if_neg (by omega), if_pos e] at hs
      simp at hs; omega
    · have hpo : parts n = [n.a] := parts_one (by omega)
      rw [hpo] at hs hws
      have := hws n.a (by simp)
      rw [if_neg (by omega), if_neg (by omega), if_neg (by omega), if_neg (by omega), if_neg (by omega), if_neg (by omega), if_pos e] at hs
      simp at hs; omega
    · rw [if_neg (by omega), if_neg (by omega), if_neg (by omega), if_neg (by omega), if_neg (by omega), if_neg (by omega), if_neg (by omega), if_neg (by omega), if_pos e] at hs
      simp at hs; omega
  · intro e
    unfold shapeOk at hs
    rw [if_neg (by omega), if_neg (by omega), if_neg (by omega), if_neg (by omega), if_neg (by omega), if_neg (by omega), if_neg (by omega), if_neg (by omega), if_pos e] at hs
    simp at hs; omega
theorem dec_size {n : Nat} (h : n < 1000000000) : (bs (dec n)).size ≤ 9 := by
  rw [bs_size]; exact (dec_len h).2

theorem head_len {n : Nd} {m : Nat} (h : Wr n m) : (headL n).length ≤ 40 := by
  have hw := dec_len (n := n.w.toNat) (by have := h.w1; omega)
  unfold headL
  split
  · decide
  · split
    · rename_i e
      have hk := dec_len (n := n.k.toNat) (by have := h.k0 (.inr (.inr (.inl e))); omega)
      simp [wSlice]; omega
    · split
      · decide
      · split
        · rename_i e
          have hk := dec_len (n := n.k.toNat) (by have := h.k0 (by omega); omega)
          have hb := dec_len (n := n.b.toNat) (by have := h.b0 (by omega); omega)
          simp [wAll]; omega
        · split
          · rename_i e
            have hk := dec_len (n := n.k.toNat) (by have := h.k0 (by omega); omega)
            have hb := dec_len (n := n.b.toNat) (by have := h.b0 (by omega); omega)
            simp [wSome]; omega
          · rw [List.getD_eq_getElem?_getD]
            cases hg : wordsL[(n.op - 3).toNat]? with
            | none => simp
            | some x =>
              have hm := List.mem_of_getElem? hg
              have : ∀ x ∈ wordsL, x.length ≤ 40 := by decide
              exact this x hm
theorem words_at {w : World} {b j : Nat} (h : Strs w (some ⟨b, 0, none⟩) wordsL) (hj : j < 14) : w.cell? ⟨b, j, none⟩ = some (.string (bs (wordsL.getD j []))) := by
  rcases h.2 with h0 | ⟨b', o', he, hc⟩
  · exact absurd h0 (by decide)
  · cases he
    have q0 := hc j hj
    rw [Nat.zero_add] at q0
    rw [q0, List.getD_eq_getElem?_getD, List.getElem?_eq_getElem (show j < wordsL.length from hj)]; rfl

set_option maxRecDepth 100000 in
set_option maxHeartbeats 4000000 in
theorem sShow (n : Nd) (w : World) (ta : Option Addr) (ts : List (List UInt8)) (tc : Nat) (hS : Strs w ta ts) (hW : Wr n ts.length) (hl : ∀ t ∈ ts, t.length ≤ 4000) :
    Calls Tryz.prog 29 #[.agg #[.int .i64 n.op, .int .i64 n.w, .int .i64 n.k, .int .i64 n.a, .int .i64 n.b, .int .i64 n.c], .slice ta ts.length tc] w fun e w' => e = .returned (.string (bs (showN n ts))) ∧ Below w.heap.size w w' := by
  have HW : Hid (Wr n ts.length) := hW
  have HL : Hid (∀ t ∈ ts, t.length ≤ 4000) := hl
  obtain ⟨ww, hww⟩ : ∃ ww : Nat, n.w = (ww : Int) := ⟨n.w.toNat, by have := hW.w0; omega⟩
  have hw9 : ww < 1000000000 := by have := hW.w1; omega
  have hop := hW.op
  obtain ⟨w1, hw1⟩ : ∃ w1 : World, w1 = w.alloc (.cells #[.int .i64 n.op, .int .i64 n.w, .int .i64 n.k, .int .i64 n.a, .int .i64 n.b, .int .i64 n.c] 48) := ⟨_, rfl⟩
  have hb1 : Below w.heap.size w w1 := by rw [hw1]; exact (Below.refl _ _).alloc (Nat.le_refl _) _
  have HB1 : Hid (Below w.heap.size w w1) := hb1
  have HS1 : Hid (Strs w1 ta ts) := hS.below hb1
  obtain ⟨bn, hbn⟩ : ∃ bn : Nat, bn = w.heap.size := ⟨_, rfl⟩
  have hnd : NodeAt w1 bn 0 n := by rw [hw1]; exact Dw4.node_new w n 48 bn hbn 0 (by simp)
  have HND : Hid (NodeAt w1 bn 0 n) := hnd
  have HW1 : Hid (w1 = w.alloc (.cells #[.int .i64 n.op, .int .i64 n.w, .int .i64 n.k, .int .i64 n.a, .int .i64 n.b, .int .i64 n.c] 48)) := hw1
  have hds := dec_size hw9
  clear hS hW hl hb1 hnd hw1
  by_cases h0 : n.op = 0
  · obtain ⟨kk, hkk⟩ : ∃ kk : Nat, n.k = (kk : Int) := ⟨n.k.toNat, by have := HW.out.k0 (.inl h0); omega⟩
    have hk9 : kk < 1000000000 := by have := HW.out.k0 (.inl h0); omega
    have hdk := dec_size hk9
    have HE : Hid (showN n ts = [35] ++ dec ww ++ [58] ++ dec kk) := by
      show _ = _
      unfold showN
      rw [if_pos h0, hww, hkk, Int.toNat_natCast, Int.toNat_natCast]
    rw [h0, hww, hkk] at HW1 ⊢
    clear hbn hop
    go_enter Tryz.func29, Tryz.ntmps29
    go_wp2
    go_quiet ((go_at_call 48; exact Calls.quiet_of_same (sDec _ _ (by assumption))))
    go_wp2
    go_ret
    refine ⟨ret_str ?_, ?_⟩
    · rw [HE.out]
      show bs [35] ++ bs (dec ww) ++ bs [58] ++ bs (dec kk) = _
      rw [bs_app, bs_app, bs_app]
    · have hb : Below w.heap.size w (w.alloc (.cells #[.int .i64 0, .int .i64 ww, .int .i64 kk, .int .i64 n.a, .int .i64 n.b, .int .i64 n.c] 48)) := (Below.refl _ _).alloc (Nat.le_refl _) _
      exact ⟨hb.os, hb.tape, hb.output, hb.size, hb.block⟩
  by_cases h1 : n.op = 1
  · obtain ⟨kk, hkk⟩ : ∃ kk : Nat, n.k = (kk : Int) := ⟨n.k.toNat, by have := HW.out.k0 (.inr (.inl h1)); omega⟩
    have hk9 : kk < 1000000000 := by have := HW.out.k0 (.inr (.inl h1)); omega
    have hdk := dec_size hk9
    have HE : Hid (showN n ts = [118] ++ dec kk ++ [58] ++ dec ww) := by
      show _ = _
      unfold showN
      rw [if_neg h0, if_pos h1, hww, hkk, Int.toNat_natCast, Int.toNat_natCast]
    rw [h1, hww, hkk] at HW1 ⊢
    clear hbn hop
    go_enter Tryz.func29, Tryz.ntmps29
    go_wp2
    go_quiet ((go_at_call 48; exact Calls.quiet_of_same (sDec _ _ (by assumption))))
    go_wp2
    go_ret
    refine ⟨ret_str ?_, ?_⟩
    · rw [HE.out]
      show bs [118] ++ bs (dec kk) ++ bs [58] ++ bs (dec ww) = _
      rw [bs_app, bs_app, bs_app]
    · have hb : Below w.heap.size w (w.alloc (.cells #[.int .i64 1, .int .i64 ww, .int .i64 kk, .int .i64 n.a, .int .i64 n.b, .int .i64 n.c] 48)) := (Below.refl _ _).alloc (Nat.le_refl _) _
      exact ⟨hb.os, hb.tape, hb.output, hb.size, hb.block⟩
  · have HSH : Hid (showN n ts = match withParts ts (headL n) (parts n) with | none => [] | some h => if 4000 < h.length + 2 then [] else [40] ++ h ++ [41]) := by
      show _ = _
      unfold showN
      rw [if_neg h0, if_neg h1]
      cases withParts ts (headL n) (parts n) <;> rfl
    have HWW : Hid (n.w = (ww : Int)) := hww
    clear hww
    have hq0 : (n.op == 0) = false := beq_eq_false_iff_ne.2 h0
    have hq1 : (n.op == 1) = false := beq_eq_false_iff_ne.2 h1
    have e0 := HND.out.c0
    have e1 := HND.out.c1
    have e2 := HND.out.c2
    have e4 := HND.out.c4
    simp only [Nat.zero_add] at e0 e1 e2 e4
    rw [HW1.out, hbn] at e0 e1 e2 e4
    go_enter Tryz.func29, Tryz.ntmps29
    go_upto_block 1 with fail
    rw [← HW1.out, ← hbn] at e0 e1 e2 e4 ⊢
    clear hbn
    go_cut [5] from 32 to 84 (fun s5 wc => s5 = .string (bs (headL n)) ∧ Below w1.heap.size w1 wc)
    case first =>
      by_cases h2 : n.op = 2
      · have HH : Hid (headL n = [110, 111, 116]) := by show _ = _; unfold headL; rw [if_pos h2]; rfl
        have hqq : (n.op == 2) = true := by simp [h2]
        clear h2 h0 h1
        go_wp2_with fail
        go_meet
        case rel => exact ⟨by rw [HH.out]; rfl, Below.refl _ _⟩
      have hq2 : (n.op == 2) = false := beq_eq_false_iff_ne.2 h2
      by_cases h17 : n.op = 17
      · obtain ⟨kk, hkk⟩ : ∃ kk : Nat, n.k = (kk : Int) := ⟨n.k.toNat, by have := HW.out.k0 (.inr (.inr (.inl h17))); omega⟩
        have hk9 : kk < 1000000000 := by have := HW.out.k0 (.inr (.inr (.inl h17))); omega
        have hdk := dec_size hk9
        have HH : Hid (headL n = [115, 108, 105, 99, 101, 32] ++ dec kk ++ [32] ++ dec ww) := by
          show _ = _
          unfold headL
          rw [if_neg h2, if_pos h17, HWW.out, hkk, Int.toNat_natCast, Int.toNat_natCast]; rfl
        have hqq : (n.op == 17) = true := by simp [h17]
        rw [hkk] at e2
        rw [HWW.out] at e1
        clear h2 h17 h0 h1 hkk
        go_wp2_with fail
        go_quiet ((go_at_call 48; exact Calls.quiet_of_same (sDec _ _ (by assumption))))
        go_wp2_with fail
        go_meet
        case rel =>
          refine ⟨?_, ⟨rfl, rfl, rfl, Nat.le_refl _, fun _ _ => rfl⟩⟩
          rw [HH.out]
          show Value.string (bs [115, 108, 105, 99, 101, 32] ++ bs (dec kk) ++ bs [32] ++ bs (dec ww)) = _
          rw [bs_app, bs_app, bs_app]
      have hq17 : (n.op == 17) = false := beq_eq_false_iff_ne.2 h17
      by_cases h18 : n.op = 18
      · have HH : Hid (headL n = [105, 102]) := by show _ = _; unfold headL; rw [if_neg h2, if_neg h17, if_pos h18]; rfl
        have hqq : (n.op == 18) = true := by simp [h18]
        clear h2 h17 h18 h0 h1
        go_wp2_with fail
        go_meet
        case rel => exact ⟨by rw [HH.out]; rfl, Below.refl _ _⟩
      have hq18 : (n.op == 18) = false := beq_eq_false_iff_ne.2 h18
      by_cases h19 : n.op = 19
      · obtain ⟨kk, hkk⟩ : ∃ kk : Nat, n.k = (kk : Int) := ⟨n.k.toNat, by have := HW.out.k0 (by omega); omega⟩
        obtain ⟨bb, hbb⟩ : ∃ bb : Nat, n.b = (bb : Int) := ⟨n.b.toNat, by have := HW.out.b0 (by omega); omega⟩
        have hk9 : kk < 1000000000 := by have := HW.out.k0 (by omega); omega
        have hb9 : bb < 1000000000 := by have := HW.out.b0 (by omega); omega
        have hdk := dec_size hk9
        have hdb := dec_size hb9
        have HH : Hid (headL n = [97, 108, 108, 32, 118] ++ dec kk ++ [58] ++ dec bb) := by
          show _ = _
          unfold headL
          rw [if_neg h2, if_neg h17, if_neg h18, if_pos h19, hbb, hkk, Int.toNat_natCast, Int.toNat_natCast]; rfl
        have hqq : (n.op == 19) = true := by simp [h19]
        rw [hkk] at e2
        rw [hbb] at e4
        clear h2 h17 h18 h19 h0 h1 hkk hbb
        go_wp2_with fail
        go_quiet ((go_at_call 48; exact Calls.quiet_of_same (sDec _ _ (by assumption))))
        go_wp2_with fail
        go_meet
        case rel =>
          refine ⟨?_, ⟨rfl, rfl, rfl, Nat.le_refl _, fun _ _ => rfl⟩⟩
          rw [HH.out]
          show Value.string (bs [97, 108, 108, 32, 118] ++ bs (dec kk) ++ bs [58] ++ bs (dec bb)) = _
          rw [bs_app, bs_app, bs_app]
      have hq19 : (n.op == 19) = false := beq_eq_false_iff_ne.2 h19
      by_cases h20 : n.op = 20
      · obtain ⟨kk, hkk⟩ : ∃ kk : Nat, n.k = (kk : Int) := ⟨n.k.toNat, by have := HW.out.k0 (by omega); omega⟩
        obtain ⟨bb, hbb⟩ : ∃ bb : Nat, n.b = (bb : Int) := ⟨n.b.toNat, by have := HW.out.b0 (by omega); omega⟩
        have hk9 : kk < 1000000000 := by have := HW.out.k0 (by omega); omega
        have hb9 : bb < 1000000000 := by have := HW.out.b0 (by omega); omega
        have hdk := dec_size hk9
        have hdb := dec_size hb9
        have HH : Hid (headL n = [115, 111, 109, 101, 32, 118] ++ dec kk ++ [58] ++ dec bb) := by
          show _ = _
          unfold headL
          rw [if_neg h2, if_neg h17, if_neg h18, if_neg h19, if_pos h20, hbb, hkk, Int.toNat_natCast, Int.toNat_natCast]; rfl
        have hqq : (n.op == 20) = true := by simp [h20]
        rw [hkk] at e2
        rw [hbb] at e4
        clear h2 h17 h18 h19 h20 h0 h1 hkk hbb
        go_wp2_with fail
        go_quiet ((go_at_call 48; exact Calls.quiet_of_same (sDec _ _ (by assumption))))
        go_wp2_with fail
        go_meet
        case rel =>
          refine ⟨?_, ⟨rfl, rfl, rfl, Nat.le_refl _, fun _ _ => rfl⟩⟩
          rw [HH.out]
          show Value.string (bs [115, 111, 109, 101, 32, 118] ++ bs (dec kk) ++ bs [58] ++ bs (dec bb)) = _
          rw [bs_app, bs_app, bs_app]
      have hq20 : (n.op == 20) = false := beq_eq_false_iff_ne.2 h20
      have hr3 : 3 ≤ n.op := by omega
      have hr16 : n.op ≤ 16 := by omega
      have HH : Hid (headL n = wordsL.getD (n.op - 3).toNat []) := by show _ = _; unfold headL; rw [if_neg h2, if_neg h17, if_neg h18, if_neg h19, if_neg h20]
      obtain ⟨j, hj⟩ : ∃ j : Nat, n.op = (j : Int) + 3 := ⟨(n.op - 3).toNat, by omega⟩
      have hj14 : j < 14 := by omega
      have HJ : Hid ((n.op - 3).toNat = j) := by show _ = _; omega
      have HJE : Hid (n.op = (j : Int) + 3) := hj
      clear h2 h17 h18 h19 h20 h0 h1 hj
      have hbw : bn < w1.heap.size := HND.out.lt
      have HE0 : Hid (w1.cell? ⟨bn, 0, none⟩ = some (.int .i64 n.op)) := e0
      go_wp2_with fail
      clear e0 e1 e2 e4
      have e0 : w1.cell? ⟨bn, 0, none⟩ = some (.int .i64 ((j : Int) + 3)) := by rw [← HJE.out]; exact HE0.out
      have HE1 : Hid (w1.cell? ⟨bn, 0, none⟩ = some (.int .i64 ((j : Int) + 3))) := e0
      have hjz : (j : Int) < 14 := by omega
      have hwj : IntKind.i64.wrap (j : Int) = (j : Int) := by rw [IntKind.wrap_i64]; omega
      go_region_with (go_at_call 49; refine (sWords _).mono ?_; rintro e w' ⟨⟨b9, rfl, hst⟩, hb9⟩; have q0 : w'.cell? ⟨bn, 0, none⟩ = some (.int .i64 ((j : Int) + 3)) := (by rw [hb9.cell (p := ⟨bn, 0, none⟩) hbw]; exact HE1.out); have q9 : w'.cell? ⟨b9, j, none⟩ = some (.string (bs (wordsL.getD j []))) := words_at hst hj14; have HB9 : Hid (Below w1.drew.heap.size w1.drew w') := hb9; clear hst hb9)
      all_goals
        go_wp2_with fail
        go_meet
        case rel =>
          refine ⟨?_, ?_⟩
          · rw [HH.out, HJ.out, List.getD_eq_getElem?_getD]
          · exact ⟨HB9.out.os, HB9.out.tape, HB9.out.output, HB9.out.size, HB9.out.block⟩
    case rest =>
      obtain ⟨rfl, hb2⟩ := hcut
      have HB2 : Hid (Below w.heap.size w wc) := HB1.out.trans (hb2.mono HB1.out.size)
      have HS2 : Hid (Strs wc ta ts) := HS1.out.below hb2
      have hnd := HND.out.below hb2 HND.out.lt
      have d0 := hnd.c0
      have d1 := hnd.c1
      have d2 := hnd.c2
      have d3 := hnd.c3
      have d4 := hnd.c4
      have d5 := hnd.c5
      simp only [Nat.zero_add] at d1 d2 d3 d4 d5
      have HHL : Hid ((headL n).length ≤ 40) := head_len HW.out
      clear hnd hb2 HS1 HND HW1 HB1 e0 e1 e2 e4 hq0 hq1
      go_wp2_with fail
      refine (sParts n _).mono ?_
      rintro e w3 ⟨⟨pa, pc, rfl, hpi⟩, hb3⟩
      have HP3 : Hid (Ints w3 pa (parts n)) := hpi.ints
      have HS3 : Hid (Strs w3 ta ts) := HS2.out.below hb3
      have HB3 : Hid (Below w.heap.size w w3) := HB2.out.trans (hb3.mono HB2.out.size)
      have hpl := parts_le n
      clear hpi hb3 HS2 HB2 d0 d1 d2 d3 d4 d5
      go_wp2_with fail
      go_loop [5, 7] (fun v q => ∃ (k : Nat) (h : List UInt8), k ≤ (parts n).length ∧ q = .int .i64 k ∧ v = .string (bs h) ∧ withParts ts (headL n) (parts n) = withParts ts h ((parts n).drop k) ∧ h.length ≤ 40 + k * 4001) (fun _ q => (parts n).length - (intOf q).toNat)
      case atStart => exact ⟨0, headL n, Nat.zero_le _, rfl, rfl, rfl, by have := HHL.out; omega⟩
      case round =>
        obtain ⟨k, h, hk, rfl, rfl, hwp, hhl⟩ := hrel
        have HWP : Hid (withParts ts (headL n) (parts n) = withParts ts h ((parts n).drop k)) := hwp
        clear hwp
        have hhs : (bs h).size = h.length := bs_size h
        have HHS : Hid ((bs h).size = h.length) := hhs
        by_cases hlt : k < (parts n).length
        · have hkz : (k : Int) < ((parts n).length : Int) := by omega
          rcases HP3.out.2 with e | ⟨pb, po, rfl, hpc⟩
          · omega
          have q0 := hpc k hlt
          clear hpc
          have hpr := HW.out.ps _ (List.getElem_mem hlt)
          have HDR : Hid ((parts n).drop k = (parts n)[k] :: (parts n).drop (k + 1)) := List.drop_eq_getElem_cons hlt
          generalize (parts n)[k] = pp at q0 hpr HDR
          obtain ⟨y, rfl⟩ : ∃ y : Nat, pp = (y : Int) := ⟨pp.toNat, by omega⟩
          have hyl : y < ts.length := by omega
          have hyz : (y : Int) < (ts.length : Int) := by omega
          rcases HS3.out.2 with e | ⟨tb, tq, rfl, htc⟩
          · omega
          have q1 := htc y hyl
          clear htc
          have HTX : Hid (txt ts (y : Int) = ts[y]) := by
            show _ = _
            rw [txt_nat, List.getD_eq_getElem?_getD, List.getElem?_eq_getElem hyl]; rfl
          have HTL : Hid (ts[y].length ≤ 4000) := HL.out _ (List.getElem_mem hyl)
          generalize ts[y] = T at q1 HTX HTL
          have htl := HTL.out
          have hts : (bs T).size = T.length := bs_size T
          by_cases he : T = []
          · have HE : Hid (showN n ts = []) := by
              show _ = _
              rw [HSH.out, HWP.out, HDR.out]
              simp only [withParts]
              rw [if_pos (by rw [HTX.out]; exact he)]
            have hq : ((bs T).toList == []) = true := eql_true (by rw [tl_bs]; exact he)
            clear he hts hhs
            go_wp2
            go_ret
            exact ⟨ret_str (by rw [HE.out]; rfl), HB3.out⟩
          · have HN : Hid (withParts ts (headL n) (parts n) = withParts ts (h ++ [32] ++ T) ((parts n).drop (k + 1))) := by
              show _ = _
              rw [HWP.out, HDR.out]
              simp only [withParts]
              rw [if_neg (by rw [HTX.out]; exact he), HTX.out]
            have hq : ((bs T).toList == []) = false := eql_false (by rw [tl_bs]; exact he)
            have hz1 : (bs h).size ≤ 20000 := by omega
            have hz2 : (bs T).size ≤ 4000 := by omega
            clear he hts hhs
            go_wp2
            go_round
            case rel =>
              refine ⟨k + 1, h ++ [32] ++ T, by omega, by go_num, ?_, HN.out, ?_⟩
              · show Value.string (bs h ++ bs [32] ++ bs T) = _
                rw [bs_app, bs_app]
              · simp; omega
            case measure => simp [intOf]; omega
        · have hkz : ¬ (k : Int) < ((parts n).length : Int) := by omega
          have HN : Hid (withParts ts (headL n) (parts n) = some h) := by
            show _ = _
            rw [HWP.out, List.drop_eq_nil_of_le (by omega)]; rfl
          have hz1 : (bs h).size ≤ 20000 := by omega
          by_cases h4 : 4000 < h.length + 2
          · have HE : Hid (showN n ts = []) := by
              show _ = _
              rw [HSH.out, HN.out]; simp only; rw [if_pos h4]
            have h4z : (4000 : Int) < ((bs h).size : Int) + 2 := by rw [HHS.out]; omega
            clear hhs
            go_wp2
            go_ret
            exact ⟨ret_str (by rw [HE.out]; rfl), HB3.out⟩
          · have HE : Hid (showN n ts = [40] ++ h ++ [41]) := by
              show _ = _
              rw [HSH.out, HN.out]; simp only; rw [if_neg h4]
            have h4z : ¬ (4000 : Int) < ((bs h).size : Int) + 2 := by rw [HHS.out]; omega
            clear hhs
            go_wp2
            go_ret
            refine ⟨ret_str ?_, HB3.out⟩
            rw [HE.out]
            show bs [40] ++ bs h ++ bs [41] = _
            rw [bs_app, bs_app]

end Go.Proofs.YtmghkeahlhlclaaGreatDoor.Ss9
