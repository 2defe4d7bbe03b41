/- The walk of the program's reader: the width of a node by its parts. -/
import Derived.Test.YtmghkeahlhlclaaDoorPr4
namespace Go.Proofs.YtmghkeahlhlclaaDoor.Pr8
open Go.RowKit
open Nd0 Nd3 Ap2 Tm0 Tx0 Tx1 Ss0 Ss1 Tb0 Tb1 Px0 Pr1 Pr2 Mp0 Pr4
open Ws1 (ret_int ret_bool)
set_option linter.unusedVariables false

theorem at_node {w : World} {b o : Nat} {t : List Nd} (h : Nodes w (some ⟨b, o, none⟩) t) {x : Nat} (hx : x < t.length) : w.cell? ⟨b, o + x * 6 + 1, none⟩ = some (.int .i64 (nth t x).w) := by
  rcases h.2 with e | ⟨b', o', he, hc⟩
  · omega
  · cases he
    have := (hc x hx).c1
    rw [nth_get hx] at this
    exact this
theorem some_of {w : World} {a : Option Addr} {t : List Nd} (h : Nodes w a t) {x : Nat} (hx : x < t.length) : ∃ b o, a = some ⟨b, o, none⟩ := by
  rcases h.2 with e | ⟨b', o', he, hc⟩
  · omega
  · exact ⟨b', o', he⟩

set_option maxRecDepth 100000 in
set_option maxHeartbeats 4000000 in
theorem iWidth (w : World) (b : Nat) (S : ByteArray) (p : Nat) (a : Option Addr) (c bm : Nat) (t : List Nd) (n : Nd) (h : RB w b S p (.slice a t.length c) bm) (hN : Nodes w a t) (hl : t.length ≤ 80) (hw : ∀ j, j < t.length → 1 ≤ (nth t j).w ∧ (nth t j).w ≤ 8)
    (ha : 2 ≤ n.op ∧ n.op ≤ 12 ∨ n.op = 16 → 0 ≤ n.a ∧ n.a < t.length) (hb : n.op = 16 ∨ n.op = 18 → 0 ≤ n.b ∧ n.b < t.length) :
    Calls Tryd.prog 48 #[.pointer (some ⟨b, 0, none⟩), .agg #[.int .i64 n.op, .int .i64 n.w, .int .i64 n.k, .int .i64 n.a, .int .i64 n.b, .int .i64 n.c]] w fun e w' => e = .returned (.int .i64 (pWid t n)) ∧ Below w.heap.size w w' := by
  obtain ⟨w1, hw1⟩ : ∃ w1 : World, w1 = w.alloc (.cells #[.int .i64 n.op, .int .i64 n.w, .int .i64 n.k, .int .i64 n.a, .int .i64 n.b, .int .i64 n.c] 39) := ⟨_, rfl⟩
  have hb1 : Below w.heap.size w w1 := by rw [hw1]; exact (Below.refl _ _).alloc (Nat.le_refl _) _
  have HB1 : Hid (Below w.heap.size w w1) := hb1
  obtain ⟨bn, hbn⟩ : ∃ bn : Nat, bn = w.heap.size := ⟨_, rfl⟩
  have hnd : NodeAt w1 bn 0 n := by rw [hw1]; exact Dw4.node_new w n 39 bn hbn 0 (by simp)
  have hrb := h.below hb1
  have hn1 := hN.below hb1
  have m2 := hrb.c2
  have e0 := hnd.c0
  have e1 := hnd.c1
  have e3 := hnd.c3
  have e4 := hnd.c4
  simp only [Nat.zero_add] at e1 e3 e4
  have HW1 : Hid (w1 = w.alloc (.cells #[.int .i64 n.op, .int .i64 n.w, .int .i64 n.k, .int .i64 n.a, .int .i64 n.b, .int .i64 n.c] 39)) := hw1
  have HBQ : Hid (∀ k, Below w.heap.size w (w1.drewN k)) := fun k => ⟨hb1.os, hb1.tape, hb1.output, hb1.size, hb1.block⟩
  clear hw1 hb1 hnd h hN hrb
  by_cases h2 : 2 ≤ n.op ∧ n.op ≤ 12
  · obtain ⟨h00, h01⟩ := ha (.inl h2)
    obtain ⟨x, hx⟩ : ∃ x : Nat, n.a = (x : Int) := ⟨n.a.toNat, by omega⟩
    have hxl : x < t.length := by omega
    obtain ⟨tb, to', rfl⟩ := some_of hn1 hxl
    have q0 := at_node hn1 hxl
    have hxz : (x : Int) < (t.length : Int) := by omega
    have HE : Hid (pWid t n = (nth t x).w) := by
      show _ = _
      unfold pWid
      rw [if_pos h2]
      rw [hx, Int.toNat_natCast]
    rw [hx] at e3
    obtain ⟨g1, g2⟩ := h2
    clear hn1 ha hb hw h00 h01 hx
    go_enter Tryd.func48, Tryd.ntmps48
    go_wp2
    rw [← HW1.out, ← hbn]
    clear hbn
    go_quiet (fail)
    go_wp2
    go_ret
    exact ⟨ret_int HE.out.symm, HBQ.out _⟩
  have hd2 : ¬ (2 ≤ n.op) ∨ (2 ≤ n.op ∧ ¬ n.op ≤ 12) := by omega
  by_cases h16 : n.op = 16
  · obtain ⟨h00, h01⟩ := ha (.inr h16)
    obtain ⟨k00, k01⟩ := hb (.inl h16)
    obtain ⟨x, hx⟩ : ∃ x : Nat, n.a = (x : Int) := ⟨n.a.toNat, by omega⟩
    obtain ⟨y, hy⟩ : ∃ y : Nat, n.b = (y : Int) := ⟨n.b.toNat, by omega⟩
    have hxl : x < t.length := by omega
    have hyl : y < t.length := by omega
    obtain ⟨tb, to', rfl⟩ := some_of hn1 hxl
    have q0 := at_node hn1 hxl
    have q1 := at_node hn1 hyl
    have hxz : (x : Int) < (t.length : Int) := by omega
    have hyz : (y : Int) < (t.length : Int) := by omega
    have w0 := hw x hxl
    have w9 := hw y hyl
    have HE : Hid (pWid t n = (nth t x).w + (nth t y).w) := by
      show _ = _
      unfold pWid
      rw [if_neg h2, if_pos h16, hx, hy, Int.toNat_natCast, Int.toNat_natCast]
    generalize (nth t x).w = X at q0 HE w0
    generalize (nth t y).w = Y at q1 HE w9
    rw [hx] at e3
    rw [hy] at e4
    have g1 : 2 ≤ n.op := by omega
    have g2 : ¬ n.op ≤ 12 := by omega
    have g3 : (n.op == 16) = true := by simp [h16]
    obtain ⟨u0, u1⟩ := w0
    obtain ⟨u2, u3⟩ := w9
    clear hn1 ha hb hw h00 h01 hx hy k00 k01 h2 hd2 h16
    go_enter Tryd.func48, Tryd.ntmps48
    go_wp2
    rw [← HW1.out, ← hbn]
    clear hbn
    go_quiet (fail)
    go_wp2
    go_ret
    exact ⟨ret_int (by rw [HE.out]), HBQ.out _⟩
  have hq16 : (n.op == 16) = false := beq_eq_false_iff_ne.2 h16
  by_cases h17 : n.op = 17
  · have HE : Hid (pWid t n = n.w) := by show _ = _; unfold pWid; rw [if_neg h2, if_neg h16, if_pos h17]
    have g1 : 2 ≤ n.op := by omega
    have g2 : ¬ n.op ≤ 12 := by omega
    have g3 : (n.op == 17) = true := by simp [h17]
    clear hn1 ha hb hw h2 hd2 h16 h17
    go_enter Tryd.func48, Tryd.ntmps48
    go_wp2
    go_ret
    exact ⟨ret_int HE.out.symm, by rw [← HW1.out]; exact HB1.out⟩
  have hq17 : (n.op == 17) = false := beq_eq_false_iff_ne.2 h17
  by_cases h18 : n.op = 18
  · obtain ⟨h00, h01⟩ := hb (.inr h18)
    obtain ⟨x, hx⟩ : ∃ x : Nat, n.b = (x : Int) := ⟨n.b.toNat, by omega⟩
    have hxl : x < t.length := by omega
    obtain ⟨tb, to', rfl⟩ := some_of hn1 hxl
    have q0 := at_node hn1 hxl
    have hxz : (x : Int) < (t.length : Int) := by omega
    have HE : Hid (pWid t n = (nth t x).w) := by
      show _ = _
      unfold pWid
      rw [if_neg h2, if_neg h16, if_neg h17, if_pos h18]
      rw [hx, Int.toNat_natCast]
    rw [hx] at e4
    have g1 : 2 ≤ n.op := by omega
    have g2 : ¬ n.op ≤ 12 := by omega
    have g3 : (n.op == 18) = true := by simp [h18]
    clear h2 hd2 h16 h17 h18
    clear hn1 ha hb hw h00 h01 hx
    go_enter Tryd.func48, Tryd.ntmps48
    go_wp2
    rw [← HW1.out, ← hbn]
    clear hbn
    go_quiet (fail)
    go_wp2
    go_ret
    exact ⟨ret_int HE.out.symm, HBQ.out _⟩
  have hq18 : (n.op == 18) = false := beq_eq_false_iff_ne.2 h18
  have HE : Hid (pWid t n = 1) := by show _ = _; unfold pWid; rw [if_neg h2, if_neg h16, if_neg h17, if_neg h18]
  clear hn1 ha hb hw h2 h16 h17 h18
  rcases hd2 with g1 | ⟨g1, g2⟩
  · go_enter Tryd.func48, Tryd.ntmps48
    go_wp2
    go_ret
    exact ⟨ret_int HE.out.symm, by rw [← HW1.out]; exact HB1.out⟩
  · go_enter Tryd.func48, Tryd.ntmps48
    go_wp2
    go_ret
    exact ⟨ret_int HE.out.symm, by rw [← HW1.out]; exact HB1.out⟩

end Go.Proofs.YtmghkeahlhlclaaDoor.Pr8
