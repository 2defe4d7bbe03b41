/- Small texts of mine, one behind the other. -/
import Derived.Test.YtejgcchkhljnjaaGreatRows
import Derived.WalkSpells
import Derived.WalkLawsBesides
import Derived.Test.YtejgcchkhljnjaaGreatDu4
import Derived.Test.YtejgcchkhljnjaaGreatSp11
import Derived.Test.YtejgcchkhljnjaaGreatPkNM1
import Derived.Test.YtejgcchkhljnjaaGreatPkNM0
import Derived.Test.YtejgcchkhljnjaaGreatPkNM3
import Derived.Test.YtejgcchkhljnjaaGreatPkNM2
/- Formulas of every depth drawn; the draw of a sentence. -/
namespace Go.Proofs.YtejgcchkhljnjaaGreat.Du5
open Go.RowKit
open Nd0 Nd3 Ap2 Dw0 Dw1 Du2 Du3 Du4 Dq0 Dw3 Dw4 Tm0 Tm6
open Dr0 (Cur Only Bytes Off)
open Dr1 (once below)
open Sp11 (sSentence)
set_option linter.unusedVariables false

theorem madeC (d : Nat) : MadeC d := by
  induction d with
  | zero => exact madeAny 0 (fun d h => by omega)
  | succ d ih => exact madeAny (d + 1) (fun d' h => by have : d' = d := by omega
                                                       subst this; exact ih)

def SPost (bits : Int) (b : Nat) (a : Option Addr) (len cap : Nat) (w : World) (e : Ending) (w' : World) : Prop :=
  ∃ (g c : Nat) (L : List Nd), e = .returned (.slice (some ⟨g, 0, none⟩) L.length c) ∧ Dr w' b a len cap (.slice (some ⟨g, 0, none⟩) L.length c) L ∧ Kept (fun k => k = b) w w' ∧ 1 ≤ L.length ∧ L.length ≤ 80 ∧ w.heap.size ≤ g ∧ sentB L = true ∧ sq L ≤ bits

theorem own_at {w : World} {B : Nat} {v : Value} {l : List Nd} (h : Ap2.Own w B v l) (hl : 1 ≤ l.length) : ∃ g c, v = .slice (some ⟨g, 0, none⟩) l.length c := by
  obtain ⟨h1, h2⟩ := h
  rcases h2 with ⟨rfl, h0⟩ | ⟨g, cap, cur, rfl, _⟩
  · omega
  · exact ⟨g, cap, rfl⟩
theorem sent_len {l : List Nd} (h : sentB l = true) : 1 ≤ l.length := by
  have : termOk l = true := by
    cases ht : termOk l
    · rw [sent_term ht] at h; cases h
    · rfl
  exact (term_len this).1
theorem stp_kept {b : Nat} {v v' : Value} {w0 w w' : World} (hk : Kept (fun k => k = b) w0 w) (s : Stp b v v' w w') (hv : ∀ k, v.ownBlock = some k → w0.heap.size ≤ k) : Kept (fun k => k = b) w0 w' := by
  refine ⟨s.kept.os.trans hk.os, s.kept.tape.trans hk.tape, s.kept.output.trans hk.output, Nat.le_trans hk.size s.kept.size, fun i hi hb => ?_⟩
  rw [s.kept.block i (Nat.lt_of_lt_of_le hi hk.size) (fun e => ?_)]
  · exact hk.block i hi hb
  · rcases e with e | e
    · exact hb e
    · have := hv i e; omega

set_option maxRecDepth 100000 in
set_option maxHeartbeats 4000000 in
theorem sentence (w : World) (b : Nat) (a : Option Addr) (len cap : Nat) (bits : Int) (hc : Cur w b a len cap) (hlo : Low a len b) (hb0 : 1 ≤ bits) (hb1 : bits ≤ 100) :
    Calls Tryz.prog 58 #[.pointer (some ⟨b, 0, none⟩), .int .i64 bits] w (SPost bits b a len cap w) := by
  have hbs := hc.lt
  have hB1 : Below w.heap.size w (w.alloc (.cells #[] 53)) := (Below.refl _ _).alloc (Nat.le_refl _) _
  have hB2 : Below w.heap.size w ((w.alloc (.cells #[] 53)).alloc (.cells #[] 53)) := hB1.alloc (by simp) _
  have HD : Hid (Dr ((w.alloc (.cells #[] 53)).alloc (.cells #[] 53)) b a len cap (.slice (some ⟨w.heap.size, 0, none⟩) 0 0) []) :=
    ⟨cur_kept hc (S := fun _ => False) (Kept.ofBelow hB2) (fun h => h) (.inr fun _ _ h => h), World.ownsRow.alloc (Own.lit w _ (by omega)) _, hlo⟩
  have HK : Hid (Kept (fun k => k = b) w ((w.alloc (.cells #[] 53)).alloc (.cells #[] 53))) := Kept.ofBelow hB2
  clear hc hlo hB1 hB2
  go_enter Tryz.func58, Tryz.ntmps58
  go_wp2_with fail
  refine (madeC 4 _ b a len cap (.slice (some ⟨w.heap.size, 0, none⟩) 0 0) [] (some ⟨w.heap.size + 1, 0, none⟩) [] 0 0 bits 4 rfl HD.out ⟨⟨Nat.zero_le _, .inl rfl⟩, fun x h => absurd h (Nat.not_lt_zero _)⟩ (fun i h => absurd h (Nat.not_lt_zero _)) (fun i h => absurd h (Nat.not_lt_zero _)) (by simp) (by omega) (by omega) hb1 (by show 0 + gd 4 ≤ _; decide)).mono ?_
  rintro e w1 ⟨v1, L1, at1, n1, lf1, rfl, hd, hs, hl, _, _, hlf, _, hz⟩
  have HZ1 : Hid (sq L1 ≤ bits) := by
    have e0 : sq [] = 0 := rfl
    rw [e0] at hz
    show _ ≤ _
    omega
  clear hz hlf
  obtain ⟨ta, tc, rfl⟩ := hd.slice
  have HD1 : Hid (Dr w1 b a len cap (.slice ta L1.length tc) L1) := hd
  have HK1 : Hid (Kept (fun k => k = b) w w1) := stp_kept HK.out hs (fun k hk => by cases hk; exact Nat.le_refl _)
  have hl1 : L1.length ≤ 700 := by
    have : gd 4 = 655 := by decide
    simp at hl; omega
  have HG1 : Hid (∀ k, (Value.slice ta L1.length tc).ownBlock = some k → w.heap.size ≤ k) := by
    show ∀ _, _
    intro k hk
    rcases hs.new k hk with e | e
    · cases e; exact Nat.le_refl _
    · simp at e; omega
  clear hd hs hl HD HK
  have HLIT : Hid (∀ wz : World, Dr wz b a len cap (.slice ta L1.length tc) L1 → Kept (fun k => k = b) w wz → SPost bits b a len cap w (.returned (.slice (some ⟨wz.heap.size, 0, none⟩) 2 2)) (wz.alloc (.cells #[.int .i64 1, .int .i64 1, .int .i64 0, .int .i64 0, .int .i64 0, .int .i64 0, .int .i64 20, .int .i64 1, .int .i64 0, .int .i64 0, .int .i64 1, .int .i64 0] 53))) := by
    show ∀ _, _
    intro wz hd hk
    refine ⟨wz.heap.size, 2, [⟨1, 1, 0, 0, 0, 0⟩, ⟨20, 1, 0, 0, 1, 0⟩], rfl, ⟨cur_kept hd.cur (S := fun _ => False) ((Kept.refl _ _).alloc _) (fun h => h) (.inr fun _ _ h => h), ?_, hd.low⟩, hk.alloc _, by simp, by simp, hk.size, by decide, by show (1 : Int) ≤ _; exact hb0⟩
    exact World.ownsRow_lit wz #[.int .i64 1, .int .i64 1, .int .i64 0, .int .i64 0, .int .i64 0, .int .i64 0, .int .i64 20, .int .i64 1, .int .i64 0, .int .i64 0, .int .i64 1, .int .i64 0] 2 hd.size (by decide) rfl
  by_cases h80 : 80 < L1.length
  · have h81 : (80 : Int) < (L1.length : Int) := by omega
    go_wp2
    go_ret
    exact HLIT.out _ HD1.out HK1.out
  · have h81 : ¬ (80 : Int) < (L1.length : Int) := by omega
    go_wp2_with fail
    obtain ⟨a2, c2, hv2, hw2⟩ := HD1.out.own.form
    cases hv2
    refine (sSentence _ _ L1 _ hw2.nodes).mono ?_
    rintro e w2 ⟨rfl, hb2⟩
    have HD2 : Hid (Dr w2 b a len cap (.slice ta L1.length tc) L1) := HD1.out.below hb2
    have HK2 : Hid (Kept (fun k => k = b) w w2) := HK1.out.trans (Kept.ofBelow hb2)
    clear hb2 hw2
    cases hS : sentB L1
    · go_wp2
      go_ret
      exact HLIT.out _ HD2.out HK2.out
    · have HS : Hid (sentB L1 = true) := hS
      have h1 := sent_len hS
      obtain ⟨g3, c3, hv3⟩ := own_at HD2.out.own h1
      cases hv3
      clear hS
      go_wp2
      go_ret
      exact ⟨g3, tc, L1, rfl, HD2.out, HK2.out, h1, by omega, HG1.out _ rfl, HS.out, HZ1.out⟩

end Go.Proofs.YtejgcchkhljnjaaGreat.Du5

/- Walks of the draws: a cursor made, one of a new list picked. -/
namespace Go.Proofs.YtejgcchkhljnjaaGreat.Dr4
open Go.RowKit
open Dr0 Dr1
set_option linter.unusedVariables false

set_option maxRecDepth 100000 in
set_option maxHeartbeats 1000000 in
theorem new (w : World) (a : Option Addr) (len cap : Nat) (hb : Bytes w a len) :
    Calls Tryz.prog 43 #[.slice a len cap] w fun e w' => e = .returned (.pointer (some ⟨w.heap.size, 0, none⟩)) ∧ Cur w' w.heap.size a len cap ∧ Below w.heap.size w w' := by
  have hm := hb.1
  unfold maxLen at hm
  have HB : Hid (Bytes w a len) := hb
  clear hb
  go_enter Tryz.func43, Tryz.ntmps43
  go_wp2
  go_loop [3, 4] (fun h i => ∃ (k : Nat) (x : Int), k ≤ len ∧ i = .int .i64 k ∧ h = .int .i64 x) (fun _ i => len - (intOf i).toNat)
  case atStart => exact ⟨0, _, Nat.zero_le _, rfl, rfl⟩
  case round =>
    obtain ⟨k, x, hk, rfl, rfl⟩ := hrel
    by_cases hlt : k < len ∧ k < 4000
    · obtain ⟨hlt, hl4⟩ := hlt
      rcases HB.out.2 with h0 | ⟨xb, xo, rfl, hcell⟩
      · omega
      obtain ⟨v, hv0, hv1, hv⟩ := hcell k hlt
      clear hcell
      go_wp2
      go_round
      case rel => exact ⟨k + 1, _, by omega, by go_num, rfl⟩
      case measure => simp [intOf]; omega
    · have hd : (decide ((k : Int) < (len : Int)) && decide ((k : Int) < 4000)) = false := by simp; omega
      by_cases hlt : k < len
      · have hl4 : ¬ (k : Int) < 4000 := by omega
        clear hd
        go_wp2
        go_ret
        exact ⟨rfl, Cur.made HB.out x _, (Below.refl _ w).alloc (Nat.le_refl _) _⟩
      · have hl4 : ¬ (k : Int) < (len : Int) := by omega
        clear hd
        go_wp2
        go_ret
        exact ⟨rfl, Cur.made HB.out x _, (Below.refl _ w).alloc (Nat.le_refl _) _⟩

end Go.Proofs.YtejgcchkhljnjaaGreat.Dr4

/- A sentence that is drawn (DrawSaid): it is one, and has at most eight bits. -/
namespace Go.Proofs.YtejgcchkhljnjaaGreat.Ds1
open Go.RowKit
open Nd0 Nd3 Tm0 Tm6 Tm11 Ap2 Ap7 Dr0 Dr1 Dr4 Dw0 Dw1 Du5 Dq0
set_option linter.unusedVariables false

theorem low_of {w : World} {a : Option Addr} {len : Nat} (h : Bytes w a len) : Low a len w.heap.size := by
  rcases h.2 with h0 | ⟨xb, xo, rfl, hc⟩
  · exact .inl h0
  · by_cases hl : len = 0
    · exact .inl hl
    · refine .inr fun x hx => ?_
      cases hx
      obtain ⟨v, _, _, hv⟩ := hc 0 (by omega)
      exact Nd0.lt_of_cell (p := ⟨xb, xo + 0, none⟩) hv
def NPost (w : World) (e : Ending) (w' : World) : Prop :=
  ∃ (g c : Nat) (L : List Nd), e = .returned (.slice (some ⟨g, 0, none⟩) L.length c) ∧ Nodes w' (some ⟨g, 0, none⟩) L ∧ Below w.heap.size w w' ∧ 1 ≤ L.length ∧ L.length ≤ 80 ∧ L.length ≤ c ∧ sentB L = true ∧ bitsL L ≤ 8

set_option maxHeartbeats 1000000 in
theorem drawSaid (w : World) (a : Option Addr) (len cap : Nat) (hb : Bytes w a len) :
    Calls Tryz.prog 18 #[.slice a len cap] w (NPost w) := by
  have HB : Hid (Bytes w a len) := hb
  clear hb
  go_enter Tryz.func18, Tryz.ntmps18
  go_wp2_with fail
  refine (Dr4.new _ a len cap HB.out).mono ?_
  rintro e w1 ⟨rfl, hc, hb1⟩
  have HC : Hid (Cur w1 w.heap.size a len cap) := hc
  have HB1 : Hid (Below w.heap.size w w1) := hb1
  clear hc hb1
  go_wp2_with fail
  refine (sentence _ w.heap.size a len cap 8 HC.out (low_of HB.out) (by omega) (by omega)).mono ?_
  rintro e w2 ⟨g, c, L, rfl, hd, hk, h1, h2, h3, hS, hQ⟩
  have HSB : Hid (sentB L = true ∧ bitsL L ≤ 8) := ⟨hS, Int.le_trans (bits_le hS) hQ⟩
  have HP : Hid (Nodes w2 (some ⟨g, 0, none⟩) L ∧ Below w.heap.size w w2) := by
    obtain ⟨a9, c9, hv9, hw9⟩ := hd.own.form
    cases hv9
    exact ⟨hw9.nodes, HB1.out.trans (hk.below (fun k (e : k = w.heap.size) => by omega) HB1.out.size)⟩
  have hcc : L.length ≤ c := (own_cap hd.own).2
  clear hd hk hS hQ
  go_wp2
  go_ret
  exact ⟨g, c, L, rfl, HP.out.1, HP.out.2, h1, h2, hcc, HSB.out.1, HSB.out.2⟩

end Go.Proofs.YtejgcchkhljnjaaGreat.Ds1

/- Walks of what the laws themselves call: a byte of the code, whether the code is too great. -/
namespace Go.Proofs.YtejgcchkhljnjaaGreat.Lw4
open Go.RowKit
open Dr0 Dr1
open Ws1 (ret_int ret_bool)
set_option linter.unusedVariables false

set_option maxHeartbeats 400000 in
theorem lbig (w : World) (a : Option Addr) (len cap : Nat) (b : Bool) (hb : b = decide (1048576 < len)) :
    Calls Tryz.prog 10 #[.slice a len cap] w fun e w' => e = .returned (.bool b) ∧ w' = w := by
  subst hb
  go_enter Tryz.func10, Tryz.ntmps10
  go_wp2
  go_ret
  exact ⟨ret_bool (by rw [Bool.eq_iff_iff]; simp; omega), rfl⟩

end Go.Proofs.YtejgcchkhljnjaaGreat.Lw4

/- The walk of the laws' comparison of lists of nodes. -/
namespace Go.Proofs.YtejgcchkhljnjaaGreat.Lw5
open Go.RowKit
open Nd0
set_option linter.unusedVariables false

set_option maxHeartbeats 1000000 in
theorem sameNodes (w : World) (a a' : Option Addr) (l : List Nd) (c c' : Nat) (h : Nodes w a l) (h' : Nodes w a' l) :
    Calls Tryz.prog 14 #[.slice a l.length c, .slice a' l.length c'] w fun e w' => e = .returned (.bool true) ∧ ∃ m, w' = w.drewN m := by
  have H : Hid (Nodes w a l) := h
  have H' : Hid (Nodes w a' l) := h'
  have hm := h.1
  unfold maxLen at hm
  clear h h'
  go_enter Tryz.func14, Tryz.ntmps14
  go_wp2
  go_loopw [5] (fun i wr => ∃ k : Nat, k ≤ l.length ∧ i = .int .i64 k ∧ ∃ m, wr = w.drewN m) (fun i _ => l.length - (intOf i).toNat)
  case atStart => exact ⟨0, Nat.zero_le _, rfl, 0, rfl⟩
  case round =>
    obtain ⟨k, hk, rfl, m, rfl⟩ := hrel
    by_cases hlt : k < l.length
    · have hlz : (k : Int) < (l.length : Int) := by omega
      rcases H.out.2 with h0 | ⟨xb, xo, rfl, hc⟩
      · omega
      rcases H'.out.2 with h0 | ⟨yb, yo, rfl, hc'⟩
      · omega
      obtain ⟨p0, p1, p2, p3, p4, p5⟩ := hc k hlt
      obtain ⟨q0, q1, q2, q3, q4, q5⟩ := hc' k hlt
      clear hc hc'
      generalize l[k] = x at p0 p1 p2 p3 p4 p5 q0 q1 q2 q3 q4 q5
      obtain ⟨x0, x1, x2, x3, x4, x5⟩ := x
      simp only at p0 p1 p2 p3 p4 p5 q0 q1 q2 q3 q4 q5
      go_wp2
      go_quiet (fail)
      go_wp2
      go_roundw
      case rel => exact ⟨k + 1, by omega, by go_num, _, rfl⟩
      case measure => simp [intOf]; omega
    · go_wp2
      go_ret
      exact ⟨rfl, _, rfl⟩

end Go.Proofs.YtejgcchkhljnjaaGreat.Lw5

/- Sets of variables as words of bits, as plain data. -/
namespace Go.Proofs.YtejgcchkhljnjaaGreat.Tm7
open Nd0 Pl1 Tm0 Tm1 Tm4
open Go.RowKit

theorem bits_andNot_u8_nat (a b : Nat) (ha : a < 256) (hb : b < 256) : bits .andNot .u8 (a : Int) (b : Int) = ((a &&& (255 - b) : Nat) : Int) := by
  have hx : a &&& (255 - b) < 2 ^ 8 := Nat.and_lt_two_pow _ (by omega)
  have h1 : (BitVec.ofInt 8 (a : Int)).toNat = a := by
    rw [BitVec.ofInt_natCast, BitVec.toNat_ofNat]; exact Nat.mod_eq_of_lt (by omega)
  have h2 : (BitVec.ofInt 8 (b : Int)).toNat = b := by
    rw [BitVec.ofInt_natCast, BitVec.toNat_ofNat]; exact Nat.mod_eq_of_lt (by omega)
  show IntKind.u8.wrap ((BitVec.ofInt 8 (a : Int) &&& ~~~ BitVec.ofInt 8 (b : Int)).toNat : Int) = _
  rw [BitVec.toNat_and, BitVec.toNat_not, h1, h2]
  simp only [IntKind.wrap, IntKind.signed, IntKind.bits]
  simp
  omega

theorem bit_not (b v : Nat) (hb : b < 256) (hv : v < 8) : (255 - b).testBit v = !b.testBit v := by
  have h := Nat.testBit_two_pow_sub_succ (x := b) (n := 8) (by omega) v
  have e : 2 ^ 8 - (b + 1) = 255 - b := by omega
  rw [e] at h
  rw [h, decide_eq_true hv, Bool.true_and]

def numsTo (s k : Nat) : List Int := ((List.range k).filter fun v => s.testBit v).map fun (i : Nat) => (i : Int)
theorem numsTo_succ (s k : Nat) : numsTo s (k + 1) = if s.testBit k then numsTo s k ++ [(k : Int)] else numsTo s k := by
  unfold numsTo
  rw [List.range_succ, List.filter_append, List.map_append]
  cases h : s.testBit k <;> simp [h]
theorem numsTo_length (s k : Nat) : (numsTo s k).length ≤ k := by
  unfold numsTo
  rw [List.length_map]
  exact Nat.le_trans (List.length_filter_le _ _) (by simp)
theorem bits_over (s k : Nat) (h : s / 2 ^ k = 0) (v : Nat) (hv : k ≤ v) : s.testBit v = false := by
  have h2 : s < 2 ^ k := by
    rcases Nat.div_eq_zero_iff.1 h with h0 | h0
    · have := Nat.two_pow_pos k; omega
    · exact h0
  exact Nat.testBit_lt_two_pow (Nat.lt_of_lt_of_le h2 (Nat.pow_le_pow_right (by omega) hv))
theorem nums_end (s k : Nat) (h : s / 2 ^ k = 0) (hk : k ≤ 8) : numsTo s k = numsTo s 8 := by
  have : ∀ d, k + d ≤ 8 → numsTo s (k + d) = numsTo s k := by
    intro d
    induction d with
    | zero => intro _; rfl
    | succ d ih =>
      intro hd
      rw [← Nat.add_assoc, numsTo_succ, bits_over s k h _ (by omega)]
      exact ih (by omega)
  have h8 := this (8 - k) (by omega)
  rw [← h8]; congr 1; omega
theorem low_bit (s k : Nat) : (s / 2 ^ k) % 2 = 1 ↔ s.testBit k = true := by
  rw [Nat.testBit_eq_decide_div_mod_eq, decide_eq_true_eq]

def Has (s : Nat) (r : List Bool) : Prop := s < 256 ∧ ∀ v, v < 8 → s.testBit v = flag r v

theorem bit_one (k v : Nat) : (2 ^ k).testBit v = decide (k = v) := Nat.testBit_two_pow

def Some_ (s : Nat) (rows : List (List Bool)) (n : Nd) (j : Nat) : Prop := s < 256 ∧ ∀ v, v < 8 → s.testBit v = ((n.op == 1 && n.k == (v : Int)) || inParts rows ((parts n).take j) v)

theorem some_start_var {rows : List (List Bool)} {n : Nd} {kk : Nat} (h1 : n.op = 1) (hk : n.k = (kk : Int)) (h7 : kk ≤ 7) : Some_ (2 ^ kk) rows n 0 := by
  have e := Nat.pow_le_pow_right (n := 2) (by omega) h7
  refine ⟨by omega, fun v hv => ?_⟩
  rw [bit_one, h1, hk]
  simp only [List.take_zero, inParts, List.any_nil, Bool.or_false]
  rw [Bool.eq_iff_iff]; simp
  omega
theorem some_start {rows : List (List Bool)} {n : Nd} (h1 : (n.op == 1) = false) : Some_ 0 rows n 0 := by
  refine ⟨by omega, fun v hv => ?_⟩
  rw [h1]; simp [inParts]
theorem some_next {s t : Nat} {rows : List (List Bool)} {n : Nd} {j : Nat} (h : Some_ s rows n j) (hj : j < (parts n).length) (ht : Has t (row rows (parts n)[j])) : Some_ (s ||| t) rows n (j + 1) := by
  refine ⟨Nat.or_lt_two_pow (n := 8) h.1 ht.1, fun v hv => ?_⟩
  rw [Nat.testBit_or, h.2 v hv, ht.2 v hv, inParts_take _ _ _ _ hj, Bool.or_assoc]
theorem flag_freeRow (rows : List (List Bool)) (n : Nd) (v : Nat) (hv : v < 8) : flag (freeRow rows n) v = freeAt rows n v := by
  simp [flag, freeRow, List.getD, hv]
theorem some_end {s : Nat} {rows : List (List Bool)} {n : Nd} {j : Nat} (h : Some_ s rows n j) (hj : (parts n).length ≤ j) (hq : (n.op == 19 || n.op == 20) = false) : Has s (freeRow rows n) := by
  refine ⟨h.1, fun v hv => ?_⟩
  rw [h.2 v hv, flag_freeRow _ _ _ hv, List.take_of_length_le hj]
  unfold freeAt
  rw [hq]; simp
theorem some_end_quant {s : Nat} {rows : List (List Bool)} {n : Nd} {j kk : Nat} (h : Some_ s rows n j) (hj : (parts n).length ≤ j) (hq : (n.op == 19 || n.op == 20) = true) (hk : n.k = (kk : Int)) (h7 : kk ≤ 7) : Has (s &&& (255 - 2 ^ kk)) (freeRow rows n) := by
  have e := Nat.pow_le_pow_right (n := 2) (by omega) h7
  refine ⟨Nat.and_lt_two_pow _ (n := 8) (Nat.lt_of_le_of_lt (Nat.sub_le _ _) (by decide)), fun v hv => ?_⟩
  rw [Nat.testBit_and, h.2 v hv, flag_freeRow _ _ _ hv, List.take_of_length_le hj, bit_not _ _ (by omega) hv, bit_one]
  unfold freeAt
  rw [hq, hk]
  by_cases ev : kk = v
  · subst ev; simp
  · have e1 : ((kk : Int) == (v : Int)) = false := by simp; omega
    rw [e1]; simp [ev]
theorem row_old (l : List Nd) (k : Nat) (p : Int) (h0 : 0 ≤ p) (hp : p < k) : row (freeRows l (k + 1)) p = row (freeRows l k) p := by
  unfold row
  show (freeRows l k ++ [_]).getD p.toNat [] = _
  rw [List.getD_eq_getElem?_getD, List.getElem?_append_left (by rw [freeRows_length]; omega), ← List.getD_eq_getElem?_getD]
theorem row_new (l : List Nd) (k : Nat) : row (freeRows l (k + 1)) (k : Int) = freeRow (freeRows l k) (nth l k) := by
  unfold row
  show (freeRows l k ++ [_]).getD k [] = _
  rw [List.getD_eq_getElem?_getD, List.getElem?_append_right (by rw [freeRows_length]; exact Nat.le_refl _), freeRows_length]
  simp

theorem nums_free {l : List Nd} {s : Nat} (h : Has s (freeTop l)) : numsTo s 8 = freeTo l 8 := by
  unfold numsTo freeTo
  congr 1
  apply List.filter_congr
  intro v hv
  exact h.2 v (List.mem_range.1 hv)
theorem set_zero {l : List Nd} {s : Nat} (hT : termOk l = true) (h : Has s (freeTop l)) : s = 0 ↔ (freeL l).length = 0 := by
  have e : freeL l = numsTo s 8 := by unfold freeL; rw [hT, nums_free h]; rfl
  rw [e]
  constructor
  · intro h0; subst h0; simp [numsTo]
  · intro h0
    apply Nat.eq_of_testBit_eq
    intro v
    rw [Nat.zero_testBit]
    by_cases hv : v < 8
    · cases hb : s.testBit v
      · rfl
      · have : (v : Int) ∈ numsTo s 8 := by
          unfold numsTo
          exact List.mem_map.2 ⟨v, List.mem_filter.2 ⟨List.mem_range.2 hv, hb⟩, rfl⟩
        rw [List.eq_nil_of_length_eq_zero h0] at this
        cases this
    · exact Nat.testBit_lt_two_pow (Nat.lt_of_lt_of_le h.1 (Nat.pow_le_pow_right (n := 2) (by omega) (by omega : 8 ≤ v)))

end Go.Proofs.YtejgcchkhljnjaaGreat.Tm7

/- A quantifier put on a formula: what is free in it, as plain data. -/
namespace Go.Proofs.YtejgcchkhljnjaaGreat.Tm12
open Nd0 Pl1 Tm0 Tm1 Tm4 Tm7

end Go.Proofs.YtejgcchkhljnjaaGreat.Tm12

/- A term without what its root does not reach: it is right, all of it is reached, and it is pruned already, as plain data. -/
namespace Go.Proofs.YtejgcchkhljnjaaGreat.Tm13
open Nd0 Pl1 Tm0 Tm1 Tm2 Tm3 Tm4 Tm5 Tm6 Tm8 Tm9 Tm10

def pl (l : List Nd) (x : Nat) : Nat := (reachTo l x).length
theorem plc_pl (l : List Nd) (x : Nat) : plc l (x : Int) = (pl l x : Int) := by simp [plc, pl]
theorem pl_succ (l : List Nd) (x : Nat) : pl l (x + 1) = if flag (reachL l) x then pl l x + 1 else pl l x := by
  unfold pl; rw [reachTo_succ]; split
  · simp
  · rfl
theorem prune_ok {l : List Nd} (hT : termOk l = true) : pruneL l = pruneTo l l.length := by unfold pruneL; rw [hT]; rfl
theorem prune_len {l : List Nd} (hT : termOk l = true) : (pruneL l).length = pl l l.length := by rw [prune_ok hT, pruneTo_length]; rfl
theorem pruneTo_nth (l : List Nd) {x : Nat} (hf : flag (reachL l) x = true) : ∀ k, x < k → nth (pruneTo l k) (pl l x) = remap l (nth l x) := by
  intro k
  induction k with
  | zero => intro h; omega
  | succ k ih =>
    intro h
    by_cases e : x = k
    · subst e
      rw [pruneTo_succ, hf, if_pos rfl]
      unfold nth pl
      rw [List.getD_eq_getElem?_getD, List.getElem?_append_right (by rw [pruneTo_length]; exact Nat.le_refl _), pruneTo_length]
      simp
    · have h1 := ih (by omega)
      rw [pruneTo_succ]
      split
      · rw [← h1]
        unfold nth
        rw [List.getD_eq_getElem?_getD, List.getElem?_append_left (by rw [pruneTo_length]; exact reachTo_lt l (by omega) hf), ← List.getD_eq_getElem?_getD]
      · exact h1
theorem prune_nth {l : List Nd} (hT : termOk l = true) {x : Nat} (hx : x < l.length) (hf : flag (reachL l) x = true) : nth (pruneL l) (pl l x) = remap l (nth l x) := by
  rw [prune_ok hT]; exact pruneTo_nth l hf _ hx
theorem pl_lt {l : List Nd} (hT : termOk l = true) {x : Nat} (hx : x < l.length) (hf : flag (reachL l) x = true) : pl l x < (pruneL l).length := by
  rw [prune_len hT]; exact reachTo_lt l hx hf
theorem pl_all {l : List Nd} (hT : termOk l = true) {j : Nat} (hj : j < (pruneL l).length) : ∃ x, x < l.length ∧ flag (reachL l) x = true ∧ pl l x = j := by
  rw [prune_len hT] at hj
  obtain ⟨x, _, h2, h3, h4⟩ := reach_at l l.length j hj
  exact ⟨x, h2, h3, h4⟩
theorem parts_remap (l : List Nd) (n : Nd) : parts (remap l n) = (parts n).map (plc l) := by
  rcases parts_cases n with h | h | h | h
  · have e : remap l n = n := by unfold remap; rw [h]; rfl
    rw [e, h]; rfl
  · have h0 := h
    have e : remap l n = ⟨n.op, n.w, n.k, plc l n.a, n.b, n.c⟩ := by unfold remap; rw [h]; rfl
    rw [e, h]
    have : n.op = 2 ∨ n.op = 17 ∨ n.op = 19 ∨ n.op = 20 := by
      unfold parts at h0
      split at h0
      · assumption
      · split at h0
        · simp at h0
        · split at h0 <;> simp at h0
    exact parts_one (n := ⟨n.op, n.w, n.k, plc l n.a, n.b, n.c⟩) this
  · have h0 := h
    have e : remap l n = ⟨n.op, n.w, n.k, plc l n.a, plc l n.b, n.c⟩ := by unfold remap; rw [h]; rfl
    rw [e, h]
    have : 3 ≤ n.op ∧ n.op ≤ 16 := by
      unfold parts at h0
      split at h0
      · simp at h0
      · split at h0
        · assumption
        · split at h0 <;> simp at h0
    exact parts_two (n := ⟨n.op, n.w, n.k, plc l n.a, plc l n.b, n.c⟩) this
  · have h0 := h
    have e : remap l n = ⟨n.op, n.w, n.k, plc l n.a, plc l n.b, plc l n.c⟩ := by unfold remap; rw [h]; rfl
    rw [e, h]
    have : n.op = 18 := by
      unfold parts at h0
      split at h0
      · simp at h0
      · split at h0
        · simp at h0
        · split at h0
          · assumption
          · simp at h0
    exact parts_three (n := ⟨n.op, n.w, n.k, plc l n.a, plc l n.b, plc l n.c⟩) this
theorem remap_op (l : List Nd) (n : Nd) : (remap l n).op = n.op := rfl
theorem remap_k (l : List Nd) (n : Nd) : (remap l n).k = n.k := rfl
theorem shape_remap (l : List Nd) (n : Nd) (ws : List Int) : shapeOk (remap l n) ws = shapeOk n ws := by
  obtain ⟨op, w, k, a, b, c⟩ := n
  by_cases h1 : op = 2 ∨ op = 17 ∨ op = 19 ∨ op = 20
  · have e : remap l ⟨op, w, k, a, b, c⟩ = ⟨op, w, k, plc l a, b, c⟩ := by unfold remap; rw [parts_one h1]; rfl
    rw [e]
    unfold shapeOk
    dsimp only
    rcases h1 with h | h | h | h <;> subst h <;> rfl
  · by_cases h2 : 3 ≤ op ∧ op ≤ 16
    · have e : remap l ⟨op, w, k, a, b, c⟩ = ⟨op, w, k, plc l a, plc l b, c⟩ := by unfold remap; rw [parts_two h2]; rfl
      rw [e]
      unfold shapeOk
      dsimp only
      have n0 : ¬ op = 0 := by omega
      have n1 : ¬ op = 1 := by omega
      have n2 : ¬ op = 2 := by omega
      have n3 : ¬ op = 17 := by omega
      have n4 : ¬ op = 18 := by omega
      have n5 : ¬ (op = 19 ∨ op = 20) := by omega
      simp only [if_neg n0, if_neg n1, if_neg n2, if_neg n3, if_neg n4, if_neg n5]
    · by_cases h3 : op = 18
      · subst h3
        have e : remap l ⟨18, w, k, a, b, c⟩ = ⟨18, w, k, plc l a, plc l b, plc l c⟩ := by unfold remap; rw [parts_three rfl]; rfl
        rw [e]; rfl
      · have e : remap l ⟨op, w, k, a, b, c⟩ = ⟨op, w, k, a, b, c⟩ := by unfold remap; rw [parts_none h1 h2 h3]; rfl
        rw [e]
theorem part_reached {l : List Nd} (hT : termOk l = true) {x : Nat} (hx : x < l.length) (hf : flag (reachL l) x = true) {p : Int} (hp : p ∈ parts (nth l x)) :
    ∃ y : Nat, p = (y : Int) ∧ y < x ∧ flag (reachL l) y = true ∧ plc l p = (pl l y : Int) := by
  have hd := down_of hT x hx p hp
  have hr := reach_closed (down_of hT) hx hf hp
  refine ⟨p.toNat, by omega, by omega, hr, ?_⟩
  rw [← plc_pl]; congr 1; omega
theorem prune_node {l : List Nd} (hT : termOk l = true) {x : Nat} (hx : x < l.length) (hf : flag (reachL l) x = true) : nodeOk (pruneL l) (pl l x) = true := by
  have hn := prune_nth hT hx hf
  have hk := term_node hT hx
  have e : (parts (nth (pruneL l) (pl l x))).map (width (pruneL l)) = (parts (nth l x)).map (width l) := by
    rw [hn, parts_remap, List.map_map]
    apply List.map_congr_left
    intro p hp
    obtain ⟨y, rfl, hyx, hy, hpl⟩ := part_reached hT hx hf hp
    simp only [Function.comp, width]
    rw [hpl, Int.toNat_natCast, prune_nth hT (by omega) hy, Int.toNat_natCast]
    rfl
  simp only [nodeOk, Bool.and_eq_true, List.all_eq_true, decide_eq_true_eq] at hk ⊢
  rw [e]
  refine ⟨⟨?_, ?_⟩, ?_⟩
  · intro q hq
    rw [hn, parts_remap] at hq
    obtain ⟨p, hp, rfl⟩ := List.mem_map.1 hq
    obtain ⟨y, rfl, hyx, hy, hpl⟩ := part_reached hT hx hf hp
    have := reachTo_lt l hyx hy
    rw [hpl]
    unfold pl
    omega
  · rw [hn]; exact hk.1.2
  · rw [hn, shape_remap]; exact hk.2
theorem prune_root {l : List Nd} (hT : termOk l = true) : pl l (l.length - 1) = (pruneL l).length - 1 ∧ 1 ≤ (pruneL l).length := by
  have hl := term_len hT
  have hr := reach_root (l := l) hl.1
  have h1 := pl_succ l (l.length - 1)
  rw [hr, if_pos rfl] at h1
  have e : l.length - 1 + 1 = l.length := by omega
  rw [e] at h1
  rw [prune_len hT]
  omega
theorem prune_term {l : List Nd} (hT : termOk l = true) : termOk (pruneL l) = true := by
  have hl := term_len hT
  have h1 := (prune_root hT).2
  have h2 := pruneL_le l
  refine term_good ⟨h1, by omega⟩ (fun j hj => ?_)
  obtain ⟨x, hx, hf, rfl⟩ := pl_all hT hj
  exact prune_node hT hx hf
theorem prune_reach_at {l : List Nd} (hT : termOk l = true) : ∀ d x, l.length = x + 1 + d → flag (reachL l) x = true → flag (reachL (pruneL l)) (pl l x) = true := by
  intro d
  induction d using Nat.strongRecOn with
  | ind d ih =>
    intro x hd hf
    rcases reach_why (down_of hT) (by omega) hf with h | ⟨j, h1, h2, h3, h4⟩
    · have hr := prune_root hT
      have e : x = l.length - 1 := by omega
      rw [e, hr.1]
      exact reach_root hr.2
    · have hj := ih (l.length - j - 1) (by omega) j (by omega) h3
      have hp : (pl l x : Int) ∈ parts (nth (pruneL l) (pl l j)) := by
        rw [prune_nth hT h2 h3, parts_remap, ← plc_pl]
        exact List.mem_map_of_mem h4
      have := reach_closed (down_of (prune_term hT)) (pl_lt hT h2 h3) hj hp
      rw [Int.toNat_natCast] at this
      exact this
theorem prune_reach {l : List Nd} (hT : termOk l = true) {j : Nat} (hj : j < (pruneL l).length) : flag (reachL (pruneL l)) j = true := by
  obtain ⟨x, hx, hf, rfl⟩ := pl_all hT hj
  exact prune_reach_at hT (l.length - x - 1) x (by omega) hf
theorem map_nth (m : List Nd) : (List.range m.length).map (nth m) = m := by
  apply List.ext_getElem
  · simp
  · intro i h1 h2
    simp only [List.getElem_map, List.getElem_range]
    exact (nth_get h2).symm
end Go.Proofs.YtejgcchkhljnjaaGreat.Tm13
