/- Small texts of mine, one behind the other. -/
import Derived.Test.YtbnjndloeflgiaaGreatDu4
import Derived.Test.YtbnjndloeflgiaaGreatSp11
import Derived.Test.YtbnjndloeflgiaaGreatPkTA35
import Derived.Test.YtbnjndloeflgiaaGreatPkTA15
import Derived.Test.YtbnjndloeflgiaaGreatPkTA6
import Derived.Test.YtbnjndloeflgiaaGreatPkTA34
import Derived.Test.YtbnjndloeflgiaaGreatPkTA33
import Derived.Test.YtbnjndloeflgiaaGreatPkTA16
import Derived.Test.YtbnjndloeflgiaaGreatPkTA3
import Derived.Test.YtbnjndloeflgiaaGreatPkTA20
import Derived.Test.YtbnjndloeflgiaaGreatPkTA23
/- Formulas of every depth drawn; the draw of a sentence. -/
namespace Go.Proofs.YtbnjndloeflgiaaGreat.Du5
open Go.RowKit
open Nd0 Nd3 Ap2 Dw0 Dw1 Du2 Du3 Du4 Dq0 Dw3 Dw4 Tm0 Tm6
open Dr0 (Cur Only Bytes Off)
open Dr1 (once below)
open Sp11 (sSentence)
set_option linter.unusedVariables false

theorem madeC (d : Nat) : MadeC d := by
  induction d with
  | zero => exact madeAny 0 (fun d h => by omega)
  | succ d ih => exact madeAny (d + 1) (fun d' h => by have : d' = d := by omega
                                                       subst this; exact ih)

def SPost (bits : Int) (b : Nat) (a : Option Addr) (len cap : Nat) (w : World) (e : Ending) (w' : World) : Prop :=
  ∃ (g c : Nat) (L : List Nd), e = .returned (.slice (some ⟨g, 0, none⟩) L.length c) ∧ Dr w' b a len cap (.slice (some ⟨g, 0, none⟩) L.length c) L ∧ Kept (fun k => k = b) w w' ∧ 1 ≤ L.length ∧ L.length ≤ 80 ∧ w.heap.size ≤ g ∧ sentB L = true ∧ sq L ≤ bits

theorem own_at {w : World} {B : Nat} {v : Value} {l : List Nd} (h : Ap2.Own w B v l) (hl : 1 ≤ l.length) : ∃ g c, v = .slice (some ⟨g, 0, none⟩) l.length c := by
  obtain ⟨h1, h2⟩ := h
  rcases h2 with ⟨rfl, h0⟩ | ⟨g, cap, cur, rfl, _⟩
  · omega
  · exact ⟨g, cap, rfl⟩
theorem sent_len {l : List Nd} (h : sentB l = true) : 1 ≤ l.length := by
  have : termOk l = true := by
    cases ht : termOk l
    · rw [sent_term ht] at h; cases h
    · rfl
  exact (term_len this).1
theorem stp_kept {b : Nat} {v v' : Value} {w0 w w' : World} (hk : Kept (fun k => k = b) w0 w) (s : Stp b v v' w w') (hv : ∀ k, v.ownBlock = some k → w0.heap.size ≤ k) : Kept (fun k => k = b) w0 w' := by
  refine ⟨s.kept.os.trans hk.os, s.kept.tape.trans hk.tape, s.kept.output.trans hk.output, Nat.le_trans hk.size s.kept.size, fun i hi hb => ?_⟩
  rw [s.kept.block i (Nat.lt_of_lt_of_le hi hk.size) (fun e => ?_)]
  · exact hk.block i hi hb
  · rcases e with e | e
    · exact hb e
    · have := hv i e; omega

set_option maxRecDepth 100000 in
set_option maxHeartbeats 4000000 in
theorem sentence (w : World) (b : Nat) (a : Option Addr) (len cap : Nat) (bits : Int) (hc : Cur w b a len cap) (hlo : Low a len b) (hb0 : 1 ≤ bits) (hb1 : bits ≤ 100) :
    Calls Tryz.prog 16 #[.pointer (some ⟨b, 0, none⟩), .int .i64 bits] w (SPost bits b a len cap w) := by
  have hbs := hc.lt
  have hB1 : Below w.heap.size w (w.alloc (.cells #[] 50)) := (Below.refl _ _).alloc (Nat.le_refl _) _
  have hB2 : Below w.heap.size w ((w.alloc (.cells #[] 50)).alloc (.cells #[] 50)) := hB1.alloc (by simp) _
  have HD : Hid (Dr ((w.alloc (.cells #[] 50)).alloc (.cells #[] 50)) b a len cap (.slice (some ⟨w.heap.size, 0, none⟩) 0 0) []) :=
    ⟨cur_kept hc (S := fun _ => False) (Kept.ofBelow hB2) (fun h => h) (.inr fun _ _ h => h), World.ownsRow.alloc (Own.lit w _ (by omega)) _, hlo⟩
  have HK : Hid (Kept (fun k => k = b) w ((w.alloc (.cells #[] 50)).alloc (.cells #[] 50))) := Kept.ofBelow hB2
  clear hc hlo hB1 hB2
  go_enter Tryz.func16, Tryz.ntmps16
  go_wp2_with fail
  refine (madeC 4 _ b a len cap (.slice (some ⟨w.heap.size, 0, none⟩) 0 0) [] (some ⟨w.heap.size + 1, 0, none⟩) [] 0 0 bits 4 rfl HD.out ⟨⟨Nat.zero_le _, .inl rfl⟩, fun x h => absurd h (Nat.not_lt_zero _)⟩ (fun i h => absurd h (Nat.not_lt_zero _)) (fun i h => absurd h (Nat.not_lt_zero _)) (by simp) (by omega) (by omega) hb1 (by show 0 + gd 4 ≤ _; decide)).mono ?_
  rintro e w1 ⟨v1, L1, at1, n1, lf1, rfl, hd, hs, hl, _, _, hlf, _, hz⟩
  have HZ1 : Hid (sq L1 ≤ bits) := by
    have e0 : sq [] = 0 := rfl
    rw [e0] at hz
    show _ ≤ _
    omega
  clear hz hlf
  obtain ⟨ta, tc, rfl⟩ := hd.slice
  have HD1 : Hid (Dr w1 b a len cap (.slice ta L1.length tc) L1) := hd
  have HK1 : Hid (Kept (fun k => k = b) w w1) := stp_kept HK.out hs (fun k hk => by cases hk; exact Nat.le_refl _)
  have hl1 : L1.length ≤ 700 := by
    have : gd 4 = 655 := by decide
    simp at hl; omega
  have HG1 : Hid (∀ k, (Value.slice ta L1.length tc).ownBlock = some k → w.heap.size ≤ k) := by
    show ∀ _, _
    intro k hk
    rcases hs.new k hk with e | e
    · cases e; exact Nat.le_refl _
    · simp at e; omega
  clear hd hs hl HD HK
  have HLIT : Hid (∀ wz : World, Dr wz b a len cap (.slice ta L1.length tc) L1 → Kept (fun k => k = b) w wz → SPost bits b a len cap w (.returned (.slice (some ⟨wz.heap.size, 0, none⟩) 2 2)) (wz.alloc (.cells #[.int .i64 1, .int .i64 1, .int .i64 0, .int .i64 0, .int .i64 0, .int .i64 0, .int .i64 20, .int .i64 1, .int .i64 0, .int .i64 0, .int .i64 1, .int .i64 0] 50))) := by
    show ∀ _, _
    intro wz hd hk
    refine ⟨wz.heap.size, 2, [⟨1, 1, 0, 0, 0, 0⟩, ⟨20, 1, 0, 0, 1, 0⟩], rfl, ⟨cur_kept hd.cur (S := fun _ => False) ((Kept.refl _ _).alloc _) (fun h => h) (.inr fun _ _ h => h), ?_, hd.low⟩, hk.alloc _, by simp, by simp, hk.size, by decide, by show (1 : Int) ≤ _; exact hb0⟩
    exact World.ownsRow_lit wz #[.int .i64 1, .int .i64 1, .int .i64 0, .int .i64 0, .int .i64 0, .int .i64 0, .int .i64 20, .int .i64 1, .int .i64 0, .int .i64 0, .int .i64 1, .int .i64 0] 2 hd.size (by decide) rfl
  by_cases h80 : 80 < L1.length
  · have h81 : (80 : Int) < (L1.length : Int) := by omega
    go_wp2
    go_ret
    exact HLIT.out _ HD1.out HK1.out
  · have h81 : ¬ (80 : Int) < (L1.length : Int) := by omega
    go_wp2_with fail
    obtain ⟨a2, c2, hv2, hw2⟩ := HD1.out.own.form
    cases hv2
    refine (sSentence _ _ L1 _ hw2.nodes).mono ?_
    rintro e w2 ⟨rfl, hb2⟩
    have HD2 : Hid (Dr w2 b a len cap (.slice ta L1.length tc) L1) := HD1.out.below hb2
    have HK2 : Hid (Kept (fun k => k = b) w w2) := HK1.out.trans (Kept.ofBelow hb2)
    clear hb2 hw2
    cases hS : sentB L1
    · go_wp2
      go_ret
      exact HLIT.out _ HD2.out HK2.out
    · have HS : Hid (sentB L1 = true) := hS
      have h1 := sent_len hS
      obtain ⟨g3, c3, hv3⟩ := own_at HD2.out.own h1
      cases hv3
      clear hS
      go_wp2
      go_ret
      exact ⟨g3, tc, L1, rfl, HD2.out, HK2.out, h1, by omega, HG1.out _ rfl, HS.out, HZ1.out⟩

end Go.Proofs.YtbnjndloeflgiaaGreat.Du5

/- Walks of the draws: a cursor made, one of a new list picked. -/
namespace Go.Proofs.YtbnjndloeflgiaaGreat.Dr4
open Go.RowKit
open Dr0 Dr1
set_option linter.unusedVariables false

set_option maxRecDepth 100000 in
set_option maxHeartbeats 1000000 in
theorem new (w : World) (a : Option Addr) (len cap : Nat) (hb : Bytes w a len) :
    Calls Tryz.prog 15 #[.slice a len cap] w fun e w' => e = .returned (.pointer (some ⟨w.heap.size, 0, none⟩)) ∧ Cur w' w.heap.size a len cap ∧ Below w.heap.size w w' := by
  have hm := hb.1
  unfold maxLen at hm
  have HB : Hid (Bytes w a len) := hb
  clear hb
  go_enter Tryz.func15, Tryz.ntmps15
  go_wp2
  go_loop [3, 4] (fun h i => ∃ (k : Nat) (x : Int), k ≤ len ∧ i = .int .i64 k ∧ h = .int .i64 x) (fun _ i => len - (intOf i).toNat)
  case atStart => exact ⟨0, _, Nat.zero_le _, rfl, rfl⟩
  case round =>
    obtain ⟨k, x, hk, rfl, rfl⟩ := hrel
    by_cases hlt : k < len ∧ k < 4000
    · obtain ⟨hlt, hl4⟩ := hlt
      rcases HB.out.2 with h0 | ⟨xb, xo, rfl, hcell⟩
      · omega
      obtain ⟨v, hv0, hv1, hv⟩ := hcell k hlt
      clear hcell
      go_wp2
      go_round
      case rel => exact ⟨k + 1, _, by omega, by go_num, rfl⟩
      case measure => simp [intOf]; omega
    · have hd : (decide ((k : Int) < (len : Int)) && decide ((k : Int) < 4000)) = false := by simp; omega
      by_cases hlt : k < len
      · have hl4 : ¬ (k : Int) < 4000 := by omega
        clear hd
        go_wp2
        go_ret
        exact ⟨rfl, Cur.made HB.out x _, (Below.refl _ w).alloc (Nat.le_refl _) _⟩
      · have hl4 : ¬ (k : Int) < (len : Int) := by omega
        clear hd
        go_wp2
        go_ret
        exact ⟨rfl, Cur.made HB.out x _, (Below.refl _ w).alloc (Nat.le_refl _) _⟩

end Go.Proofs.YtbnjndloeflgiaaGreat.Dr4

/- A sentence that is drawn (DrawSaid): it is one, and has at most eight bits. -/
namespace Go.Proofs.YtbnjndloeflgiaaGreat.Ds1
open Go.RowKit
open Nd0 Nd3 Tm0 Tm6 Tm11 Ap2 Ap7 Dr0 Dr1 Dr4 Dw0 Dw1 Du5 Dq0
set_option linter.unusedVariables false

theorem low_of {w : World} {a : Option Addr} {len : Nat} (h : Bytes w a len) : Low a len w.heap.size := by
  rcases h.2 with h0 | ⟨xb, xo, rfl, hc⟩
  · exact .inl h0
  · by_cases hl : len = 0
    · exact .inl hl
    · refine .inr fun x hx => ?_
      cases hx
      obtain ⟨v, _, _, hv⟩ := hc 0 (by omega)
      exact Nd0.lt_of_cell (p := ⟨xb, xo + 0, none⟩) hv
def NPost (w : World) (e : Ending) (w' : World) : Prop :=
  ∃ (g c : Nat) (L : List Nd), e = .returned (.slice (some ⟨g, 0, none⟩) L.length c) ∧ Nodes w' (some ⟨g, 0, none⟩) L ∧ Below w.heap.size w w' ∧ 1 ≤ L.length ∧ L.length ≤ 80 ∧ L.length ≤ c ∧ sentB L = true ∧ bitsL L ≤ 8

set_option maxHeartbeats 1000000 in
theorem drawSaid (w : World) (a : Option Addr) (len cap : Nat) (hb : Bytes w a len) :
    Calls Tryz.prog 5 #[.slice a len cap] w (NPost w) := by
  have HB : Hid (Bytes w a len) := hb
  clear hb
  go_enter Tryz.func5, Tryz.ntmps5
  go_wp2_with fail
  refine (Dr4.new _ a len cap HB.out).mono ?_
  rintro e w1 ⟨rfl, hc, hb1⟩
  have HC : Hid (Cur w1 w.heap.size a len cap) := hc
  have HB1 : Hid (Below w.heap.size w w1) := hb1
  clear hc hb1
  go_wp2_with fail
  refine (sentence _ w.heap.size a len cap 8 HC.out (low_of HB.out) (by omega) (by omega)).mono ?_
  rintro e w2 ⟨g, c, L, rfl, hd, hk, h1, h2, h3, hS, hQ⟩
  have HSB : Hid (sentB L = true ∧ bitsL L ≤ 8) := ⟨hS, Int.le_trans (bits_le hS) hQ⟩
  have HP : Hid (Nodes w2 (some ⟨g, 0, none⟩) L ∧ Below w.heap.size w w2) := by
    obtain ⟨a9, c9, hv9, hw9⟩ := hd.own.form
    cases hv9
    exact ⟨hw9.nodes, HB1.out.trans (hk.below (fun k (e : k = w.heap.size) => by omega) HB1.out.size)⟩
  have hcc : L.length ≤ c := (own_cap hd.own).2
  clear hd hk hS hQ
  go_wp2
  go_ret
  exact ⟨g, c, L, rfl, HP.out.1, HP.out.2, h1, h2, hcc, HSB.out.1, HSB.out.2⟩

end Go.Proofs.YtbnjndloeflgiaaGreat.Ds1

/- Walks of what the laws themselves call: a byte of the code, whether the code is too great. -/
namespace Go.Proofs.YtbnjndloeflgiaaGreat.Lw4
open Go.RowKit
open Dr0 Dr1
open Ws1 (ret_int ret_bool)
set_option linter.unusedVariables false

set_option maxHeartbeats 400000 in
theorem lat (w : World) (a : Option Addr) (len cap : Nat) (i : Int) (h0 : 0 ≤ i) (hk : i ≤ 1000) (hb : Bytes w a len) (hs : len ≤ 1048576) :
    Calls Tryz.prog 11 #[.slice a len cap, .int .i64 i] w fun e w' => (∃ x : Int, e = .returned (.int .i64 x) ∧ 0 ≤ x ∧ x ≤ 255) ∧ w' = w := by
  obtain ⟨k, rfl⟩ := Int.eq_ofNat_of_zero_le h0
  by_cases hlt : k < len
  · rcases hb.2 with h0 | ⟨xb, xo, rfl, hcell⟩
    · omega
    obtain ⟨v, hv0, hv1, hv⟩ := hcell k hlt
    clear hcell hb
    go_enter Tryz.func11, Tryz.ntmps11
    go_wp2
    go_ret
    exact ⟨⟨_, rfl, by omega, by omega⟩, rfl⟩
  · clear hb
    go_enter Tryz.func11, Tryz.ntmps11
    go_wp2
    go_ret
    exact ⟨⟨_, rfl, by omega, by omega⟩, rfl⟩

set_option maxHeartbeats 400000 in
theorem lbig (w : World) (a : Option Addr) (len cap : Nat) (b : Bool) (hb : b = decide (1048576 < len)) :
    Calls Tryz.prog 4 #[.slice a len cap] w fun e w' => e = .returned (.bool b) ∧ w' = w := by
  subst hb
  go_enter Tryz.func4, Tryz.ntmps4
  go_wp2
  go_ret
  exact ⟨ret_bool (by rw [Bool.eq_iff_iff]; simp; omega), rfl⟩

end Go.Proofs.YtbnjndloeflgiaaGreat.Lw4

/- Plain facts of a table and its two halves. -/
namespace Go.Proofs.YtbnjndloeflgiaaGreat.Ta3
open Go.RowKit
open Ta0 Ta1 Ta2 Td1
open Ss0 (bs bs_size)
set_option linter.unusedVariables false

end Go.Proofs.YtbnjndloeflgiaaGreat.Ta3

/- The verdict of a row and a table: plain facts. -/
namespace Go.Proofs.YtbnjndloeflgiaaGreat.De0
open Go.RowKit
open Ta1 Ta3
set_option linter.unusedVariables false

end Go.Proofs.YtbnjndloeflgiaaGreat.De0

/- The verdict of the quantifiers' row and the table of the rest is what they are worth: plain facts. -/
namespace Go.Proofs.YtbnjndloeflgiaaGreat.Dh0
open Nd0 Qa0 Tm6 Tr0 Vl1 Fr0 Fr1 To0 De0

set_option linter.unusedVariables false

end Go.Proofs.YtbnjndloeflgiaaGreat.Dh0

/- The bits of a sentence are no more than those of its quantifiers at the front: plain facts. -/
namespace Go.Proofs.YtbnjndloeflgiaaGreat.Dh1
open Nd0 Qa0 Pl1 Tm0 Tm1 Tm5 Tm6 Tm8 Tm10 Tm11 Tr0 Vl1 Vl2 Fr0 Fr1 Fr2 Fr3 Fr5 To0
set_option linter.unusedVariables false

theorem rch_head {l : List Nd} {i z : Nat} (h : Rch l i z) : z = i ∨ ∃ p ∈ parts (nth l i), Rch l p.toNat z := by
  induction h with
  | refl => exact .inl rfl
  | down h hp ih =>
    rcases ih with rfl | ⟨p', hp', h'⟩
    · exact .inr ⟨_, hp, .refl⟩
    · exact .inr ⟨p', hp', .down h' hp⟩
theorem rch_root {l : List Nd} (hD : Down l) : ∀ d z, z + d + 1 = l.length → flag (reachL l) z = true → Rch l (l.length - 1) z := by
  intro d
  induction d using Nat.strongRecOn with
  | _ d ih =>
    intro z hz hf
    rcases reach_why hD (by omega) hf with h | ⟨j, h1, h2, h3, h4⟩
    · have : z = l.length - 1 := by omega
      rw [← this]
      exact .refl
    · have := ih (l.length - 1 - j) (by omega) j (by omega) h3
      have h5 := Rch.down this h4
      rw [Int.toNat_natCast] at h5
      exact h5
theorem in_wk {l : List Nd} (hS : sentB l = true) (hT : termOk l = true) : ∀ i, i < l.length → flag (reachL l) i = true → ∀ z, Rch l i z → quant (nth l z).op = true → ∀ u, ∃ x ∈ wk (tr l i) u, x.vr = (nth l z).k ∧ x.bits = (nth l z).b := by
  intro i
  induction i using Nat.strongRecOn with
  | _ i ih =>
    intro hi hf z hz hq u
    have hD := down_of hT
    have hzl : z < l.length := Nat.lt_of_le_of_lt (hz.le hD hi) hi
    rcases rch_head hz with rfl | ⟨p, hp, hz'⟩
    · rw [wk_q hT hi hq]
      exact ⟨_, List.mem_cons_self, rfl, rfl⟩
    · have hpi := hD i hi p hp
      have hp0 : p.toNat < i := by omega
      have hfp := reach_closed hD hi hf hp
      have hh : flag (holdTo l l.length) i = true := hz.hold hD hi (quant_hold hD hzl hq)
      have go : ∀ u, ∃ x ∈ wk (tr l p.toNat) u, x.vr = (nth l z).k ∧ x.bits = (nth l z).b := fun u => ih p.toNat hp0 (by omega) hfp z hz' hq u
      rcases hold_outer hS hi hf hh with h | h | h | h
      · rw [wk_not hT hi h]
        have : p = (nth l i).a := by rw [parts_one (.inl h)] at hp; simpa using hp
        rw [← this]
        exact go _
      · rw [wk_two hT hi (.inl h)]
        have : p = (nth l i).a ∨ p = (nth l i).b := by rw [parts_two (by omega)] at hp; simpa using hp
        rcases this with e | e
        · obtain ⟨x, hx, h9⟩ := go u
          exact ⟨x, List.mem_append.2 (.inl (e ▸ hx)), h9⟩
        · obtain ⟨x, hx, h9⟩ := go u
          exact ⟨x, List.mem_append.2 (.inr (e ▸ hx)), h9⟩
      · rw [wk_two hT hi (.inr h)]
        have : p = (nth l i).a ∨ p = (nth l i).b := by rw [parts_two (by omega)] at hp; simpa using hp
        rcases this with e | e
        · obtain ⟨x, hx, h9⟩ := go u
          exact ⟨x, List.mem_append.2 (.inl (e ▸ hx)), h9⟩
        · obtain ⟨x, hx, h9⟩ := go u
          exact ⟨x, List.mem_append.2 (.inr (e ▸ hx)), h9⟩
      · rw [wk_q hT hi h]
        have h2 : (nth l i).op = 19 ∨ (nth l i).op = 20 := by simpa [quant] using h
        have : p = (nth l i).a := by rw [parts_one (by omega)] at hp; simpa using hp
        obtain ⟨x, hx, h9⟩ := go u
        exact ⟨x, List.mem_cons_of_mem _ (this ▸ hx), h9⟩
def sumP (P : Qu → Bool) : List Qu → Nat
  | [] => 0
  | x :: q => (if P x then x.bits.toNat else 0) + sumP P q
theorem sum_le (P : Qu → Bool) (q : List Qu) : sumP P q ≤ bitL q := by
  induction q with
  | nil => exact Nat.le_refl _
  | cons x q ih =>
    unfold sumP bitL
    split <;> omega
theorem sum_mono {P P' : Qu → Bool} (h : ∀ x, P x = true → P' x = true) (q : List Qu) : sumP P q ≤ sumP P' q := by
  induction q with
  | nil => exact Nat.le_refl _
  | cons x q ih =>
    unfold sumP
    by_cases hx : P x = true
    · rw [if_pos hx, if_pos (h x hx)]; omega
    · rw [if_neg hx]
      omega
theorem sum_more {P P' : Qu → Bool} (h : ∀ x, P x = true → P' x = true) : ∀ (q : List Qu) (y : Qu), y ∈ q → P y = false → P' y = true → sumP P q + y.bits.toNat ≤ sumP P' q := by
  intro q
  induction q with
  | nil => intro y hy; cases hy
  | cons x q ih =>
    intro y hy h0 h1
    have hm := sum_mono h q
    unfold sumP
    rcases List.mem_cons.1 hy with rfl | hy
    · rw [h0, h1]
      simp
      omega
    · have := ih y hy h0 h1
      by_cases hx : P x = true
      · rw [if_pos hx, if_pos (h x hx)]; omega
      · rw [if_neg hx]
        omega
open Classical in
noncomputable def Pk (l : List Nd) (k : Nat) (x : Qu) : Bool := decide (∃ i, i < k ∧ RQ l i ∧ (nth l i).k = x.vr)
theorem pk_iff {l : List Nd} {k : Nat} {x : Qu} : Pk l k x = true ↔ ∃ i, i < k ∧ RQ l i ∧ (nth l i).k = x.vr := by unfold Pk; simp
theorem bits_front {l : List Nd} (hS : sentB l = true) : bitsTo l l.length ≤ (bitL (wk (root l) false) : Int) := by
  obtain ⟨ws, hq, hr, hw, hty, hsc⟩ := sent_tree hS
  have hT := sent_ok hS
  have h1 := term_len hT
  have hqw := (quants_widths hT l.length (Nat.le_refl _) ws hq).2
  have key : ∀ k, k ≤ l.length → bitsTo l k ≤ (sumP (Pk l k) (wk (root l) false) : Int) := by
    intro k
    induction k with
    | zero => intro _; exact Int.natCast_nonneg _
    | succ k ih =>
      intro hk
      have hmono : ∀ x, Pk l k x = true → Pk l (k + 1) x = true := fun x hx => by
        obtain ⟨i, hi, h9⟩ := pk_iff.1 hx
        exact pk_iff.2 ⟨i, by omega, h9⟩
      show (if flag (reachL l) k && quant (nth l k).op then bitsTo l k + (nth l k).b else bitsTo l k) ≤ _
      by_cases hc : (flag (reachL l) k && quant (nth l k).op) = true
      · rw [if_pos hc]
        obtain ⟨hf, hqk⟩ := Bool.and_eq_true_iff.1 hc
        obtain ⟨x, hx, hv, hb⟩ := in_wk hS hT (l.length - 1) (by omega) (reach_root h1.1) k (rch_root (down_of hT) (l.length - 1 - k) k (by omega) hf) hqk false
        have hno : Pk l k x = false := by
          refine Bool.eq_false_iff.2 fun hp => ?_
          obtain ⟨i, hi, hRQ, he⟩ := pk_iff.1 hp
          exact hqw i k hi (by omega) hRQ ⟨hf, hqk⟩ (he.trans hv)
        have hyes : Pk l (k + 1) x = true := pk_iff.2 ⟨k, by omega, ⟨hf, hqk⟩, hv.symm⟩
        have h2 := sum_more hmono (wk (root l) false) x hx hno hyes
        have h3 := ih (by omega)
        have h4 : (x.bits.toNat : Int) = (nth l k).b := by
          have := (wk_ty (root l) false hr hty x hx).2.2.1
          rw [← hb]
          omega
        omega
      · rw [if_neg hc]
        have h2 := sum_mono hmono (wk (root l) false)
        have h3 := ih (by omega)
        omega
  have h5 := key l.length (Nat.le_refl _)
  have h6 := sum_le (Pk l l.length) (wk (root l) false)
  omega

end Go.Proofs.YtbnjndloeflgiaaGreat.Dh1

/- The verdict of a sentence's row and table is what it is worth: plain facts of FnDecide. -/
namespace Go.Proofs.YtbnjndloeflgiaaGreat.Dh2
open Nd0 Qa0 Pl1 Tm0 Tm1 Tm5 Tm6 Tm8 Tm10 Tm11 Tr0 Vl1 Vl2 Fr0 Fr1 Fr2 Fr3 Fr4 Fr5 To0 To0t De0 Dh0 Dh1

set_option linter.unusedVariables false

end Go.Proofs.YtbnjndloeflgiaaGreat.Dh2

/- The bits of a sentence are those of its quantifiers at the front: plain facts of FnTable. -/
namespace Go.Proofs.YtbnjndloeflgiaaGreat.Dh3
open Nd0 Qa0 Pl1 Tm0 Tm1 Tm5 Tm6 Tm8 Tm10 Tm11 Tr0 Vl1 Vl2 Fr0 Fr1 Fr2 Fr3 Fr4 Fr5 To0 To0t De0 Dh0 Dh1
set_option linter.unusedVariables false

theorem wk_in {l : List Nd} (hS : sentB l = true) (hT : termOk l = true) : ∀ i, i < l.length → flag (reachL l) i = true → ∀ (u : Bool) (x : Qu), x ∈ wk (tr l i) u → ∃ z, z < l.length ∧ RQ l z ∧ (nth l z).k = x.vr := by
  intro i
  induction i using Nat.strongRecOn with
  | _ i ih =>
    intro hi hf u x hx
    have hD := down_of hT
    cases hh : flag (holdTo l l.length) i with
    | false => rw [wk_none hT hi hh] at hx; cases hx
    | true =>
      have go : ∀ p ∈ parts (nth l i), ∀ u, x ∈ wk (tr l p.toNat) u → ∃ z, z < l.length ∧ RQ l z ∧ (nth l z).k = x.vr := fun p hp u h => by
        have hpi := hD i hi p hp
        exact ih p.toNat (by omega) (by omega) (reach_closed hD hi hf hp) u x h
      rcases hold_outer hS hi hf hh with h | h | h | h
      · rw [wk_not hT hi h] at hx
        exact go _ (by rw [parts_one (.inl h)]; simp) _ hx
      · rw [wk_two hT hi (.inl h)] at hx
        rcases List.mem_append.1 hx with hx | hx
        · exact go _ (by rw [parts_two (by omega)]; simp) _ hx
        · exact go _ (by rw [parts_two (by omega)]; simp) _ hx
      · rw [wk_two hT hi (.inr h)] at hx
        rcases List.mem_append.1 hx with hx | hx
        · exact go _ (by rw [parts_two (by omega)]; simp) _ hx
        · exact go _ (by rw [parts_two (by omega)]; simp) _ hx
      · rw [wk_q hT hi h] at hx
        rcases List.mem_cons.1 hx with rfl | hx
        · exact ⟨i, hi, ⟨hf, h⟩, rfl⟩
        · have h2 : (nth l i).op = 19 ∨ (nth l i).op = 20 := by simpa [quant] using h
          exact go _ (by rw [parts_one (by omega)]; simp) _ hx
theorem sum_same {P P' : Qu → Bool} : ∀ (q : List Qu), (∀ x ∈ q, P' x = true → P x = true) → sumP P' q ≤ sumP P q := by
  intro q
  induction q with
  | nil => intro _; exact Nat.le_refl _
  | cons x q ih =>
    intro h
    have h1 := ih fun y hy => h y (List.mem_cons_of_mem _ hy)
    unfold sumP
    by_cases hx : P' x = true
    · rw [if_pos hx, if_pos (h x List.mem_cons_self hx)]; omega
    · rw [if_neg hx]; omega
theorem sum_once {P P' : Qu → Bool} {v : Int} {b : Nat} : ∀ (q : List Qu), q.Pairwise (fun x y => x.vr ≠ y.vr) → (∀ x ∈ q, P' x = true → P x = true ∨ x.vr = v) → (∀ x ∈ q, x.vr = v → x.bits.toNat ≤ b) → sumP P' q ≤ sumP P q + b := by
  intro q
  induction q with
  | nil => intro _ _ _; exact Nat.zero_le _
  | cons x q ih =>
    intro hp h hb
    obtain ⟨hp1, hp2⟩ := List.pairwise_cons.1 hp
    by_cases hv : x.vr = v
    · have h1 := sum_same (P := P) (P' := P') q fun y hy hy1 => by
        rcases h y (List.mem_cons_of_mem _ hy) hy1 with h9 | h9
        · exact h9
        · exact absurd (hv.trans h9.symm) (hp1 y hy)
      have h2 := hb x List.mem_cons_self hv
      unfold sumP
      split <;> split <;> omega
    · have h1 := ih hp2 (fun y hy => h y (List.mem_cons_of_mem _ hy)) (fun y hy => hb y (List.mem_cons_of_mem _ hy))
      unfold sumP
      by_cases hx : P' x = true
      · rcases h x List.mem_cons_self hx with h9 | h9
        · rw [if_pos hx, if_pos h9]; omega
        · exact absurd h9 hv
      · rw [if_neg hx]; omega
theorem sum_all {P : Qu → Bool} : ∀ (q : List Qu), (∀ x ∈ q, P x = true) → sumP P q = bitL q := by
  intro q
  induction q with
  | nil => intro _; rfl
  | cons x q ih =>
    intro h
    unfold sumP bitL
    rw [if_pos (h x List.mem_cons_self), ih fun y hy => h y (List.mem_cons_of_mem _ hy)]
theorem ap_pair {q : List Qu} (h : Ap q) : q.Pairwise (fun x y => x.vr ≠ y.vr) := by
  refine List.pairwise_iff_getElem.2 fun i j hi hj hij e => ?_
  refine h i j hij hj ?_
  rw [← qth_get hi, ← qth_get hj, e]
theorem bits_back {l : List Nd} (hS : sentB l = true) (hA : Ap (wk (root l) false)) : (bitL (wk (root l) false) : Int) ≤ bitsTo l l.length := by
  obtain ⟨ws, hq, hr, hw, hty, hsc⟩ := sent_tree hS
  have hT := sent_ok hS
  have h1 := term_len hT
  have hP := ap_pair hA
  have key : ∀ k, k ≤ l.length → (sumP (Pk l k) (wk (root l) false) : Int) ≤ bitsTo l k := by
    intro k
    induction k with
    | zero =>
      intro _
      have : sumP (Pk l 0) (wk (root l) false) = 0 := by
        have h0 : ∀ q : List Qu, sumP (Pk l 0) q = 0 := fun q => by
          induction q with
          | nil => rfl
          | cons x q ih =>
            unfold sumP
            rw [ih, if_neg]
            intro hx
            obtain ⟨i, hi, _⟩ := pk_iff.1 hx
            omega
        exact h0 _
      rw [this]
      exact Int.le_refl _
    | succ k ih =>
      intro hk
      show _ ≤ (if flag (reachL l) k && quant (nth l k).op then bitsTo l k + (nth l k).b else bitsTo l k)
      have h3 := ih (by omega)
      by_cases hc : (flag (reachL l) k && quant (nth l k).op) = true
      · rw [if_pos hc]
        obtain ⟨hf, hqk⟩ := Bool.and_eq_true_iff.1 hc
        obtain ⟨x, hx, hv, hb⟩ := in_wk hS hT (l.length - 1) (by omega) (reach_root h1.1) k (rch_root (down_of hT) (l.length - 1 - k) k (by omega) hf) hqk false
        have h4 : (x.bits.toNat : Int) = (nth l k).b := by
          have := (wk_ty (root l) false hr hty x hx).2.2.1
          rw [← hb]
          omega
        have h2 := sum_once (P := Pk l k) (P' := Pk l (k + 1)) (v := (nth l k).k) (b := x.bits.toNat) (wk (root l) false) hP (fun y hy hy1 => by
          obtain ⟨i, hi, hRQ, he⟩ := pk_iff.1 hy1
          by_cases e : i = k
          · exact .inr (by rw [← he, e])
          · exact .inl (pk_iff.2 ⟨i, by omega, hRQ, he⟩)) (fun y hy e => by
          obtain ⟨i, hi, rfl⟩ := List.mem_iff_getElem.1 hx
          obtain ⟨j, hj, rfl⟩ := List.mem_iff_getElem.1 hy
          rcases Nat.lt_trichotomy i j with h9 | rfl | h9
          · exact absurd (hv.trans e.symm) (List.pairwise_iff_getElem.1 hP i j hi hj h9)
          · exact Nat.le_refl _
          · exact absurd (e.trans hv.symm) (List.pairwise_iff_getElem.1 hP j i hj hi h9))
        omega
      · rw [if_neg hc]
        have h2 := sum_same (P := Pk l k) (P' := Pk l (k + 1)) (wk (root l) false) fun y hy hy1 => by
          obtain ⟨i, hi, hRQ, he⟩ := pk_iff.1 hy1
          by_cases e : i = k
          · exact absurd (Bool.and_eq_true_iff.2 (e ▸ hRQ)) hc
          · exact pk_iff.2 ⟨i, by omega, hRQ, he⟩
        omega
  have h5 := key l.length (Nat.le_refl _)
  have h6 := sum_all (P := Pk l l.length) (wk (root l) false) fun x hx => by
    obtain ⟨z, hz, hRQ, he⟩ := wk_in hS hT (l.length - 1) (by omega) (reach_root h1.1) false x hx
    exact pk_iff.2 ⟨z, hz, hRQ, he⟩
  rw [h6] at h5
  exact h5
theorem bits_said {l : List Nd} (h : toB (frontQ l) (frontR l) = true) : sentB l = true ∧ (bitL (frontQ l) : Int) = bitsTo l l.length := by
  unfold toB at h
  obtain ⟨hfew, hfo⟩ := Bool.and_eq_true_iff.1 h
  obtain ⟨ws', hF⟩ := fo_all hfo
  cases hS : sentB l with
  | false =>
    have e : frontR l = [] := by unfold frontR; rw [hS]; rfl
    rw [e] at hfo
    have := (fo_of hfo).1
    have := term_len this
    simp at this
  | true =>
    have eQ : frontQ l = wk (root l) false := by unfold frontQ; rw [hS]; rfl
    have hA := hF.ap
    rw [eQ] at hA
    have h1 := bits_back hS hA
    have h2 := bits_front hS
    rw [eQ]
    exact ⟨rfl, by omega⟩

end Go.Proofs.YtbnjndloeflgiaaGreat.Dh3
