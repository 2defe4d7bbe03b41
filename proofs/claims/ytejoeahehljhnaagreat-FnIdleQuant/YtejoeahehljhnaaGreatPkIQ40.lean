/- Small texts of mine, one behind the other. -/
import Derived.Test.YtejoeahehljhnaaGreatDu4
import Derived.Test.YtejoeahehljhnaaGreatSp11
import Derived.Test.YtejoeahehljhnaaGreatPkIQ36
import Derived.Test.YtejoeahehljhnaaGreatPkIQ17
import Derived.Test.YtejoeahehljhnaaGreatWs1
import Derived.Test.YtejoeahehljhnaaGreatPkIQ0
import Derived.Test.YtejoeahehljhnaaGreatFm6
/- Formulas of every depth drawn; the draw of a sentence. -/
namespace Go.Proofs.YtejoeahehljhnaaGreat.Du5
open Go.RowKit
open Nd0 Nd3 Ap2 Dw0 Dw1 Du2 Du3 Du4 Dq0 Dw3 Dw4 Tm0 Tm6
open Dr0 (Cur Only Bytes Off)
open Dr1 (once below)
open Sp11 (sSentence)
set_option linter.unusedVariables false

theorem madeC (d : Nat) : MadeC d := by
  induction d with
  | zero => exact madeAny 0 (fun d h => by omega)
  | succ d ih => exact madeAny (d + 1) (fun d' h => by have : d' = d := by omega
                                                       subst this; exact ih)

def SPost (bits : Int) (b : Nat) (a : Option Addr) (len cap : Nat) (w : World) (e : Ending) (w' : World) : Prop :=
  ∃ (g c : Nat) (L : List Nd), e = .returned (.slice (some ⟨g, 0, none⟩) L.length c) ∧ Dr w' b a len cap (.slice (some ⟨g, 0, none⟩) L.length c) L ∧ Kept (fun k => k = b) w w' ∧ 1 ≤ L.length ∧ L.length ≤ 80 ∧ w.heap.size ≤ g ∧ sentB L = true ∧ sq L ≤ bits

theorem own_at {w : World} {B : Nat} {v : Value} {l : List Nd} (h : Ap2.Own w B v l) (hl : 1 ≤ l.length) : ∃ g c, v = .slice (some ⟨g, 0, none⟩) l.length c := by
  obtain ⟨h1, h2⟩ := h
  rcases h2 with ⟨rfl, h0⟩ | ⟨g, cap, cur, rfl, _⟩
  · omega
  · exact ⟨g, cap, rfl⟩
theorem sent_len {l : List Nd} (h : sentB l = true) : 1 ≤ l.length := by
  have : termOk l = true := by
    cases ht : termOk l
    · rw [sent_term ht] at h; cases h
    · rfl
  exact (term_len this).1
theorem stp_kept {b : Nat} {v v' : Value} {w0 w w' : World} (hk : Kept (fun k => k = b) w0 w) (s : Stp b v v' w w') (hv : ∀ k, v.ownBlock = some k → w0.heap.size ≤ k) : Kept (fun k => k = b) w0 w' := by
  refine ⟨s.kept.os.trans hk.os, s.kept.tape.trans hk.tape, s.kept.output.trans hk.output, Nat.le_trans hk.size s.kept.size, fun i hi hb => ?_⟩
  rw [s.kept.block i (Nat.lt_of_lt_of_le hi hk.size) (fun e => ?_)]
  · exact hk.block i hi hb
  · rcases e with e | e
    · exact hb e
    · have := hv i e; omega

set_option maxRecDepth 100000 in
set_option maxHeartbeats 4000000 in
theorem sentence (w : World) (b : Nat) (a : Option Addr) (len cap : Nat) (bits : Int) (hc : Cur w b a len cap) (hlo : Low a len b) (hb0 : 1 ≤ bits) (hb1 : bits ≤ 100) :
    Calls Tryz.prog 12 #[.pointer (some ⟨b, 0, none⟩), .int .i64 bits] w (SPost bits b a len cap w) := by
  have hbs := hc.lt
  have hB1 : Below w.heap.size w (w.alloc (.cells #[] 43)) := (Below.refl _ _).alloc (Nat.le_refl _) _
  have hB2 : Below w.heap.size w ((w.alloc (.cells #[] 43)).alloc (.cells #[] 43)) := hB1.alloc (by simp) _
  have HD : Hid (Dr ((w.alloc (.cells #[] 43)).alloc (.cells #[] 43)) b a len cap (.slice (some ⟨w.heap.size, 0, none⟩) 0 0) []) :=
    ⟨cur_kept hc (S := fun _ => False) (Kept.ofBelow hB2) (fun h => h) (.inr fun _ _ h => h), World.ownsRow.alloc (Own.lit w _ (by omega)) _, hlo⟩
  have HK : Hid (Kept (fun k => k = b) w ((w.alloc (.cells #[] 43)).alloc (.cells #[] 43))) := Kept.ofBelow hB2
  clear hc hlo hB1 hB2
  go_enter Tryz.func12, Tryz.ntmps12
  go_wp2_with fail
  refine (madeC 4 _ b a len cap (.slice (some ⟨w.heap.size, 0, none⟩) 0 0) [] (some ⟨w.heap.size + 1, 0, none⟩) [] 0 0 bits 4 rfl HD.out ⟨⟨Nat.zero_le _, .inl rfl⟩, fun x h => absurd h (Nat.not_lt_zero _)⟩ (fun i h => absurd h (Nat.not_lt_zero _)) (fun i h => absurd h (Nat.not_lt_zero _)) (by simp) (by omega) (by omega) hb1 (by show 0 + gd 4 ≤ _; decide)).mono ?_
  rintro e w1 ⟨v1, L1, at1, n1, lf1, rfl, hd, hs, hl, _, _, hlf, _, hz⟩
  have HZ1 : Hid (sq L1 ≤ bits) := by
    have e0 : sq [] = 0 := rfl
    rw [e0] at hz
    show _ ≤ _
    omega
  clear hz hlf
  obtain ⟨ta, tc, rfl⟩ := hd.slice
  have HD1 : Hid (Dr w1 b a len cap (.slice ta L1.length tc) L1) := hd
  have HK1 : Hid (Kept (fun k => k = b) w w1) := stp_kept HK.out hs (fun k hk => by cases hk; exact Nat.le_refl _)
  have hl1 : L1.length ≤ 700 := by
    have : gd 4 = 655 := by decide
    simp at hl; omega
  have HG1 : Hid (∀ k, (Value.slice ta L1.length tc).ownBlock = some k → w.heap.size ≤ k) := by
    show ∀ _, _
    intro k hk
    rcases hs.new k hk with e | e
    · cases e; exact Nat.le_refl _
    · simp at e; omega
  clear hd hs hl HD HK
  have HLIT : Hid (∀ wz : World, Dr wz b a len cap (.slice ta L1.length tc) L1 → Kept (fun k => k = b) w wz → SPost bits b a len cap w (.returned (.slice (some ⟨wz.heap.size, 0, none⟩) 2 2)) (wz.alloc (.cells #[.int .i64 1, .int .i64 1, .int .i64 0, .int .i64 0, .int .i64 0, .int .i64 0, .int .i64 20, .int .i64 1, .int .i64 0, .int .i64 0, .int .i64 1, .int .i64 0] 43))) := by
    show ∀ _, _
    intro wz hd hk
    refine ⟨wz.heap.size, 2, [⟨1, 1, 0, 0, 0, 0⟩, ⟨20, 1, 0, 0, 1, 0⟩], rfl, ⟨cur_kept hd.cur (S := fun _ => False) ((Kept.refl _ _).alloc _) (fun h => h) (.inr fun _ _ h => h), ?_, hd.low⟩, hk.alloc _, by simp, by simp, hk.size, by decide, by show (1 : Int) ≤ _; exact hb0⟩
    exact World.ownsRow_lit wz #[.int .i64 1, .int .i64 1, .int .i64 0, .int .i64 0, .int .i64 0, .int .i64 0, .int .i64 20, .int .i64 1, .int .i64 0, .int .i64 0, .int .i64 1, .int .i64 0] 2 hd.size (by decide) rfl
  by_cases h80 : 80 < L1.length
  · have h81 : (80 : Int) < (L1.length : Int) := by omega
    go_wp2
    go_ret
    exact HLIT.out _ HD1.out HK1.out
  · have h81 : ¬ (80 : Int) < (L1.length : Int) := by omega
    go_wp2_with fail
    obtain ⟨a2, c2, hv2, hw2⟩ := HD1.out.own.form
    cases hv2
    refine (sSentence _ _ L1 _ hw2.nodes).mono ?_
    rintro e w2 ⟨rfl, hb2⟩
    have HD2 : Hid (Dr w2 b a len cap (.slice ta L1.length tc) L1) := HD1.out.below hb2
    have HK2 : Hid (Kept (fun k => k = b) w w2) := HK1.out.trans (Kept.ofBelow hb2)
    clear hb2 hw2
    cases hS : sentB L1
    · go_wp2
      go_ret
      exact HLIT.out _ HD2.out HK2.out
    · have HS : Hid (sentB L1 = true) := hS
      have h1 := sent_len hS
      obtain ⟨g3, c3, hv3⟩ := own_at HD2.out.own h1
      cases hv3
      clear hS
      go_wp2
      go_ret
      exact ⟨g3, tc, L1, rfl, HD2.out, HK2.out, h1, by omega, HG1.out _ rfl, HS.out, HZ1.out⟩

end Go.Proofs.YtejoeahehljhnaaGreat.Du5

/- Walks of the draws: a cursor made, one of a new list picked. -/
namespace Go.Proofs.YtejoeahehljhnaaGreat.Dr4
open Go.RowKit
open Dr0 Dr1
set_option linter.unusedVariables false

set_option maxRecDepth 100000 in
set_option maxHeartbeats 1000000 in
theorem new (w : World) (a : Option Addr) (len cap : Nat) (hb : Bytes w a len) :
    Calls Tryz.prog 11 #[.slice a len cap] w fun e w' => e = .returned (.pointer (some ⟨w.heap.size, 0, none⟩)) ∧ Cur w' w.heap.size a len cap ∧ Below w.heap.size w w' := by
  have hm := hb.1
  unfold maxLen at hm
  have HB : Hid (Bytes w a len) := hb
  clear hb
  go_enter Tryz.func11, Tryz.ntmps11
  go_wp2
  go_loop [3, 4] (fun h i => ∃ (k : Nat) (x : Int), k ≤ len ∧ i = .int .i64 k ∧ h = .int .i64 x) (fun _ i => len - (intOf i).toNat)
  case atStart => exact ⟨0, _, Nat.zero_le _, rfl, rfl⟩
  case round =>
    obtain ⟨k, x, hk, rfl, rfl⟩ := hrel
    by_cases hlt : k < len ∧ k < 4000
    · obtain ⟨hlt, hl4⟩ := hlt
      rcases HB.out.2 with h0 | ⟨xb, xo, rfl, hcell⟩
      · omega
      obtain ⟨v, hv0, hv1, hv⟩ := hcell k hlt
      clear hcell
      go_wp2
      go_round
      case rel => exact ⟨k + 1, _, by omega, by go_num, rfl⟩
      case measure => simp [intOf]; omega
    · have hd : (decide ((k : Int) < (len : Int)) && decide ((k : Int) < 4000)) = false := by simp; omega
      by_cases hlt : k < len
      · have hl4 : ¬ (k : Int) < 4000 := by omega
        clear hd
        go_wp2
        go_ret
        exact ⟨rfl, Cur.made HB.out x _, (Below.refl _ w).alloc (Nat.le_refl _) _⟩
      · have hl4 : ¬ (k : Int) < (len : Int) := by omega
        clear hd
        go_wp2
        go_ret
        exact ⟨rfl, Cur.made HB.out x _, (Below.refl _ w).alloc (Nat.le_refl _) _⟩

end Go.Proofs.YtejoeahehljhnaaGreat.Dr4

/- A sentence that is drawn (DrawSaid): it is one, and has at most eight bits. -/
namespace Go.Proofs.YtejoeahehljhnaaGreat.Ds1
open Go.RowKit
open Nd0 Nd3 Tm0 Tm6 Tm11 Ap2 Ap7 Dr0 Dr1 Dr4 Dw0 Dw1 Du5 Dq0
set_option linter.unusedVariables false

theorem low_of {w : World} {a : Option Addr} {len : Nat} (h : Bytes w a len) : Low a len w.heap.size := by
  rcases h.2 with h0 | ⟨xb, xo, rfl, hc⟩
  · exact .inl h0
  · by_cases hl : len = 0
    · exact .inl hl
    · refine .inr fun x hx => ?_
      cases hx
      obtain ⟨v, _, _, hv⟩ := hc 0 (by omega)
      exact Nd0.lt_of_cell (p := ⟨xb, xo + 0, none⟩) hv
def NPost (w : World) (e : Ending) (w' : World) : Prop :=
  ∃ (g c : Nat) (L : List Nd), e = .returned (.slice (some ⟨g, 0, none⟩) L.length c) ∧ Nodes w' (some ⟨g, 0, none⟩) L ∧ Below w.heap.size w w' ∧ 1 ≤ L.length ∧ L.length ≤ 80 ∧ L.length ≤ c ∧ sentB L = true ∧ bitsL L ≤ 8

set_option maxHeartbeats 1000000 in
theorem drawSaid (w : World) (a : Option Addr) (len cap : Nat) (hb : Bytes w a len) :
    Calls Tryz.prog 5 #[.slice a len cap] w (NPost w) := by
  have HB : Hid (Bytes w a len) := hb
  clear hb
  go_enter Tryz.func5, Tryz.ntmps5
  go_wp2_with fail
  refine (Dr4.new _ a len cap HB.out).mono ?_
  rintro e w1 ⟨rfl, hc, hb1⟩
  have HC : Hid (Cur w1 w.heap.size a len cap) := hc
  have HB1 : Hid (Below w.heap.size w w1) := hb1
  clear hc hb1
  go_wp2_with fail
  refine (sentence _ w.heap.size a len cap 8 HC.out (low_of HB.out) (by omega) (by omega)).mono ?_
  rintro e w2 ⟨g, c, L, rfl, hd, hk, h1, h2, h3, hS, hQ⟩
  have HSB : Hid (sentB L = true ∧ bitsL L ≤ 8) := ⟨hS, Int.le_trans (bits_le hS) hQ⟩
  have HP : Hid (Nodes w2 (some ⟨g, 0, none⟩) L ∧ Below w.heap.size w w2) := by
    obtain ⟨a9, c9, hv9, hw9⟩ := hd.own.form
    cases hv9
    exact ⟨hw9.nodes, HB1.out.trans (hk.below (fun k (e : k = w.heap.size) => by omega) HB1.out.size)⟩
  have hcc : L.length ≤ c := (own_cap hd.own).2
  clear hd hk hS hQ
  go_wp2
  go_ret
  exact ⟨g, c, L, rfl, HP.out.1, HP.out.2, h1, h2, hcc, HSB.out.1, HSB.out.2⟩

end Go.Proofs.YtejoeahehljhnaaGreat.Ds1

/- Walks of what the laws themselves call: a byte of the code, whether the code is too great. -/
namespace Go.Proofs.YtejoeahehljhnaaGreat.Lw4
open Go.RowKit
open Dr0 Dr1
open Ws1 (ret_int ret_bool)
set_option linter.unusedVariables false

set_option maxHeartbeats 400000 in
theorem lbig (w : World) (a : Option Addr) (len cap : Nat) (b : Bool) (hb : b = decide (1048576 < len)) :
    Calls Tryz.prog 4 #[.slice a len cap] w fun e w' => e = .returned (.bool b) ∧ w' = w := by
  subst hb
  go_enter Tryz.func4, Tryz.ntmps4
  go_wp2
  go_ret
  exact ⟨ret_bool (by rw [Bool.eq_iff_iff]; simp; omega), rfl⟩

end Go.Proofs.YtejoeahehljhnaaGreat.Lw4

/- A byte of a law's code: the same whenever it is asked. -/
namespace Go.Proofs.YtejoeahehljhnaaGreat.Lat
open Go.RowKit
open Nd0
open Dr0 (Bytes)
open Ws1 (ret_int ret_bool)
set_option linter.unusedVariables false

theorem lat3 (w : World) (a : Option Addr) (len cap : Nat) (i : Int) (h0 : 0 ≤ i) (hk : i ≤ 1000) (hb : Bytes w a len) (hs : len ≤ 1048576) :
    ∃ x : Int, 0 ≤ x ∧ x ≤ 255 ∧ ∀ W : World, Below w.heap.size w W → Calls Tryz.prog 9 #[.slice a len cap, .int .i64 i] W fun e w' => e = .returned (.int .i64 x) ∧ w' = W := by
  obtain ⟨k, rfl⟩ := Int.eq_ofNat_of_zero_le h0
  by_cases hlt : k < len
  · rcases hb.2 with h0 | ⟨xb, xo, rfl, hcell⟩
    · omega
    obtain ⟨v, hv0, hv1, hv⟩ := hcell k hlt
    refine ⟨v, by omega, by omega, fun W hW => ?_⟩
    have hv2 : W.cell? ⟨xb, xo + k, none⟩ = some (.int .u8 v) := (hW.cell (p := ⟨xb, xo + k, none⟩) (lt_of_cell hv)).trans hv
    clear hcell hb hW hv
    go_enter Tryz.func9, Tryz.ntmps9
    go_wp2
    go_ret
    exact ⟨ret_int (by omega), rfl⟩
  · refine ⟨((k : Int) * 7 + (len : Int)) % 256, by omega, by omega, fun W hW => ?_⟩
    clear hb hW
    go_enter Tryz.func9, Tryz.ntmps9
    go_wp2
    go_ret
    exact ⟨rfl, rfl⟩

end Go.Proofs.YtejoeahehljhnaaGreat.Lat

/- Quantifiers appended to one's own: a list of any length out of any place, at the walk and at a step of a region that draws. -/
namespace Go.Proofs.YtejoeahehljhnaaGreat.Ap14
open Go.RowKit
open Nd0 Qa0 Qa2 Fm6
set_option linter.unusedVariables false

theorem flat_at (l : List Qu) {j : Nat} {u : Value} (h : (flatQu l)[j]? = some u) : ∃ i d, j = i * 3 + d ∧ d < 3 ∧ ∃ hi : i < l.length, (l[i].cells)[d]? = some u := by
  have hj : j < l.length * 3 := by rw [← flatQu_length]; exact (List.getElem?_eq_some_iff.1 h).1
  refine ⟨j / 3, j % 3, by omega, by omega, by omega, ?_⟩
  rw [← flatQu_get l (j / 3) (by omega) (j % 3) (by omega), show j / 3 * 3 + j % 3 = j by omega]
  exact h
theorem qus_cells {W : World} {gx ox : Nat} {ys : List Qu} (h : ∀ i (hi : i < ys.length), QuAt W gx (ox + i * 3) ys[i]) : ∀ j u, (flatQu ys)[j]? = some u → W.cell? ((⟨gx, ox, none⟩ : Addr).add j) = some u := by
  intro j u hu
  obtain ⟨i, d, rfl, hd, hi, he⟩ := flat_at ys hu
  have hadd : (⟨gx, ox, none⟩ : Addr).add (i * 3 + d) = ⟨gx, ox + (i * 3 + d), none⟩ := by unfold Addr.add; split <;> simp_all
  rw [hadd]
  obtain ⟨c0, c1, c2⟩ := h i hi
  rcases (show d = 0 ∨ d = 1 ∨ d = 2 by omega) with e | e | e <;> subst e
  · rw [show ox + (i * 3 + 0) = ox + i * 3 by omega, c0]; exact he
  · rw [show ox + (i * 3 + 1) = ox + i * 3 + 1 by omega, c1]; exact he
  · rw [show ox + (i * 3 + 2) = ox + i * 3 + 2 by omega, c2]; exact he
theorem oneC (ys : List Qu) : ∀ u ∈ flatQu ys, u.oneCell' = true := by
  intro u hu
  obtain ⟨n, _, hn⟩ := List.mem_flatMap.1 hu
  simp [Qu.cells] at hn
  rcases hn with rfl | rfl | rfl <;> rfl
theorem one_new (w : World) (al : Bool) (v b : Int) : ∀ i (h : i < [(⟨al, v, b⟩ : Qu)].length), QuAt (w.alloc (.cells #[.bool al, .int .i64 v, .int .i64 b] 31)) w.heap.size (0 + i * 3) [(⟨al, v, b⟩ : Qu)][i] := by
  intro i hi
  have e : i = 0 := by simp at hi; omega
  subst e
  exact ⟨by simp, by simp, by simp⟩
theorem own_addr {w : World} {B : Nat} {v : Value} {l : List Qu} (h : OwQu w B v l) (hv : v ≠ .slice none 0 0) : ∃ g cp, v = .slice (some ⟨g, 0, none⟩) l.length cp := by
  rcases h.2 with ⟨h0, _⟩ | ⟨g', cap, cur, he, _⟩
  · exact absurd h0 hv
  · exact ⟨g', cap, he⟩
theorem app_qus {ops : Array Oper} {rest : List Oper} {o : Oper} {a : Act} {Q : Exit → Act → World → Prop} (W : World) (hgd : o.guard = none) (s x : Operand)
    (ho : o.op = .call { callee := .builtin .append, args := #[s, x], argTypes := #[26, 26] })
    (B g c : Nat) (l ys L : List Qu) (hL : l ++ ys = L) (gx ox cx n m : Nat) (hs : a.eval s = .slice (some ⟨g, 0, none⟩) n c) (hx : a.eval x = .slice (some ⟨gx, ox, none⟩) m cx) (hn : n = l.length) (hm : m = ys.length)
    (hy : ∀ i (h : i < ys.length), QuAt W gx (ox + i * 3) ys[i])
    (hown : OwQu W B (.slice (some ⟨g, 0, none⟩) l.length c) l) (hB : B ≤ W.heap.size) (hlen : l.length + ys.length ≤ 1048577)
    (h : ∀ g' cap w', OwQu w' B (.slice (some ⟨g', 0, none⟩) L.length cap) L → Kept (fun k => k = g) W w' → wpList Tryz.prog ops Q rest (a.put o.dst (.slice (some ⟨g', 0, none⟩) L.length cap)) w') :
    wpList Tryz.prog ops Q (o :: rest) a W := by
  subst hn hm hL
  obtain ⟨i, hi, hzz⟩ := Option.map_eq_some_iff.1 infoAQu
  simp only [Prod.mk.injEq] at hzz
  obtain ⟨hz, hsz, hb⟩ := hzz
  refine wpList_append_own W hgd s x 26 ho B 31 i _ 3 24 Tryz.underlying26 hi hz hsz hb rfl (by omega) _ l.length (flatQu l) hs hown
    ⟨gx, ox, none⟩ ys.length cx (flatQu ys) hx (flatQu_length ys) (qus_cells hy) (oneC ys) (by unfold maxLen; omega) (by omega) hB ?_
  · intro v' w' h1 h2 h3
    have h4 : OwQu w' B v' (l ++ ys) := by unfold OwQu; rw [flatQu_app, List.length_append]; exact h1
    obtain ⟨g', cp, rfl⟩ := own_addr h4 (fun h0 => absurd (h3.1 h0).1 (by simp))
    exact h g' cp w' h4 ⟨h2.os, h2.tape, h2.output, h2.size, fun k hk hn => h2.block k hk (fun e => hn (by cases e; rfl))⟩
theorem step_qus2 {ops : Array Oper} {o : Oper} {a : Act} {K : Act → World → Prop} {Q : Exit → Act → World → Prop} {E : Prop} (W : World) (hgd : o.guard = none) (s x : Operand)
    (ho : o.op = .call { callee := .builtin .append, args := #[s, x], argTypes := #[26, 26] })
    (B g c : Nat) (l ys L : List Qu) (hL : l ++ ys = L) (gx ox cx n m : Nat) (hs : a.eval s = .slice (some ⟨g, 0, none⟩) n c) (hx : a.eval x = .slice (some ⟨gx, ox, none⟩) m cx) (hn : n = l.length) (hm : m = ys.length)
    (hy : ∀ i (h : i < ys.length), QuAt W gx (ox + i * 3) ys[i])
    (hown : OwQu W B (.slice (some ⟨g, 0, none⟩) l.length c) l) (hB : B ≤ W.heap.size) (hlen : l.length + ys.length ≤ 1048577)
    (h : ∀ g' cap w', OwQu w' B (.slice (some ⟨g', 0, none⟩) L.length cap) L → Kept (fun k => k = g) W w' → K (a.put o.dst (.slice (some ⟨g', 0, none⟩) L.length cap)) w') :
    if Region.wanted o (yielded ops a.tmps) = true then Oper.wp Tryz.prog o a W K Q else E := by
  rw [if_pos (by simp [Region.wanted, hgd])]
  subst hn hm hL
  obtain ⟨i, hi, hzz⟩ := Option.map_eq_some_iff.1 infoAQu
  simp only [Prod.mk.injEq] at hzz
  obtain ⟨hz, hsz, hb⟩ := hzz
  refine wp_append_own (w := W) s x 26 ho B 31 i _ 3 24 Tryz.underlying26 hi hz hsz hb rfl (by omega) _ l.length (flatQu l) hs hown
    ⟨gx, ox, none⟩ ys.length cx (flatQu ys) hx (flatQu_length ys) (qus_cells hy) (oneC ys) (by unfold maxLen; omega) (by omega) hB ?_
  intro v' w' h1 h2 h3
  have h4 : OwQu w' B v' (l ++ ys) := by unfold OwQu; rw [flatQu_app, List.length_append]; exact h1
  obtain ⟨g', cp, rfl⟩ := own_addr h4 (fun h0 => absurd (h3.1 h0).1 (by simp))
  exact h g' cp w' h4 ⟨h2.os, h2.tape, h2.output, h2.size, fun k hk hn => h2.block k hk (fun e => hn (by cases e; rfl))⟩

end Go.Proofs.YtejoeahehljhnaaGreat.Ap14
