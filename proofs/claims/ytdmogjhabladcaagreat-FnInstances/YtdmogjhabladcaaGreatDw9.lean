/- Draws again: the values beside a term are seven or eight whole numbers. -/
import Derived.Test.YtdmogjhabladcaaGreatDw8
namespace Go.Proofs.YtdmogjhabladcaaGreat.Dw9
open Go.RowKit
open Nd0 Nd3 Ap0 Ap2 Tm5 Dw0 Dw4 Dw5 Dw6 Dw7 Dw8
open Dr0 (Cur Only Bytes Off)
open Dr1 (once below)
open Sp10 (sQuant)
set_option linter.unusedVariables false

def EPost (e : Ending) (w' : World) (B : Nat) : Prop := ∃ (g c : Nat) (l : List Int), e = .returned (.slice (some ⟨g, 0, none⟩) l.length c) ∧ Ints w' (some ⟨g, 0, none⟩) l ∧ (l.length = 7 ∨ l.length = 8) ∧ l.length ≤ c ∧ B ≤ g
theorem epost {w : World} {B : Nat} {v : Value} {l : List Int} (h : Ows w B v l) (hl : l.length = 7 ∨ l.length = 8) : EPost (.returned v) w B := by
  have hform := h.form
  obtain ⟨h1, h2⟩ := h
  rcases h2 with ⟨e, h0⟩ | ⟨g, cap, cur, e, hb, hg, hn, hm, hs, ht⟩
  · omega
  · subst e
    obtain ⟨a, c, hv, hw⟩ := hform
    have e1 : a = some ⟨g, 0, none⟩ := by injection hv with e1 e2 e3; exact e1.symm
    rw [e1] at hw
    exact ⟨g, cap, l, rfl, hw.ints, hl, hn, hb⟩

set_option maxHeartbeats 4000000 in
theorem env2 (w : World) (b : Nat) (a : Option Addr) (len cap : Nat) (hc : Cur w b a len cap) (hlo : Low a len b) :
    Calls Tryz.prog 43 #[.pointer (some ⟨b, 0, none⟩)] w fun e w' => (EPost e w' w.heap.size) ∧ Kept (fun k => k = b) w w' := by
  have HC0 : Hid (Cur w b a len cap) := hc
  have HLO : Hid (Low a len b) := hlo
  have hbs := hc.lt
  clear hc hlo
  have hbel : Below w.heap.size w (w.alloc (.cells #[] 3)) := (Below.refl _ _).alloc (Nat.le_refl _) _
  have HC1 : Hid (Cur (w.alloc (.cells #[] 3)) b a len cap) := cur_kept HC0.out (S := fun _ => False) (Kept.ofBelow hbel) (fun h => h) (.inr fun _ _ h => h)
  clear hbel
  go_enter Tryz.func43, Tryz.ntmps43
  go_wp2_with fail
  refine (once _ b a len cap 20 (by omega) (by omega) HC1.out).mono ?_
  rintro e w1 ⟨⟨x1, rfl⟩, hc', ho'⟩
  have HC2 : Hid (Cur w1 b a len cap) := hc'
  have HO2 : Hid (Ows w1 w.heap.size (.slice (some ⟨w.heap.size, 0, none⟩) 0 0) []) := (Ows.lit w _ (Nat.le_refl _)).kept (only_kept ho') (fun k hk e => by cases hk; have : w.heap.size = b := e; omega)
  have HK2 : Hid (Kept (fun k => k = b) w w1) := (Kept.alloc (Kept.refl _ _) _).trans (only_kept ho')
  clear hc' ho'
  cases x1
  ·
    go_wp2_with fail
    go_loopw [3, 5] (fun v q wr => ∃ (k : Nat) (l : List Int), k ≤ 8 ∧ q = .int .i64 k ∧ l.length = k ∧ Ows wr w.heap.size v l ∧ Cur wr b a len cap ∧ Kept (fun k => k = b) w wr) (fun _ q _ => 8 - (intOf q).toNat)
    case atStart => exact ⟨0, [], by omega, rfl, rfl, HO2.out, HC2.out, HK2.out⟩
    case round =>
      clear HO2 HC2 HK2
      obtain ⟨k, l, hk, rfl, hl, ho, hcu, hkk⟩ := hrel
      have HO : Hid (Ows wr w.heap.size u3 l) := ho
      have HC : Hid (Cur wr b a len cap) := hcu
      have HK : Hid (Kept (fun k => k = b) w wr) := hkk
      have HLL : Hid (l.length = k) := hl
      clear ho hcu hkk hl
      by_cases h8 : k < 8
      · have hkz : (k : Int) < 8 := by omega
        go_wp2_with fail
        refine (below _ b a len cap 4 (by omega) (by omega) HC.out).mono ?_
        rintro e w2 ⟨⟨x2, rfl, hx0, hx1⟩, hc', ho'⟩
        have HC3 : Hid (Cur w2 b a len cap) := hc'
        have HO3 : Hid (Ows w2 w.heap.size u3 l) := HO.out.kept (only_kept ho') (fun k hk e => by have := (HO.out.lt k hk).1; have : k = b := e; omega)
        have HK3 : Hid (Kept (fun k => k = b) w w2) := HK.out.trans (only_kept ho')
        have hBs : w.heap.size ≤ w2.heap.size := HK3.out.size
        clear hc' ho'
        go_wp2_with (at_builtin; go_must (refine app_int _ rfl _ _ rfl w.heap.size u3 l x2 rfl rfl HO3.out hBs (by have := HLL.out; omega) ?_; intro g' cp w9 ho9 hk9 hg9))
        have HO9 : Hid (Ows w9 w.heap.size (.slice (some ⟨g', 0, none⟩) (l.length + 1) cp) (l ++ [x2])) := ho9
        have HC9 : Hid (Cur w9 b a len cap) := cur_kept HC3.out hk9 (fun e => by have := (HO3.out.lt b e).1; omega) (by
          rcases HLO.out with h0 | hl
          · exact .inl h0
          · exact .inr fun x hx e => by have := hl x hx; have := (HO3.out.lt _ e).1; omega)
        have HK9 : Hid (Kept (fun k => k = b) w w9) := by
          refine ⟨hk9.os.trans HK3.out.os, hk9.tape.trans HK3.out.tape, hk9.output.trans HK3.out.output, Nat.le_trans HK3.out.size hk9.size, fun k hk hn => ?_⟩
          rw [hk9.block k (Nat.lt_of_lt_of_le hk HK3.out.size) (fun e => by have := (HO3.out.lt k e).1; omega)]
          exact HK3.out.block k hk hn
        clear ho9 hk9 hg9
        go_wp2
        go_roundw
        case rel => exact ⟨k + 1, l ++ [x2], by omega, by go_num, by rw [List.length_append, HLL.out]; rfl, HO9.out, HC9.out, HK9.out⟩
        case measure => simp [intOf]; omega
      · have hkz : ¬ (k : Int) < 8 := by omega
        have HP : Hid (EPost (.returned u3) wr w.heap.size) := epost HO.out (by have := HLL.out; omega)
        go_wp2
        go_ret
        exact ⟨HP.out, HK.out⟩
  ·
    go_wp2_with fail
    go_loopw [3, 5] (fun v q wr => ∃ (k : Nat) (l : List Int), k ≤ 7 ∧ q = .int .i64 k ∧ l.length = k ∧ Ows wr w.heap.size v l ∧ Cur wr b a len cap ∧ Kept (fun k => k = b) w wr) (fun _ q _ => 7 - (intOf q).toNat)
    case atStart => exact ⟨0, [], by omega, rfl, rfl, HO2.out, HC2.out, HK2.out⟩
    case round =>
      clear HO2 HC2 HK2
      obtain ⟨k, l, hk, rfl, hl, ho, hcu, hkk⟩ := hrel
      have HO : Hid (Ows wr w.heap.size u3 l) := ho
      have HC : Hid (Cur wr b a len cap) := hcu
      have HK : Hid (Kept (fun k => k = b) w wr) := hkk
      have HLL : Hid (l.length = k) := hl
      clear ho hcu hkk hl
      by_cases h8 : k < 7
      · have hkz : (k : Int) < 7 := by omega
        go_wp2_with fail
        refine (below _ b a len cap 4 (by omega) (by omega) HC.out).mono ?_
        rintro e w2 ⟨⟨x2, rfl, hx0, hx1⟩, hc', ho'⟩
        have HC3 : Hid (Cur w2 b a len cap) := hc'
        have HO3 : Hid (Ows w2 w.heap.size u3 l) := HO.out.kept (only_kept ho') (fun k hk e => by have := (HO.out.lt k hk).1; have : k = b := e; omega)
        have HK3 : Hid (Kept (fun k => k = b) w w2) := HK.out.trans (only_kept ho')
        have hBs : w.heap.size ≤ w2.heap.size := HK3.out.size
        clear hc' ho'
        go_wp2_with (at_builtin; go_must (refine app_int _ rfl _ _ rfl w.heap.size u3 l x2 rfl rfl HO3.out hBs (by have := HLL.out; omega) ?_; intro g' cp w9 ho9 hk9 hg9))
        have HO9 : Hid (Ows w9 w.heap.size (.slice (some ⟨g', 0, none⟩) (l.length + 1) cp) (l ++ [x2])) := ho9
        have HC9 : Hid (Cur w9 b a len cap) := cur_kept HC3.out hk9 (fun e => by have := (HO3.out.lt b e).1; omega) (by
          rcases HLO.out with h0 | hl
          · exact .inl h0
          · exact .inr fun x hx e => by have := hl x hx; have := (HO3.out.lt _ e).1; omega)
        have HK9 : Hid (Kept (fun k => k = b) w w9) := by
          refine ⟨hk9.os.trans HK3.out.os, hk9.tape.trans HK3.out.tape, hk9.output.trans HK3.out.output, Nat.le_trans HK3.out.size hk9.size, fun k hk hn => ?_⟩
          rw [hk9.block k (Nat.lt_of_lt_of_le hk HK3.out.size) (fun e => by have := (HO3.out.lt k e).1; omega)]
          exact HK3.out.block k hk hn
        clear ho9 hk9 hg9
        go_wp2
        go_roundw
        case rel => exact ⟨k + 1, l ++ [x2], by omega, by go_num, by rw [List.length_append, HLL.out]; rfl, HO9.out, HC9.out, HK9.out⟩
        case measure => simp [intOf]; omega
      · have hkz : ¬ (k : Int) < 7 := by omega
        have HP : Hid (EPost (.returned u3) wr w.heap.size) := epost HO.out (by have := HLL.out; omega)
        go_wp2
        go_ret
        exact ⟨HP.out, HK.out⟩

/-- Some list of nodes that was drawn, and seven or eight values. -/
def VPost2 (w : World) (e : Ending) (w' : World) : Prop :=
  ∃ (g c : Nat) (L : List Nd) (ge ce : Nat) (E : List Int), e = .returned (.tuple #[.slice (some ⟨g, 0, none⟩) L.length c, .slice (some ⟨ge, 0, none⟩) E.length ce]) ∧ Nodes w' (some ⟨g, 0, none⟩) L ∧ Below w.heap.size w w' ∧ 1 ≤ L.length ∧ L.length ≤ 81 ∧ L.length ≤ c ∧ Ints w' (some ⟨ge, 0, none⟩) E ∧ (E.length = 7 ∨ E.length = 8) ∧ E.length ≤ ce

set_option maxHeartbeats 1000000 in
theorem drawValue2 (w : World) (a : Option Addr) (len cap : Nat) (hb : Bytes w a len) :
    Calls Tryz.prog 11 #[.slice a len cap] w (VPost2 w) := by
  have HB : Hid (Bytes w a len) := hb
  clear hb
  go_enter Tryz.func11, Tryz.ntmps11
  go_wp2_with fail
  refine (Dr4.new _ a len cap HB.out).mono ?_
  rintro e w1 ⟨rfl, hc, hb1⟩
  have HC : Hid (Cur w1 w.heap.size a len cap) := hc
  have HB1 : Hid (Below w.heap.size w w1) := hb1
  clear hc hb1
  go_wp2_with fail
  refine (openNodes _ w.heap.size a len cap HC.out (low_of HB.out)).mono ?_
  rintro e w2 ⟨g, c, L, rfl, hn, hbg, hgs, hcu, hk, h1, h2, h3⟩
  have HN2 : Hid (Nodes w2 (some ⟨g, 0, none⟩) L) := hn
  have HC2 : Hid (Cur w2 w.heap.size a len cap) := hcu
  have HB2 : Hid (Below w.heap.size w w2) := HB1.out.trans (hk.below (fun k (e : k = w.heap.size) => by omega) HB1.out.size)
  clear hn hcu hk hgs
  go_wp2_with fail
  refine (env2 _ w.heap.size a len cap HC2.out (low_of HB.out)).mono ?_
  rintro e w3 ⟨⟨ge, ce, E, rfl, hi, he, hce, _⟩, hk3⟩
  have HN3 : Hid (Nodes w3 (some ⟨g, 0, none⟩) L) := HN2.out.kept hk3 (fun x hx => by cases hx; show ¬ g = w.heap.size; omega)
  have HB3 : Hid (Below w.heap.size w w3) := HB2.out.trans (hk3.below (fun k (e : k = w.heap.size) => by omega) HB2.out.size)
  have HI3 : Hid (Ints w3 (some ⟨ge, 0, none⟩) E) := hi
  have HEL : Hid (E.length = 7 ∨ E.length = 8) := he
  clear hk3 hi he
  go_wp2
  refine bodyPost_ret (v := .tuple #[.slice (some ⟨g, 0, none⟩) L.length c, .slice (some ⟨ge, 0, none⟩) E.length ce]) (by simp [results, Tryz.results11, go_sem]) rfl ?_
  exact ⟨g, c, L, ge, ce, E, rfl, HN3.out, HB3.out, h1, h2, h3, HI3.out, HEL.out, hce⟩

end Go.Proofs.YtdmogjhabladcaaGreat.Dw9
