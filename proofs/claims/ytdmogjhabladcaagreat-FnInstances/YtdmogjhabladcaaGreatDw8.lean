/- The draws of chapters 2 and 4: a list of nodes, one with free variables, values for them. -/
import Derived.Test.YtdmogjhabladcaaGreatDw7
import Derived.Test.YtdmogjhabladcaaGreatSp10
import Derived.Test.YtdmogjhabladcaaGreatPkB
import Derived.Test.YtdmogjhabladcaaGreatPkD
namespace Go.Proofs.YtdmogjhabladcaaGreat.Dw8
open Go.RowKit
open Nd0 Nd3 Ap0 Ap2 Tm5 Dw0 Dw4 Dw5 Dw6 Dw7
open Dr0 (Cur Only Bytes Off)
open Dr1 (once below)
open Sp10 (sQuant)
set_option linter.unusedVariables false

theorem nodes_take {w : World} {g : Nat} {L : List Nd} (h : Nodes w (some ⟨g, 0, none⟩) L) {m : Nat} (hm : m ≤ L.length) : Nodes w (some ⟨g, 0, none⟩) (L.take m) := by
  refine ⟨by rw [List.length_take]; have := h.1; omega, ?_⟩
  by_cases h0 : m = 0
  · exact .inl (by subst h0; simp)
  · rcases h.2 with e | ⟨b, o, he, hc⟩
    · omega
    · refine .inr ⟨b, o, he, fun i hi => ?_⟩
      have hi' : i < L.length := by rw [List.length_take] at hi; omega
      rw [List.getElem_take]; exact hc i hi'

set_option maxHeartbeats 4000000 in
theorem openNodes (w : World) (b : Nat) (a : Option Addr) (len cap : Nat) (hc : Cur w b a len cap) (hlo : Low a len b) :
    Calls Tryz.prog 42 #[.pointer (some ⟨b, 0, none⟩)] w (APost b a len cap w) := by
  have HC0 : Hid (Cur w b a len cap) := hc
  have HLO : Hid (Low a len b) := hlo
  clear hc hlo
  go_enter Tryz.func42, Tryz.ntmps42
  go_wp2_with fail
  refine (anyNodes _ b a len cap HC0.out HLO.out).mono ?_
  rintro e w1 ⟨g, c, L, rfl, hn, hbg, hgs, hcu, hk, h1, h2, h3⟩
  have HN1 : Hid (Nodes w1 (some ⟨g, 0, none⟩) L) := hn
  have HC1 : Hid (Cur w1 b a len cap) := hcu
  have HK1 : Hid (Kept (fun k => k = b) w w1) := hk
  have HBG : Hid (b < g) := hbg
  have HCL : Hid (L.length ≤ c) := h3
  have HL2 : Hid (1 ≤ L.length ∧ L.length ≤ 81) := ⟨h1, h2⟩
  have HGS : Hid (g < w1.heap.size) := hgs
  clear hn hcu hk hbg h1 h2 h3 hgs HC0
  go_wp2_with fail
  go_loopw [3, 4] (fun v q wr => ∃ (k : Nat) (M : List Nd), k ≤ 3 ∧ q = .int .i64 k ∧ v = .slice (some ⟨g, 0, none⟩) M.length c ∧ Nodes wr (some ⟨g, 0, none⟩) M ∧ 1 ≤ M.length ∧ M.length ≤ 81 ∧ M.length ≤ c ∧ Cur wr b a len cap ∧ Kept (fun k => k = b) w wr ∧ g < wr.heap.size) (fun _ q _ => 3 - (intOf q).toNat)
  case atStart => exact ⟨0, L, by omega, rfl, rfl, HN1.out, HL2.out.1, HL2.out.2, HCL.out, HC1.out, HK1.out, HGS.out⟩
  case round =>
    clear HN1 HC1 HK1 HL2 HGS HCL
    obtain ⟨k, M, hk, rfl, rfl, hn, h1, h2, h3, hcu, hkk, hgs⟩ := hrel
    have HN : Hid (Nodes wr (some ⟨g, 0, none⟩) M) := hn
    have HC : Hid (Cur wr b a len cap) := hcu
    have HK : Hid (Kept (fun k => k = b) w wr) := hkk
    have HGS : Hid (g < wr.heap.size) := hgs
    clear hn hcu hkk hgs
    by_cases hk3 : k < 3
    · have hkz : (k : Int) < 3 := by omega
      by_cases hm1 : 1 < M.length
      · have hmz : (1 : Int) < (M.length : Int) := by omega
        rcases HN.out.2 with h0 | ⟨b', o', he, hcn⟩
        · omega
        cases he
        have p0 := (hcn (M.length - 1) (by omega)).c0
        rw [Nat.zero_add] at p0
        clear hcn
        have g1 : (0 : Int) ≤ (M.length : Int) - 1 := by omega
        have g2 : (M.length : Int) - 1 < (M.length : Int) := by omega
        generalize M[M.length - 1].op = op at p0
        cases hq : quant op
        · go_wp2_with (go_at_call 50; refine (sQuant _ _).mono ?_; rintro e w' ⟨rfl, rfl⟩; rw [hq])
          go_ret
          exact ⟨g, c, M, rfl, HN.out, HBG.out, HGS.out, HC.out, HK.out, h1, h2, h3⟩
        · go_wp2_with (go_at_call 50; refine (sQuant _ _).mono ?_; rintro e w' ⟨rfl, rfl⟩; rw [hq])
          refine (once _ b a len cap 3 (by omega) (by omega) HC.out).mono ?_
          rintro e w2 ⟨⟨x2, rfl⟩, hc', ho'⟩
          have HC2 : Hid (Cur w2 b a len cap) := hc'
          have HK2 : Hid (Kept (fun k => k = b) w w2) := HK.out.trans (only_kept ho')
          have HN2 : Hid (Nodes w2 (some ⟨g, 0, none⟩) M) := HN.out.kept (only_kept ho') (fun x hx => by cases hx; have := HBG.out; show ¬ g = b; omega)
          have HGS2 : Hid (g < w2.heap.size) := Nat.lt_of_lt_of_le HGS.out ho'.size
          clear hc' ho' p0
          cases x2
          · have hcz : (M.length : Int) - 1 ≤ (c : Int) := by omega
            go_wp2
            go_roundw
            case rel =>
              have e9 : (M.take (M.length - 1)).length = M.length - 1 := by rw [List.length_take]; omega
              exact ⟨k + 1, M.take (M.length - 1), by omega, by go_num, by rw [e9], nodes_take HN2.out (by omega), by rw [e9]; omega, by rw [e9]; omega, by rw [e9]; omega, HC2.out, HK2.out, HGS2.out⟩
            case measure => simp [intOf]; omega
          · go_wp2
            go_ret
            exact ⟨g, c, M, rfl, HN2.out, HBG.out, HGS2.out, HC2.out, HK2.out, h1, h2, h3⟩
      · have hmz : ¬ (1 : Int) < (M.length : Int) := by omega
        go_wp2
        go_ret
        exact ⟨g, c, M, rfl, HN.out, HBG.out, HGS.out, HC.out, HK.out, h1, h2, h3⟩
    · have hkz : ¬ (k : Int) < 3 := by omega
      go_wp2
      go_ret
      exact ⟨g, c, M, rfl, HN.out, HBG.out, HGS.out, HC.out, HK.out, h1, h2, h3⟩

set_option maxHeartbeats 4000000 in
theorem env (w : World) (b : Nat) (a : Option Addr) (len cap : Nat) (hc : Cur w b a len cap) (hlo : Low a len b) :
    Calls Tryz.prog 43 #[.pointer (some ⟨b, 0, none⟩)] w fun e w' => (∃ v, e = .returned v) ∧ Kept (fun k => k = b) w w' := by
  have HC0 : Hid (Cur w b a len cap) := hc
  have HLO : Hid (Low a len b) := hlo
  have hbs := hc.lt
  clear hc hlo
  have hbel : Below w.heap.size w (w.alloc (.cells #[] 3)) := (Below.refl _ _).alloc (Nat.le_refl _) _
  have HC1 : Hid (Cur (w.alloc (.cells #[] 3)) b a len cap) := cur_kept HC0.out (S := fun _ => False) (Kept.ofBelow hbel) (fun h => h) (.inr fun _ _ h => h)
  clear hbel
  go_enter Tryz.func43, Tryz.ntmps43
  go_wp2_with fail
  refine (once _ b a len cap 20 (by omega) (by omega) HC1.out).mono ?_
  rintro e w1 ⟨⟨x1, rfl⟩, hc', ho'⟩
  have HC2 : Hid (Cur w1 b a len cap) := hc'
  have HO2 : Hid (Ows w1 w.heap.size (.slice (some ⟨w.heap.size, 0, none⟩) 0 0) []) := (Ows.lit w _ (Nat.le_refl _)).kept (only_kept ho') (fun k hk e => by cases hk; have : w.heap.size = b := e; omega)
  have HK2 : Hid (Kept (fun k => k = b) w w1) := (Kept.alloc (Kept.refl _ _) _).trans (only_kept ho')
  clear hc' ho'
  cases x1
  ·
    go_wp2_with fail
    go_loopw [3, 5] (fun v q wr => ∃ (k : Nat) (l : List Int), k ≤ 8 ∧ q = .int .i64 k ∧ l.length = k ∧ Ows wr w.heap.size v l ∧ Cur wr b a len cap ∧ Kept (fun k => k = b) w wr) (fun _ q _ => 8 - (intOf q).toNat)
    case atStart => exact ⟨0, [], by omega, rfl, rfl, HO2.out, HC2.out, HK2.out⟩
    case round =>
      clear HO2 HC2 HK2
      obtain ⟨k, l, hk, rfl, hl, ho, hcu, hkk⟩ := hrel
      have HO : Hid (Ows wr w.heap.size u3 l) := ho
      have HC : Hid (Cur wr b a len cap) := hcu
      have HK : Hid (Kept (fun k => k = b) w wr) := hkk
      have HLL : Hid (l.length = k) := hl
      clear ho hcu hkk hl
      by_cases h8 : k < 8
      · have hkz : (k : Int) < 8 := by omega
        go_wp2_with fail
        refine (below _ b a len cap 4 (by omega) (by omega) HC.out).mono ?_
        rintro e w2 ⟨⟨x2, rfl, hx0, hx1⟩, hc', ho'⟩
        have HC3 : Hid (Cur w2 b a len cap) := hc'
        have HO3 : Hid (Ows w2 w.heap.size u3 l) := HO.out.kept (only_kept ho') (fun k hk e => by have := (HO.out.lt k hk).1; have : k = b := e; omega)
        have HK3 : Hid (Kept (fun k => k = b) w w2) := HK.out.trans (only_kept ho')
        have hBs : w.heap.size ≤ w2.heap.size := HK3.out.size
        clear hc' ho'
        go_wp2_with (at_builtin; go_must (refine app_int _ rfl _ _ rfl w.heap.size u3 l x2 rfl rfl HO3.out hBs (by have := HLL.out; omega) ?_; intro g' cp w9 ho9 hk9 hg9))
        have HO9 : Hid (Ows w9 w.heap.size (.slice (some ⟨g', 0, none⟩) (l.length + 1) cp) (l ++ [x2])) := ho9
        have HC9 : Hid (Cur w9 b a len cap) := cur_kept HC3.out hk9 (fun e => by have := (HO3.out.lt b e).1; omega) (by
          rcases HLO.out with h0 | hl
          · exact .inl h0
          · exact .inr fun x hx e => by have := hl x hx; have := (HO3.out.lt _ e).1; omega)
        have HK9 : Hid (Kept (fun k => k = b) w w9) := by
          refine ⟨hk9.os.trans HK3.out.os, hk9.tape.trans HK3.out.tape, hk9.output.trans HK3.out.output, Nat.le_trans HK3.out.size hk9.size, fun k hk hn => ?_⟩
          rw [hk9.block k (Nat.lt_of_lt_of_le hk HK3.out.size) (fun e => by have := (HO3.out.lt k e).1; omega)]
          exact HK3.out.block k hk hn
        clear ho9 hk9 hg9
        go_wp2
        go_roundw
        case rel => exact ⟨k + 1, l ++ [x2], by omega, by go_num, by rw [List.length_append, HLL.out]; rfl, HO9.out, HC9.out, HK9.out⟩
        case measure => simp [intOf]; omega
      · have hkz : ¬ (k : Int) < 8 := by omega
        go_wp2
        go_ret
        exact ⟨⟨_, rfl⟩, HK.out⟩
  ·
    go_wp2_with fail
    go_loopw [3, 5] (fun v q wr => ∃ (k : Nat) (l : List Int), k ≤ 7 ∧ q = .int .i64 k ∧ l.length = k ∧ Ows wr w.heap.size v l ∧ Cur wr b a len cap ∧ Kept (fun k => k = b) w wr) (fun _ q _ => 7 - (intOf q).toNat)
    case atStart => exact ⟨0, [], by omega, rfl, rfl, HO2.out, HC2.out, HK2.out⟩
    case round =>
      clear HO2 HC2 HK2
      obtain ⟨k, l, hk, rfl, hl, ho, hcu, hkk⟩ := hrel
      have HO : Hid (Ows wr w.heap.size u3 l) := ho
      have HC : Hid (Cur wr b a len cap) := hcu
      have HK : Hid (Kept (fun k => k = b) w wr) := hkk
      have HLL : Hid (l.length = k) := hl
      clear ho hcu hkk hl
      by_cases h8 : k < 7
      · have hkz : (k : Int) < 7 := by omega
        go_wp2_with fail
        refine (below _ b a len cap 4 (by omega) (by omega) HC.out).mono ?_
        rintro e w2 ⟨⟨x2, rfl, hx0, hx1⟩, hc', ho'⟩
        have HC3 : Hid (Cur w2 b a len cap) := hc'
        have HO3 : Hid (Ows w2 w.heap.size u3 l) := HO.out.kept (only_kept ho') (fun k hk e => by have := (HO.out.lt k hk).1; have : k = b := e; omega)
        have HK3 : Hid (Kept (fun k => k = b) w w2) := HK.out.trans (only_kept ho')
        have hBs : w.heap.size ≤ w2.heap.size := HK3.out.size
        clear hc' ho'
        go_wp2_with (at_builtin; go_must (refine app_int _ rfl _ _ rfl w.heap.size u3 l x2 rfl rfl HO3.out hBs (by have := HLL.out; omega) ?_; intro g' cp w9 ho9 hk9 hg9))
        have HO9 : Hid (Ows w9 w.heap.size (.slice (some ⟨g', 0, none⟩) (l.length + 1) cp) (l ++ [x2])) := ho9
        have HC9 : Hid (Cur w9 b a len cap) := cur_kept HC3.out hk9 (fun e => by have := (HO3.out.lt b e).1; omega) (by
          rcases HLO.out with h0 | hl
          · exact .inl h0
          · exact .inr fun x hx e => by have := hl x hx; have := (HO3.out.lt _ e).1; omega)
        have HK9 : Hid (Kept (fun k => k = b) w w9) := by
          refine ⟨hk9.os.trans HK3.out.os, hk9.tape.trans HK3.out.tape, hk9.output.trans HK3.out.output, Nat.le_trans HK3.out.size hk9.size, fun k hk hn => ?_⟩
          rw [hk9.block k (Nat.lt_of_lt_of_le hk HK3.out.size) (fun e => by have := (HO3.out.lt k e).1; omega)]
          exact HK3.out.block k hk hn
        clear ho9 hk9 hg9
        go_wp2
        go_roundw
        case rel => exact ⟨k + 1, l ++ [x2], by omega, by go_num, by rw [List.length_append, HLL.out]; rfl, HO9.out, HC9.out, HK9.out⟩
        case measure => simp [intOf]; omega
      · have hkz : ¬ (k : Int) < 7 := by omega
        go_wp2
        go_ret
        exact ⟨⟨_, rfl⟩, HK.out⟩

theorem low_of {w : World} {a : Option Addr} {len : Nat} (h : Bytes w a len) : Low a len w.heap.size := by
  rcases h.2 with h0 | ⟨xb, xo, rfl, hc⟩
  · exact .inl h0
  · by_cases hl : len = 0
    · exact .inl hl
    · refine .inr fun x hx => ?_
      cases hx
      obtain ⟨v, _, _, hv⟩ := hc 0 (by omega)
      exact lt_of_cell (p := ⟨xb, xo + 0, none⟩) hv

/-- Some list of nodes that was drawn. -/
def NPost (w : World) (e : Ending) (w' : World) : Prop :=
  ∃ (g c : Nat) (L : List Nd), e = .returned (.slice (some ⟨g, 0, none⟩) L.length c) ∧ Nodes w' (some ⟨g, 0, none⟩) L ∧ Below w.heap.size w w' ∧ 1 ≤ L.length ∧ L.length ≤ 81 ∧ L.length ≤ c

/-- Some list of nodes that was drawn, and values beside it. -/
def VPost (w : World) (e : Ending) (w' : World) : Prop :=
  ∃ (g c : Nat) (L : List Nd) (v : Value), e = .returned (.tuple #[.slice (some ⟨g, 0, none⟩) L.length c, v]) ∧ Nodes w' (some ⟨g, 0, none⟩) L ∧ Below w.heap.size w w' ∧ 1 ≤ L.length ∧ L.length ≤ 81 ∧ L.length ≤ c

set_option maxHeartbeats 1000000 in
theorem drawValue (w : World) (a : Option Addr) (len cap : Nat) (hb : Bytes w a len) :
    Calls Tryz.prog 11 #[.slice a len cap] w (VPost w) := by
  have HB : Hid (Bytes w a len) := hb
  clear hb
  go_enter Tryz.func11, Tryz.ntmps11
  go_wp2_with fail
  refine (Dr4.new _ a len cap HB.out).mono ?_
  rintro e w1 ⟨rfl, hc, hb1⟩
  have HC : Hid (Cur w1 w.heap.size a len cap) := hc
  have HB1 : Hid (Below w.heap.size w w1) := hb1
  clear hc hb1
  go_wp2_with fail
  refine (openNodes _ w.heap.size a len cap HC.out (low_of HB.out)).mono ?_
  rintro e w2 ⟨g, c, L, rfl, hn, hbg, hgs, hcu, hk, h1, h2, h3⟩
  have HN2 : Hid (Nodes w2 (some ⟨g, 0, none⟩) L) := hn
  have HC2 : Hid (Cur w2 w.heap.size a len cap) := hcu
  have HB2 : Hid (Below w.heap.size w w2) := HB1.out.trans (hk.below (fun k (e : k = w.heap.size) => by omega) HB1.out.size)
  clear hn hcu hk hgs
  go_wp2_with fail
  refine (env _ w.heap.size a len cap HC2.out (low_of HB.out)).mono ?_
  rintro e w3 ⟨⟨v3, rfl⟩, hk3⟩
  have HN3 : Hid (Nodes w3 (some ⟨g, 0, none⟩) L) := HN2.out.kept hk3 (fun x hx => by cases hx; show ¬ g = w.heap.size; omega)
  have HB3 : Hid (Below w.heap.size w w3) := HB2.out.trans (hk3.below (fun k (e : k = w.heap.size) => by omega) HB2.out.size)
  clear hk3
  go_wp2
  refine bodyPost_ret (v := .tuple #[.slice (some ⟨g, 0, none⟩) L.length c, v3]) (by simp [results, Tryz.results11, go_sem]) rfl ?_
  exact ⟨g, c, L, v3, rfl, HN3.out, HB3.out, h1, h2, h3⟩

end Go.Proofs.YtdmogjhabladcaaGreat.Dw8
