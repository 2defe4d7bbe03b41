/- The walk of the model's Front. -/
import Derived.Test.YtebejleeadofcaaFm6
import Derived.Test.YtebejleeadofcaaSp11
import Derived.Test.YtebejleeadofcaaSp7
import Derived.Test.YtebejleeadofcaaPkXF31
namespace Go.Proofs.Ytebejleeadofcaa.Fm7
open Go.RowKit
open Tm11 Nd0 Nd1 Nd3 Qa0 Qa2 Tm0 Tm1 Tm3 Tm5 Tm6 Tm8 Tr0 Ap1 Ap2 Ap7 Fr1 Fr2 Fr5 Fm5 Fm6 Sp2
open Sp7 (nodeAt_of sPrune)
open Sp10 (sHolder)
open Sp11 (sSentence)
set_option linter.unusedVariables false

theorem own_mono {w : World} {B B' : Nat} {v : Value} {l : List Nd} (h : Ap2.Own w B v l) (hB : B' ≤ B) : Ap2.Own w B' v l := by
  refine ⟨h.1, ?_⟩
  rcases h.2 with h0 | ⟨g', cap, cur, he, hb, hr⟩
  · exact .inl h0
  · exact .inr ⟨g', cap, cur, he, by omega, hr⟩
theorem kset {b : Nat} {w W : World} {p : Addr} {x : Value} (h : Kept (fun k => k = b) w W) (hp : p.block = b) : Kept (fun k => k = b) w (W.setCell p x) := h.setCell (p := p) hp x

set_option maxRecDepth 100000 in
set_option maxHeartbeats 1000000 in
theorem sFront (w : World) (a : Option Addr) (l : List Nd) (c : Nat) (hN : Nodes w a l) :
    Calls Try.prog 5 #[.slice a l.length c] w fun e w' => (∃ aq cq ar cr, e = .returned (.tuple #[.slice aq (frontQ l).length cq, .slice ar (frontR l).length cr, .bool (sentB l)]) ∧ WQus w' w.heap.size aq (frontQ l) ∧ WNodes w' w.heap.size ar (frontR l) ∧ (frontQ l).length ≤ cq ∧ (frontR l).length ≤ cr ∧ (sentB l = true → ∃ gq, aq = some ⟨gq, 0, none⟩)) ∧ Below w.heap.size w w' := by
  have HN : Hid (Nodes w a l) := hN
  clear hN
  go_enter Try.func5, Try.ntmps5
  go_wp2_with fail
  refine (sSentence w a l c HN.out).mono ?_
  rintro e w1 ⟨rfl, hb1⟩
  have HB1 : Hid (Below w.heap.size w w1) := hb1
  clear hb1
  cases hs : sentB l
  · have HQ0 : Hid (frontQ l = [] ∧ frontR l = []) := ⟨by unfold frontQ; rw [hs]; rfl, by unfold frontR; rw [hs]; rfl⟩
    go_wp2
    go_ret3
    rw [HQ0.out.1, HQ0.out.2, hs]
    exact ⟨⟨_, _, _, _, rfl, ⟨Nat.zero_le _, .inl rfl⟩, ⟨Nat.zero_le _, .inl rfl⟩, Nat.zero_le _, Nat.zero_le _, fun h => by cases h⟩, (HB1.out.alloc HB1.out.size _).alloc (by have := HB1.out.size; simp; omega) _⟩
  · have HS : Hid (sentB l = true) := hs
    have HT : Hid (termOk l = true) := sent_ok hs
    obtain ⟨hl1, hl2⟩ := term_len HT.out
    have HFQ : Hid (frontQ l = wk (tr l (l.length - 1)) false) := by show _ = _; unfold frontQ; rw [hs]; rfl
    have HFR : Hid (frontR l = pruneL (cutL l)) := by show _ = _; unfold frontR; rw [hs]; rfl
    have HWL : Hid ((wk (tr l (l.length - 1)) false).length ≤ 8) := wk_len hs false
    rcases HN.out.2 with h0 | ⟨xb, xo, rfl, hxc⟩
    · omega
    clear hxc hs
    have hw1' : IntKind.i64.wrap ((l.length : Int) - 1) = (l.length : Int) - 1 := by rw [IntKind.wrap_i64] <;> omega
    have e1 : ((l.length - 1 : Nat) : Int) = (l.length : Int) - 1 := by omega
    go_wp2_with fail
    refine (sHolder w1 _ l c (HN.out.below HB1.out) HT.out).mono ?_
    rintro e w2 ⟨⟨vh, rfl, hoh⟩, hb2⟩
    have HB2 : Hid (Below w.heap.size w w2) := HB1.out.trans (hb2.mono HB1.out.size)
    obtain ⟨gh, ch, rfl, hg1, hg2⟩ := hoh.at (by rw [holdTo_length]; exact hl1)
    rw [holdTo_length]
    have HHC : Hid (∀ j, j < l.length → w2.cell? ⟨gh, j, none⟩ = some (.bool (flag (holdTo l l.length) j))) := fun j hj => by
      have h9 := (hoh.cell' rfl j (by rw [holdTo_length]; exact hj)).1
      rw [flag_get] at h9
      exact h9
    clear hoh hb2 hg1 hg2
    go_wp2_with fail
    have hcall := walk_all HS.out HT.out (l.length - 1) (by omega) (reach_root hl1) w2 (some ⟨xb, xo, none⟩) c gh ch false (HN.out.below HB2.out) HHC.out (by have := HWL.out; omega)
    rw [e1] at hcall
    refine hcall.mono ?_
    rintro e w3 ⟨⟨gq, cq, rfl, hq3⟩, hb3⟩
    have HQ3 : Hid (Sq w3 w2.heap.size gq cq (wk (tr l (l.length - 1)) false)) := hq3
    have HB3 : Hid (Below w.heap.size w w3) := HB2.out.trans (hb3.mono HB2.out.size)
    have HN3 : Hid (Nodes w3 (some ⟨xb, xo, none⟩) l) := HN.out.below HB3.out
    have HLIT : Hid (Ap2.Own (w3.alloc (.cells #[] 39)) w3.heap.size (.slice (some ⟨w3.heap.size, 0, none⟩) 0 0) []) := Own.lit w3 _ (Nat.le_refl _)
    have HAL : Hid (Below w3.heap.size w3 (w3.alloc (.cells #[] 39))) := (Below.refl _ _).alloc (Nat.le_refl _) _
    clear hcall hq3 hb3 HHC
    generalize wk (tr l (l.length - 1)) false = Q at HQ3 HFQ HWL ⊢
    go_wp2
    go_loopw [6, 7] (fun v i wr => ∃ k : Nat, k ≤ l.length ∧ i = .int .i64 (k : Int) ∧ Ap2.Own wr w3.heap.size v (thrTo l k) ∧ Below w3.heap.size w3 wr) (fun _ i _ => l.length - (intOf i).toNat)
    case atStart => exact ⟨0, Nat.zero_le _, rfl, HLIT.out, HAL.out⟩
    case round =>
      obtain ⟨k, hk, rfl, ho, hb⟩ := hrel
      have HO : Hid (Ap2.Own wr w3.heap.size u6 (thrTo l k)) := ho
      have HB : Hid (Below w3.heap.size w3 wr) := hb
      have hbs : w3.heap.size ≤ wr.heap.size := hb.size
      have hTL : (thrTo l k).length = k := thrTo_length l k
      clear ho hb
      by_cases hlt : k < l.length
      · have hlz : (k : Int) < (l.length : Int) := by omega
        obtain ⟨p0, p1, p2, p3, p4, p5⟩ := nodeAt_of (HN3.out.below HB.out) hlt
        have HSU : Hid (thrTo l (k + 1) = thrTo l k ++ [thrN l (nth l k)]) := thrTo_succ l k
        have HPT : Hid (∀ p ∈ parts (nth l k), 0 ≤ p ∧ p < (k : Int)) := fun p hp => by have := down_of HT.out k hlt p hp; omega
        generalize thrTo l k = R at HO HSU hTL
        generalize nth l k = n at HSU HPT p0 p1 p2 p3 p4 p5
        obtain ⟨w4, hw4⟩ : ∃ w4 : World, w4 = wr.alloc (.cells #[.int .i64 n.op, .int .i64 n.w, .int .i64 n.k, .int .i64 n.a, .int .i64 n.b, .int .i64 n.c] 39) := ⟨_, rfl⟩
        go_wp2_with fail
        rw [← hw4]
        have hs4 : w4.heap.size = wr.heap.size + 1 := by rw [hw4]; simp
        have hb4 : Below wr.heap.size wr w4 := by rw [hw4]; exact (Below.refl _ _).alloc (Nat.le_refl _) _
        have d0 : ∀ (j : Nat) v, (#[.int .i64 n.op, .int .i64 n.w, .int .i64 n.k, .int .i64 n.a, .int .i64 n.b, .int .i64 n.c] : Array Value)[j]? = some v → w4.cell? ⟨wr.heap.size, j, none⟩ = some v ∧ w4.frozen? ⟨wr.heap.size, j, none⟩ = false := fun j v hv => ⟨by rw [hw4, World.cell?_alloc_new]; exact hv, by rw [hw4]; simp⟩
        refine (sParts n w4).mono ?_
        rintro e w5 ⟨⟨pa, pc, rfl, _⟩, hb5⟩
        have dd : ∀ (j : Nat) v, (#[.int .i64 n.op, .int .i64 n.w, .int .i64 n.k, .int .i64 n.a, .int .i64 n.b, .int .i64 n.c] : Array Value)[j]? = some v → w5.cell? ⟨wr.heap.size, j, none⟩ = some v ∧ w5.frozen? ⟨wr.heap.size, j, none⟩ = false := fun j v hv => ⟨(hb5.cell (p := ⟨wr.heap.size, j, none⟩) (show wr.heap.size < _ by omega)).trans (d0 j v hv).1, (hb5.frozen (p := ⟨wr.heap.size, j, none⟩) (show wr.heap.size < _ by omega)).trans (d0 j v hv).2⟩
        have c0 := (dd 0 _ rfl).1
        have c1 := (dd 1 _ rfl).1
        have c2 := (dd 2 _ rfl).1
        have c3 := (dd 3 _ rfl).1
        have c4 := (dd 4 _ rfl).1
        have c5 := (dd 5 _ rfl).1
        have f3 := (dd 3 _ rfl).2
        have f4 := (dd 4 _ rfl).2
        have f5 := (dd 5 _ rfl).2
        have hb45 : Below wr.heap.size wr w5 := hb4.trans (hb5.mono (by omega))
        have HBX : Hid (∀ W, Kept (fun b => b = wr.heap.size) w5 W → Below w3.heap.size w3 W) := fun W hW => (HB.out.trans (hb45.mono hbs)).trans (hW.below (fun b (hb : b = wr.heap.size) => by omega) (Nat.le_trans hbs hb45.size))
        have HNX : Hid (∀ W, Kept (fun b => b = wr.heap.size) w5 W → Nodes W (some ⟨xb, xo, none⟩) l) := fun W hW => HN3.out.below (HBX.out W hW)
        have HOX : Hid (∀ W, Kept (fun b => b = wr.heap.size) w5 W → Ap2.Own W w3.heap.size u6 R) := fun W hW => (HO.out.kept (S := fun _ => False) (Kept.ofBelow hb45) (fun _ _ h => h)).kept hW (fun b h1 (h2 : b = wr.heap.size) => by have := (HO.out.lt b h1).2; omega)
        clear hw4 hs4 hb4 d0 dd hb5 hb45 p0 p1 p2 p3 p4 p5
        by_cases h1 : n.op = 2 ∨ n.op = 17 ∨ n.op = 19 ∨ n.op = 20
        · have hP := parts_one h1
          obtain ⟨m, hm⟩ : ∃ m : Nat, n.a = (m : Int) := ⟨n.a.toNat, by have := HPT.out n.a (by rw [hP]; simp); omega⟩
          have hml : m < l.length := by have := HPT.out n.a (by rw [hP]; simp); omega
          have HTN : Hid (thrN l n = ⟨n.op, n.w, n.k, (bel l m : Int), n.b, n.c⟩) := by
            show thrN l n = ⟨n.op, n.w, n.k, (bel l m : Int), n.b, n.c⟩
            unfold thrN
            rw [hP, hm]
            simp
          have hpl : (parts n).length = 1 := by rw [hP]; rfl
          rw [hpl]
          rw [hm] at c3
          clear hP hpl HPT hm
          go_wp2_with fail
          refine (sBelow _ (some ⟨xb, xo, none⟩) l c (HNX.out _ (by repeat (first | exact Kept.refl _ _ | refine kset ?_ rfl))) HT.out m hml).mono ?_
          rintro e w' ⟨rfl, hw'⟩
          have hw'' := hw'.symm
          clear hw'
          subst hw''
          go_wp2_with (at_builtin; go_must (refine app_node (w5.setCell ⟨wr.heap.size, 3, none⟩ (.int .i64 (bel l m : Int))) rfl _ _ rfl w3.heap.size u6 R ⟨n.op, n.w, n.k, (bel l m : Int), n.b, n.c⟩ rfl w5.heap.size rfl (by first | (simp; done) | rfl) (HOX.out _ (by repeat (first | exact Kept.refl _ _ | refine kset ?_ rfl))) (HBX.out _ (by repeat (first | exact Kept.refl _ _ | refine kset ?_ rfl))).size (by omega) ?_; intro g7 cp7 w7 ho7 hk7 hg7; have HO7 : Hid (Ap2.Own w7 w3.heap.size (.slice (some ⟨g7, 0, none⟩) (R.length + 1) cp7) (R ++ [⟨n.op, n.w, n.k, (bel l m : Int), n.b, n.c⟩])) := ho7; have HB7 : Hid (Below w3.heap.size w3 w7) := (HBX.out _ (by repeat (first | exact Kept.refl _ _ | refine kset ?_ rfl))).trans (hk7.below (fun b hb => (HO.out.lt b hb).1) (HBX.out _ (by repeat (first | exact Kept.refl _ _ | refine kset ?_ rfl))).size); clear ho7 hk7 hg7))
          go_roundw
          case rel => exact ⟨k + 1, by omega, by go_num, by rw [HSU.out, HTN.out]; have h9 := HO7.out; rw [hTL] at h9; exact h9, HB7.out⟩
          case measure => simp [intOf]; omega
        by_cases h2 : 3 ≤ n.op ∧ n.op ≤ 16
        · have hP := parts_two h2
          obtain ⟨m, hm⟩ : ∃ m : Nat, n.a = (m : Int) := ⟨n.a.toNat, by have := HPT.out n.a (by rw [hP]; simp); omega⟩
          have hml : m < l.length := by have := HPT.out n.a (by rw [hP]; simp); omega
          obtain ⟨m2, hm2⟩ : ∃ m2 : Nat, n.b = (m2 : Int) := ⟨n.b.toNat, by have := HPT.out n.b (by rw [hP]; simp); omega⟩
          have hm2l : m2 < l.length := by have := HPT.out n.b (by rw [hP]; simp); omega
          have HTN : Hid (thrN l n = ⟨n.op, n.w, n.k, (bel l m : Int), (bel l m2 : Int), n.c⟩) := by
            show thrN l n = ⟨n.op, n.w, n.k, (bel l m : Int), (bel l m2 : Int), n.c⟩
            unfold thrN
            rw [hP, hm, hm2]
            simp
          have hpl : (parts n).length = 2 := by rw [hP]; rfl
          rw [hpl]
          rw [hm] at c3
          rw [hm2] at c4
          clear hP hpl HPT hm hm2
          go_wp2_with fail
          refine (sBelow _ (some ⟨xb, xo, none⟩) l c (HNX.out _ (by repeat (first | exact Kept.refl _ _ | refine kset ?_ rfl))) HT.out m hml).mono ?_
          rintro e w' ⟨rfl, hw'⟩
          have hw'' := hw'.symm
          clear hw'
          subst hw''
          go_wp2_with fail
          refine (sBelow _ (some ⟨xb, xo, none⟩) l c (HNX.out _ (by repeat (first | exact Kept.refl _ _ | refine kset ?_ rfl))) HT.out m2 hm2l).mono ?_
          rintro e w' ⟨rfl, hw'⟩
          have hw'' := hw'.symm
          clear hw'
          subst hw''
          go_wp2_with (at_builtin; go_must (refine app_node ((w5.setCell ⟨wr.heap.size, 3, none⟩ (.int .i64 (bel l m : Int))).setCell ⟨wr.heap.size, 4, none⟩ (.int .i64 (bel l m2 : Int))) rfl _ _ rfl w3.heap.size u6 R ⟨n.op, n.w, n.k, (bel l m : Int), (bel l m2 : Int), n.c⟩ rfl w5.heap.size rfl (by first | (simp; done) | rfl) (HOX.out _ (by repeat (first | exact Kept.refl _ _ | refine kset ?_ rfl))) (HBX.out _ (by repeat (first | exact Kept.refl _ _ | refine kset ?_ rfl))).size (by omega) ?_; intro g7 cp7 w7 ho7 hk7 hg7; have HO7 : Hid (Ap2.Own w7 w3.heap.size (.slice (some ⟨g7, 0, none⟩) (R.length + 1) cp7) (R ++ [⟨n.op, n.w, n.k, (bel l m : Int), (bel l m2 : Int), n.c⟩])) := ho7; have HB7 : Hid (Below w3.heap.size w3 w7) := (HBX.out _ (by repeat (first | exact Kept.refl _ _ | refine kset ?_ rfl))).trans (hk7.below (fun b hb => (HO.out.lt b hb).1) (HBX.out _ (by repeat (first | exact Kept.refl _ _ | refine kset ?_ rfl))).size); clear ho7 hk7 hg7))
          go_roundw
          case rel => exact ⟨k + 1, by omega, by go_num, by rw [HSU.out, HTN.out]; have h9 := HO7.out; rw [hTL] at h9; exact h9, HB7.out⟩
          case measure => simp [intOf]; omega
        by_cases h3 : n.op = 18
        · have hP := parts_three h3
          obtain ⟨m, hm⟩ : ∃ m : Nat, n.a = (m : Int) := ⟨n.a.toNat, by have := HPT.out n.a (by rw [hP]; simp); omega⟩
          have hml : m < l.length := by have := HPT.out n.a (by rw [hP]; simp); omega
          obtain ⟨m2, hm2⟩ : ∃ m2 : Nat, n.b = (m2 : Int) := ⟨n.b.toNat, by have := HPT.out n.b (by rw [hP]; simp); omega⟩
          have hm2l : m2 < l.length := by have := HPT.out n.b (by rw [hP]; simp); omega
          obtain ⟨m3, hm3⟩ : ∃ m3 : Nat, n.c = (m3 : Int) := ⟨n.c.toNat, by have := HPT.out n.c (by rw [hP]; simp); omega⟩
          have hm3l : m3 < l.length := by have := HPT.out n.c (by rw [hP]; simp); omega
          have HTN : Hid (thrN l n = ⟨n.op, n.w, n.k, (bel l m : Int), (bel l m2 : Int), (bel l m3 : Int)⟩) := by
            show thrN l n = ⟨n.op, n.w, n.k, (bel l m : Int), (bel l m2 : Int), (bel l m3 : Int)⟩
            unfold thrN
            rw [hP, hm, hm2, hm3]
            simp
          have hpl : (parts n).length = 3 := by rw [hP]; rfl
          rw [hpl]
          rw [hm] at c3
          rw [hm2] at c4
          rw [hm3] at c5
          clear hP hpl HPT hm hm2 hm3 h3
          go_wp2_with fail
          refine (sBelow _ (some ⟨xb, xo, none⟩) l c (HNX.out _ (by repeat (first | exact Kept.refl _ _ | refine kset ?_ rfl))) HT.out m hml).mono ?_
          rintro e w' ⟨rfl, hw'⟩
          have hw'' := hw'.symm
          clear hw'
          subst hw''
          go_wp2_with fail
          refine (sBelow _ (some ⟨xb, xo, none⟩) l c (HNX.out _ (by repeat (first | exact Kept.refl _ _ | refine kset ?_ rfl))) HT.out m2 hm2l).mono ?_
          rintro e w' ⟨rfl, hw'⟩
          have hw'' := hw'.symm
          clear hw'
          subst hw''
          go_wp2_with fail
          refine (sBelow _ (some ⟨xb, xo, none⟩) l c (HNX.out _ (by repeat (first | exact Kept.refl _ _ | refine kset ?_ rfl))) HT.out m3 hm3l).mono ?_
          rintro e w' ⟨rfl, hw'⟩
          have hw'' := hw'.symm
          clear hw'
          subst hw''
          go_upto_region 16 with fail
          obtain ⟨w8, hw8⟩ : ∃ w8 : World, w8 = ((w5.setCell ⟨wr.heap.size, 3, none⟩ (.int .i64 (bel l m : Int))).setCell ⟨wr.heap.size, 4, none⟩ (.int .i64 (bel l m2 : Int))).setCell ⟨wr.heap.size, 5, none⟩ (.int .i64 (bel l m3 : Int)) := ⟨_, rfl⟩
          have HK8 : Hid (Kept (fun b => b = wr.heap.size) w5 w8) := by rw [hw8]; exact kset (kset (kset (Kept.refl _ _) rfl) rfl) rfl
          have g0 : w8.cell? ⟨wr.heap.size, 0, none⟩ = some (.int .i64 n.op) := by rw [hw8, set_other (by simp), set_other (by simp), set_other (by simp)]; exact c0
          have g1 : w8.cell? ⟨wr.heap.size, 1, none⟩ = some (.int .i64 n.w) := by rw [hw8, set_other (by simp), set_other (by simp), set_other (by simp)]; exact c1
          have g2 : w8.cell? ⟨wr.heap.size, 2, none⟩ = some (.int .i64 n.k) := by rw [hw8, set_other (by simp), set_other (by simp), set_other (by simp)]; exact c2
          have g3 : w8.cell? ⟨wr.heap.size, 3, none⟩ = some (.int .i64 (bel l m : Int)) := by rw [hw8, set_other (by simp), set_other (by simp)]; exact set_same c3
          have g4 : w8.cell? ⟨wr.heap.size, 4, none⟩ = some (.int .i64 (bel l m2 : Int)) := by rw [hw8, set_other (by simp)]; exact set_same (by rw [set_other (by simp)]; exact c4)
          have g5 : w8.cell? ⟨wr.heap.size, 5, none⟩ = some (.int .i64 (bel l m3 : Int)) := by rw [hw8]; exact set_same (by rw [set_other (by simp), set_other (by simp)]; exact c5)
          rw [← hw8]
          clear hw8 c0 c1 c2 c3 c4 c5 f3 f4 f5
          go_wp2_with (at_builtin; go_must (refine app_node w8 rfl _ _ rfl w3.heap.size u6 R ⟨n.op, n.w, n.k, (bel l m : Int), (bel l m2 : Int), (bel l m3 : Int)⟩ rfl w8.heap.size rfl (by first | (simp; done) | rfl) (HOX.out _ HK8.out) (HBX.out _ HK8.out).size (by omega) ?_; intro g7 cp7 w7 ho7 hk7 hg7; have HO7 : Hid (Ap2.Own w7 w3.heap.size (.slice (some ⟨g7, 0, none⟩) (R.length + 1) cp7) (R ++ [⟨n.op, n.w, n.k, (bel l m : Int), (bel l m2 : Int), (bel l m3 : Int)⟩])) := ho7; have HB7 : Hid (Below w3.heap.size w3 w7) := (HBX.out _ HK8.out).trans (hk7.below (fun b hb => (HO.out.lt b hb).1) (HBX.out _ HK8.out).size); clear ho7 hk7 hg7))
          go_roundw
          case rel => exact ⟨k + 1, by omega, by go_num, by rw [HSU.out, HTN.out]; have h9 := HO7.out; rw [hTL] at h9; exact h9, HB7.out⟩
          case measure => simp [intOf]; omega
        have hP := parts_none h1 h2 h3
        ·
          have HTN : Hid (thrN l n = ⟨n.op, n.w, n.k, n.a, n.b, n.c⟩) := by
            show thrN l n = ⟨n.op, n.w, n.k, n.a, n.b, n.c⟩
            unfold thrN
            rw [hP]
            simp
          have hpl : (parts n).length = 0 := by rw [hP]; rfl
          rw [hpl]
          clear hP hpl HPT
          go_wp2_with (at_builtin; go_must (refine app_node w5 rfl _ _ rfl w3.heap.size u6 R ⟨n.op, n.w, n.k, n.a, n.b, n.c⟩ rfl w5.heap.size rfl (by first | (simp; done) | rfl) (HOX.out _ (by repeat (first | exact Kept.refl _ _ | refine kset ?_ rfl))) (HBX.out _ (by repeat (first | exact Kept.refl _ _ | refine kset ?_ rfl))).size (by omega) ?_; intro g7 cp7 w7 ho7 hk7 hg7; have HO7 : Hid (Ap2.Own w7 w3.heap.size (.slice (some ⟨g7, 0, none⟩) (R.length + 1) cp7) (R ++ [⟨n.op, n.w, n.k, n.a, n.b, n.c⟩])) := ho7; have HB7 : Hid (Below w3.heap.size w3 w7) := (HBX.out _ (by repeat (first | exact Kept.refl _ _ | refine kset ?_ rfl))).trans (hk7.below (fun b hb => (HO.out.lt b hb).1) (HBX.out _ (by repeat (first | exact Kept.refl _ _ | refine kset ?_ rfl))).size); clear ho7 hk7 hg7))
          go_roundw
          case rel => exact ⟨k + 1, by omega, by go_num, by rw [HSU.out, HTN.out]; have h9 := HO7.out; rw [hTL] at h9; exact h9, HB7.out⟩
          case measure => simp [intOf]; omega
      · have HKE : Hid (k = l.length) := by show _ = _; omega
        have hbl := bel_le (down_of HT.out) (l.length - 1) (by omega)
        obtain ⟨av, cv, hv, hwn⟩ := HO.out.form
        subst hv
        have hcap := (own_cap HO.out).2
        have HNW : Hid (Nodes wr av (thrTo l k)) := hwn.nodes
        have hcl : (cutL l).length = bel l (l.length - 1) + 1 := by unfold cutL; rw [thrTo_length]
        have HNC : Hid (Nodes wr av (cutL l)) := by
          refine ⟨by rw [hcl]; unfold maxLen; omega, .inr ?_⟩
          rcases HNW.out.2 with h0 | ⟨yb, yo, rfl, hc⟩
          · rw [thrTo_length] at h0; omega
          · refine ⟨yb, yo, rfl, fun i hi => ?_⟩
            have h9 := hc i (by rw [thrTo_length]; omega)
            have e9 : (thrTo l k)[i]'(by rw [thrTo_length]; omega) = (cutL l)[i] := by simp [thrTo, cutL]
            rw [e9] at h9
            exact h9
        have HN9 : Hid (Nodes wr (some ⟨xb, xo, none⟩) l) := HN3.out.below HB.out
        rw [hTL] at hcap ⊢
        have hb79 : bel l (l.length - 1) ≤ 79 := by omega
        have hbk : bel l (l.length - 1) + 1 ≤ cv := by have := HKE.out; omega
        clear hwn HNW hbl
        go_wp2_with fail
        have hcall := sBelow wr (some ⟨xb, xo, none⟩) l c HN9.out HT.out (l.length - 1) (by omega)
        rw [e1] at hcall
        refine hcall.mono ?_
        rintro e w' ⟨rfl, hw'⟩
        have hw'' := hw'.symm
        clear hw' hcall
        subst hw''
        have hpr := sPrune wr av (cutL l) cv HNC.out
        rw [hcl] at hpr
        have HPR : Hid (Calls Try.prog 19 #[.slice av (bel l (l.length - 1) + 1) cv] wr fun e w'' => (∃ v, e = .returned v ∧ Ap2.Own w'' wr.heap.size v (pruneL (cutL l))) ∧ Below wr.heap.size wr w'') := hpr
        clear hpr HNC hcl
        generalize bel l (l.length - 1) = b at HPR hb79 hbk
        have hbz : ((b : Int) + 1) ≤ (cv : Int) := by omega
        go_wp2_with fail
        refine HPR.out.mono ?_
        rintro e w6 ⟨⟨vp, rfl, hop⟩, hb6⟩
        have HW6 : Hid (Below w3.heap.size w3 w6) := HB.out.trans (hb6.mono HB.out.size)
        have hop2 : Ap2.Own w6 w.heap.size vp (pruneL (cutL l)) := own_mono hop (Nat.le_trans HB3.out.size HB.out.size)
        obtain ⟨ar, cr, rfl, hwr⟩ := hop2.form
        have HCR : Hid ((pruneL (cutL l)).length ≤ cr) := (Ap7.own_cap hop2).2
        have HWR : Hid (WNodes w6 w.heap.size ar (pruneL (cutL l))) := hwr
        have HSQ : Sq w6 w.heap.size gq cq Q := (HQ3.out.below HW6.out).mono HB2.out.size
        obtain ⟨aq9, cq9, he9, hw9, hcq9⟩ := OwQu.form HSQ
        cases he9
        have HWQ : Hid (WQus w6 w.heap.size (some ⟨gq, 0, none⟩) Q) := hw9
        have HCQ : Hid (Q.length ≤ cq) := hcq9
        clear hop hop2 hwr HSQ hw9 hcq9
        go_wp2
        go_ret3
        rw [HFQ.out, HFR.out, HS.out]
        exact ⟨⟨_, _, _, _, rfl, HWQ.out, HWR.out, HCQ.out, HCR.out, fun _ => ⟨_, rfl⟩⟩, HB3.out.trans (HW6.out.mono HB3.out.size)⟩

end Go.Proofs.Ytebejleeadofcaa.Fm7
