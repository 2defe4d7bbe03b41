/- The model's l07And of any two wires, GraphAnd. -/
import Derived.Test.YtnpfegfjejfaaaaGs3
import Derived.Test.YtnpfegfjejfaaaaGp5
namespace Go.Proofs.Ytnpfegfjejfaaaa.Gs4
open Go.RowKit
open Nd0 Qb0 Qb2 Gr0 Gr1 Gx0 Ap10 Gs1 Gs2 Gs3
open Gp5 (GrPost own_w)
set_option linter.unusedVariables false

theorem SAPost.up {w W w9 w' : World} {B : Nat} {v v' : Value} {ins : Int} {r : List An × Int} (hB : Below w.heap.size w W) (hO : OwAn w B v r.1 ∨ True) (h1 : OwAn w9 B v' r.1) (h2 : Kept (fun k => v.ownBlock = some k) W w9) (h3 : ∀ k, v'.ownBlock = some k → v.ownBlock = some k ∨ W.heap.size ≤ k) (hv : ∀ k, v.ownBlock = some k → k < w.heap.size) (h9 : Kept (fun k => k = w.heap.size + 1) w9 w') (hs : W.heap.size = w.heap.size + 1 + 1) :
    SAPost w B v ins r (.returned (.tuple #[.agg #[.int .i64 ins, v'], .int .i64 r.2])) w' := by
  refine ⟨v', rfl, h1.kept h9 (fun k e h => ?_), ?_, fun k e => ?_⟩
  · rcases h3 k e with x | x
    · have := hv k x; omega
    · omega
  · refine ⟨h9.os.trans (h2.os.trans hB.os), h9.tape.trans (h2.tape.trans hB.tape), h9.output.trans (h2.output.trans hB.output), Nat.le_trans hB.size (Nat.le_trans h2.size h9.size), fun k hk hn => ?_⟩
    have q1 := hB.size
    have q2 := h2.size
    rw [h9.block k (by omega) (by omega), h2.block k (by omega) hn, hB.block k hk]
  · rcases h3 k e with x | x
    · exact .inl x
    · exact .inr (by omega)
set_option maxRecDepth 100000 in
set_option maxHeartbeats 4000000 in
theorem sAnd (w : World) (B : Nat) (ins : Int) (av : Option Addr) (cv : Nat) (l : List An) (hO : OwAn w B (.slice av l.length cv) l) (hBw : B ≤ w.heap.size) (a b : Int) (h0 : 0 ≤ ins) (h1 : ins ≤ 12) (hl : l.length ≤ 3000) (ha : 0 ≤ a) (ha' : a ≤ 1000000) (hb : 0 ≤ b) (hb' : b ≤ 1000000) :
    Calls Try.prog 72 #[.agg #[.int .i64 ins, .slice av l.length cv], .int .i64 a, .int .i64 b] w (SAPost w B (.slice av l.length cv) ins (if a ≤ b then andL ins l a b else andL ins l b a)) := by
  by_cases hab : a ≤ b
  · rw [if_pos hab]; exact sAndL w B ins av cv l hO hBw a b hab h0 h1 hl ha hb'
  rw [if_neg hab]
  have HO : Hid (OwAn w B (.slice av l.length cv) l) := hO
  clear hO
  obtain ⟨W, hW⟩ : ∃ W, W = (w.alloc (.cells #[.int .i64 ins, .slice av l.length cv] 29)).alloc (.cells #[.int .i64 0, .slice none 0 0] 29) := ⟨_, rfl⟩
  have HB : Hid (Below w.heap.size w W) := by rw [hW]; exact ((Below.refl _ _).alloc (Nat.le_refl _) _).alloc (by simp) _
  have hs : W.heap.size = w.heap.size + 1 + 1 := by rw [hW]; simp
  have LB : Hid (Bx W w.heap.size (.int .i64 ins) (.slice av l.length cv) (.int .i64 0) (.slice none 0 0)) := by rw [hW]; exact Bx.made _ _ _ _ _ _ _
  have HW : Hid (W = (w.alloc (.cells #[.int .i64 ins, .slice av l.length cv] 29)).alloc (.cells #[.int .i64 0, .slice none 0 0] 29)) := hW
  clear hW
  obtain ⟨q, hq⟩ : ∃ q, q = w.heap.size := ⟨_, rfl⟩
  have HQ : Hid (q = w.heap.size) := hq
  rw [← hq] at hs LB
  clear hq
  have hlt : b < a := by omega
  have g0 := LB.out.g.c0
  have g1 := LB.out.g.c1
  go_enter Try.func72, Try.ntmps72
  go_upto_region 1 with fail
  rw [← HW.out, ← HQ.out]
  go_wp2_with fail
  have HOW : Hid (OwAn W B (.slice av l.length cv) l) := HO.out.kept (S := fun _ => False) (Kept.ofBelow HB.out) (fun _ _ e => e)
  refine (sAndL W B ins av cv l HOW.out (Nat.le_trans hBw HB.out.size) b a (by omega) h0 h1 hl hb ha').mono ?_
  generalize hrr : andL ins l b a = r
  obtain ⟨l2, x⟩ := r
  have HRR : Hid (andL ins l b a = (l2, x)) := hrr
  clear hrr
  rintro e w9 ⟨v9, rfl, hO9, hK9, hV9⟩
  have HO9 : Hid (OwAn w9 B v9 l2) := hO9
  have HK9 : Hid (Kept (fun k => (Value.slice av l.length cv).ownBlock = some k) W w9) := hK9
  have HV9 : Hid (∀ k, v9.ownBlock = some k → (Value.slice av l.length cv).ownBlock = some k ∨ W.heap.size ≤ k) := hV9
  have HNQ : Hid ((Value.slice av l.length cv).ownBlock ≠ some q ∧ (Value.slice av l.length cv).ownBlock ≠ some (q + 1)) := ⟨fun e => by have := (HO.out.lt _ e).2; have := HQ.out; omega, fun e => by have := (HO.out.lt _ e).2; have := HQ.out; omega⟩
  have LB9 : Hid (Bx w9 q (.int .i64 ins) (.slice av l.length cv) (.int .i64 0) (.slice none 0 0)) := LB.out.kept hK9 HNQ.out.1 HNQ.out.2
  clear hO9 hK9 hV9 g0 g1
  have y0 := LB9.out.r.c0
  have y1 := LB9.out.r.c1
  have z0 := LB9.out.r.z0
  have z1 := LB9.out.r.z1
  obtain ⟨a9, c9, rfl, _, _⟩ := HO9.out.form
  simp only
  go_wp2
  refine bodyPost_ret (v := .tuple #[.agg #[.int .i64 ins, .slice a9 l2.length c9], .int .i64 x]) (by simp [results, Try.results72, go_sem, y0, y1]) rfl ?_
  rw [HRR.out]
  have hq := HQ.out
  exact SAPost.up HB.out (.inr trivial) HO9.out HK9.out HV9.out (fun k e => (HO.out.lt k e).2) (by rw [← hq]; exact Kept.setCell (S := fun k => k = q + 1) (Kept.setCell (S := fun k => k = q + 1) (Kept.refl _ w9) (p := ⟨q + 1, 0, none⟩) rfl _) (p := ⟨q + 1, 1, none⟩) rfl _) (by omega)

theorem gr_post {w W w9 w' : World} {ins : Int} {r : List An × Int} {v : Value} {q : Nat} (hB : Below w.heap.size w W) (h9 : Below W.heap.size W w9) (hO : OwAn w9 W.heap.size v r.1) (hK : Kept (fun k => k = q) w9 w') (hq : w.heap.size ≤ q) (hqW : q < W.heap.size) : GrPost w ins r (.returned (.tuple #[.agg #[.int .i64 ins, v], .int .i64 r.2])) w' := by
  have h2 := hO.kept hK (fun i e h => by have := (hO.lt i e).1; omega)
  obtain ⟨a, c, e, hw, _⟩ := h2.form
  subst e
  refine ⟨a, c, rfl, ⟨hw.1, ?_⟩, hB.trans ((h9.mono hB.size).trans (hK.below (fun k e => by omega) (Nat.le_trans hB.size h9.size)))⟩
  rcases hw.2 with e | ⟨b, o, ha, hB', hc, hf⟩
  · exact .inl e
  · exact .inr ⟨b, o, ha, Nat.le_trans hB.size hB', hc, hf⟩

set_option maxRecDepth 100000 in
set_option maxHeartbeats 8000000 in
theorem sGraphAnd (w : World) (ins : Int) (gx ox c : Nat) (l : List An) (h : Ans w (some ⟨gx, ox, none⟩) l) (hR : Rg l) (hl : l.length ≤ 1048576) (a b : Int) :
    Calls Try.prog 28 #[.agg #[.int .i64 ins, .slice (some ⟨gx, ox, none⟩) l.length c], .int .i64 a, .int .i64 b] w (GrPost w ins (gAnd ins l a b)) := by
  have H : Hid (Ans w (some ⟨gx, ox, none⟩) l) := h
  have HRg : Hid (Rg l) := hR
  clear h hR
  obtain ⟨W, hW⟩ : ∃ W, W = (w.alloc (.cells #[.int .i64 ins, .slice (some ⟨gx, ox, none⟩) l.length c] 29)).alloc (.cells #[.int .i64 0, .slice none 0 0] 29) := ⟨_, rfl⟩
  have HB : Hid (Below w.heap.size w W) := by rw [hW]; exact ((Below.refl _ _).alloc (Nat.le_refl _) _).alloc (by simp) _
  have hs : W.heap.size = w.heap.size + 1 + 1 := by rw [hW]; simp
  have LB : Hid (Bx W w.heap.size (.int .i64 ins) (.slice (some ⟨gx, ox, none⟩) l.length c) (.int .i64 0) (.slice none 0 0)) := by rw [hW]; exact Bx.made _ _ _ _ _ _ _
  have HW : Hid (W = (w.alloc (.cells #[.int .i64 ins, .slice (some ⟨gx, ox, none⟩) l.length c] 29)).alloc (.cells #[.int .i64 0, .slice none 0 0] 29)) := hW
  clear hW
  obtain ⟨q, hq⟩ : ∃ q, q = w.heap.size := ⟨_, rfl⟩
  have HQ : Hid (q = w.heap.size) := hq
  rw [← hq] at hs LB
  clear hq
  have hqW : q + 1 < W.heap.size := by omega
  clear hs
  have g0 := LB.out.g.c0
  have g1 := LB.out.g.c1
  go_enter Try.func28, Try.ntmps28
  go_upto_region 1 with fail
  rw [← HW.out, ← HQ.out]
  go_wp2_with fail
  refine (sGraphOk W ins _ c l (H.out.below HB.out) HRg.out).mono ?_
  cases hg : gokB ins l with
  | false =>
    rintro e w2 ⟨rfl, hb2⟩
    have HR : Hid (gAnd ins l a b = (l, -1)) := by show _ = _; unfold gAnd; rw [if_neg (by rw [hg]; simp)]
    have HB2 : Hid (Below W.heap.size W w2) := hb2
    clear hg hb2 g0 g1
    have d0 : w2.cell? ⟨q, 0, none⟩ = some (.int .i64 ins) := (LB.out.g.below HB2.out).c0
    have d1 : w2.cell? ⟨q, 1, none⟩ = some (.slice (some ⟨gx, ox, none⟩) l.length c) := (LB.out.g.below HB2.out).c1
    go_wp2_with fail
    refine (sCopy w2 ins gx ox c l ((H.out.below HB.out).below HB2.out) hl).mono ?_
    rintro e wq ⟨gq, cq, rfl, hOq, hbq⟩
    have HBq : Hid (Below W.heap.size W wq) := HB2.out.trans (hbq.mono HB2.out.size)
    have hsq := HB2.out.size
    have HOq : Hid (OwAn wq W.heap.size (.slice (some ⟨gq, 0, none⟩) l.length cq) l) := by
      refine ⟨hOq.1, ?_⟩
      rcases hOq.2 with e | ⟨g, cap, cur, q1, q2, q3⟩
      · exact .inl e
      · exact .inr ⟨g, cap, cur, q1, by omega, q3⟩
    clear hOq hbq d0 d1 hsq
    have y0 := (LB.out.r.below HBq.out).c0
    have y1 := (LB.out.r.below HBq.out).c1
    have z0 := (LB.out.r.below HBq.out).z0
    have z1 := (LB.out.r.below HBq.out).z1
    go_wp2
    refine bodyPost_ret (v := .tuple #[.agg #[.int .i64 ins, .slice (some ⟨gq, 0, none⟩) l.length cq], .int .i64 (-1)]) (by simp [results, Try.results28, go_sem, y0, y1]) rfl ?_
    rw [HR.out]
    exact gr_post (q := q + 1) HB.out HBq.out HOq.out (Kept.setCell (S := fun k => k = q + 1) (Kept.setCell (S := fun k => k = q + 1) (Kept.refl _ wq) (p := ⟨q + 1, 0, none⟩) rfl _) (p := ⟨q + 1, 1, none⟩) rfl _) (by have := HQ.out; omega) hqW
  | true =>
    rintro e w2 ⟨rfl, hb2⟩
    have HB2 : Hid (Below W.heap.size W w2) := hb2
    obtain ⟨h0, h1, hl3, hok⟩ := gok_facts hg
    have HG : Hid (gAnd ins l a b = kept l (andW ins l a b)) := by show _ = _; unfold gAnd; rw [if_pos hg]
    have HOK : Hid (okL ins l = true) := hok
    have d0 : w2.cell? ⟨q, 0, none⟩ = some (.int .i64 ins) := (LB.out.g.below hb2).c0
    have d1 : w2.cell? ⟨q, 1, none⟩ = some (.slice (some ⟨gx, ox, none⟩) l.length c) := (LB.out.g.below hb2).c1
    clear hg hb2 hok g0 g1
    go_wp2_with fail
    refine (sWire _ ins _ l c a h0 h1 hl3).mono ?_
    cases hwa : wireB ins l a with
    | false =>
      rintro e w3 ⟨rfl, hb3⟩
      have HR : Hid (gAnd ins l a b = (l, -1)) := by
        show _ = _
        rw [HG.out]
        have e0 : andW ins l a b = (l, -1) := by
          unfold andW
          rw [if_neg (fun e => by rw [hwa] at e; exact absurd e.1 (by simp))]
        rw [e0]
        rfl
      have HB3 : Hid (Below W.heap.size W w3) := HB2.out.trans (hb3.mono HB2.out.size)
      clear hwa hb3 d0 d1
      have d0 : w3.cell? ⟨q, 0, none⟩ = some (.int .i64 ins) := (LB.out.g.below HB3.out).c0
      have d1 : w3.cell? ⟨q, 1, none⟩ = some (.slice (some ⟨gx, ox, none⟩) l.length c) := (LB.out.g.below HB3.out).c1
      go_wp2_with fail
      refine (sCopy w3 ins gx ox c l ((H.out.below HB.out).below HB3.out) hl).mono ?_
      rintro e wq ⟨gq, cq, rfl, hOq, hbq⟩
      have HBq : Hid (Below W.heap.size W wq) := HB3.out.trans (hbq.mono HB3.out.size)
      have hsq := HB3.out.size
      have HOq : Hid (OwAn wq W.heap.size (.slice (some ⟨gq, 0, none⟩) l.length cq) l) := by
        refine ⟨hOq.1, ?_⟩
        rcases hOq.2 with e | ⟨g, cap, cur, q1, q2, q3⟩
        · exact .inl e
        · exact .inr ⟨g, cap, cur, q1, by omega, q3⟩
      clear hOq hbq d0 d1 hsq
      have y0 := (LB.out.r.below HBq.out).c0
      have y1 := (LB.out.r.below HBq.out).c1
      have z0 := (LB.out.r.below HBq.out).z0
      have z1 := (LB.out.r.below HBq.out).z1
      go_wp2
      refine bodyPost_ret (v := .tuple #[.agg #[.int .i64 ins, .slice (some ⟨gq, 0, none⟩) l.length cq], .int .i64 (-1)]) (by simp [results, Try.results28, go_sem, y0, y1]) rfl ?_
      rw [HR.out]
      exact gr_post (q := q + 1) HB.out HBq.out HOq.out (Kept.setCell (S := fun k => k = q + 1) (Kept.setCell (S := fun k => k = q + 1) (Kept.refl _ wq) (p := ⟨q + 1, 0, none⟩) rfl _) (p := ⟨q + 1, 1, none⟩) rfl _) (by have := HQ.out; omega) hqW
    | true =>
      rintro e w3 ⟨rfl, hb3⟩
      have HB3 : Hid (Below W.heap.size W w3) := HB2.out.trans (hb3.mono HB2.out.size)
      have d0 : w3.cell? ⟨q, 0, none⟩ = some (.int .i64 ins) := (LB.out.g.below HB3.out).c0
      have d1 : w3.cell? ⟨q, 1, none⟩ = some (.slice (some ⟨gx, ox, none⟩) l.length c) := (LB.out.g.below HB3.out).c1
      clear hb3
      go_wp2_with fail
      refine (sWire _ ins _ l c b h0 h1 hl3).mono ?_
      cases hwb : wireB ins l b with
      | false =>
        rintro e w4 ⟨rfl, hb4⟩
        have HR : Hid (gAnd ins l a b = (l, -1)) := by
          show _ = _
          rw [HG.out]
          have e0 : andW ins l a b = (l, -1) := by
            unfold andW
            rw [if_neg (fun e => by rw [hwb] at e; exact absurd e.2 (by simp))]
          rw [e0]
          rfl
        have HB4 : Hid (Below W.heap.size W w4) := HB3.out.trans (hb4.mono HB3.out.size)
        clear hwb hwa hb4 d0 d1
        have d0 : w4.cell? ⟨q, 0, none⟩ = some (.int .i64 ins) := (LB.out.g.below HB4.out).c0
        have d1 : w4.cell? ⟨q, 1, none⟩ = some (.slice (some ⟨gx, ox, none⟩) l.length c) := (LB.out.g.below HB4.out).c1
        go_wp2_with fail
        refine (sCopy w4 ins gx ox c l ((H.out.below HB.out).below HB4.out) hl).mono ?_
        rintro e wq ⟨gq, cq, rfl, hOq, hbq⟩
        have HBq : Hid (Below W.heap.size W wq) := HB4.out.trans (hbq.mono HB4.out.size)
        have hsq := HB4.out.size
        have HOq : Hid (OwAn wq W.heap.size (.slice (some ⟨gq, 0, none⟩) l.length cq) l) := by
          refine ⟨hOq.1, ?_⟩
          rcases hOq.2 with e | ⟨g, cap, cur, q1, q2, q3⟩
          · exact .inl e
          · exact .inr ⟨g, cap, cur, q1, by omega, q3⟩
        clear hOq hbq d0 d1 hsq
        have y0 := (LB.out.r.below HBq.out).c0
        have y1 := (LB.out.r.below HBq.out).c1
        have z0 := (LB.out.r.below HBq.out).z0
        have z1 := (LB.out.r.below HBq.out).z1
        go_wp2
        refine bodyPost_ret (v := .tuple #[.agg #[.int .i64 ins, .slice (some ⟨gq, 0, none⟩) l.length cq], .int .i64 (-1)]) (by simp [results, Try.results28, go_sem, y0, y1]) rfl ?_
        rw [HR.out]
        exact gr_post (q := q + 1) HB.out HBq.out HOq.out (Kept.setCell (S := fun k => k = q + 1) (Kept.setCell (S := fun k => k = q + 1) (Kept.refl _ wq) (p := ⟨q + 1, 0, none⟩) rfl _) (p := ⟨q + 1, 1, none⟩) rfl _) (by have := HQ.out; omega) hqW
      | true =>
        rintro e w4 ⟨rfl, hb4⟩
        have HB4 : Hid (Below W.heap.size W w4) := HB3.out.trans (hb4.mono HB3.out.size)
        have ra := of_decide_eq_true hwa
        have rb := of_decide_eq_true hwb
        have HWW : Hid (wireB ins l a = true ∧ wireB ins l b = true) := ⟨hwa, hwb⟩
        clear hb4 hwa hwb d0 d1
        have d0 : w4.cell? ⟨q, 0, none⟩ = some (.int .i64 ins) := (LB.out.g.below HB4.out).c0
        have d1 : w4.cell? ⟨q, 1, none⟩ = some (.slice (some ⟨gx, ox, none⟩) l.length c) := (LB.out.g.below HB4.out).c1
        go_wp2_with fail
        refine (sCopy w4 ins gx ox c l ((H.out.below HB.out).below HB4.out) hl).mono ?_
        rintro e w5 ⟨g5, c5, rfl, hO5, hb5⟩
        have HO5 : Hid (OwAn w5 w4.heap.size (.slice (some ⟨g5, 0, none⟩) l.length c5) l) := hO5
        have HB5 : Hid (Below W.heap.size W w5) := HB4.out.trans (hb5.mono HB4.out.size)
        have hs45 : w4.heap.size ≤ w5.heap.size := hb5.size
        have hsW4 : W.heap.size ≤ w4.heap.size := HB4.out.size
        clear hO5 hb5 d0 d1
        go_wp2_with fail
        refine (sAnd w5 w4.heap.size ins _ c5 l HO5.out hs45 a b h0 h1 hl3 (by omega) (by omega) (by omega) (by omega)).mono ?_
        have hpost : (if a ≤ b then andL ins l a b else andL ins l b a) = andW ins l a b := by
          unfold andW
          rw [if_pos HWW.out]
        rw [hpost]
        have HNEG : Hid ((andW ins l a b).2 = -1 ∨ 0 ≤ (andW ins l a b).2) := by
          rcases (andW_ok (a := a) (b := b) h0 HOK.out hl3).2.2 with e | e
          · exact .inl e
          · exact .inr (of_decide_eq_true e).1
        generalize hrr : andW ins l a b = r at HG HNEG
        obtain ⟨l2, x⟩ := r
        clear hrr hpost
        rintro e w6 ⟨v6, rfl, hO6, hK6, hV6⟩
        have HB6 : Hid (Below W.heap.size W w6) := HB5.out.trans (hK6.below (fun k e => by have := (HO5.out.lt k e).1; omega) HB5.out.size)
        have HO6 : Hid (OwAn w6 W.heap.size v6 l2) := by
          refine ⟨hO6.1, ?_⟩
          rcases hO6.2 with e | ⟨g, cap, cur, q1, q2, q3⟩
          · exact .inl e
          · exact .inr ⟨g, cap, cur, q1, by omega, q3⟩
        clear hO6 hK6 hV6
        simp only at HNEG ⊢
        obtain ⟨a6, c6, rfl, _, _⟩ := HO6.out.form
        go_upto_region 4 with fail
        obtain ⟨W7, hW7⟩ : ∃ W7, W7 = w6.alloc (.cells #[.int .i64 ins, .slice a6 l2.length c6] 29) := ⟨_, rfl⟩
        have HB7 : Hid (Below W.heap.size W W7) := by rw [hW7]; exact HB6.out.alloc HB6.out.size _
        have L7 : Hid (Lay W7 w6.heap.size (.int .i64 ins) (.slice a6 l2.length c6)) := by rw [hW7]; exact Lay.made _ _ _ _
        have HO7 : Hid (OwAn W7 W.heap.size (.slice a6 l2.length c6) l2) := by rw [hW7]; exact HO6.out.kept (S := fun _ => False) ((Kept.refl _ _).alloc _) (fun _ _ e => e)
        rw [← hW7]
        clear hW7
        by_cases hx : x = -1
        · subst hx
          have HR : Hid (gAnd ins l a b = (l, -1)) := by show _ = _; rw [HG.out]; rfl
          have d0 : W7.cell? ⟨q, 0, none⟩ = some (.int .i64 ins) := (LB.out.g.below HB7.out).c0
          have d1 : W7.cell? ⟨q, 1, none⟩ = some (.slice (some ⟨gx, ox, none⟩) l.length c) := (LB.out.g.below HB7.out).c1
          go_wp2_with fail
          refine (sCopy W7 ins gx ox c l ((H.out.below HB.out).below HB7.out) hl).mono ?_
          rintro e wq ⟨gq, cq, rfl, hOq, hbq⟩
          have HBq : Hid (Below W.heap.size W wq) := HB7.out.trans (hbq.mono HB7.out.size)
          have hsq := HB7.out.size
          have HOq : Hid (OwAn wq W.heap.size (.slice (some ⟨gq, 0, none⟩) l.length cq) l) := by
            refine ⟨hOq.1, ?_⟩
            rcases hOq.2 with e | ⟨g, cap, cur, q1, q2, q3⟩
            · exact .inl e
            · exact .inr ⟨g, cap, cur, q1, by omega, q3⟩
          clear hOq hbq d0 d1 hsq
          have y0 := (LB.out.r.below HBq.out).c0
          have y1 := (LB.out.r.below HBq.out).c1
          have z0 := (LB.out.r.below HBq.out).z0
          have z1 := (LB.out.r.below HBq.out).z1
          go_wp2
          refine bodyPost_ret (v := .tuple #[.agg #[.int .i64 ins, .slice (some ⟨gq, 0, none⟩) l.length cq], .int .i64 (-1)]) (by simp [results, Try.results28, go_sem, y0, y1]) rfl ?_
          rw [HR.out]
          exact gr_post (q := q + 1) HB.out HBq.out HOq.out (Kept.setCell (S := fun k => k = q + 1) (Kept.setCell (S := fun k => k = q + 1) (Kept.refl _ wq) (p := ⟨q + 1, 0, none⟩) rfl _) (p := ⟨q + 1, 1, none⟩) rfl _) (by have := HQ.out; omega) hqW
        · have hx0 : 0 ≤ x := by rcases HNEG.out with e | e; exact absurd e hx; exact e
          have HR : Hid (gAnd ins l a b = (l2, x)) := by show _ = _; rw [HG.out]; unfold kept; rw [if_neg hx]
          have y0 := (LB.out.r.below HB7.out).c0
          have y1 := (LB.out.r.below HB7.out).c1
          have z0 := (LB.out.r.below HB7.out).z0
          have z1 := (LB.out.r.below HB7.out).z1
          have t0 := L7.out.c0
          have t1 := L7.out.c1
          go_wp2
          refine bodyPost_ret (v := .tuple #[.agg #[.int .i64 ins, .slice a6 l2.length c6], .int .i64 x]) (by simp [results, Try.results28, go_sem, y0, y1]) rfl ?_
          rw [HR.out]
          exact gr_post (q := q + 1) HB.out HB7.out HO7.out (Kept.setCell (S := fun k => k = q + 1) (Kept.setCell (S := fun k => k = q + 1) (Kept.refl _ W7) (p := ⟨q + 1, 0, none⟩) rfl _) (p := ⟨q + 1, 1, none⟩) rfl _) (by have := HQ.out; omega) hqW

end Go.Proofs.Ytnpfegfjejfaaaa.Gs4
