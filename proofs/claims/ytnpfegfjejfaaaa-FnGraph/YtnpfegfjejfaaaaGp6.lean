/- The program's GraphSize. -/
import Derived.Deep.CutBlock
import Derived.Deep.CutRange
import Derived.Test.YtnpfegfjejfaaaaPkHj
import Derived.Test.YtnpfegfjejfaaaaGr2
namespace Go.Proofs.Ytnpfegfjejfaaaa.Gp6
open Go.RowKit
open Nd0 Qb0 Qb2 Gr0 Gr2 Mq0 Nt0 Gp1 Gp3
set_option linter.unusedVariables false

set_option maxRecDepth 100000 in
set_option maxHeartbeats 4000000 in
theorem iGraphSize (w : World) (ins : Int) (a : Option Addr) (c : Nat) (l : List An) (h : Ans w a l) (x : Int) :
    Calls Try.prog 18 #[.agg #[.int .i64 ins, .slice a l.length c], .int .i64 x] w fun e w' => e = .returned (.int .i64 (sizeG ins l x)) ∧ Below w.heap.size w w' := by
  have H : Hid (Ans w a l) := h
  clear h
  go_enter Try.func18, Try.ntmps18
  go_wp2_with fail
  have hb : Below w.heap.size w (w.alloc (.cells #[.int .i64 ins, .slice a l.length c] 29)) := (Below.refl _ _).alloc (Nat.le_refl _) _
  refine (iNetOf _ ins a c l (H.out.below hb)).mono ?_
  rintro e w2 (⟨hg, rfl, hb2⟩ | ⟨hg, p, rfl, hnet, hb2⟩)
  · have HG : Hid (sizeG ins l x = -1) := by show _ = _; unfold sizeG; rw [if_neg (fun e => by rw [hg] at e; exact absurd e.1 (by simp))]
    have HB : Hid (Below w.heap.size w w2) := hb.trans (hb2.mono hb.size)
    clear hg hb hb2
    go_wp2
    go_ret
    exact ⟨by rw [HG.out]; rfl, HB.out⟩
  have HB : Hid (Below w.heap.size w w2) := hb.trans (hb2.mono hb.size)
  obtain ⟨v, bm, hn⟩ := hnet
  obtain ⟨h0, h1, hl, hok⟩ := gok_facts hg
  have HG : Hid (gokB ins l = true) := hg
  have HOK : Hid (okL ins l = true) := hok
  have hn' : Nt w2 (fun k => k < w.heap.size) p ins l v bm := hn.narrow (fun k hk => Nat.lt_of_lt_of_le hk hb.size)
  have HN : Hid (Nt w2 (fun k => k < w.heap.size) p ins l v bm) := hn'
  clear hg hb hb2 hn hok hn'
  go_wp2_with fail
  refine (iHasWire HN.out h0 h1 hl x).mono ?_
  cases hwx : wireB ins l x with
  | false =>
    rintro e w3 ⟨rfl, m, rfl⟩
    have HG2 : Hid (sizeG ins l x = -1) := by show _ = _; unfold sizeG; rw [if_neg (fun e => by rw [hwx] at e; exact absurd e.2 (by simp))]
    clear hwx
    go_wp2
    go_ret
    exact ⟨by rw [HG2.out]; rfl, ⟨HB.out.os, HB.out.tape, HB.out.output, HB.out.size, HB.out.block⟩⟩
  | true =>
    rintro e w3 ⟨rfl, m, rfl⟩
    have HS : Hid (sizeG ins l x = (szC ins.toNat l (x.toNat / 2) l.length : Int)) := by show _ = _; unfold sizeG; rw [if_pos ⟨HG.out, hwx⟩]
    have rx := of_decide_eq_true hwx
    clear hwx
    obtain ⟨n, rfl⟩ : ∃ n : Nat, ins = (n : Int) := ⟨ins.toNat, by omega⟩
    obtain ⟨y, rfl⟩ : ∃ y : Nat, x = (y : Int) := ⟨x.toNat, by omega⟩
    simp only [Int.toNat_natCast] at HS
    go_wp2_with fail
    refine (iNodes (HN.out.kept (S := fun _ => False) ((Kept.refl _ _).drewN _) (fun _ e => e.elim)) h0 h1 hl).mono ?_
    rintro e w4 ⟨rfl, m2, rfl⟩
    rw [World.drewN_drewN]
    obtain ⟨Z, hZ⟩ : ∃ Z, Z = w2.drewN (m + m2) := ⟨_, rfl⟩
    rw [← hZ]
    have HBZ : Hid (Below w.heap.size w Z) := by rw [hZ]; exact ⟨HB.out.os, HB.out.tape, HB.out.output, HB.out.size, HB.out.block⟩
    have HNZ : Hid (Nt Z (fun k => k < w.heap.size) p (n : Int) l v bm) := by rw [hZ]; exact HN.out.kept (S := fun _ => False) ((Kept.refl _ _).drewN _) (fun _ e => e.elim)
    clear hZ
    have hmk := makeBools (n + 1 + l.length) (by omega)
    have ecast : ((n + 1 + l.length : Nat) : Int) = (n : Int) + 1 + (l.length : Int) := by push_cast; rfl
    rw [ecast] at hmk
    clear ecast
    go_wp2_with fail
    clear hmk
    obtain ⟨g, hg⟩ : ∃ g, g = Z.heap.size := ⟨_, rfl⟩
    obtain ⟨W1, hW1⟩ : ∃ W1, W1 = Z.alloc (.cells (zerosB (n + 1 + l.length)) 4) := ⟨_, rfl⟩
    have hbz : Below Z.heap.size Z W1 := by rw [hW1]; exact (Below.refl _ _).alloc (Nat.le_refl _) _
    have hsz : Z.heap.size < W1.heap.size := by rw [hW1]; simp
    have HR1 : Hid (RowB W1 g (n + 1 + l.length) (fun _ => false)) := by rw [hW1, hg]; exact zerosB_row _ _ _
    have HN1 : Hid (Nt W1 (fun k => k < w.heap.size ∨ k = g) p (n : Int) l v bm) := (HNZ.out.since hbz).narrow (fun k hk => by rcases hk with e | e; exact .inl e; exact .inr ⟨by omega, by omega⟩)
    have HB1 : Hid (Below w.heap.size w W1) := HBZ.out.trans (hbz.mono HBZ.out.size)
    have hgw : w.heap.size ≤ g := by rw [hg]; exact HBZ.out.size
    rw [← hW1, ← hg]
    clear hbz hsz hW1 hg
    have hq : (y : Int) / 2 = ((y / 2 : Nat) : Int) := by omega
    refine (iNodeOf _ _).mono ?_
    rintro e w5 ⟨rfl, hw5⟩
    have hw5' := hw5.symm
    clear hw5
    subst hw5'
    rw [hq]
    clear hq
    obtain ⟨y2, hy2⟩ : ∃ y2, y2 = y / 2 := ⟨_, rfl⟩
    have hy3 : y2 < n + 1 + l.length := by omega
    have hy4 : (y2 : Int) < (n : Int) + 1 + (l.length : Int) := by omega
    rw [← hy2] at HS ⊢
    clear hy2
    obtain ⟨r1, r2⟩ := HR1.out y2 hy3
    go_upto_region 6 with fail
    clear r1 r2
    obtain ⟨W2, hW2⟩ : ∃ W2, W2 = W1.setCell ⟨g, y2, none⟩ (.bool true) := ⟨_, rfl⟩
    have HK2 : Hid (Kept (fun k => k = g) W1 W2) := by rw [hW2]; exact Kept.setCell (S := fun k => k = g) (Kept.refl _ _) (p := ⟨g, y2, none⟩) rfl _
    have HR2 : Hid (RowB W2 g (n + 1 + l.length) (szR n l y2 0)) := by
      have h := HR1.out.hit y2
      rw [← hW2] at h
      have e : hitR (fun _ => false) y2 = szR n l y2 0 := by funext k; simp [hitR, szR]
      rw [e] at h
      exact h
    have HN2 : Hid (Nt W2 (fun k => k < w.heap.size ∨ k = g) p (n : Int) l v bm) := HN1.out.kept HK2.out (fun i e => .inl (.inr e))
    have HB2 : Hid (Below w.heap.size w W2) := HB1.out.trans (HK2.out.below (fun k e => by omega) HB1.out.size)
    rw [← hW2]
    clear hW2
    obtain ⟨av, cv, rfl, hA, hcv⟩ := HN2.out.slice
    clear hA hcv
    have c1 := HN2.out.c1
    go_wp2
    clear c1
    go_loopw [8, 9] (fun q i wr => ∃ k : Nat, k ≤ l.length ∧ i = .int .i64 ((k : Int) - 1) ∧ q = .int .i64 (szC n l y2 (l.length - k) : Int) ∧ RowB wr g (n + 1 + l.length) (szR n l y2 (l.length - k)) ∧ Nt wr (fun k => k < w.heap.size ∨ k = g) p (n : Int) l (.slice av l.length cv) bm ∧ Below w.heap.size w wr) (fun _ i _ => (intOf i + 1).toNat)
    case atStart => exact ⟨l.length, Nat.le_refl _, rfl, by rw [Nat.sub_self]; rfl, by rw [Nat.sub_self]; exact HR2.out, HN2.out, HB2.out⟩
    case round =>
      obtain ⟨k, hk, rfl, rfl, hrow, hnet, hbw⟩ := hrel
      have HR : Hid (RowB wr g (n + 1 + l.length) (szR n l y2 (l.length - k))) := hrow
      have HNr : Hid (Nt wr (fun k => k < w.heap.size ∨ k = g) p (n : Int) l (.slice av l.length cv) bm) := hnet
      have HBW : Hid (Below w.heap.size w wr) := hbw
      clear hrow hnet hbw
      have hcb : szC n l y2 (l.length - k) ≤ l.length - k := szC_le n l y2 (l.length - k)
      cases k with
      | zero =>
        go_wp2
        go_ret
        refine ⟨?_, HBW.out⟩
        rw [HS.out]; rfl
      | succ j =>
        have ej : ((j + 1 : Nat) : Int) - 1 = (j : Int) := by omega
        rw [ej]
        have hjl : j < l.length := by omega
        have hjz : (j : Int) < (l.length : Int) := by omega
        have hm : l.length - (l.length - (j + 1) + 1) = j := by omega
        have hm2 : l.length - (j + 1) + 1 = l.length - j := by omega
        have HM : Hid (l.length - (l.length - (j + 1) + 1) = j ∧ l.length - (j + 1) + 1 = l.length - j) := ⟨hm, hm2⟩
        obtain ⟨C, hC⟩ : ∃ C, C = szC n l y2 (l.length - (j + 1)) := ⟨_, rfl⟩
        rw [← hC] at hcb ⊢
        have HC : Hid (C = szC n l y2 (l.length - (j + 1))) := hC
        clear hm hm2 hC ej
        obtain ⟨f1, f2, f3⟩ := ok_facts HOK.out hjl
        go_wp2_with fail
        refine (iFirst HNr.out h0 h1).mono ?_
        rintro e w6 ⟨rfl, hw6⟩
        have hw6' := hw6.symm
        clear hw6
        subst hw6'
        have hidx : (n : Int) + 1 + (j : Int) < (n : Int) + 1 + (l.length : Int) := by omega
        obtain ⟨r1, r2⟩ := HR.out (n + 1 + j) (by omega)
        cases hbit : szR n l y2 (l.length - (j + 1)) (n + 1 + j) with
        | false =>
          rw [hbit] at r1
          obtain ⟨hR3, hC3⟩ := szR_no HM.out.1 hbit
          rw [HM.out.2] at hR3 hC3
          have HR3 : Hid (szR n l y2 (l.length - j) = szR n l y2 (l.length - (j + 1))) := hR3
          have HC3 : Hid (szC n l y2 (l.length - j) = szC n l y2 (l.length - (j + 1))) := hC3
          clear hR3 hC3 hbit
          go_wp2
          go_roundw
          case rel => exact ⟨j, by omega, rfl, by rw [HC3.out, ← HC.out], by rw [HR3.out]; exact HR.out, HNr.out, HBW.out⟩
          case measure => simp [intOf]
        | true =>
          rw [hbit] at r1
          obtain ⟨hR3, hC3⟩ := szR_yes HM.out.1 hbit
          rw [HM.out.2] at hR3 hC3
          have HR3 : Hid (szR n l y2 (l.length - j) = _) := hR3
          have HC3 : Hid (szC n l y2 (l.length - j) = szC n l y2 (l.length - (j + 1)) + 1) := hC3
          clear hR3 hC3 hbit
          obtain ⟨xx, hxx⟩ : ∃ xx, xx = nth l j := ⟨_, rfl⟩
          rw [← hxx] at f1 f2 f3 HR3
          have HXX : Hid (xx = nth l j) := hxx
          clear hxx
          obtain ⟨a', c', e', hA, _⟩ := HNr.out.slice
          obtain ⟨rfl, _, rfl⟩ : a' = av ∧ l.length = l.length ∧ c' = cv := by cases e'; exact ⟨rfl, rfl, rfl⟩
          clear e'
          rcases hA.2 with e | ⟨xb, xo, rfl, hc⟩
          · omega
          obtain ⟨p0, p1⟩ := hc j hjl
          have HXB : Hid (xb ≠ g) := fun e => HNr.out.fv xb rfl (.inr e)
          have HXL : Hid (xb < wr.heap.size) := (hc j hjl).lt
          rw [nth_get hjl, ← HXX.out] at p0 p1
          clear hc hA
          obtain ⟨A, B, hxAB⟩ : ∃ A B : Nat, xx.a = (A : Int) ∧ xx.b = (B : Int) := ⟨xx.a.toNat, xx.b.toNat, by omega, by omega⟩
          rw [hxAB.1] at p0 f1 f2
          rw [hxAB.2] at p1 f2 f3
          rw [hxAB.1, hxAB.2, Int.toNat_natCast, Int.toNat_natCast] at HR3
          clear hxAB
          have qa : (A : Int) / 2 = ((A / 2 : Nat) : Int) := by omega
          have qb : (B : Int) / 2 = ((B / 2 : Nat) : Int) := by omega
          have la : A / 2 < n + 1 + l.length := by omega
          have lb : B / 2 < n + 1 + l.length := by omega
          have laz : ((A / 2 : Nat) : Int) < (n : Int) + 1 + (l.length : Int) := by omega
          have lbz : ((B / 2 : Nat) : Int) < (n : Int) + 1 + (l.length : Int) := by omega
          clear f1 f2 f3
          generalize A / 2 = A2 at *
          generalize B / 2 = B2 at *
          have c1 := HNr.out.c1
          go_wp2_with fail
          refine (iNodeOf _ _).mono ?_
          rintro e w7 ⟨rfl, hw7⟩
          have hw7' := hw7.symm
          clear hw7
          subst hw7'
          rw [qa]
          clear r1 r2
          obtain ⟨r1, r2⟩ := HR.out A2 la
          go_upto_region 13 with fail
          clear r1 r2
          obtain ⟨W5, hW5⟩ : ∃ W5, W5 = wr.setCell ⟨g, A2, none⟩ (.bool true) := ⟨_, rfl⟩
          have HK5 : Hid (Kept (fun k => k = g) wr W5) := by rw [hW5]; exact Kept.setCell (S := fun k => k = g) (Kept.refl _ _) (p := ⟨g, A2, none⟩) rfl _
          have HR5 : Hid (RowB W5 g (n + 1 + l.length) (hitR (szR n l y2 (l.length - (j + 1))) A2)) := by rw [hW5]; exact HR.out.hit A2
          have HN5 : Hid (Nt W5 (fun k => k < w.heap.size ∨ k = g) p (n : Int) l (.slice (some ⟨xb, xo, none⟩) l.length c') bm) := HNr.out.kept HK5.out (fun i e => .inl (.inr e))
          have HB5 : Hid (Below w.heap.size w W5) := HBW.out.trans (HK5.out.below (fun k e => by omega) HBW.out.size)
          have s1 : W5.cell? ⟨xb, xo + j * 2 + 1, none⟩ = some (.int .i64 (B : Int)) := by rw [HK5.out.cell (p := ⟨xb, xo + j * 2 + 1, none⟩) HXL.out HXB.out]; exact p1
          have c15 := HN5.out.c1
          rw [← hW5]
          clear hW5 p0 p1 c1
          go_wp2_with fail
          refine (iNodeOf _ _).mono ?_
          rintro e w8 ⟨rfl, hw8⟩
          have hw8' := hw8.symm
          clear hw8
          subst hw8'
          rw [qb]
          obtain ⟨r1, r2⟩ := HR5.out B2 lb
          go_upto_region 9 with fail
          clear r1 r2 s1 c15
          obtain ⟨W6, hW6⟩ : ∃ W6, W6 = W5.setCell ⟨g, B2, none⟩ (.bool true) := ⟨_, rfl⟩
          have HK6 : Hid (Kept (fun k => k = g) W5 W6) := by rw [hW6]; exact Kept.setCell (S := fun k => k = g) (Kept.refl _ _) (p := ⟨g, B2, none⟩) rfl _
          have HR6 : Hid (RowB W6 g (n + 1 + l.length) (hitR (hitR (szR n l y2 (l.length - (j + 1))) A2) B2)) := by rw [hW6]; exact HR5.out.hit B2
          have HN6 : Hid (Nt W6 (fun k => k < w.heap.size ∨ k = g) p (n : Int) l (.slice (some ⟨xb, xo, none⟩) l.length c') bm) := HN5.out.kept HK6.out (fun i e => .inl (.inr e))
          have HB6 : Hid (Below w.heap.size w W6) := HB5.out.trans (HK6.out.below (fun k e => by omega) HB5.out.size)
          rw [← hW6]
          clear hW6
          go_wp2
          go_roundw
          case rel => exact ⟨j, by omega, rfl, by rw [HC3.out, ← HC.out]; push_cast; rfl, by rw [HR3.out]; exact HR6.out, HN6.out, HB6.out⟩
          case measure => simp [intOf]

end Go.Proofs.Ytnpfegfjejfaaaa.Gp6
