/- The walk of the exact law of Free, out of a contract of the program's Free. -/
import Derived.Test.YtpdgipnlcmgcoaaSp9
import Derived.Test.YtpdgipnlcmgcoaaIc2
import Derived.Test.YtpdgipnlcmgcoaaPkB
namespace Go.Proofs.Ytpdgipnlcmgcoaa.Lx3
open Go.RowKit
open Nd0 Nd1 Nd2 Nd3 Nd4 Tm0 Tm1 Tm4 Ap0
open Sp9 (sFree)
set_option linter.unusedVariables false

theorem wnodes_below {w w' : World} {B : Nat} {a : Option Addr} {l : List Nd} (h : WNodes w B a l) (k : Below w.heap.size w w') : WNodes w' B a l := by
  refine ⟨h.1, ?_⟩
  by_cases e : l.length = 0
  · exact .inl e
  · rcases h.2 with h0 | ⟨b, o, rfl, hB, hc, hf⟩
    · exact .inl h0
    · have hb : b < w.heap.size := (hc 0 (by omega)).lt
      exact .inr ⟨b, o, rfl, hB, fun i hi => (hc i hi).below k hb, fun j hj => by rw [k.frozen (p := ⟨b, o + j, none⟩) hb]; exact hf j hj⟩
theorem below_drewN {B : Nat} {u w : World} (h : Below B u w) (n : Nat) : Below B u (w.drewN n) := ⟨h.os, h.tape, h.output, h.size, h.block⟩
theorem intsIn_below {w w' : World} {B U : Nat} {a : Option Addr} {l : List Int} (h : IntsIn w B U a l) (k : Below w.heap.size w w') : IntsIn w' B U a l :=
  h.kept (S := fun _ => False) (Kept.ofBelow k) (fun _ _ _ h => h)
theorem keep {B : Nat} {u v w : World} (h : Below B u v) (k : Below v.heap.size v w) (hB : B ≤ v.heap.size) : Below B u w := h.trans (k.mono hB)

set_option maxRecDepth 100000 in
set_option maxHeartbeats 4000000 in
theorem exFree (hI : IFree) (w : World) (a : Option Addr) (l : List Nd) (c : Nat) (hN : Nodes w a l) :
    Calls Try.prog 8 #[.slice a l.length c] w fun e w' => e = .returned (.bool true) ∧ Below w.heap.size w w' := by
  have HN : Hid (Nodes w a l) := hN
  have hm := hN.1
  clear hN
  by_cases hl : l.length ≤ 1048576
  · have hR : (freeL l).length ≤ 1048576 := by have := freeTo_length l 8; unfold freeL; split <;> simp <;> omega
    go_enter Try.func8, Try.ntmps8
    go_wp2_with fail
    refine (szNodeS _ a l.length c _ (by omega) (by omega) hm).mono ?_
    rw [if_pos (by omega)]
    rintro e w1 ⟨rfl, rfl⟩
    have hp : 0 ≤ (1048576 : Int) - (l.length : Int) := by omega
    go_wp2_with fail
    refine (toNodeS _ a l c HN.out hl).mono ?_
    rintro e w2 ⟨rfl, hw2, hb2⟩
    have HW2 : Hid (WNodes w2 w1.heap.size (some ⟨w1.heap.size, 0, none⟩) l) := hw2
    have HB2 : Hid (Below w1.heap.size w1 w2) := hb2
    clear hw2 hb2
    go_wp2_with fail
    refine (sFree _ _ l _ HW2.out.nodes).mono ?_
    rintro e w3 ⟨⟨v3, rfl, ho3⟩, hb3⟩
    obtain ⟨a3, c3, rfl, hi3⟩ := ho3.form
    have HI3 : Hid (IntsIn w3 w2.heap.size w3.heap.size a3 (freeL l)) := hi3.within
    have HB3 : Hid (Below w1.heap.size w1 w3) := keep HB2.out hb3 HB2.out.size
    have hs23 : w2.heap.size ≤ w3.heap.size := hb3.size
    clear ho3 hi3 hb3
    go_wp2_with fail
    refine (toNodeS _ a l c (HN.out.below HB3.out) hl).mono ?_
    rintro e w4 ⟨rfl, hw4, hb4⟩
    have HW4 : Hid (WNodes w4 w3.heap.size (some ⟨w3.heap.size, 0, none⟩) l) := hw4
    have HI4 : Hid (IntsIn w4 w2.heap.size w3.heap.size a3 (freeL l)) := intsIn_below HI3.out hb4
    have HB4 : Hid (Below w1.heap.size w1 w4) := keep HB3.out hb4 HB3.out.size
    have hs34 : l.length = 0 ∨ w3.heap.size < w4.heap.size := by
      rcases hw4.2 with h0 | ⟨b, o, hb, _, hc, _⟩
      · exact .inl h0
      · by_cases e : l.length = 0
        · exact .inl e
        · cases hb; exact .inr (hc 0 (by omega)).lt
    have hs34' : w3.heap.size ≤ w4.heap.size := hb4.size
    clear hw4 hb4
    go_wp2_with fail
    refine (hI _ _ l _ HW4.out.nodes (Nat.le_refl _) hl).mono ?_
    rintro e w5 ⟨⟨a5, c5, rfl, hi5⟩, hb5⟩
    have HI5 : Hid (IntsIn w5 w4.heap.size w5.heap.size a5 (freeL l)) := hi5.within
    have HJ5 : Hid (IntsIn w5 w2.heap.size w3.heap.size a3 (freeL l)) := intsIn_below HI4.out hb5
    have HW5 : Hid (WNodes w5 w3.heap.size (some ⟨w3.heap.size, 0, none⟩) l) := wnodes_below HW4.out hb5
    have HB5 : Hid (Below w1.heap.size w1 w5) := keep HB4.out hb5 HB4.out.size
    have hs45 : w4.heap.size ≤ w5.heap.size := hb5.size
    clear hi5 hb5
    go_wp2_with fail
    refine (eqIntS _ _ _ (freeL l) _ _ HI5.out.wints.ints HJ5.out.wints.ints).mono ?_
    rintro e w6 ⟨rfl, m6, rfl⟩
    have hd6 : Below w5.heap.size w5 (w5.drewN m6) := below_drewN (Below.refl _ _) _
    have HI6 : Hid (IntsIn (w5.drewN m6) w4.heap.size w5.heap.size a5 (freeL l)) := intsIn_below HI5.out hd6
    have HJ6 : Hid (IntsIn (w5.drewN m6) w2.heap.size w3.heap.size a3 (freeL l)) := intsIn_below HJ5.out hd6
    have HW6 : Hid (WNodes (w5.drewN m6) w3.heap.size (some ⟨w3.heap.size, 0, none⟩) l) := wnodes_below HW5.out hd6
    have HB6 : Hid (Below w1.heap.size w1 (w5.drewN m6)) := keep HB5.out hd6 HB5.out.size
    have hsz6 : (w5.drewN m6).heap.size = w5.heap.size := rfl
    have HSZ6 : Hid ((w5.drewN m6).heap.size = w5.heap.size) := hsz6
    clear hd6 hsz6
    obtain ⟨w6, hw6⟩ : ∃ w6 : World, w6 = w5.drewN m6 := ⟨_, rfl⟩
    rw [← hw6] at HI6 HJ6 HW6 HB6 HSZ6 ⊢
    clear hw6
    go_wp2_with fail
    refine (toNodeS _ a l c (HN.out.below HB6.out) hl).mono ?_
    rintro e w7 ⟨rfl, hw7, hb7⟩
    have HV7 : Hid (Nodes w7 (some ⟨w6.heap.size, 0, none⟩) l) := hw7.nodes
    have HI7 : Hid (IntsIn w7 w4.heap.size w5.heap.size a5 (freeL l)) := intsIn_below HI6.out hb7
    have HJ7 : Hid (IntsIn w7 w2.heap.size w3.heap.size a3 (freeL l)) := intsIn_below HJ6.out hb7
    have HW7 : Hid (WNodes w7 w3.heap.size (some ⟨w3.heap.size, 0, none⟩) l) := wnodes_below HW6.out hb7
    have HB7 : Hid (Below w1.heap.size w1 w7) := keep HB6.out hb7 HB6.out.size
    clear hw7 hb7
    go_wp2_with fail
    refine (eqNodeS _ _ _ l _ _ HW7.out.nodes HV7.out).mono ?_
    rintro e w8 ⟨rfl, hb8⟩
    have HI8 : Hid (IntsIn w8 w4.heap.size w5.heap.size a5 (freeL l)) := intsIn_below HI7.out hb8
    have HJ8 : Hid (IntsIn w8 w2.heap.size w3.heap.size a3 (freeL l)) := intsIn_below HJ7.out hb8
    have HW8 : Hid (WNodes w8 w3.heap.size (some ⟨w3.heap.size, 0, none⟩) l) := wnodes_below HW7.out hb8
    have HB8 : Hid (Below w1.heap.size w1 w8) := keep HB7.out hb8 HB7.out.size
    clear hb8
    go_wp2_with fail
    refine (markNodeS _ _ _ l _ HW8.out _ (by omega) (by omega) hl).mono ?_
    rintro e w9 ⟨rfl, hw9, hk9⟩
    have hne : ∀ b, Ats l.length (some ⟨w3.heap.size, 0, none⟩) b → b = w3.heap.size ∧ w3.heap.size < w4.heap.size := by
      rintro b ⟨h0, x, hx, rfl⟩
      cases hx
      exact ⟨rfl, by omega⟩
    have HI9 : Hid (IntsIn w9 w4.heap.size w5.heap.size a5 (freeL l)) := HI8.out.kept hk9 (fun b h1 h2 h3 => by have := hne b h3; omega)
    have HJ9 : Hid (IntsIn w9 w2.heap.size w3.heap.size a3 (freeL l)) := HJ8.out.kept hk9 (fun b h1 h2 h3 => by have := hne b h3; omega)
    have HB9 : Hid (Below w1.heap.size w1 w9) := HB8.out.trans (hk9.below (fun b hb => by have := hne b hb; have := HB3.out.size; omega) HB8.out.size)
    clear hw9 hk9 hne
    have hk1 : ¬ (1 : Int) + 6 * (l.length : Int) < 0 := by omega
    go_wp2_with fail
    refine (eqIntS _ _ _ (freeL l) _ _ HI9.out.wints.ints HJ9.out.wints.ints).mono ?_
    rintro e wx ⟨rfl, mx, rfl⟩
    have hdx : Below w9.heap.size w9 (w9.drewN mx) := below_drewN (Below.refl _ _) _
    have HIx : Hid (IntsIn (w9.drewN mx) w4.heap.size w5.heap.size a5 (freeL l)) := intsIn_below HI9.out hdx
    have HJx : Hid (IntsIn (w9.drewN mx) w2.heap.size w3.heap.size a3 (freeL l)) := intsIn_below HJ9.out hdx
    have HBx : Hid (Below w1.heap.size w1 (w9.drewN mx)) := keep HB9.out hdx HB9.out.size
    clear hdx
    obtain ⟨wx, hwx⟩ : ∃ wx : World, wx = w9.drewN mx := ⟨_, rfl⟩
    rw [← hwx] at HIx HJx HBx ⊢
    clear hwx
    go_wp2_with fail
    refine (markIntS _ _ _ (freeL l) _ HIx.out.wints _ (by omega) (by omega) hR).mono ?_
    rintro e wy ⟨rfl, hiy, hky⟩
    have HIy : Hid (IntsIn wy w4.heap.size w5.heap.size a5 (marks (freeL l).length 1)) := HIx.out.again hiy (marks_length _ _)
    have HJy : Hid (IntsIn wy w2.heap.size w3.heap.size a3 (freeL l)) := HJx.out.kept hky (fun b h1 h2 h3 => by have := HIx.out.ats h3; omega)
    have HBy : Hid (Below w1.heap.size w1 wy) := HBx.out.trans (hky.below (fun b hb => by have := HIx.out.ats hb; have := HB4.out.size; omega) HBx.out.size)
    clear hiy hky
    go_wp2_with fail
    refine (heldIntS _ _ (freeL l).length _ 1 HIy.out.wints.ints (by omega) (by omega) hR).mono ?_
    rintro e wz ⟨rfl, rfl⟩
    have hk2 : ¬ (1 : Int) + ((freeL l).length : Int) < 0 := by omega
    go_wp2_with fail
    refine (toNodeS _ a l c (HN.out.below HBy.out) hl).mono ?_
    rintro e va ⟨rfl, hwa, hba⟩
    have HWa : Hid (Nodes va (some ⟨wz.heap.size, 0, none⟩) l) := hwa.nodes
    have HIa : Hid (IntsIn va w4.heap.size w5.heap.size a5 (marks (freeL l).length 1)) := intsIn_below HIy.out hba
    have HJa : Hid (IntsIn va w2.heap.size w3.heap.size a3 (freeL l)) := intsIn_below HJy.out hba
    have HBa : Hid (Below w1.heap.size w1 va) := keep HBy.out hba HBy.out.size
    clear hwa hba
    go_wp2_with fail
    refine (hI _ _ l _ HWa.out (Nat.le_refl _) hl).mono ?_
    rintro e vb ⟨⟨ab, cb, rfl, hib⟩, hbb⟩
    have HHb : Hid (Ints vb ab (freeL l)) := hib.ints
    have HIb : Hid (IntsIn vb w4.heap.size w5.heap.size a5 (marks (freeL l).length 1)) := intsIn_below HIa.out hbb
    have HJb : Hid (IntsIn vb w2.heap.size w3.heap.size a3 (freeL l)) := intsIn_below HJa.out hbb
    have HBb : Hid (Below w1.heap.size w1 vb) := keep HBa.out hbb HBa.out.size
    clear hib hbb
    go_wp2_with fail
    refine (eqIntS _ _ _ (freeL l) _ _ HHb.out HJb.out.wints.ints).mono ?_
    rintro e vc ⟨rfl, mc, rfl⟩
    have hdc : Below vb.heap.size vb (vb.drewN mc) := below_drewN (Below.refl _ _) _
    have HIc : Hid (IntsIn (vb.drewN mc) w4.heap.size w5.heap.size a5 (marks (freeL l).length 1)) := intsIn_below HIb.out hdc
    have HBc : Hid (Below w1.heap.size w1 (vb.drewN mc)) := keep HBb.out hdc HBb.out.size
    clear hdc
    obtain ⟨vc, hvc⟩ : ∃ vc : World, vc = vb.drewN mc := ⟨_, rfl⟩
    rw [← hvc] at HIc HBc ⊢
    clear hvc
    go_wp2_with fail
    refine (heldIntS _ _ (freeL l).length _ 1 HIc.out.wints.ints (by omega) (by omega) hR).mono ?_
    rintro e vd ⟨rfl, rfl⟩
    go_wp2
    go_ret
    exact ⟨rfl, HBc.out⟩
  · go_enter Try.func8, Try.ntmps8
    go_wp2_with fail
    refine (szNodeS _ a l.length c _ (by omega) (by omega) hm).mono ?_
    rw [if_neg (by omega)]
    rintro e w1 ⟨rfl, rfl⟩
    go_wp2
    go_ret
    exact ⟨rfl, Below.refl _ _⟩

end Go.Proofs.Ytpdgipnlcmgcoaa.Lx3
