/- A pick by value; the laws' small functions over one pick. -/
import Derived.Deep.RegionHeld3
import Derived.Deep.CutBlock
import Derived.Test.YtlpbfbghgacjiaaNd6
import Derived.Test.YtlpbfbghgacjiaaTc5
namespace Go.Proofs.Ytlpbfbghgacjiaa.Wp0
open Go.RowKit
open Nd0 (Kept Ints WInts IntsIn Ats marks marks_length lt_of_cell)
open Nd6 (toIntS eqIntB markIntB heldIntB)
open Tc5 (Lay)
set_option linter.unusedVariables false

/-- A pick's value. -/
abbrev pv (a : Option Addr) (n c : Nat) (v : Int) : Value := .agg #[.slice a n c, .int .i64 v]
/-- It lies in a block. -/
structure Pb (W : World) (b : Nat) (a : Option Addr) (n c : Nat) (v : Int) : Prop where
  c0 : W.cell? ⟨b, 0, none⟩ = some (.slice a n c)
  c1 : W.cell? ⟨b, 1, none⟩ = some (.int .i64 v)
theorem Pb.lt {W : World} {b : Nat} {a : Option Addr} {n c : Nat} {v : Int} (h : Pb W b a n c v) : b < W.heap.size := lt_of_cell h.c0
theorem Pb.kept {W W' : World} {b : Nat} {a : Option Addr} {n c : Nat} {v : Int} (h : Pb W b a n c v) {S : Nat → Prop} (k : Kept S W W') (hs : ¬ S b) : Pb W' b a n c v :=
  ⟨by rw [k.cell (p := ⟨b, 0, none⟩) h.lt hs]; exact h.c0, by rw [k.cell (p := ⟨b, 1, none⟩) h.lt hs]; exact h.c1⟩
theorem Pb.below {W W' : World} {b : Nat} {a : Option Addr} {n c : Nat} {v : Int} (h : Pb W b a n c v) (k : Below W.heap.size W W') : Pb W' b a n c v := h.kept (S := fun _ => False) (Kept.ofBelow k) (fun h => h)
theorem Pb.made (W : World) (a : Option Addr) (n c : Nat) (v : Int) (T : Nat) : Pb (W.alloc (.cells #[.slice a n c, .int .i64 v] T)) W.heap.size a n c v := ⟨by simp, by simp⟩

set_option maxHeartbeats 400000 in
theorem szIntS (w : World) (a : Option Addr) (n c : Nat) (left : Int) (h0 : 0 ≤ left) (h1 : left ≤ 1048576) (hn : n ≤ maxLen) :
    Calls Try.prog 70 #[.slice a n c, .int .i64 left] w fun e w' => e = .returned (.int .i64 (if (n : Int) ≤ left then left - n else -1)) ∧ w' = w := by
  unfold maxLen at hn
  by_cases hc : (n : Int) ≤ left
  · go_enter Try.func70, Try.ntmps70
    go_wp2
    go_ret
    exact ⟨rfl, rfl⟩
  · go_enter Try.func70, Try.ntmps70
    go_wp2
    go_ret
    exact ⟨rfl, rfl⟩
set_option maxHeartbeats 1000000 in
theorem szPick (w : World) (a : Option Addr) (n c : Nat) (v left : Int) (h0 : 0 ≤ left) (h1 : left ≤ 1048576) (hn : n ≤ maxLen) :
    Calls Try.prog 32 #[pv a n c v, .int .i64 left] w fun e w' => e = .returned (.int .i64 (if (n : Int) ≤ left then left - n else -1)) ∧ Below w.heap.size w w' := by
  have HB : Hid (Below w.heap.size w (w.alloc (.cells #[.slice a n c, .int .i64 v] 57))) := (Below.refl _ _).alloc (Nat.le_refl _) _
  have HSZ : Hid (∀ W, Calls Try.prog 70 #[.slice a n c, .int .i64 left] W fun e w' => e = .returned (.int .i64 (if (n : Int) ≤ left then left - n else -1)) ∧ w' = W) := fun W => szIntS W a n c left h0 h1 hn
  by_cases hc : (n : Int) ≤ left
  · rw [if_pos hc] at HSZ ⊢
    have hz : ¬ left - (n : Int) < 0 := by omega
    go_enter Try.func32, Try.ntmps32
    go_wp2_with (go_at_call 70; refine (HSZ.out _).mono ?_; rintro e w' ⟨rfl, hw'⟩; have hw'' := hw'.symm; clear hw'; subst hw'')
    go_ret
    exact ⟨rfl, HB.out⟩
  · rw [if_neg hc] at HSZ ⊢
    go_enter Try.func32, Try.ntmps32
    go_wp2_with (go_at_call 70; refine (HSZ.out _).mono ?_; rintro e w' ⟨rfl, hw'⟩; have hw'' := hw'.symm; clear hw'; subst hw'')
    go_ret
    exact ⟨rfl, HB.out⟩
set_option maxHeartbeats 2000000 in
theorem toPick (w : World) (a : Option Addr) (l : List Int) (c : Nat) (v : Int) (h : Ints w a l) (hl : l.length ≤ 1048576) :
    Calls Try.prog 34 #[pv a l.length c v] w fun e w' => ∃ g, e = .returned (pv (some ⟨g, 0, none⟩) l.length l.length v) ∧ IntsIn w' w.heap.size w'.heap.size (some ⟨g, 0, none⟩) l ∧ Below w.heap.size w w' := by
  have H : Hid (Ints w a l) := h
  clear h
  obtain ⟨X1, hX1⟩ : ∃ X, X = w.alloc (.cells #[.slice a l.length c, .int .i64 v] 57) := ⟨_, rfl⟩
  obtain ⟨X2, hX2⟩ : ∃ X, X = X1.alloc (.cells #[.slice none 0 0, .int .i64 0] 60) := ⟨_, rfl⟩
  obtain ⟨X0, hX0⟩ : ∃ X, X = X2.alloc (.cells #[.slice none 0 0, .int .i64 0] 60) := ⟨_, rfl⟩
  have s1 : X1.heap.size = w.heap.size + 1 := by rw [hX1]; simp
  have s2 : X2.heap.size = w.heap.size + 1 + 1 := by rw [hX2]; simp [s1]
  have b1 : Below w.heap.size w X1 := by rw [hX1]; exact (Below.refl _ _).alloc (Nat.le_refl _) _
  have b2 : Below w.heap.size w X2 := by rw [hX2]; exact b1.alloc (by omega) _
  have b0 : Below w.heap.size w X0 := by rw [hX0]; exact b2.alloc (by omega) _
  have HB : Hid (Below w.heap.size w X0) := b0
  have HP : Hid (Pb X0 w.heap.size a l.length c v) := by
    have h1 := Pb.made w a l.length c v 57
    rw [← hX1] at h1
    rw [hX0, hX2]
    exact (h1.kept (S := fun _ => False) ((Kept.refl _ _).alloc _) (fun h => h)).kept (S := fun _ => False) ((Kept.refl _ _).alloc _) (fun h => h)
  have HL2 : Hid (Lay X0 (w.heap.size + 1) (.slice none 0 0) (.int .i64 0)) := by
    have h1 := Lay.made X1 (.slice none 0 0) (.int .i64 0) 60
    rw [← hX2, s1] at h1
    rw [hX0]
    exact h1.alloc _
  have HL3 : Hid (Lay X0 (w.heap.size + 1 + 1) (.slice none 0 0) (.int .i64 0)) := by
    have h1 := Lay.made X2 (.slice none 0 0) (.int .i64 0) 60
    rw [← hX0, s2] at h1
    exact h1
  have hE : ((w.alloc (.cells #[.slice a l.length c, .int .i64 v] 57)).alloc (.cells #[.slice none 0 0, .int .i64 0] 60)).alloc (.cells #[.slice none 0 0, .int .i64 0] 60) = X0 := by rw [hX0, hX2, hX1]
  clear hX1 hX2 hX0 s1 s2 b1 b2 b0
  go_enter Try.func34, Try.ntmps34
  go_upto_region 2 with fail
  clear hE
  obtain ⟨p0, p1⟩ := HP.out
  have hp := HP.out.lt
  go_wp2_with fail
  clear p0 p1 hp
  refine (toIntS X0 a l c (H.out.below HB.out) hl).mono ?_
  rintro e w1 ⟨rfl, hw, hb⟩
  obtain ⟨g, hg⟩ : ∃ g, g = X0.heap.size := ⟨_, rfl⟩
  have hg3 : w.heap.size + 1 + 1 < g := by rw [hg]; exact HL3.out.lt
  rw [← hg] at hw ⊢
  have HW : Hid (WInts w1 g (some ⟨g, 0, none⟩) l) := hw
  obtain ⟨p0, p1⟩ := HP.out.below hb
  have hp := lt_of_cell p0
  have L2 := HL2.out.below hb
  have L3 := HL3.out.below hb
  have HL2' : Hid (Lay w1 (w.heap.size + 1) (.slice none 0 0) (.int .i64 0)) := L2
  have HL3' : Hid (Lay w1 (w.heap.size + 1 + 1) (.slice none 0 0) (.int .i64 0)) := L3
  obtain ⟨d0, d1, d2, d3⟩ := L2
  obtain ⟨e0, e1, e2, e3⟩ := L3
  have hd := lt_of_cell d0
  have he := lt_of_cell e0
  have HB1 : Hid (Below w.heap.size w w1) := HB.out.trans (hb.mono HB.out.size)
  clear hb hw hg HL2 HL3 HP HB H
  go_wp2
  clear d0 d1 d2 d3 e0 e1 e2 e3 p0 p1
  obtain ⟨Y, hY⟩ : ∃ Y, Y = (w1.setCell ⟨w.heap.size + 1 + 1, 0, none⟩ (.slice (some ⟨g, 0, none⟩) l.length l.length)).setCell ⟨w.heap.size + 1 + 1, 1, none⟩ (.int .i64 v) := ⟨_, rfl⟩
  rw [← hY]
  have KY : Kept (fun b => b = w.heap.size + 1 + 1) w1 Y := by rw [hY]; exact ((Kept.refl (fun b => b = w.heap.size + 1 + 1) w1).setCell (p := ⟨w.heap.size + 1 + 1, 0, none⟩) rfl _).setCell (p := ⟨w.heap.size + 1 + 1, 1, none⟩) rfl _
  have L2 := (HL2'.out.kept KY (by omega)).put (.slice (some ⟨g, 0, none⟩) l.length l.length) (.int .i64 v)
  obtain ⟨Z, hZ⟩ : ∃ Z, Z = (Y.setCell ⟨w.heap.size + 1, 0, none⟩ (.slice (some ⟨g, 0, none⟩) l.length l.length)).setCell ⟨w.heap.size + 1, 1, none⟩ (.int .i64 v) := ⟨_, rfl⟩
  rw [← hZ] at L2 ⊢
  have KZ : Kept (fun b => b = w.heap.size + 1) Y Z := by rw [hZ]; exact ((Kept.refl (fun b => b = w.heap.size + 1) Y).setCell (p := ⟨w.heap.size + 1, 0, none⟩) rfl _).setCell (p := ⟨w.heap.size + 1, 1, none⟩) rfl _
  have K : Kept (fun b => w.heap.size ≤ b ∧ b < g) w1 Z := (KY.mono (fun b hb => ⟨by omega, by omega⟩)).trans (KZ.mono (fun b hb => ⟨by omega, by omega⟩))
  clear hY hZ KY KZ
  have HIN : IntsIn Z w.heap.size Z.heap.size (some ⟨g, 0, none⟩) l := by
    refine ⟨HW.out.1, ?_⟩
    rcases HW.out.2 with e | ⟨b, o, ha, hB, hc⟩
    · exact .inl e
    · by_cases e : l.length = 0
      · exact .inl e
      have hlt := lt_of_cell (hc 0 (by omega)).1
      have hlt' : b < w1.heap.size := hlt
      have hs := K.size
      exact .inr ⟨b, o, ha, by omega, by omega, fun i hi => ⟨by rw [K.cell (p := ⟨b, o + i, none⟩) hlt' (by show ¬ (_ ∧ b < g); omega)]; exact (hc i hi).1, by rw [K.frozen (p := ⟨b, o + i, none⟩) hlt' (by show ¬ (_ ∧ b < g); omega)]; exact (hc i hi).2⟩⟩
  obtain ⟨d0, d1, d2, d3⟩ := L2
  exact bodyPost_ret (v := pv (some ⟨g, 0, none⟩) l.length l.length v) (by simp [results, Try.results34, go_sem, d0, d1]) rfl ⟨g, rfl, HIN, HB1.out.trans (K.below (fun b hb => hb.1) HB1.out.size)⟩
set_option maxHeartbeats 2000000 in
theorem eqPick (w : World) (a a' : Option Addr) (l : List Int) (c c' : Nat) (v : Int) (h : Ints w a l) (h' : Ints w a' l) :
    Calls Try.prog 36 #[pv a l.length c v, pv a' l.length c' v] w fun e w' => e = .returned (.bool true) ∧ Below w.heap.size w w' := by
  have H : Hid (Ints w a l) := h
  have H' : Hid (Ints w a' l) := h'
  clear h h'
  obtain ⟨X0, hX0⟩ : ∃ X, X = (w.alloc (.cells #[.slice a l.length c, .int .i64 v] 60)).alloc (.cells #[.slice a' l.length c', .int .i64 v] 60) := ⟨_, rfl⟩
  have HB : Hid (Below w.heap.size w X0) := by rw [hX0]; exact ((Below.refl _ _).alloc (Nat.le_refl _) _).alloc (by simp) _
  have HP : Hid (Pb X0 w.heap.size a l.length c v) := by rw [hX0]; exact (Pb.made _ _ _ _ _ _).kept (S := fun _ => False) ((Kept.refl _ _).alloc _) (fun h => h)
  have HQ : Hid (Pb X0 (w.heap.size + 1) a' l.length c' v) := by
    have := Pb.made (w.alloc (.cells #[.slice a l.length c, .int .i64 v] 60)) a' l.length c' v 60
    rw [← hX0] at this
    have h2 : Pb X0 (w.heap.size + 1) a' l.length c' v := by simpa using this
    exact h2
  have hvv : (v != v) = false := by simp
  go_enter Try.func36, Try.ntmps36
  go_upto_region 1 with fail
  rw [← hX0]
  clear hX0
  obtain ⟨p0, p1⟩ := HP.out
  obtain ⟨q0, q1⟩ := HQ.out
  have hp := HP.out.lt
  have hq := HQ.out.lt
  go_wp2_with fail
  clear p0 p1 q0 q1 hp hq
  refine (eqIntB _ a a' l c c' (H.out.below HB.out) (H'.out.below HB.out)).mono ?_
  rintro e w1 ⟨rfl, hb⟩
  obtain ⟨p0, p1⟩ := HP.out.below hb
  obtain ⟨q0, q1⟩ := HQ.out.below hb
  have hp := lt_of_cell p0
  have hq := lt_of_cell q0
  have HB1 : Hid (Below w.heap.size w w1) := HB.out.trans (hb.mono HB.out.size)
  clear hb
  go_wp2
  go_ret
  exact ⟨rfl, HB1.out⟩
set_option maxHeartbeats 2000000 in
theorem markPick (w : World) (B : Nat) (a : Option Addr) (l : List Int) (c : Nat) (v : Int) (h : WInts w B a l) (hl : l.length ≤ 1048576) :
    Calls Try.prog 39 #[pv a l.length c v, .int .i64 1] w fun e w' => e = .returned (.int .i64 (1 + (l.length : Int))) ∧ WInts w' B a (marks l.length 1) ∧ Kept (Ats l.length a) w w' := by
  have K0 : Kept (fun _ => False) w (w.alloc (.cells #[.slice a l.length c, .int .i64 v] 60)) := (Kept.refl _ _).alloc _
  have HK : Hid (Kept (Ats l.length a) w (w.alloc (.cells #[.slice a l.length c, .int .i64 v] 60))) := K0.mono (fun _ e => e.elim)
  have HW : Hid (WInts (w.alloc (.cells #[.slice a l.length c, .int .i64 v] 60)) B a l) := by
    refine ⟨h.1, ?_⟩
    rcases h.2 with e | ⟨b, o, ha, hB, hc⟩
    · exact .inl e
    · exact .inr ⟨b, o, ha, hB, fun i hi => ⟨by rw [K0.cell (p := ⟨b, o + i, none⟩) (lt_of_cell (hc i hi).1) (fun h => h)]; exact (hc i hi).1, by rw [K0.frozen (p := ⟨b, o + i, none⟩) (lt_of_cell (hc i hi).1) (fun h => h)]; exact (hc i hi).2⟩⟩
  clear K0 h
  go_enter Try.func39, Try.ntmps39
  go_wp2_with fail
  refine (markIntB _ B a l c HW.out 1 (by omega) (by omega) hl).mono ?_
  rintro e w1 ⟨rfl, hw, hk⟩
  have HW1 : Hid (WInts w1 B a (marks l.length 1)) := hw
  have HK1 : Hid (Kept (Ats l.length a) w w1) := HK.out.trans hk
  clear hw hk
  go_wp2
  go_ret
  exact ⟨rfl, HW1.out, HK1.out⟩
set_option maxHeartbeats 2000000 in
theorem heldPick (w : World) (a : Option Addr) (n c : Nat) (v : Int) (h : Ints w a (marks n 1)) (hl : n ≤ 1048576) :
    Calls Try.prog 40 #[pv a n c v, .int .i64 1] w fun e w' => e = .returned (.int .i64 (1 + (n : Int))) ∧ Below w.heap.size w w' := by
  have HB : Hid (Below w.heap.size w (w.alloc (.cells #[.slice a n c, .int .i64 v] 60))) := (Below.refl _ _).alloc (Nat.le_refl _) _
  have H : Hid (Ints (w.alloc (.cells #[.slice a n c, .int .i64 v] 60)) a (marks n 1)) := h.below HB.out
  clear h
  have hz : ¬ (1 : Int) + (n : Int) < 0 := by omega
  go_enter Try.func40, Try.ntmps40
  go_wp2_with fail
  refine (heldIntB _ a n c 1 H.out (by omega) (by omega) hl).mono ?_
  rintro e w1 ⟨rfl, hw⟩
  have hw' := hw.symm
  clear hw
  subst hw'
  go_wp2
  go_ret
  exact ⟨rfl, HB.out⟩
end Go.Proofs.Ytlpbfbghgacjiaa.Wp0
