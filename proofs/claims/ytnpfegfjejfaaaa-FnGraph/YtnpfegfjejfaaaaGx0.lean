/- Small functions of the laws over graphs. -/
import Derived.Deep.RegionHeld3
import Derived.Test.YtnpfegfjejfaaaaQb1
import Derived.Test.YtnpfegfjejfaaaaGr0
namespace Go.Proofs.Ytnpfegfjejfaaaa.Gx0
open Go.RowKit
open Nd0 Qb0 Qb1 Gr0
set_option linter.unusedVariables false

/-- A block of two cells. -/
structure Lay (W : World) (b : Nat) (x y : Value) : Prop where
  c0 : W.cell? ⟨b, 0, none⟩ = some x
  c1 : W.cell? ⟨b, 1, none⟩ = some y
  z0 : W.frozen? ⟨b, 0, none⟩ = false
  z1 : W.frozen? ⟨b, 1, none⟩ = false
theorem Lay.lt {W : World} {b : Nat} {x y : Value} (h : Lay W b x y) : b < W.heap.size := World.block_lt_of_cell? _ _ h.c0
theorem Lay.kept {W W' : World} {b : Nat} {x y : Value} (h : Lay W b x y) {S : Nat → Prop} (k : Kept S W W') (hs : ¬ S b) : Lay W' b x y :=
  ⟨by rw [k.cell (p := ⟨b, 0, none⟩) h.lt hs]; exact h.c0, by rw [k.cell (p := ⟨b, 1, none⟩) h.lt hs]; exact h.c1, by rw [k.frozen (p := ⟨b, 0, none⟩) h.lt hs]; exact h.z0, by rw [k.frozen (p := ⟨b, 1, none⟩) h.lt hs]; exact h.z1⟩
theorem Lay.below {W W' : World} {b : Nat} {x y : Value} (h : Lay W b x y) (k : Below W.heap.size W W') : Lay W' b x y := h.kept (S := fun _ => False) (Kept.ofBelow k) (fun h => h)
theorem Lay.made (W : World) (x y : Value) (T : Nat) : Lay (W.alloc (.cells #[x, y] T)) W.heap.size x y := ⟨by simp, by simp, by simp, by simp⟩
theorem Lay.alloc {W : World} {b : Nat} {x y : Value} (h : Lay W b x y) (o : Obj) : Lay (W.alloc o) b x y := h.kept (S := fun _ => False) ((Kept.refl _ _).alloc _) (fun h => h)
theorem Lay.drew {W : World} {b : Nat} {x y : Value} (h : Lay W b x y) : Lay W.drew b x y := h.kept (S := fun _ => False) ((Kept.refl _ _).drew) (fun h => h)

set_option maxHeartbeats 1000000 in
theorem toGraph (w : World) (ins : Int) (a : Option Addr) (l : List An) (c : Nat) (h : Ans w a l) (hl : l.length ≤ 1048576) :
    Calls Try.prog 26 #[.agg #[.int .i64 ins, .slice a l.length c]] w fun e w' => e = .returned (.agg #[.int .i64 ins, .slice (some ⟨w.heap.size + 3, 0, none⟩) l.length l.length]) ∧ WAns w' w.heap.size (some ⟨w.heap.size + 3, 0, none⟩) l ∧ Below w.heap.size w w' := by
  have H : Hid (Ans w a l) := h
  clear h
  go_enter Try.func26, Try.ntmps26
  go_wp2_with fail
  obtain ⟨W, hW⟩ : ∃ W, W = ((w.alloc (.cells #[.int .i64 ins, .slice a l.length c] 44)).alloc (.cells #[.int .i64 0, .slice none 0 0] 29)).alloc (.cells #[.int .i64 ins, .slice none 0 0] 29) := ⟨_, rfl⟩
  have hb : Below w.heap.size w W := by rw [hW]; exact (((Below.refl _ _).alloc (Nat.le_refl _) _).alloc (by simp) _).alloc (by simp; omega) _
  have hs : W.heap.size = w.heap.size + 3 := by rw [hW]; simp
  have L1 : Lay W (w.heap.size + 1) (.int .i64 0) (.slice none 0 0) := by
    rw [hW]
    have h := (Lay.made (w.alloc (.cells #[.int .i64 ins, .slice a l.length c] 44)) (.int .i64 0) (.slice none 0 0) 29).alloc (.cells #[.int .i64 ins, .slice none 0 0] 29)
    have hA : (w.alloc (.cells #[.int .i64 ins, .slice a l.length c] 44)).heap.size = w.heap.size + 1 := by simp
    rw [hA] at h
    exact h
  have L2 : Lay W (w.heap.size + 1 + 1) (.int .i64 ins) (.slice none 0 0) := by
    rw [hW]
    have h := Lay.made ((w.alloc (.cells #[.int .i64 ins, .slice a l.length c] 44)).alloc (.cells #[.int .i64 0, .slice none 0 0] 29)) (.int .i64 ins) (.slice none 0 0) 29
    have hA : ((w.alloc (.cells #[.int .i64 ins, .slice a l.length c] 44)).alloc (.cells #[.int .i64 0, .slice none 0 0] 29)).heap.size = w.heap.size + 1 + 1 := by simp
    rw [hA] at h
    exact h
  obtain ⟨e0, e1, f0, f1⟩ := L1
  obtain ⟨e2, e3, f2, f3⟩ := L2
  rw [← hW]
  have HB : Hid (Below w.heap.size w W) := hb
  have HS : Hid (W.heap.size = w.heap.size + 3) := hs
  clear hW hb
  refine (toAndS _ a l c (H.out.below HB.out) hl).mono ?_
  rintro e w2 ⟨rfl, hw, hb2⟩
  have HW2 : Hid (WAns w2 W.heap.size (some ⟨W.heap.size, 0, none⟩) l) := hw
  have HB2 : Hid (Below W.heap.size W w2) := hb2
  have hlt1 : w.heap.size + 1 < W.heap.size := by omega
  have hlt2 : w.heap.size + 1 + 1 < W.heap.size := by omega
  have d0 : w2.cell? ⟨w.heap.size + 1, 0, none⟩ = some (.int .i64 0) := by rw [hb2.cell (p := ⟨w.heap.size + 1, 0, none⟩) hlt1]; exact e0
  have d1 : w2.cell? ⟨w.heap.size + 1, 1, none⟩ = some (.slice none 0 0) := by rw [hb2.cell (p := ⟨w.heap.size + 1, 1, none⟩) hlt1]; exact e1
  have d2 : w2.cell? ⟨w.heap.size + 1 + 1, 0, none⟩ = some (.int .i64 ins) := by rw [hb2.cell (p := ⟨w.heap.size + 1 + 1, 0, none⟩) hlt2]; exact e2
  have d3 : w2.cell? ⟨w.heap.size + 1 + 1, 1, none⟩ = some (.slice none 0 0) := by rw [hb2.cell (p := ⟨w.heap.size + 1 + 1, 1, none⟩) hlt2]; exact e3
  have g0 : w2.frozen? ⟨w.heap.size + 1, 0, none⟩ = false := by rw [hb2.frozen (p := ⟨w.heap.size + 1, 0, none⟩) hlt1]; exact f0
  have g1 : w2.frozen? ⟨w.heap.size + 1, 1, none⟩ = false := by rw [hb2.frozen (p := ⟨w.heap.size + 1, 1, none⟩) hlt1]; exact f1
  have g3 : w2.frozen? ⟨w.heap.size + 1 + 1, 1, none⟩ = false := by rw [hb2.frozen (p := ⟨w.heap.size + 1 + 1, 1, none⟩) hlt2]; exact f3
  clear hw hb2 e0 e1 e2 e3 f0 f1 f2 f3 hlt1 hlt2
  rw [hs]
  clear hs
  go_wp2
  refine bodyPost_ret (v := .agg #[.int .i64 ins, .slice (some ⟨w.heap.size + 3, 0, none⟩) l.length l.length]) (by simp [results, Try.results26, go_sem, d0, d1]) rfl ⟨rfl, ?_⟩
  have K : Kept (fun b => b = w.heap.size + 1 ∨ b = w.heap.size + 1 + 1) w2 (((w2.setCell ⟨w.heap.size + 1 + 1, 1, none⟩ (.slice (some ⟨w.heap.size + 3, 0, none⟩) l.length l.length)).setCell ⟨w.heap.size + 1, 0, none⟩ (.int .i64 ins)).setCell ⟨w.heap.size + 1, 1, none⟩ (.slice (some ⟨w.heap.size + 3, 0, none⟩) l.length l.length)) :=
    (((Kept.refl (fun b => b = w.heap.size + 1 ∨ b = w.heap.size + 1 + 1) w2).setCell (p := ⟨w.heap.size + 1 + 1, 1, none⟩) (.inr rfl) _).setCell (p := ⟨w.heap.size + 1, 0, none⟩) (.inl rfl) _).setCell (p := ⟨w.heap.size + 1, 1, none⟩) (.inl rfl) _
  have hs := HS.out
  have hb2 := HB2.out.size
  refine ⟨?_, HB.out.trans ((HB2.out.mono (by omega)).trans (K.below (fun k hk => by omega) (by omega)))⟩
  have h1 := HW2.out
  rw [hs] at h1
  have h2 := (h1.within.kept K (fun b h1 h2 h3 => by omega)).wr
  refine ⟨h2.1, ?_⟩
  rcases h2.2 with e | ⟨b, o, ha, hB, hc, hf⟩
  · exact .inl e
  · exact .inr ⟨b, o, ha, by omega, hc, hf⟩

set_option maxHeartbeats 1000000 in
theorem eqGraph (w : World) (ins : Int) (a a' : Option Addr) (l : List An) (c c' : Nat) (h : Ans w a l) (h' : Ans w a' l) :
    Calls Try.prog 27 #[.agg #[.int .i64 ins, .slice a l.length c], .agg #[.int .i64 ins, .slice a' l.length c']] w fun e w' => e = .returned (.bool true) ∧ Below w.heap.size w w' := by
  have H : Hid (Ans w a l) := h
  have H' : Hid (Ans w a' l) := h'
  have hne : (ins != ins) = false := by simp
  clear h h'
  go_enter Try.func27, Try.ntmps27
  go_wp2_with fail
  have hb : Below w.heap.size w ((w.alloc (.cells #[.int .i64 ins, .slice a l.length c] 29)).alloc (.cells #[.int .i64 ins, .slice a' l.length c'] 29)) := ((Below.refl _ _).alloc (Nat.le_refl _) _).alloc (by simp) _
  refine (eqAndS _ a a' l c c' (H.out.below hb) (H'.out.below hb)).mono ?_
  rintro e w2 ⟨rfl, hb2⟩
  have HB : Hid (Below w.heap.size w w2) := hb.trans (hb2.mono hb.size)
  clear hb hb2
  go_wp2
  go_ret
  exact ⟨rfl, HB.out⟩

set_option maxHeartbeats 1000000 in
theorem szGraph (w : World) (ins : Int) (a : Option Addr) (n c : Nat) (hn : n ≤ maxLen) :
    Calls Try.prog 24 #[.agg #[.int .i64 ins, .slice a n c], .int .i64 1048576] w fun e w' => e = .returned (.int .i64 (if (n : Int) ≤ 1048576 then 1048576 - n else -1)) ∧ Below w.heap.size w w' := by
  have HB : Hid (Below w.heap.size w (w.alloc (.cells #[.int .i64 ins, .slice a n c] 44))) := (Below.refl _ _).alloc (Nat.le_refl _) _
  by_cases hc : (n : Int) ≤ 1048576
  · go_enter Try.func24, Try.ntmps24
    go_wp2_with fail
    refine (szAndS _ a n c _ (by omega) (by omega) hn).mono ?_
    rw [if_pos hc]
    rintro e w2 ⟨rfl, rfl⟩
    have hp : ¬ 1048576 - (n : Int) < 0 := by omega
    go_wp2
    go_ret
    exact ⟨rfl, HB.out⟩
  · go_enter Try.func24, Try.ntmps24
    go_wp2_with fail
    refine (szAndS _ a n c _ (by omega) (by omega) hn).mono ?_
    rw [if_neg (by omega)]
    rintro e w2 ⟨rfl, rfl⟩
    go_wp2
    go_ret
    exact ⟨rfl, HB.out⟩

set_option maxHeartbeats 1000000 in
theorem markGraph (w : World) (ins : Int) (B : Nat) (a : Option Addr) (l : List An) (c : Nat) (h : WAns w B a l) (hl : l.length ≤ 1048576) :
    Calls Try.prog 30 #[.agg #[.int .i64 ins, .slice a l.length c], .int .i64 1] w fun e w' => e = .returned (.int .i64 (1 + 2 * l.length)) ∧ WAns w' B a (markAn l.length 1) ∧ Kept (Ats l.length a) w w' := by
  have H : Hid (WAns w B a l) := h
  clear h
  go_enter Try.func30, Try.ntmps30
  go_wp2_with fail
  have K : Kept (fun _ => False) w (w.alloc (.cells #[.int .i64 ins, .slice a l.length c] 29)) := (Kept.refl _ _).alloc _
  refine (markAndS _ B a l c (H.out.within.kept K (fun _ _ _ e => e)).wr 1 (by omega) (by omega) hl).mono ?_
  rintro e w2 ⟨rfl, hw, hk⟩
  have HW : Hid (WAns w2 B a (markAn l.length 1)) := hw
  have HK : Hid (Kept (Ats l.length a) w w2) := (K.mono (fun _ e => e.elim)).trans hk
  clear hw hk K
  go_wp2
  go_ret
  exact ⟨rfl, HW.out, HK.out⟩

set_option maxHeartbeats 1000000 in
theorem heldGraph (w : World) (ins : Int) (a : Option Addr) (n c : Nat) (h : Ans w a (markAn n 1)) (hl : n ≤ 1048576) :
    Calls Try.prog 31 #[.agg #[.int .i64 ins, .slice a n c], .int .i64 1] w fun e w' => e = .returned (.int .i64 (1 + 2 * n)) ∧ Below w.heap.size w w' := by
  have H : Hid (Ans w a (markAn n 1)) := h
  clear h
  have hb : Below w.heap.size w (w.alloc (.cells #[.int .i64 ins, .slice a n c] 29)) := (Below.refl _ _).alloc (Nat.le_refl _) _
  have HB : Hid (Below w.heap.size w (w.alloc (.cells #[.int .i64 ins, .slice a n c] 29))) := hb
  have hq : ¬ (1 : Int) + 2 * (n : Int) < 0 := by omega
  go_enter Try.func31, Try.ntmps31
  go_wp2_with fail
  refine (heldAndS _ a n c 1 (H.out.below hb) (by omega) (by omega) hl).mono ?_
  rintro e w2 ⟨rfl, hw2⟩
  have hw2' := hw2.symm
  clear hw2 hb
  subst hw2'
  go_wp2
  go_ret
  exact ⟨rfl, HB.out⟩

end Go.Proofs.Ytnpfegfjejfaaaa.Gx0
