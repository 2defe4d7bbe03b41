/- The model's l07Copy, l07And. -/
import Derived.Deep.RegionHeld3
import Derived.Deep.RegionLaw
import Derived.Deep.CutBlock
import Derived.Deep.CutRange
import Derived.Test.YtnpfegfjejfaaaaGs2
import Derived.Test.YtnpfegfjejfaaaaGr1
import Derived.Test.YtnpfegfjejfaaaaGx0
import Derived.Test.YtnpfegfjejfaaaaAp10
import Derived.Test.YtnpfegfjejfaaaaGp1
namespace Go.Proofs.Ytnpfegfjejfaaaa.Gs3
open Go.RowKit
open Nd0 Qb0 Qb2 Gr0 Gr1 Gx0 Ap10 Gs1 Gs2
open Gp1 (xor1)
set_option linter.unusedVariables false

theorem sTurn (x : Int) (w : World) (h0 : -9223372036854775808 ≤ x) (h1 : x ≤ 9223372036854775807) : Calls Try.prog 99 #[.int .i64 x] w fun e w' => e = .returned (.int .i64 (turnW x)) ∧ w' = w := by
  have e := xor1 h0 h1
  go_enter Try.func99, Try.ntmps99
  go_wp2
  go_ret
  exact ⟨rfl, rfl⟩

/-- Two boxes of graphs, one behind the other: what came in, and the answer's. -/
structure Bx (W : World) (q : Nat) (x y u v : Value) : Prop where
  g : Lay W q x y
  r : Lay W (q + 1) u v
theorem Bx.made (w : World) (x y u v : Value) (T T' : Nat) : Bx ((w.alloc (.cells #[x, y] T)).alloc (.cells #[u, v] T')) w.heap.size x y u v := by
  refine ⟨(Lay.made _ _ _ _).alloc _, ?_⟩
  have h := Lay.made (w.alloc (.cells #[x, y] T)) u v T'
  have hA : (w.alloc (.cells #[x, y] T)).heap.size = w.heap.size + 1 := by simp
  rw [hA] at h
  exact h
theorem Bx.kept {W W' : World} {q : Nat} {x y u v : Value} (h : Bx W q x y u v) {S : Nat → Prop} (k : Kept S W W') (h1 : ¬ S q) (h2 : ¬ S (q + 1)) : Bx W' q x y u v := ⟨h.g.kept k h1, h.r.kept k h2⟩
theorem Bx.below {W W' : World} {q : Nat} {x y u v : Value} (h : Bx W q x y u v) (k : Below W.heap.size W W') : Bx W' q x y u v := ⟨h.g.below k, h.r.below k⟩

set_option maxHeartbeats 2000000 in
theorem sCopy (w : World) (ins : Int) (gx ox c : Nat) (l : List An) (h : Ans w (some ⟨gx, ox, none⟩) l) (hl : l.length ≤ 1048576) :
    Calls Try.prog 71 #[.agg #[.int .i64 ins, .slice (some ⟨gx, ox, none⟩) l.length c]] w fun e w' => ∃ g' cp, e = .returned (.agg #[.int .i64 ins, .slice (some ⟨g', 0, none⟩) l.length cp]) ∧ OwAn w' w.heap.size (.slice (some ⟨g', 0, none⟩) l.length cp) l ∧ Below w.heap.size w w' := by
  have H : Hid (Ans w (some ⟨gx, ox, none⟩) l) := h
  clear h
  go_enter Try.func71, Try.ntmps71
  go_wp2
  obtain ⟨W, hW⟩ : ∃ W, W = (w.alloc (.cells #[.int .i64 ins, .slice (some ⟨gx, ox, none⟩) l.length c] 29)).alloc (.cells #[.int .i64 0, .slice none 0 0] 29) := ⟨_, rfl⟩
  have HB : Hid (Below w.heap.size w W) := by rw [hW]; exact ((Below.refl _ _).alloc (Nat.le_refl _) _).alloc (by simp) _
  have hs : W.heap.size = w.heap.size + 1 + 1 := by rw [hW]; simp
  have LB : Hid (Bx W w.heap.size (.int .i64 ins) (.slice (some ⟨gx, ox, none⟩) l.length c) (.int .i64 0) (.slice none 0 0)) := by rw [hW]; exact Bx.made _ _ _ _ _ _ _
  rw [← hW]
  have HS : Hid (W.heap.size = w.heap.size + 1 + 1) := hs
  have hW0 : (w.alloc (.cells #[.int .i64 ins, .slice (some ⟨gx, ox, none⟩) l.length c] 29)).heap.size = w.heap.size + 1 := by simp
  clear hW hs hW0
  have hqw : w.heap.size + 1 < W.heap.size := by have := HS.out; omega
  have L0 : Lay W.drew w.heap.size (.int .i64 ins) (.slice (some ⟨gx, ox, none⟩) l.length c) := LB.out.g.drew
  have L1 : Lay (W.alloc (.cells #[] 89)).drew w.heap.size (.int .i64 ins) (.slice (some ⟨gx, ox, none⟩) l.length c) := (LB.out.g.alloc _).drew
  have HLIT : Hid (OwAn (W.alloc (.cells #[] 89)).drew W.heap.size (.slice (some ⟨W.heap.size, 0, none⟩) 0 0) []) := (OwAn.lit W W.heap.size (Nat.le_refl _)).kept (S := fun _ => False) (Kept.refl _ _).drew (fun _ _ e => e)
  have hBa : Below W.heap.size W (W.alloc (.cells #[] 89)).drew := ((Below.refl _ _).alloc (Nat.le_refl _) _).drew
  have HBA : Hid (Below W.heap.size W (W.alloc (.cells #[] 89)).drew) := hBa
  have HAX : Hid (Ans (W.alloc (.cells #[] 89)).drew (some ⟨gx, ox, none⟩) l) := (H.out.below HB.out).below hBa
  have hBs : W.heap.size ≤ (W.alloc (.cells #[] 89)).drew.heap.size := hBa.size
  clear hBa
  go_region_held3 (fun w' => w'.cell? ⟨w.heap.size, 0, none⟩ = some (.int .i64 ins) ∧ w'.cell? ⟨w.heap.size, 1, none⟩ = some (.slice (some ⟨gx, ox, none⟩) l.length c)) ((first | exact ⟨L0.c0, L0.c1⟩ | exact ⟨L1.c0, L1.c1⟩ | exact ⟨L2.out.c0, L2.out.c1⟩ | exact ⟨L3.out.c0, L3.out.c1⟩)) ((refine step_ans _ (by rfl) _ _ (by rfl) W.heap.size _ gx ox c l (by rfl) (by rfl) HLIT.out HAX.out hBs (by omega) ?_; intro g' cp w9 hO9 hB9; have HO9 : Hid (OwAn w9 W.heap.size (.slice (some ⟨g', 0, none⟩) l.length cp) l) := hO9; have HB9 : Hid (Below W.heap.size W w9) := HBA.out.trans hB9; have L2 : Hid (Lay w9 w.heap.size (.int .i64 ins) (.slice (some ⟨gx, ox, none⟩) l.length c)) := LB.out.g.below HB9.out; have R2 := LB.out.r.below HB9.out; have y0 := R2.c0; have y1 := R2.c1; have z0 := R2.z0; have z1 := R2.z1; have K3 : Hid (Kept (fun k => k = w.heap.size + 1) w9 ((w9.setCell ⟨w.heap.size + 1, 0, none⟩ (.int .i64 ins)).setCell ⟨w.heap.size + 1, 1, none⟩ (.slice (some ⟨g', 0, none⟩) l.length cp))) := Kept.setCell (S := fun k => k = w.heap.size + 1) (Kept.setCell (S := fun k => k = w.heap.size + 1) (Kept.refl _ w9) (p := ⟨w.heap.size + 1, 0, none⟩) rfl _) (p := ⟨w.heap.size + 1, 1, none⟩) rfl _; have L3 : Hid (Lay ((w9.setCell ⟨w.heap.size + 1, 0, none⟩ (.int .i64 ins)).setCell ⟨w.heap.size + 1, 1, none⟩ (.slice (some ⟨g', 0, none⟩) l.length cp)) w.heap.size (.int .i64 ins) (.slice (some ⟨gx, ox, none⟩) l.length c)) := L2.out.kept K3.out (by omega); clear R2 hO9 hB9))
  go_wp2
  refine bodyPost_ret (v := .agg #[.int .i64 ins, .slice (some ⟨g', 0, none⟩) l.length cp]) (by simp [results, Try.results71, go_sem, y0, y1]) rfl ?_
  have hg := HO9.out.lt g' rfl
  have hs := HS.out
  have h2 := HO9.out.kept K3.out (fun i e h => by have e' : g' = i := (by simpa [Value.ownBlock] using e); omega)
  refine ⟨g', cp, rfl, ⟨h2.1, ?_⟩, HB.out.trans ((HB9.out.mono HB.out.size).trans (K3.out.below (fun k e => by omega) (Nat.le_trans HB.out.size HB9.out.size)))⟩
  rcases h2.2 with e | ⟨g, cap, cur, q1, q2, q3⟩
  · exact .inl e
  · exact .inr ⟨g, cap, cur, q1, by omega, q3⟩

/-- What l07And does: the graph's list grows or not; the wire. -/
def SAPost (w : World) (B : Nat) (v : Value) (ins : Int) (r : List An × Int) (e : Ending) (w' : World) : Prop :=
  ∃ v', e = .returned (.tuple #[.agg #[.int .i64 ins, v'], .int .i64 r.2]) ∧ OwAn w' B v' r.1 ∧ Kept (fun k => v.ownBlock = some k) w w' ∧ ∀ k, v'.ownBlock = some k → v.ownBlock = some k ∨ w.heap.size ≤ k
/-- The answer's box is filled: the list is as it was. -/
theorem same_post {w W w9 : World} {B : Nat} {v : Value} {ins : Int} {l : List An} {x : Int} (hO : OwAn w B v l) (hB : Below w.heap.size w W) (h9 : Kept (fun k => k = w.heap.size + 1) W w9) : SAPost w B v ins (l, x) (.returned (.tuple #[.agg #[.int .i64 ins, v], .int .i64 x])) w9 := by
  have hlt : ∀ k, v.ownBlock = some k → k < w.heap.size := fun k e => (hO.lt k e).2
  refine ⟨v, rfl, (hO.kept (S := fun _ => False) (Kept.ofBelow hB) (fun _ _ e => e)).kept h9 (fun k e h => by have := hlt k e; omega), ?_, fun k e => .inl e⟩
  exact ⟨h9.os.trans hB.os, h9.tape.trans hB.tape, h9.output.trans hB.output, Nat.le_trans hB.size h9.size, fun k hk _ => (h9.block k (Nat.lt_of_lt_of_le hk hB.size) (by omega)).trans (hB.block k hk)⟩

set_option maxRecDepth 100000 in
set_option maxHeartbeats 8000000 in
theorem sAndL (w : World) (B : Nat) (ins : Int) (av : Option Addr) (cv : Nat) (l : List An) (hO : OwAn w B (.slice av l.length cv) l) (hBw : B ≤ w.heap.size) (a b : Int) (hab : a ≤ b) (h0 : 0 ≤ ins) (h1 : ins ≤ 12) (hl : l.length ≤ 3000) (ha : 0 ≤ a) (hb : b ≤ 1000000) :
    Calls Try.prog 72 #[.agg #[.int .i64 ins, .slice av l.length cv], .int .i64 a, .int .i64 b] w (SAPost w B (.slice av l.length cv) ins (andL ins l a b)) := by
  have HO : Hid (OwAn w B (.slice av l.length cv) l) := hO
  clear hO
  obtain ⟨W, hW⟩ : ∃ W, W = (w.alloc (.cells #[.int .i64 ins, .slice av l.length cv] 29)).alloc (.cells #[.int .i64 0, .slice none 0 0] 29) := ⟨_, rfl⟩
  have HB : Hid (Below w.heap.size w W) := by rw [hW]; exact ((Below.refl _ _).alloc (Nat.le_refl _) _).alloc (by simp) _
  have hs : W.heap.size = w.heap.size + 1 + 1 := by rw [hW]; simp
  have LB : Hid (Bx W w.heap.size (.int .i64 ins) (.slice av l.length cv) (.int .i64 0) (.slice none 0 0)) := by rw [hW]; exact Bx.made _ _ _ _ _ _ _
  have HW : Hid (W = (w.alloc (.cells #[.int .i64 ins, .slice av l.length cv] 29)).alloc (.cells #[.int .i64 0, .slice none 0 0] 29)) := hW
  clear hW
  obtain ⟨q, hq⟩ : ∃ q, q = w.heap.size := ⟨_, rfl⟩
  have HQ : Hid (q = w.heap.size) := hq
  rw [← hq] at hs LB
  clear hq
  have y0 := LB.out.r.c0
  have y1 := LB.out.r.c1
  have z0 := LB.out.r.z0
  have z1 := LB.out.r.z1
  have g0 := LB.out.g.c0
  have g1 := LB.out.g.c1
  have hab' : ¬ b < a := by omega
  have hqne : ¬ q = q + 1 := by omega
  go_enter Try.func72, Try.ntmps72
  go_upto_region 1 with fail
  rw [← HW.out, ← HQ.out]
  by_cases e1 : a = 0
  · have HR : Hid (andL ins l a b = (l, 0)) := by show _ = _; unfold andL; rw [if_pos (.inl e1)]
    have b1 : (a == 0) = true := beq_iff_eq.2 e1
    clear e1
    go_wp2
    refine bodyPost_ret (v := .tuple #[.agg #[.int .i64 ins, .slice av l.length cv], .int .i64 0]) (by simp [results, Try.results72, go_sem, y0, y1]) rfl ?_
    rw [HR.out]
    exact same_post HO.out HB.out (by rw [← HQ.out]; exact Kept.setCell (S := fun k => k = q + 1) (Kept.setCell (S := fun k => k = q + 1) (Kept.refl _ W) (p := ⟨q + 1, 0, none⟩) rfl _) (p := ⟨q + 1, 1, none⟩) rfl _)
  have b1 : (a == 0) = false := beq_eq_false_iff_ne.2 e1
  go_wp2_with fail
  refine (sTurn b _ (by omega) (by omega)).mono ?_
  rintro e w2 ⟨rfl, hw2⟩
  have hw2' := hw2.symm
  clear hw2
  subst hw2'
  by_cases e2 : a = turnW b
  · have HR : Hid (andL ins l a b = (l, 0)) := by show _ = _; unfold andL; rw [if_pos (.inr e2)]
    have b2 : (a == turnW b) = true := beq_iff_eq.2 e2
    generalize turnW b = tb at *
    clear e1 e2
    go_wp2
    refine bodyPost_ret (v := .tuple #[.agg #[.int .i64 ins, .slice av l.length cv], .int .i64 0]) (by simp [results, Try.results72, go_sem, y0, y1]) rfl ?_
    rw [HR.out]
    exact same_post HO.out HB.out (by rw [← HQ.out]; exact Kept.setCell (S := fun k => k = q + 1) (Kept.setCell (S := fun k => k = q + 1) (Kept.refl _ W) (p := ⟨q + 1, 0, none⟩) rfl _) (p := ⟨q + 1, 1, none⟩) rfl _)
  have b2 : (a == turnW b) = false := beq_eq_false_iff_ne.2 e2
  have hz : ¬ (a = 0 ∨ a = turnW b) := fun e => by rcases e with e | e; exact e1 e; exact e2 e
  have HZ : Hid (¬ (a = 0 ∨ a = turnW b)) := hz
  clear hz e2 e1
  by_cases e3 : a = 1 ∨ a = b
  · have HR : Hid (andL ins l a b = (l, b)) := by show _ = _; unfold andL; rw [if_neg HZ.out, if_pos e3]
    generalize turnW b = tb at *
    by_cases e4 : a = 1
    · have b3 : (a == 1) = true := beq_iff_eq.2 e4
      clear e3 e4
      go_wp2
      refine bodyPost_ret (v := .tuple #[.agg #[.int .i64 ins, .slice av l.length cv], .int .i64 b]) (by simp [results, Try.results72, go_sem, y0, y1]) rfl ?_
      rw [HR.out]
      exact same_post HO.out HB.out (by rw [← HQ.out]; exact Kept.setCell (S := fun k => k = q + 1) (Kept.setCell (S := fun k => k = q + 1) (Kept.refl _ W) (p := ⟨q + 1, 0, none⟩) rfl _) (p := ⟨q + 1, 1, none⟩) rfl _)
    · have b3 : (a == 1) = false := beq_eq_false_iff_ne.2 e4
      have b4 : (a == b) = true := beq_iff_eq.2 (by rcases e3 with e | e; exact absurd e e4; exact e)
      clear e3 e4
      go_wp2
      refine bodyPost_ret (v := .tuple #[.agg #[.int .i64 ins, .slice av l.length cv], .int .i64 b]) (by simp [results, Try.results72, go_sem, y0, y1]) rfl ?_
      rw [HR.out]
      exact same_post HO.out HB.out (by rw [← HQ.out]; exact Kept.setCell (S := fun k => k = q + 1) (Kept.setCell (S := fun k => k = q + 1) (Kept.refl _ W) (p := ⟨q + 1, 0, none⟩) rfl _) (p := ⟨q + 1, 1, none⟩) rfl _)
  have b3 : (a == 1) = false := beq_eq_false_iff_ne.2 (fun e => e3 (.inl e))
  have b4 : (a == b) = false := beq_eq_false_iff_ne.2 (fun e => e3 (.inr e))
  have HY : Hid (¬ (a = 1 ∨ a = b)) := e3
  clear e3
  generalize htb : turnW b = tb at *
  have HTB : Hid (turnW b = tb) := htb
  clear htb
  go_upto_region 8 with fail
  clear b1 b2 b3 b4
  have HA : Hid (Ans W av l) := by
    obtain ⟨a', c', e', hw, _⟩ := (HO.out.kept (S := fun _ => False) (Kept.ofBelow HB.out) (fun _ _ e => e)).form
    cases e'
    exact hw.plain
  go_loop [8] (fun i => ∃ k : Nat, k ≤ l.length ∧ i = .int .i64 k ∧ ∀ j, j < k → nth l j ≠ ⟨a, b⟩) (fun i => l.length - (intOf i).toNat)
  case atStart => exact ⟨0, Nat.zero_le _, rfl, fun j hj => by omega⟩
  case round =>
    obtain ⟨k, hk, rfl, hne⟩ := hrel
    have HN : Hid (∀ j, j < k → nth l j ≠ ⟨a, b⟩) := hne
    clear hne
    by_cases hlt : k < l.length
    · have hlz : (k : Int) < (l.length : Int) := by omega
      rcases HA.out.2 with e | ⟨xb, xo, rfl, hc⟩
      · omega
      obtain ⟨p0, p1⟩ := hc k hlt
      rw [nth_get hlt] at p0 p1
      clear hc
      obtain ⟨xx, hxx⟩ : ∃ xx, xx = nth l k := ⟨_, rfl⟩
      have HXX : Hid (xx = nth l k) := hxx
      rw [← hxx] at p0 p1
      clear hxx
      obtain ⟨xa, xv⟩ := xx
      simp only at p0 p1
      by_cases hya : xa = a
      · by_cases hyb : xv = b
        · have HR : Hid (andL ins l a b = (l, 2 * (ins + 1 + (k : Int)))) := by
            show _ = _
            have hp : posOf l ⟨a, b⟩ = some k := pos_is hlt (by rw [← HXX.out, hya, hyb]) HN.out
            unfold andL
            rw [HTB.out, if_neg HZ.out, if_neg HY.out, hp]
          have b5 : (xa == a) = true := beq_iff_eq.2 hya
          have b6 : (xv == b) = true := beq_iff_eq.2 hyb
          clear hya hyb
          have wr1 : IntKind.i64.wrap (ins + 1) = ins + 1 := by rw [IntKind.wrap_i64]; omega
          have wr2 : IntKind.i64.wrap (ins + 1 + (k : Int)) = ins + 1 + (k : Int) := by rw [IntKind.wrap_i64]; omega
          have wr3 : IntKind.i64.wrap (2 * (ins + 1 + (k : Int))) = 2 * (ins + 1 + (k : Int)) := by rw [IntKind.wrap_i64]; omega
          go_wp2
          have K9 : Hid (Kept (fun k => k = q + 1) W ((W.setCell ⟨q + 1, 0, none⟩ (.int .i64 ins)).setCell ⟨q + 1, 1, none⟩ (.slice (some ⟨xb, xo, none⟩) l.length cv)).drew) := Kept.drew (Kept.setCell (S := fun k => k = q + 1) (Kept.setCell (S := fun k => k = q + 1) (Kept.refl _ W) (p := ⟨q + 1, 0, none⟩) rfl _) (p := ⟨q + 1, 1, none⟩) rfl _)
          have G9 : Hid (Lay ((W.setCell ⟨q + 1, 0, none⟩ (.int .i64 ins)).setCell ⟨q + 1, 1, none⟩ (.slice (some ⟨xb, xo, none⟩) l.length cv)).drew q (.int .i64 ins) (.slice (some ⟨xb, xo, none⟩) l.length cv)) := LB.out.g.kept K9.out (by omega)
          have G0 : Hid (Lay W.drew q (.int .i64 ins) (.slice (some ⟨xb, xo, none⟩) l.length cv)) := LB.out.g.drew
          go_region_held3 (fun w' => w'.cell? ⟨q, 0, none⟩ = some (.int .i64 ins) ∧ w'.cell? ⟨q, 1, none⟩ = some (.slice (some ⟨xb, xo, none⟩) l.length cv)) ((first | exact ⟨G0.out.c0, G0.out.c1⟩ | exact ⟨G9.out.c0, G9.out.c1⟩)) (fail)
          go_wp2
          refine bodyPost_ret (v := .tuple #[.agg #[.int .i64 ins, .slice (some ⟨xb, xo, none⟩) l.length cv], .int .i64 (2 * (ins + 1 + (k : Int)))]) (by simp [results, Try.results72, go_sem, y0, y1]) rfl ?_
          rw [HR.out]
          exact same_post HO.out HB.out (by rw [← HQ.out]; exact K9.out)
        · have b5 : (xa == a) = true := beq_iff_eq.2 hya
          have b6 : (xv == b) = false := beq_eq_false_iff_ne.2 hyb
          have HN2 : Hid (∀ j, j < k + 1 → nth l j ≠ ⟨a, b⟩) := fun j hj => by
            by_cases e : j = k
            · subst e; rw [← HXX.out]; intro e; cases e; exact hyb rfl
            · exact HN.out j (by omega)
          clear hya hyb
          go_wp2
          go_round
          case rel => exact ⟨k + 1, by omega, by go_num, HN2.out⟩
          case measure => simp [intOf]; omega
      · have b5 : (xa == a) = false := beq_eq_false_iff_ne.2 hya
        have HN2 : Hid (∀ j, j < k + 1 → nth l j ≠ ⟨a, b⟩) := fun j hj => by
          by_cases e : j = k
          · subst e; rw [← HXX.out]; intro e; cases e; exact hya rfl
          · exact HN.out j (by omega)
        clear hya
        go_wp2
        go_round
        case rel => exact ⟨k + 1, by omega, by go_num, HN2.out⟩
        case measure => simp [intOf]; omega
    · have e : k = l.length := by omega
      subst e
      have HP : Hid (posOf l ⟨a, b⟩ = none) := pos_is_none HN.out
      by_cases hfull : 3000 ≤ l.length
      · have HR : Hid (andL ins l a b = (l, -1)) := by
          show _ = _
          unfold andL
          rw [HTB.out, if_neg HZ.out, if_neg HY.out, HP.out]
          simp only
          rw [if_pos hfull]
        have hfz : (3000 : Int) ≤ (l.length : Int) := by omega
        go_wp2
        refine bodyPost_ret (v := .tuple #[.agg #[.int .i64 ins, .slice av l.length cv], .int .i64 (-1)]) (by simp [results, Try.results72, go_sem, y0, y1]) rfl ?_
        rw [HR.out]
        exact same_post HO.out HB.out (by rw [← HQ.out]; exact Kept.setCell (S := fun k => k = q + 1) (Kept.setCell (S := fun k => k = q + 1) (Kept.refl _ W) (p := ⟨q + 1, 0, none⟩) rfl _) (p := ⟨q + 1, 1, none⟩) rfl _)
      · have HR : Hid (andL ins l a b = (l ++ [⟨a, b⟩], 2 * (ins + 1 + (l.length : Int)))) := by
          show _ = _
          unfold andL
          rw [HTB.out, if_neg HZ.out, if_neg HY.out, HP.out]
          simp only
          rw [if_neg hfull]
        have hfz : ¬ (3000 : Int) ≤ (l.length : Int) := by omega
        have HOW : Hid (OwAn W B (.slice av l.length cv) l) := HO.out.kept (S := fun _ => False) (Kept.ofBelow HB.out) (fun _ _ e => e)
        have hBW : B ≤ W.heap.size := Nat.le_trans hBw HB.out.size
        have HNQ : Hid ((Value.slice av l.length cv).ownBlock ≠ some q ∧ (Value.slice av l.length cv).ownBlock ≠ some (q + 1)) := ⟨fun e => by have := (HO.out.lt _ e).2; have := HQ.out; omega, fun e => by have := (HO.out.lt _ e).2; have := HQ.out; omega⟩
        have hqW : q + 1 < W.heap.size := by omega
        have HS : Hid (W.heap.size = q + 1 + 1) := hs
        clear hs y0 y1 z0 z1
        have gz1 := LB.out.g.z1
        go_upto_region 14 with fail
        go_upto_region 15 with (at_builtin; refine appAn _ (by rfl) _ _ (by rfl) B (.slice av l.length cv) l ⟨a, b⟩ (by rfl) W.heap.size (by rfl) rfl HOW.out hBW (by omega) ?_; intro g5 cp5 w5 ho5 hk5 hg5; have HO5 : Hid (OwAn w5 B (.slice (some ⟨g5, 0, none⟩) (l.length + 1) cp5) (l ++ [⟨a, b⟩])) := ho5; have HK5 : Hid (Kept (fun k => (Value.slice av l.length cv).ownBlock = some k) W w5) := hk5; have HG5 : Hid ((Value.slice av l.length cv).ownBlock = some g5 ∨ W.heap.size ≤ g5) := hg5; have LB5 : Hid (Bx w5 q (.int .i64 ins) (.slice av l.length cv) (.int .i64 0) (.slice none 0 0)) := LB.out.kept hk5 HNQ.out.1 HNQ.out.2; have q1 := LB5.out.g.c1; have q2 := LB5.out.g.z1; clear ho5 hk5 hg5)
        clear q1 q2 g0 g1 gz1
        obtain ⟨W6, hW6⟩ : ∃ W6, W6 = w5.setCell ⟨q, 1, none⟩ (.slice (some ⟨g5, 0, none⟩) (l.length + 1) cp5) := ⟨_, rfl⟩
        have K6 : Hid (Kept (fun k => k = q) w5 W6) := by rw [hW6]; exact Kept.setCell (S := fun k => k = q) (Kept.refl _ _) (p := ⟨q, 1, none⟩) rfl _
        have LG6 : Hid (Lay W6 q (.int .i64 ins) (.slice (some ⟨g5, 0, none⟩) (l.length + 1) cp5)) := by
          rw [hW6]
          exact ⟨by rw [set_other (by simp)]; exact LB5.out.g.c0, set_same LB5.out.g.c1, by rw [World.frozen?_setCell]; exact LB5.out.g.z0, by rw [World.frozen?_setCell]; exact LB5.out.g.z1⟩
        have LR6 : Hid (Lay W6 (q + 1) (.int .i64 0) (.slice none 0 0)) := LB5.out.r.kept K6.out (by omega)
        rw [← hW6]
        clear hW6
        have y0 := LR6.out.c0
        have y1 := LR6.out.c1
        have z0 := LR6.out.z0
        have z1 := LR6.out.z1
        have wr2 : IntKind.i64.wrap (ins + ((l.length : Int) + 1)) = ins + ((l.length : Int) + 1) := by rw [IntKind.wrap_i64]; omega
        have wr3 : IntKind.i64.wrap (2 * (ins + ((l.length : Int) + 1))) = 2 * (ins + ((l.length : Int) + 1)) := by rw [IntKind.wrap_i64]; omega
        have K9 : Hid (Kept (fun k => k = q + 1) W6 ((W6.setCell ⟨q + 1, 0, none⟩ (.int .i64 ins)).setCell ⟨q + 1, 1, none⟩ (.slice (some ⟨g5, 0, none⟩) (l.length + 1) cp5)).drew) := Kept.drew (Kept.setCell (S := fun k => k = q + 1) (Kept.setCell (S := fun k => k = q + 1) (Kept.refl _ W6) (p := ⟨q + 1, 0, none⟩) rfl _) (p := ⟨q + 1, 1, none⟩) rfl _)
        have G9 : Hid (Lay ((W6.setCell ⟨q + 1, 0, none⟩ (.int .i64 ins)).setCell ⟨q + 1, 1, none⟩ (.slice (some ⟨g5, 0, none⟩) (l.length + 1) cp5)).drew q (.int .i64 ins) (.slice (some ⟨g5, 0, none⟩) (l.length + 1) cp5)) := LG6.out.kept K9.out (by omega)
        have G0 : Hid (Lay W6.drew q (.int .i64 ins) (.slice (some ⟨g5, 0, none⟩) (l.length + 1) cp5)) := LG6.out.drew
        go_wp2
        go_region_held3 (fun w' => w'.cell? ⟨q, 0, none⟩ = some (.int .i64 ins) ∧ w'.cell? ⟨q, 1, none⟩ = some (.slice (some ⟨g5, 0, none⟩) (l.length + 1) cp5)) ((first | exact ⟨G0.out.c0, G0.out.c1⟩ | exact ⟨G9.out.c0, G9.out.c1⟩)) (fail)
        go_wp2
        refine bodyPost_ret (v := .tuple #[.agg #[.int .i64 ins, .slice (some ⟨g5, 0, none⟩) (l.length + 1) cp5], .int .i64 (2 * (ins + ((l.length : Int) + 1)))]) (by simp [results, Try.results72, go_sem, y0, y1]) rfl ?_
        rw [HR.out, show 2 * (ins + 1 + (l.length : Int)) = 2 * (ins + ((l.length : Int) + 1)) by omega]
        have hq := HQ.out
        have hs := HS.out
        have hg5 := HG5.out
        have hgl : ∀ k, (Value.slice av l.length cv).ownBlock = some k → k < w.heap.size := fun k e => (HO.out.lt k e).2
        have hgq : g5 ≠ q ∧ g5 ≠ q + 1 := by
          rcases hg5 with e | e
          · have := hgl _ e; omega
          · omega
        refine ⟨_, rfl, (HO5.out.kept K6.out (fun k e h => ?_)).kept K9.out (fun k e h => ?_), ?_, fun k e => ?_⟩
        · have e' : g5 = k := by simpa [Value.ownBlock] using e
          omega
        · have e' : g5 = k := by simpa [Value.ownBlock] using e
          omega
        · have k1 : Kept (fun k => (Value.slice av l.length cv).ownBlock = some k) w w5 := (Kept.ofBelow HB.out).trans HK5.out
          refine ⟨K9.out.os.trans (K6.out.os.trans k1.os), K9.out.tape.trans (K6.out.tape.trans k1.tape), K9.out.output.trans (K6.out.output.trans k1.output), Nat.le_trans k1.size (Nat.le_trans K6.out.size K9.out.size), fun k hk hn => ?_⟩
          have h5 := k1.size
          have h6 := K6.out.size
          rw [K9.out.block k (by omega) (by omega), K6.out.block k (by omega) (by omega), k1.block k hk hn]
        · have e' : g5 = k := by simpa [Value.ownBlock] using e
          subst e'
          rcases hg5 with e | e
          · exact .inl e
          · exact .inr (by omega)

end Go.Proofs.Ytnpfegfjejfaaaa.Gs3
