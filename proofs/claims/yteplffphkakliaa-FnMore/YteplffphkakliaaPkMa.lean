/- Small texts of mine, one behind the other. -/
import Derived.Laws.IdiomStrings
import Derived.Test.YteplffphkakliaaPkMc
import Derived.Test.YteplffphkakliaaPkMb
import Derived.Test.YteplffphkakliaaTe3
import Derived.Test.YteplffphkakliaaDq1
import Derived.Test.YteplffphkakliaaLw4
/- What the law FnMore needs: bytes of a string that may be written; a table with places struck out. -/
namespace Go.Proofs.Yteplffphkakliaa.Lm0
open Go.RowKit
open Ta0 Ta1 Ta2 Ta3 Tc2 Tc5 De0 Dv0
open Nd0 (Kept set_other set_same lt_of_cell)
open Nd6 (Bools)
open Dr0 (Bytes)
open Ss0 (bs bs_size)
open Ss1 (tl tl_get tl_bs)
set_option linter.unusedVariables false

/-- The bytes l lie in block g and may be written. -/
def Bw (W : World) (g : Nat) (l : List UInt8) : Prop := ∀ j (h : j < l.length), W.cell? ⟨g, j, none⟩ = some (.int .u8 (l[j].toNat : Int)) ∧ W.frozen? ⟨g, j, none⟩ = false
theorem Bw.lt {W : World} {g : Nat} {l : List UInt8} (h : Bw W g l) (hl : 1 ≤ l.length) : g < W.heap.size := lt_of_cell (h 0 (by omega)).1
theorem Bw.below {W W' : World} {g : Nat} {l : List UInt8} (h : Bw W g l) (k : Below W.heap.size W W') : Bw W' g l := fun j hj => by
  obtain ⟨h1, h2⟩ := h j hj
  have K : Kept (fun _ => False) W W' := Kept.ofBelow k
  exact ⟨by rw [K.cell (p := ⟨g, j, none⟩) (lt_of_cell h1) (fun e => e)]; exact h1, by rw [K.frozen (p := ⟨g, j, none⟩) (lt_of_cell h1) (fun e => e)]; exact h2⟩
theorem Bw.set {W : World} {g : Nat} {l : List UInt8} (h : Bw W g l) (j : Nat) (x : UInt8) : Bw (W.setCell ⟨g, j, none⟩ (.int .u8 (x.toNat : Int))) g (l.set j x) := fun i hi => by
  rw [List.length_set] at hi
  obtain ⟨h1, h2⟩ := h i hi
  by_cases e : j = i
  · subst e
    rw [List.getElem_set_self]
    exact ⟨set_same h1, by rw [World.frozen?_setCell]; exact h2⟩
  · rw [List.getElem_set_ne e]
    exact ⟨by rw [set_other (by simp <;> omega)]; exact h1, by rw [World.frozen?_setCell]; exact h2⟩
theorem Bw.text {W : World} {g c : Nat} {l : List UInt8} (h : Bw W g l) : (convert 22 9 (.slice (some ⟨g, 0, none⟩) l.length c)).run Try.prog W = .ok (.string (bs l)) W :=
  run_convert_bytes_back (P := Try.prog) W 22 9 5 ⟨g, 0, none⟩ c l Try.underlying22 Try.underlying5 Try.underlying9 (fun j hj => by rw [Addr.add_lit, Nat.zero_add]; exact (h j hj).1)
/-- The bytes of a string. -/
theorem bytesOf (w : World) (l : List UInt8) : ∃ (c : Nat) (W : World), (convert 9 22 (.string (bs l))).run Try.prog w = .ok (.slice (some ⟨w.heap.size, 0, none⟩) l.length c) W ∧ Bw W w.heap.size l ∧ Below w.heap.size w W ∧ w.heap.size < W.heap.size := by
  have h := run_bytes_of_string (P := Try.prog) w 9 22 5 (bs l) Try.underlying9 Try.underlying22 Try.underlying5
  rw [bs_size] at h
  refine ⟨_, _, h, fun j hj => ⟨?_, ?_⟩, (Below.refl _ _).drew.alloc (Nat.le_refl _) _, by simp⟩
  · have e : (w.drew.alloc (.cells (bytesRow (bs l) (grownCap w l.length 0 5)) 5 ((bytesRow (bs l) (grownCap w l.length 0 5)).size, (bytesRow (bs l) (grownCap w l.length 0 5)).size + 1))).heap[w.heap.size]? = some (.cells (bytesRow (bs l) (grownCap w l.length 0 5)) 5 ((bytesRow (bs l) (grownCap w l.length 0 5)).size, (bytesRow (bs l) (grownCap w l.length 0 5)).size + 1)) := by
      show (w.heap.push _)[w.heap.size]? = _
      simp
    have hj2 : j < (bs l).data.size := by rw [show (bs l).data.size = l.length from bs_size l]; exact hj
    rw [cell_of_row _ _ j _ _ _ e, bytesRow_at _ _ j hj2]
    have : (bs l).data[j] = l[j] := by
      have h1 := tl_get (bs l) j hj2
      have e2 : tl (bs l) = l := tl_bs l
      simp only [e2] at h1
      exact h1
    rw [this]
    rfl
  · have e : (w.drew.alloc (.cells (bytesRow (bs l) (grownCap w l.length 0 5)) 5 ((bytesRow (bs l) (grownCap w l.length 0 5)).size, (bytesRow (bs l) (grownCap w l.length 0 5)).size + 1))).heap[w.heap.size]? = some (.cells (bytesRow (bs l) (grownCap w l.length 0 5)) 5 ((bytesRow (bs l) (grownCap w l.length 0 5)).size, (bytesRow (bs l) (grownCap w l.length 0 5)).size + 1)) := by
      show (w.heap.push _)[w.heap.size]? = _
      simp
    have hs : j < (bytesRow (bs l) (grownCap w l.length 0 5)).size := by
      have : (bs l).data.size = l.length := bs_size l
      unfold bytesRow
      rw [Array.size_append, Array.size_map]
      omega
    unfold World.frozen?
    rw [e]
    simp
    omega

theorem tab_set {n j : Nat} (G : Nat → Bool) (hj : j < 2 ^ n) : (tab n G).set j 48 = tab n (fun p => if p = j then false else G p) := by
  refine list_tab (by rw [List.length_set, tab_length]) fun i hi => ?_
  rw [List.length_set] at hi
  by_cases e : j = i
  · subst e
    rw [List.getElem_set_self]
    simp [sgn]
  · rw [List.getElem_set_ne e, tab_get]
    rw [if_neg (fun h => e h.symm)]

end Go.Proofs.Yteplffphkakliaa.Lm0

/- What the law FnMore needs of a row of one flag and more. -/
namespace Go.Proofs.Yteplffphkakliaa.Lm2
open Go.RowKit
open Ta0 Ta1 Ta2 Ta3 Tc2 Tc5 De0 Dv0 Lm0
open Nd0 (Kept set_other set_same lt_of_cell)
open Nd6 (Bools)
open Ap1 (WBools)
open Dp4 (iDecide)
open Dp5 (chV)
open Te3 (iHalf)
open Dq1 (ownL ownL_yes ownF iOwner)
open Ss0 (bs bs_size)
set_option linter.unusedVariables false

theorem slc (b o n c t c1 : Nat) (h : n + 1 ≤ c) (ht : t = if c = 1 then o else o + 1) (h1 : c1 = c - 1) (w : World) :
    (Instr.slice 24 (.slice (some ⟨b, o, none⟩) (n + 1) c) (some (.int .i64 1)) none none).run Try.prog w = .ok (.slice (some ⟨b, t, none⟩) n c1) w := by
  rw [run_slice_l w 24 _ _ _ Try.underlying24 .i64 1 (by omega) (by omega)]
  subst ht h1
  by_cases e : c = 1
  · simp [go_sem, e, sliced]
  · simp [go_sem, e, sliced]
theorem tail {W : World} {a : Option Addr} {q : Bool} {r : List Bool} {c : Nat} (h : Bools W a (q :: r)) (hc : r.length + 1 ≤ c) : ∃ b o, a = some ⟨b, o, none⟩ ∧ W.cell? ⟨b, o, none⟩ = some (.bool q) ∧ ∃ t, t = (if c = 1 then o else o + 1) ∧ Bools W (some ⟨b, t, none⟩) r := by
  rcases h.2 with h0 | ⟨b, o, ha, hx⟩
  · simp at h0
  · refine ⟨b, o, ha, hx 0 (by simp), _, rfl, ?_⟩
    refine ⟨by have := h.1; simp at this; omega, ?_⟩
    by_cases e : r.length = 0
    · exact .inl e
    · rw [if_neg (by omega)]
      refine .inr ⟨b, o + 1, rfl, fun i hi => ?_⟩
      have := hx (i + 1) (by simpa using hi)
      rw [show o + 1 + i = o + (i + 1) by omega]
      simpa using this
theorem ch_yes {x y z : Bool} (h : x = z) : fst x y (z.toNat : Int) = 0 := by subst h; exact if_pos rfl
theorem ch_no {x y z : Bool} (h : x ≠ z) (h2 : y = z) : fst x y (z.toNat : Int) = 1 := by subst h2; cases x <;> cases y <;> first | rfl | exact absurd rfl h

/-- What is told of the half that is chosen. -/
structure Ch (w1 : World) (n m c : Nat) (xb xo ta tc : Nat) (S : ByteArray) (q d r0 : Bool) (X : Int) (SX S0 : ByteArray) : Prop where
  rel : (X = 0 ∧ r0 = d) ∨ (X = 1 ∧ r0 = !d)
  cell : w1.cell? ⟨xb, xo, none⟩ = some (.bool q)
  sl : ∀ W : World, (Instr.slice 24 (.slice (some ⟨xb, xo, none⟩) n c) (some (.int .i64 1)) none none).run Try.prog W = .ok (.slice (some ⟨xb, ta, none⟩) m tc) W
  hx : ∀ W : World, Calls Try.prog 20 #[tv (n : Int) S, .int .i64 X] W fun e w' => e = .returned (.tuple #[tv (m : Int) SX, .bool true]) ∧ Below W.heap.size W w'
  h0 : ∀ W : World, Calls Try.prog 20 #[tv (n : Int) S, .int .i64 0] W fun e w' => e = .returned (.tuple #[tv (m : Int) S0, .bool true]) ∧ Below W.heap.size W w'
  dx : ∀ W : World, Below w1.heap.size w1 W → Calls Try.prog 13 #[.slice (some ⟨xb, ta, none⟩) m tc, tv (m : Int) SX] W fun e w' => e = .returned (.tuple #[.int .i64 (d.toNat : Int), .bool true]) ∧ Below W.heap.size W w'
  d0 : ∀ W : World, Below w1.heap.size w1 W → Calls Try.prog 13 #[.slice (some ⟨xb, ta, none⟩) m tc, tv (m : Int) S0] W fun e w' => e = .returned (.tuple #[.int .i64 (r0.toNat : Int), .bool true]) ∧ Below W.heap.size W w'
  ow : ∀ W : World, Below w1.heap.size w1 W → Calls Try.prog 21 #[.slice (some ⟨xb, xo, none⟩) n c, .int .i64 (d.toNat : Int)] W fun e w' => ∃ g o cc, e = .returned (.slice (some ⟨g, o, none⟩) n cc) ∧ w'.cell? ⟨g, o, none⟩ = some (.bool (q == !d)) ∧ Below W.heap.size W w'

theorem more_facts (w1 : World) (n c : Nat) (F : Nat → Bool) (ra : Option Addr) (row : List Bool) (hn : n ≤ 6) (h1 : 1 ≤ n) (hrn : row.length = n) (hnc : n ≤ c) (hB : Bools w1 ra row) :
    ∃ m xb xo ta tc q d r0 X SX S0, ra = some ⟨xb, xo, none⟩ ∧ dc row F = d ∧ chV row n F = X ∧ Ch w1 n m c xb xo ta tc (bs (tab n F)) q d r0 X SX S0 := by
  cases row with
  | nil => simp at hrn; omega
  | cons q r =>
    rw [List.length_cons] at hrn
    subst hrn
    obtain ⟨b, o, rfl, p0, t, ht, hT⟩ := tail hB hnc
    have hh : ∀ x : Nat, x ≤ 1 → ∀ W : World, Calls Try.prog 20 #[tv ((r.length + 1 : Nat) : Int) (bs (tab (r.length + 1) F)), .int .i64 (x : Int)] W fun e w' => e = .returned (.tuple #[tv (r.length : Int) (bs (tab r.length (hb r.length x F))), .bool true]) ∧ Below W.heap.size W w' := fun x hx W => iHalf r.length x F W (by omega) hx
    have hd : ∀ (G : Nat → Bool) (W : World), Below w1.heap.size w1 W → Calls Try.prog 13 #[.slice (some ⟨b, t, none⟩) r.length (c - 1), tv (r.length : Int) (bs (tab r.length G))] W fun e w' => e = .returned (.tuple #[.int .i64 ((dc r G).toNat : Int), .bool true]) ∧ Below W.heap.size W w' := fun G W h => iDecide r.length G _ r _ W (by omega) rfl (hT.below h)
    have how : ∀ W : World, Below w1.heap.size w1 W → Calls Try.prog 21 #[.slice (some ⟨b, o, none⟩) (r.length + 1) c, .int .i64 ((dc (q :: r) F).toNat : Int)] W fun e w' => ∃ g o cc, e = .returned (.slice (some ⟨g, o, none⟩) (r.length + 1) cc) ∧ w'.cell? ⟨g, o, none⟩ = some (.bool (q == !(dc (q :: r) F))) ∧ Below W.heap.size W w' := fun W h => by
      have := iOwner W (some ⟨b, o, none⟩) (q :: r) c ((dc (q :: r) F).toNat : Int) (hB.below h) (by rw [List.length_cons]; omega)
      refine this.mono ?_
      rintro e w' ⟨⟨a', c', rfl, hw⟩, hb⟩
      have hbit : bitB ((dc (q :: r) F).toNat : Int) = true := decide_eq_true (by cases dc (q :: r) F <;> simp)
      rw [ownL_yes hbit] at hw ⊢
      rcases hw.2 with h0 | ⟨g, o', rfl, _, hc⟩
      · simp at h0
      · have h9 := (hc 0 (by simp)).1
        refine ⟨g, o', c', by simp, ?_, hb⟩
        rw [Nat.add_zero] at h9
        rw [h9]
        simp only [List.map_cons, List.getElem_cons_zero]
        cases dc (q :: r) F <;> cases q <;> rfl
    by_cases hx : dc r (hb r.length 0 F) = dc (q :: r) F
    · refine ⟨r.length, b, o, t, c - 1, q, _, _, 0, _, _, rfl, rfl, ch_yes hx, ⟨.inl ⟨rfl, hx⟩, p0, fun W => slc b o r.length c t (c - 1) hnc ht rfl W, hh 0 (by omega), hh 0 (by omega), fun W h => ?_, hd _, how⟩⟩
      have := hd (hb r.length 0 F) W h
      rw [hx] at this
      exact this
    · have h2 := dc_choose q r F hx
      refine ⟨r.length, b, o, t, c - 1, q, _, _, 1, _, _, rfl, rfl, ch_no hx h2, ⟨.inr ⟨rfl, ?_⟩, p0, fun W => slc b o r.length c t (c - 1) hnc ht rfl W, hh 1 (by omega), hh 0 (by omega), fun W h => ?_, hd _, how⟩⟩
      · revert hx
        cases dc r (hb r.length 0 F) <;> cases dc (q :: r) F <;> simp
      · have := hd (hb r.length 1 F) W h
        rw [h2] at this
        exact this

end Go.Proofs.Yteplffphkakliaa.Lm2
