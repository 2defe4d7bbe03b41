/- Quants as plain data, and what it is that a slice of them can be read, written, kept. Written by tools/mkflat.py. -/
import Derived.Test.YtdmogjhabladcaaGreatPkA
namespace Go.Proofs.YtdmogjhabladcaaGreat.Qa0
open Go.RowKit
open Nd0
set_option linter.unusedVariables false

structure Qu where
  all : Bool
  vr : Int
  bits : Int

def Qu.zero : Qu := ⟨false, 0, 0⟩
def Qu.cells (x : Qu) : List Value := [.bool x.all, .int .i64 x.vr, .int .i64 x.bits]
structure QuAt (w : World) (b p : Nat) (n : Qu) : Prop where
  c0 : w.cell? ⟨b, p, none⟩ = some (.bool n.all)
  c1 : w.cell? ⟨b, p + 1, none⟩ = some (.int .i64 n.vr)
  c2 : w.cell? ⟨b, p + 2, none⟩ = some (.int .i64 n.bits)
/-- A slice of l can be read at address a. -/
def Qus (w : World) (a : Option Addr) (l : List Qu) : Prop :=
  l.length ≤ maxLen ∧ (l.length = 0 ∨ ∃ b o, a = some ⟨b, o, none⟩ ∧ ∀ i (h : i < l.length), QuAt w b (o + i * 3) l[i])
theorem QuAt.lt {w : World} {b p : Nat} {n : Qu} (h : QuAt w b p n) : b < w.heap.size := lt_of_cell (p := ⟨b, p, none⟩) h.c0
theorem QuAt.below {w w' : World} {b p : Nat} {n : Qu} (h : QuAt w b p n) {B : Nat} (k : Below B w w') (hb : b < B) : QuAt w' b p n :=
  ⟨by rw [k.cell hb]; exact h.c0, by rw [k.cell hb]; exact h.c1, by rw [k.cell hb]; exact h.c2⟩
theorem Qus.below {w w' : World} {a : Option Addr} {l : List Qu} (h : Qus w a l) (k : Below w.heap.size w w') : Qus w' a l := by
  refine ⟨h.1, ?_⟩
  rcases h.2 with h0 | ⟨b, o, rfl, hc⟩
  · exact .inl h0
  · exact .inr ⟨b, o, rfl, fun i hi => (hc i hi).below k (hc i hi).lt⟩
theorem Qus.kept {w w' : World} {a : Option Addr} {l : List Qu} (h : Qus w a l) {S : Nat → Prop} (k : Kept S w w') (hs : ∀ x, a = some x → ¬ S x.block) : Qus w' a l := by
  refine ⟨h.1, ?_⟩
  rcases h.2 with h0 | ⟨b, o, rfl, hc⟩
  · exact .inl h0
  · refine .inr ⟨b, o, rfl, fun i hi => ?_⟩
    have hb := (hc i hi).lt
    have hn : ¬ S b := hs ⟨b, o, none⟩ rfl
    obtain ⟨c0, c1, c2⟩ := hc i hi
    exact ⟨by rw [k.cell hb hn]; exact c0, by rw [k.cell hb hn]; exact c1, by rw [k.cell hb hn]; exact c2⟩
/-- A slice of l, in a block from B on, that may be written. -/
def WQus (w : World) (B : Nat) (a : Option Addr) (l : List Qu) : Prop :=
  l.length ≤ maxLen ∧ (l.length = 0 ∨ ∃ b o, a = some ⟨b, o, none⟩ ∧ B ≤ b ∧ (∀ i (h : i < l.length), QuAt w b (o + i * 3) l[i]) ∧ ∀ j, j < l.length * 3 → w.frozen? ⟨b, o + j, none⟩ = false)
theorem WQus.plain {w : World} {B : Nat} {a : Option Addr} {l : List Qu} (h : WQus w B a l) : Qus w a l := by
  refine ⟨h.1, ?_⟩
  rcases h.2 with h0 | ⟨b, o, ha, _, hc, _⟩
  · exact .inl h0
  · exact .inr ⟨b, o, ha, hc⟩
def setQu (w : World) (b p : Nat) (n : Qu) : World :=
  ((w.setCell ⟨b, p, none⟩ (.bool n.all)).setCell ⟨b, p + 1, none⟩ (.int .i64 n.vr)).setCell ⟨b, p + 2, none⟩ (.int .i64 n.bits)
theorem setQu_same {w : World} {b p : Nat} {v n : Qu} (h : QuAt w b p v) : QuAt (setQu w b p n) b p n := by
  obtain ⟨c0, c1, c2⟩ := h
  unfold setQu
  refine ⟨?_, ?_, ?_⟩
  · rw [set_other (by simp), set_other (by simp)]; exact set_same (c0)
  · rw [set_other (by simp)]; exact set_same (by rw [set_other (by simp)]; exact c1)
  · exact set_same (by rw [set_other (by simp), set_other (by simp)]; exact c2)
theorem setQu_cell {w : World} {b p : Nat} {n : Qu} {q : Nat} (h : q < p ∨ p + 3 ≤ q) : (setQu w b p n).cell? ⟨b, q, none⟩ = w.cell? ⟨b, q, none⟩ := by
  unfold setQu
  rw [set_other (by simp <;> omega), set_other (by simp <;> omega), set_other (by simp <;> omega)]
theorem setQu_frozen {w : World} {b p : Nat} {n : Qu} {q : Addr} : (setQu w b p n).frozen? q = w.frozen? q := by
  unfold setQu; simp only [World.frozen?_setCell]
theorem setQu_size {w : World} {b p : Nat} {n : Qu} : (setQu w b p n).heap.size = w.heap.size := by
  simp [setQu, World.setCell]
theorem setQu_other {w : World} {b p q : Nat} {v n : Qu} (h : QuAt w b q v) (hq : q + 3 ≤ p ∨ p + 3 ≤ q) : QuAt (setQu w b p n) b q v := by
  obtain ⟨c0, c1, c2⟩ := h
  exact ⟨by rw [setQu_cell (by omega)]; exact c0, by rw [setQu_cell (by omega)]; exact c1, by rw [setQu_cell (by omega)]; exact c2⟩
theorem setQu_keptS {S : Nat → Prop} {b p : Nat} {u w : World} {n : Qu} (hS : S b) (h : Kept S u w) : Kept S u (setQu w b p n) :=
  ((h.setCell (p := ⟨b, p, none⟩) hS _).setCell (p := ⟨b, p + 1, none⟩) hS _).setCell (p := ⟨b, p + 2, none⟩) hS _
theorem setQu_kept {b o p : Nat} {u w : World} {n : Qu} (h : Kept (At (some ⟨b, o, none⟩)) u w) : Kept (At (some ⟨b, o, none⟩)) u (setQu w b p n) :=
  setQu_keptS ⟨⟨b, o, none⟩, rfl, rfl⟩ h
/-- A slice of l, in a block from B on and below U, that may be written. -/
def QusIn (w : World) (B U : Nat) (a : Option Addr) (l : List Qu) : Prop :=
  l.length ≤ maxLen ∧ (l.length = 0 ∨ ∃ b o, a = some ⟨b, o, none⟩ ∧ B ≤ b ∧ b < U ∧ (∀ i (h : i < l.length), QuAt w b (o + i * 3) l[i]) ∧ ∀ j, j < l.length * 3 → w.frozen? ⟨b, o + j, none⟩ = false)
theorem WQus.within {w : World} {B : Nat} {a : Option Addr} {l : List Qu} (h : WQus w B a l) : QusIn w B w.heap.size a l := by
  refine ⟨h.1, ?_⟩
  by_cases e : l.length = 0
  · exact .inl e
  · rcases h.2 with h0 | ⟨b, o, ha, hB, hc, hf⟩
    · exact .inl h0
    · exact .inr ⟨b, o, ha, hB, (hc 0 (by omega)).lt, hc, hf⟩
theorem QusIn.wr {w : World} {B U : Nat} {a : Option Addr} {l : List Qu} (h : QusIn w B U a l) : WQus w B a l := by
  refine ⟨h.1, ?_⟩
  rcases h.2 with h0 | ⟨b, o, ha, hB, _, hc, hf⟩
  · exact .inl h0
  · exact .inr ⟨b, o, ha, hB, hc, hf⟩
theorem QusIn.kept {w w' : World} {B U : Nat} {a : Option Addr} {l : List Qu} (h : QusIn w B U a l) {S : Nat → Prop} (k : Kept S w w') (hs : ∀ b, B ≤ b → b < U → ¬ S b) : QusIn w' B U a l := by
  refine ⟨h.1, ?_⟩
  by_cases e : l.length = 0
  · exact .inl e
  rcases h.2 with h0 | ⟨b, o, rfl, hB, hU, hc, hf⟩
  · exact .inl h0
  · have hb : b < w.heap.size := (hc 0 (by omega)).lt
    have hn : ¬ S b := hs b hB hU
    refine .inr ⟨b, o, rfl, hB, hU, fun i hi => ?_, fun j hj => by rw [k.frozen (p := ⟨b, o + j, none⟩) hb hn]; exact hf j hj⟩
    obtain ⟨c0, c1, c2⟩ := hc i hi
    exact ⟨by rw [k.cell hb hn]; exact c0, by rw [k.cell hb hn]; exact c1, by rw [k.cell hb hn]; exact c2⟩
theorem QusIn.again {w w' : World} {B U : Nat} {a : Option Addr} {l l' : List Qu} (h : QusIn w B U a l) (h' : WQus w' B a l') (e : l'.length = l.length) : QusIn w' B U a l' := by
  refine ⟨h'.1, ?_⟩
  rcases h.2 with h0 | ⟨b, o, rfl, hB, hU, hc, hf⟩
  · exact .inl (by omega)
  · rcases h'.2 with h0 | ⟨b', o', ha, hB', hc', hf'⟩
    · exact .inl h0
    · cases ha
      exact .inr ⟨b, o, rfl, hB, hU, hc', hf'⟩
theorem QusIn.ats {w : World} {B U : Nat} {a : Option Addr} {l : List Qu} (h : QusIn w B U a l) {k : Nat} (hk : Ats l.length a k) : B ≤ k ∧ k < U := by
  obtain ⟨hp, x, hx, rfl⟩ := hk
  rcases h.2 with h0 | ⟨b, o, rfl, hB, hU, _⟩
  · omega
  · cases hx; exact ⟨hB, hU⟩
theorem QusIn.below {w w' : World} {B U : Nat} {a : Option Addr} {l : List Qu} (h : QusIn w B U a l) (k : Below w.heap.size w w') : QusIn w' B U a l :=
  h.kept (S := fun _ => False) (Kept.ofBelow k) (fun _ _ _ h => h)
theorem QusIn.plain {w : World} {B U : Nat} {a : Option Addr} {l : List Qu} (h : QusIn w B U a l) : Qus w a l := h.wr.plain
/-- Marks from z on. -/
def mkQu (z : Int) : Qu := ⟨(z) % 3 == 0, z + 1, z + 1 + 1⟩
def markQu (n : Nat) (k0 : Int) : List Qu := (List.range n).map fun (i : Nat) => (mkQu (k0 + 3 * (i : Int)))
theorem markQu_length (n : Nat) (k0 : Int) : (markQu n k0).length = n := by simp [markQu]
theorem markQu_get (n : Nat) (k0 : Int) (i : Nat) (h : i < (markQu n k0).length) : (markQu n k0)[i] = (mkQu (k0 + 3 * (i : Int))) := by simp [markQu]

end Go.Proofs.YtdmogjhabladcaaGreat.Qa0
