/- Ands as plain data, and what it is that a slice of them can be read, written, kept. Written by tools/mkflat.py. -/
import Derived.Test.YtnpfegfjejfaaaaNd0
namespace Go.Proofs.Ytnpfegfjejfaaaa.Qb0
open Go.RowKit
open Nd0
set_option linter.unusedVariables false

structure An where
  a : Int
  b : Int

def An.zero : An := ⟨0, 0⟩
def An.cells (x : An) : List Value := [.int .i64 x.a, .int .i64 x.b]
structure AnAt (w : World) (b p : Nat) (n : An) : Prop where
  c0 : w.cell? ⟨b, p, none⟩ = some (.int .i64 n.a)
  c1 : w.cell? ⟨b, p + 1, none⟩ = some (.int .i64 n.b)
/-- A slice of l can be read at address a. -/
def Ans (w : World) (a : Option Addr) (l : List An) : Prop :=
  l.length ≤ maxLen ∧ (l.length = 0 ∨ ∃ b o, a = some ⟨b, o, none⟩ ∧ ∀ i (h : i < l.length), AnAt w b (o + i * 2) l[i])
theorem AnAt.lt {w : World} {b p : Nat} {n : An} (h : AnAt w b p n) : b < w.heap.size := lt_of_cell (p := ⟨b, p, none⟩) h.c0
theorem AnAt.below {w w' : World} {b p : Nat} {n : An} (h : AnAt w b p n) {B : Nat} (k : Below B w w') (hb : b < B) : AnAt w' b p n :=
  ⟨by rw [k.cell hb]; exact h.c0, by rw [k.cell hb]; exact h.c1⟩
theorem Ans.below {w w' : World} {a : Option Addr} {l : List An} (h : Ans w a l) (k : Below w.heap.size w w') : Ans w' a l := by
  refine ⟨h.1, ?_⟩
  rcases h.2 with h0 | ⟨b, o, rfl, hc⟩
  · exact .inl h0
  · exact .inr ⟨b, o, rfl, fun i hi => (hc i hi).below k (hc i hi).lt⟩
theorem Ans.kept {w w' : World} {a : Option Addr} {l : List An} (h : Ans w a l) {S : Nat → Prop} (k : Kept S w w') (hs : ∀ x, a = some x → ¬ S x.block) : Ans w' a l := by
  refine ⟨h.1, ?_⟩
  rcases h.2 with h0 | ⟨b, o, rfl, hc⟩
  · exact .inl h0
  · refine .inr ⟨b, o, rfl, fun i hi => ?_⟩
    have hb := (hc i hi).lt
    have hn : ¬ S b := hs ⟨b, o, none⟩ rfl
    obtain ⟨c0, c1⟩ := hc i hi
    exact ⟨by rw [k.cell hb hn]; exact c0, by rw [k.cell hb hn]; exact c1⟩
/-- A slice of l, in a block from B on, that may be written. -/
def WAns (w : World) (B : Nat) (a : Option Addr) (l : List An) : Prop :=
  l.length ≤ maxLen ∧ (l.length = 0 ∨ ∃ b o, a = some ⟨b, o, none⟩ ∧ B ≤ b ∧ (∀ i (h : i < l.length), AnAt w b (o + i * 2) l[i]) ∧ ∀ j, j < l.length * 2 → w.frozen? ⟨b, o + j, none⟩ = false)
theorem WAns.plain {w : World} {B : Nat} {a : Option Addr} {l : List An} (h : WAns w B a l) : Ans w a l := by
  refine ⟨h.1, ?_⟩
  rcases h.2 with h0 | ⟨b, o, ha, _, hc, _⟩
  · exact .inl h0
  · exact .inr ⟨b, o, ha, hc⟩
def setAn (w : World) (b p : Nat) (n : An) : World :=
  (w.setCell ⟨b, p, none⟩ (.int .i64 n.a)).setCell ⟨b, p + 1, none⟩ (.int .i64 n.b)
theorem setAn_same {w : World} {b p : Nat} {v n : An} (h : AnAt w b p v) : AnAt (setAn w b p n) b p n := by
  obtain ⟨c0, c1⟩ := h
  unfold setAn
  refine ⟨?_, ?_⟩
  · rw [set_other (by simp)]; exact set_same (c0)
  · exact set_same (by rw [set_other (by simp)]; exact c1)
theorem setAn_cell {w : World} {b p : Nat} {n : An} {q : Nat} (h : q < p ∨ p + 2 ≤ q) : (setAn w b p n).cell? ⟨b, q, none⟩ = w.cell? ⟨b, q, none⟩ := by
  unfold setAn
  rw [set_other (by simp <;> omega), set_other (by simp <;> omega)]
theorem setAn_frozen {w : World} {b p : Nat} {n : An} {q : Addr} : (setAn w b p n).frozen? q = w.frozen? q := by
  unfold setAn; simp only [World.frozen?_setCell]
theorem setAn_size {w : World} {b p : Nat} {n : An} : (setAn w b p n).heap.size = w.heap.size := by
  simp [setAn, World.setCell]
theorem setAn_other {w : World} {b p q : Nat} {v n : An} (h : AnAt w b q v) (hq : q + 2 ≤ p ∨ p + 2 ≤ q) : AnAt (setAn w b p n) b q v := by
  obtain ⟨c0, c1⟩ := h
  exact ⟨by rw [setAn_cell (by omega)]; exact c0, by rw [setAn_cell (by omega)]; exact c1⟩
theorem setAn_keptS {S : Nat → Prop} {b p : Nat} {u w : World} {n : An} (hS : S b) (h : Kept S u w) : Kept S u (setAn w b p n) :=
  (h.setCell (p := ⟨b, p, none⟩) hS _).setCell (p := ⟨b, p + 1, none⟩) hS _
theorem setAn_kept {b o p : Nat} {u w : World} {n : An} (h : Kept (At (some ⟨b, o, none⟩)) u w) : Kept (At (some ⟨b, o, none⟩)) u (setAn w b p n) :=
  setAn_keptS ⟨⟨b, o, none⟩, rfl, rfl⟩ h
/-- A slice of l, in a block from B on and below U, that may be written. -/
def AnsIn (w : World) (B U : Nat) (a : Option Addr) (l : List An) : Prop :=
  l.length ≤ maxLen ∧ (l.length = 0 ∨ ∃ b o, a = some ⟨b, o, none⟩ ∧ B ≤ b ∧ b < U ∧ (∀ i (h : i < l.length), AnAt w b (o + i * 2) l[i]) ∧ ∀ j, j < l.length * 2 → w.frozen? ⟨b, o + j, none⟩ = false)
theorem WAns.within {w : World} {B : Nat} {a : Option Addr} {l : List An} (h : WAns w B a l) : AnsIn w B w.heap.size a l := by
  refine ⟨h.1, ?_⟩
  by_cases e : l.length = 0
  · exact .inl e
  · rcases h.2 with h0 | ⟨b, o, ha, hB, hc, hf⟩
    · exact .inl h0
    · exact .inr ⟨b, o, ha, hB, (hc 0 (by omega)).lt, hc, hf⟩
theorem AnsIn.wr {w : World} {B U : Nat} {a : Option Addr} {l : List An} (h : AnsIn w B U a l) : WAns w B a l := by
  refine ⟨h.1, ?_⟩
  rcases h.2 with h0 | ⟨b, o, ha, hB, _, hc, hf⟩
  · exact .inl h0
  · exact .inr ⟨b, o, ha, hB, hc, hf⟩
theorem AnsIn.kept {w w' : World} {B U : Nat} {a : Option Addr} {l : List An} (h : AnsIn w B U a l) {S : Nat → Prop} (k : Kept S w w') (hs : ∀ b, B ≤ b → b < U → ¬ S b) : AnsIn w' B U a l := by
  refine ⟨h.1, ?_⟩
  by_cases e : l.length = 0
  · exact .inl e
  rcases h.2 with h0 | ⟨b, o, rfl, hB, hU, hc, hf⟩
  · exact .inl h0
  · have hb : b < w.heap.size := (hc 0 (by omega)).lt
    have hn : ¬ S b := hs b hB hU
    refine .inr ⟨b, o, rfl, hB, hU, fun i hi => ?_, fun j hj => by rw [k.frozen (p := ⟨b, o + j, none⟩) hb hn]; exact hf j hj⟩
    obtain ⟨c0, c1⟩ := hc i hi
    exact ⟨by rw [k.cell hb hn]; exact c0, by rw [k.cell hb hn]; exact c1⟩
theorem AnsIn.again {w w' : World} {B U : Nat} {a : Option Addr} {l l' : List An} (h : AnsIn w B U a l) (h' : WAns w' B a l') (e : l'.length = l.length) : AnsIn w' B U a l' := by
  refine ⟨h'.1, ?_⟩
  rcases h.2 with h0 | ⟨b, o, rfl, hB, hU, hc, hf⟩
  · exact .inl (by omega)
  · rcases h'.2 with h0 | ⟨b', o', ha, hB', hc', hf'⟩
    · exact .inl h0
    · cases ha
      exact .inr ⟨b, o, rfl, hB, hU, hc', hf'⟩
theorem AnsIn.ats {w : World} {B U : Nat} {a : Option Addr} {l : List An} (h : AnsIn w B U a l) {k : Nat} (hk : Ats l.length a k) : B ≤ k ∧ k < U := by
  obtain ⟨hp, x, hx, rfl⟩ := hk
  rcases h.2 with h0 | ⟨b, o, rfl, hB, hU, _⟩
  · omega
  · cases hx; exact ⟨hB, hU⟩
theorem AnsIn.below {w w' : World} {B U : Nat} {a : Option Addr} {l : List An} (h : AnsIn w B U a l) (k : Below w.heap.size w w') : AnsIn w' B U a l :=
  h.kept (S := fun _ => False) (Kept.ofBelow k) (fun _ _ _ h => h)
theorem AnsIn.plain {w : World} {B U : Nat} {a : Option Addr} {l : List An} (h : AnsIn w B U a l) : Ans w a l := h.wr.plain
/-- Marks from z on. -/
def mkAn (z : Int) : An := ⟨z, z + 1⟩
def markAn (n : Nat) (k0 : Int) : List An := (List.range n).map fun (i : Nat) => (mkAn (k0 + 2 * (i : Int)))
theorem markAn_length (n : Nat) (k0 : Int) : (markAn n k0).length = n := by simp [markAn]
theorem markAn_get (n : Nat) (k0 : Int) (i : Nat) (h : i < (markAn n k0).length) : (markAn n k0)[i] = (mkAn (k0 + 2 * (i : Int))) := by simp [markAn]

end Go.Proofs.Ytnpfegfjejfaaaa.Qb0
