/- Small texts of mine, one behind the other. -/
import Derived.Test.YtebejleeadofcaaRows
import Derived.ProofKit
import Derived.Deep.Slices
import Derived.Test.YtebejleeadofcaaNd0
/- Quants as plain data, and what it is that a slice of them can be read, written, kept. Written by tools/mkflat.py. -/
namespace Go.Proofs.Ytebejleeadofcaa.Qa0
open Go.RowKit
open Nd0
set_option linter.unusedVariables false

structure Qu where
  all : Bool
  vr : Int
  bits : Int

def Qu.zero : Qu := ⟨false, 0, 0⟩
def Qu.cells (x : Qu) : List Value := [.bool x.all, .int .i64 x.vr, .int .i64 x.bits]
structure QuAt (w : World) (b p : Nat) (n : Qu) : Prop where
  c0 : w.cell? ⟨b, p, none⟩ = some (.bool n.all)
  c1 : w.cell? ⟨b, p + 1, none⟩ = some (.int .i64 n.vr)
  c2 : w.cell? ⟨b, p + 2, none⟩ = some (.int .i64 n.bits)
/-- A slice of l can be read at address a. -/
def Qus (w : World) (a : Option Addr) (l : List Qu) : Prop :=
  l.length ≤ maxLen ∧ (l.length = 0 ∨ ∃ b o, a = some ⟨b, o, none⟩ ∧ ∀ i (h : i < l.length), QuAt w b (o + i * 3) l[i])
theorem QuAt.lt {w : World} {b p : Nat} {n : Qu} (h : QuAt w b p n) : b < w.heap.size := lt_of_cell (p := ⟨b, p, none⟩) h.c0
theorem QuAt.below {w w' : World} {b p : Nat} {n : Qu} (h : QuAt w b p n) {B : Nat} (k : Below B w w') (hb : b < B) : QuAt w' b p n :=
  ⟨by rw [k.cell hb]; exact h.c0, by rw [k.cell hb]; exact h.c1, by rw [k.cell hb]; exact h.c2⟩
theorem Qus.below {w w' : World} {a : Option Addr} {l : List Qu} (h : Qus w a l) (k : Below w.heap.size w w') : Qus w' a l := by
  refine ⟨h.1, ?_⟩
  rcases h.2 with h0 | ⟨b, o, rfl, hc⟩
  · exact .inl h0
  · exact .inr ⟨b, o, rfl, fun i hi => (hc i hi).below k (hc i hi).lt⟩
theorem Qus.kept {w w' : World} {a : Option Addr} {l : List Qu} (h : Qus w a l) {S : Nat → Prop} (k : Kept S w w') (hs : ∀ x, a = some x → ¬ S x.block) : Qus w' a l := by
  refine ⟨h.1, ?_⟩
  rcases h.2 with h0 | ⟨b, o, rfl, hc⟩
  · exact .inl h0
  · refine .inr ⟨b, o, rfl, fun i hi => ?_⟩
    have hb := (hc i hi).lt
    have hn : ¬ S b := hs ⟨b, o, none⟩ rfl
    obtain ⟨c0, c1, c2⟩ := hc i hi
    exact ⟨by rw [k.cell hb hn]; exact c0, by rw [k.cell hb hn]; exact c1, by rw [k.cell hb hn]; exact c2⟩
/-- A slice of l, in a block from B on, that may be written. -/
def WQus (w : World) (B : Nat) (a : Option Addr) (l : List Qu) : Prop :=
  l.length ≤ maxLen ∧ (l.length = 0 ∨ ∃ b o, a = some ⟨b, o, none⟩ ∧ B ≤ b ∧ (∀ i (h : i < l.length), QuAt w b (o + i * 3) l[i]) ∧ ∀ j, j < l.length * 3 → w.frozen? ⟨b, o + j, none⟩ = false)
theorem WQus.plain {w : World} {B : Nat} {a : Option Addr} {l : List Qu} (h : WQus w B a l) : Qus w a l := by
  refine ⟨h.1, ?_⟩
  rcases h.2 with h0 | ⟨b, o, ha, _, hc, _⟩
  · exact .inl h0
  · exact .inr ⟨b, o, ha, hc⟩
def setQu (w : World) (b p : Nat) (n : Qu) : World :=
  ((w.setCell ⟨b, p, none⟩ (.bool n.all)).setCell ⟨b, p + 1, none⟩ (.int .i64 n.vr)).setCell ⟨b, p + 2, none⟩ (.int .i64 n.bits)
theorem setQu_same {w : World} {b p : Nat} {v n : Qu} (h : QuAt w b p v) : QuAt (setQu w b p n) b p n := by
  obtain ⟨c0, c1, c2⟩ := h
  unfold setQu
  refine ⟨?_, ?_, ?_⟩
  · rw [set_other (by simp), set_other (by simp)]; exact set_same (c0)
  · rw [set_other (by simp)]; exact set_same (by rw [set_other (by simp)]; exact c1)
  · exact set_same (by rw [set_other (by simp), set_other (by simp)]; exact c2)
theorem setQu_cell {w : World} {b p : Nat} {n : Qu} {q : Nat} (h : q < p ∨ p + 3 ≤ q) : (setQu w b p n).cell? ⟨b, q, none⟩ = w.cell? ⟨b, q, none⟩ := by
  unfold setQu
  rw [set_other (by simp <;> omega), set_other (by simp <;> omega), set_other (by simp <;> omega)]
theorem setQu_frozen {w : World} {b p : Nat} {n : Qu} {q : Addr} : (setQu w b p n).frozen? q = w.frozen? q := by
  unfold setQu; simp only [World.frozen?_setCell]
theorem setQu_size {w : World} {b p : Nat} {n : Qu} : (setQu w b p n).heap.size = w.heap.size := by
  simp [setQu, World.setCell]
theorem setQu_other {w : World} {b p q : Nat} {v n : Qu} (h : QuAt w b q v) (hq : q + 3 ≤ p ∨ p + 3 ≤ q) : QuAt (setQu w b p n) b q v := by
  obtain ⟨c0, c1, c2⟩ := h
  exact ⟨by rw [setQu_cell (by omega)]; exact c0, by rw [setQu_cell (by omega)]; exact c1, by rw [setQu_cell (by omega)]; exact c2⟩
theorem setQu_keptS {S : Nat → Prop} {b p : Nat} {u w : World} {n : Qu} (hS : S b) (h : Kept S u w) : Kept S u (setQu w b p n) :=
  ((h.setCell (p := ⟨b, p, none⟩) hS _).setCell (p := ⟨b, p + 1, none⟩) hS _).setCell (p := ⟨b, p + 2, none⟩) hS _
theorem setQu_kept {b o p : Nat} {u w : World} {n : Qu} (h : Kept (At (some ⟨b, o, none⟩)) u w) : Kept (At (some ⟨b, o, none⟩)) u (setQu w b p n) :=
  setQu_keptS ⟨⟨b, o, none⟩, rfl, rfl⟩ h
/-- A slice of l, in a block from B on and below U, that may be written. -/
def QusIn (w : World) (B U : Nat) (a : Option Addr) (l : List Qu) : Prop :=
  l.length ≤ maxLen ∧ (l.length = 0 ∨ ∃ b o, a = some ⟨b, o, none⟩ ∧ B ≤ b ∧ b < U ∧ (∀ i (h : i < l.length), QuAt w b (o + i * 3) l[i]) ∧ ∀ j, j < l.length * 3 → w.frozen? ⟨b, o + j, none⟩ = false)
theorem WQus.within {w : World} {B : Nat} {a : Option Addr} {l : List Qu} (h : WQus w B a l) : QusIn w B w.heap.size a l := by
  refine ⟨h.1, ?_⟩
  by_cases e : l.length = 0
  · exact .inl e
  · rcases h.2 with h0 | ⟨b, o, ha, hB, hc, hf⟩
    · exact .inl h0
    · exact .inr ⟨b, o, ha, hB, (hc 0 (by omega)).lt, hc, hf⟩
theorem QusIn.wr {w : World} {B U : Nat} {a : Option Addr} {l : List Qu} (h : QusIn w B U a l) : WQus w B a l := by
  refine ⟨h.1, ?_⟩
  rcases h.2 with h0 | ⟨b, o, ha, hB, _, hc, hf⟩
  · exact .inl h0
  · exact .inr ⟨b, o, ha, hB, hc, hf⟩
theorem QusIn.kept {w w' : World} {B U : Nat} {a : Option Addr} {l : List Qu} (h : QusIn w B U a l) {S : Nat → Prop} (k : Kept S w w') (hs : ∀ b, B ≤ b → b < U → ¬ S b) : QusIn w' B U a l := by
  refine ⟨h.1, ?_⟩
  by_cases e : l.length = 0
  · exact .inl e
  rcases h.2 with h0 | ⟨b, o, rfl, hB, hU, hc, hf⟩
  · exact .inl h0
  · have hb : b < w.heap.size := (hc 0 (by omega)).lt
    have hn : ¬ S b := hs b hB hU
    refine .inr ⟨b, o, rfl, hB, hU, fun i hi => ?_, fun j hj => by rw [k.frozen (p := ⟨b, o + j, none⟩) hb hn]; exact hf j hj⟩
    obtain ⟨c0, c1, c2⟩ := hc i hi
    exact ⟨by rw [k.cell hb hn]; exact c0, by rw [k.cell hb hn]; exact c1, by rw [k.cell hb hn]; exact c2⟩
theorem QusIn.again {w w' : World} {B U : Nat} {a : Option Addr} {l l' : List Qu} (h : QusIn w B U a l) (h' : WQus w' B a l') (e : l'.length = l.length) : QusIn w' B U a l' := by
  refine ⟨h'.1, ?_⟩
  rcases h.2 with h0 | ⟨b, o, rfl, hB, hU, hc, hf⟩
  · exact .inl (by omega)
  · rcases h'.2 with h0 | ⟨b', o', ha, hB', hc', hf'⟩
    · exact .inl h0
    · cases ha
      exact .inr ⟨b, o, rfl, hB, hU, hc', hf'⟩
theorem QusIn.ats {w : World} {B U : Nat} {a : Option Addr} {l : List Qu} (h : QusIn w B U a l) {k : Nat} (hk : Ats l.length a k) : B ≤ k ∧ k < U := by
  obtain ⟨hp, x, hx, rfl⟩ := hk
  rcases h.2 with h0 | ⟨b, o, rfl, hB, hU, _⟩
  · omega
  · cases hx; exact ⟨hB, hU⟩
theorem QusIn.below {w w' : World} {B U : Nat} {a : Option Addr} {l : List Qu} (h : QusIn w B U a l) (k : Below w.heap.size w w') : QusIn w' B U a l :=
  h.kept (S := fun _ => False) (Kept.ofBelow k) (fun _ _ _ h => h)
theorem QusIn.plain {w : World} {B U : Nat} {a : Option Addr} {l : List Qu} (h : QusIn w B U a l) : Qus w a l := h.wr.plain
/-- Marks from z on. -/
def mkQu (z : Int) : Qu := ⟨(z) % 3 == 0, z + 1, z + 1 + 1⟩
def markQu (n : Nat) (k0 : Int) : List Qu := (List.range n).map fun (i : Nat) => (mkQu (k0 + 3 * (i : Int)))
theorem markQu_length (n : Nat) (k0 : Int) : (markQu n k0).length = n := by simp [markQu]
theorem markQu_get (n : Nat) (k0 : Int) (i : Nat) (h : i < (markQu n k0).length) : (markQu n k0)[i] = (mkQu (k0 + 3 * (i : Int))) := by simp [markQu]

end Go.Proofs.Ytebejleeadofcaa.Qa0

/- Arguments that are lists of Quants, opened. Written by tools/mkflat.py. -/
namespace Go.Proofs.Ytebejleeadofcaa.Qa3
open Go.RowKit Go.ChangeShapes Go.WideShapes
open Nd0 Qa0
set_option linter.unusedVariables false

theorem cellsInt : Try.prog.cellsOf 3 = 1 := by kernel_rfl
theorem cellsBool : Try.prog.cellsOf 4 = 1 := by kernel_rfl
theorem exactly {α : Type} (l : List α) (h : l.length = 3) : ∃ z0 z1 z2, l = [z0, z1, z2] := by
  match l, h with
  | [z0, z1, z2], _ => exact ⟨z0, z1, z2, rfl⟩

section
variable {H : Type} {enc : TypeId × Value → H} {w : World} {base : Nat} {spare : Nat → Bool} {held : Bool}

theorem cellsQu {a : Addr} {cs : List Value} (h : w.cells? base a 3 = some cs) : cs.length = 3 ∧ ∀ i, i < 3 → w.cell? (a.add i) = cs[i]? := by
  unfold World.cells? at h
  split at h
  · have hl : cs.length = 3 := by simpa using mapM_some_length h
    refine ⟨hl, fun i hi => ?_⟩
    have := mapM_some_get h i i (by simp [hi])
    exact this
  · cases h

end

end Go.Proofs.Ytebejleeadofcaa.Qa3

/- Arguments that are lists of nodes, opened. -/
namespace Go.Proofs.Ytebejleeadofcaa.Op0
open Go.RowKit Go.ChangeShapes Go.WideShapes
open Nd0
set_option linter.unusedVariables false

theorem cellsInt : Try.prog.cellsOf 3 = 1 := by kernel_rfl
theorem cellsNode : Try.prog.cellsOf 44 = 6 := by kernel_rfl

theorem six {α : Type} (l : List α) (h : l.length = 6) : ∃ a b c d e f, l = [a, b, c, d, e, f] := by
  match l, h with
  | [a, b, c, d, e, f], _ => exact ⟨a, b, c, d, e, f, rfl⟩

section
variable {H : Type} {enc : TypeId × Value → H} {w : World} {base : Nat} {spare : Nat → Bool} {held : Bool}

theorem node_open {fuel : Nat} {cs : List Value} {x : DataW H × List MemPlace} (h : DataW.trod enc Try.prog w base spare held fuel 44 cs = some x) :
    ∃ n : Nd, cs = n.cells := by
  obtain ⟨xs, m, _, rfl, hl, hlen, hf⟩ := DataW.trod_struct Try.underlying44 h
  rw [cellsNode] at hl
  obtain ⟨c0, c1, c2, c3, c4, c5, rfl⟩ := six cs hl
  obtain ⟨y0, y1, y2, y3, y4, y5, rfl⟩ := six xs (by simpa using hlen)
  have g0 := hf 0 _ rfl
  have g1 := hf 1 _ rfl
  have g2 := hf 2 _ rfl
  have g3 := hf 3 _ rfl
  have g4 := hf 4 _ rfl
  have g5 := hf 5 _ rfl
  simp [cellsInt] at g0 g1 g2 g3 g4 g5
  obtain ⟨n0, e0, _, _⟩ := DataW.trod_int Try.underlying3 g0
  obtain ⟨n1, e1, _, _⟩ := DataW.trod_int Try.underlying3 g1
  obtain ⟨n2, e2, _, _⟩ := DataW.trod_int Try.underlying3 g2
  obtain ⟨n3, e3, _, _⟩ := DataW.trod_int Try.underlying3 g3
  obtain ⟨n4, e4, _, _⟩ := DataW.trod_int Try.underlying3 g4
  obtain ⟨n5, e5, _, _⟩ := DataW.trod_int Try.underlying3 g5
  simp at e0 e1 e2 e3 e4 e5
  subst e0 e1 e2 e3 e4 e5
  exact ⟨⟨n0, n1, n2, n3, n4, n5⟩, rfl⟩

theorem cells_six {a : Addr} {cs : List Value} (h : w.cells? base a 6 = some cs) : cs.length = 6 ∧ ∀ i, i < 6 → w.cell? (a.add i) = cs[i]? := by
  unfold World.cells? at h
  split at h
  · have hl : cs.length = 6 := by simpa using mapM_some_length h
    refine ⟨hl, fun i hi => ?_⟩
    have := mapM_some_get h i i (by simp [hi])
    exact this
  · cases h

theorem nodes_open {fuel : Nat} {a : Option Addr} {len cap : Nat} {x : DataW H × List MemPlace} (h : DataW.trod enc Try.prog w base spare held fuel 22 [.slice a len cap] = some x) :
    len ≤ maxLen ∧ ∃ l : List Nd, l.length = len ∧ Nodes w a l := by
  rcases Deep.open_slice Try.underlying22 h with ⟨hcs, _⟩ | ⟨b, len', cap', m, n, D, Pl, hcs, _, hl, hm, hmm, _, hc⟩
  · simp at hcs
    obtain ⟨rfl, rfl, rfl⟩ := hcs
    exact ⟨Nat.zero_le _, [], rfl, Nat.zero_le _, .inl rfl⟩
  · simp at hcs
    obtain ⟨rfl, rfl, rfl⟩ := hcs
    have hlm : len ≤ m := by rw [hmm]; split <;> omega
    have hall : ∀ i, i < len → ∃ nd : Nd, ∀ j, j < 6 → w.cell? ((b.add (i * 6)).add j) = nd.cells[j]? := by
      intro i hi
      obtain ⟨cs', h1, h2⟩ := hc i (by omega)
      rw [cellsNode] at h1
      obtain ⟨nd, rfl⟩ := node_open h2
      exact ⟨nd, (cells_six h1).2⟩
    refine ⟨by omega, ?_⟩
    obtain ⟨f, hf⟩ : ∃ f : Nat → Nd, ∀ i, i < len → ∀ j, j < 6 → w.cell? ((b.add (i * 6)).add j) = (f i).cells[j]? := by
      classical
      refine ⟨fun i => if hi : i < len then Classical.choose (hall i hi) else Nd.zero, fun i hi => ?_⟩
      simp only [dif_pos hi]
      exact Classical.choose_spec (hall i hi)
    refine ⟨(List.range len).map f, by simp, by simp; omega, ?_⟩
    by_cases h0 : len = 0
    · exact .inl (by simp [h0])
    · obtain ⟨xb, xo, spot⟩ := b
      have hs : spot = none := by
        have := hf 0 (by omega) 0 (by omega)
        simp [Addr.add, Nd.cells] at this
        simpa using World.cell?_spot this
      subst hs
      refine .inr ⟨xb, xo, rfl, fun i hi => ?_⟩
      have hi' : i < len := by simpa using hi
      have hg := hf i hi'
      simp only [Addr.add_lit] at hg
      have e : ((List.range len).map f)[i] = f i := by simp
      rw [e]
      exact ⟨hg 0 (by omega), hg 1 (by omega), hg 2 (by omega), hg 3 (by omega), hg 4 (by omega), hg 5 (by omega)⟩
end

end Go.Proofs.Ytebejleeadofcaa.Op0
