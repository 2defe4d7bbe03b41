/- Small texts of mine, one behind the other. -/
import Derived.WalkKit
import Derived.Deep.QuietTactic
import Derived.BigQuiet
import Derived.Test.YtnbenffechplgaaGreatRows
import Derived.ProofKit
import Derived.Deep.Slices
/- Nodes as plain data, and what it is that a slice of nodes, of whole numbers or of flags can be read. -/
namespace Go.Proofs.YtnbenffechplgaaGreat.Nd0
open Go.RowKit

structure Nd where
  op : Int
  w : Int
  k : Int
  a : Int
  b : Int
  c : Int

def Nd.zero : Nd := ⟨0, 0, 0, 0, 0, 0⟩
def Nd.cells (n : Nd) : List Value := [.int .i64 n.op, .int .i64 n.w, .int .i64 n.k, .int .i64 n.a, .int .i64 n.b, .int .i64 n.c]

def nth (l : List Nd) (i : Nat) : Nd := l.getD i Nd.zero
theorem nth_get {l : List Nd} {i : Nat} (h : i < l.length) : l[i] = nth l i := by simp [nth, List.getD, h]

structure NodeAt (w : World) (b p : Nat) (n : Nd) : Prop where
  c0 : w.cell? ⟨b, p, none⟩ = some (.int .i64 n.op)
  c1 : w.cell? ⟨b, p + 1, none⟩ = some (.int .i64 n.w)
  c2 : w.cell? ⟨b, p + 2, none⟩ = some (.int .i64 n.k)
  c3 : w.cell? ⟨b, p + 3, none⟩ = some (.int .i64 n.a)
  c4 : w.cell? ⟨b, p + 4, none⟩ = some (.int .i64 n.b)
  c5 : w.cell? ⟨b, p + 5, none⟩ = some (.int .i64 n.c)

def Nodes (w : World) (a : Option Addr) (l : List Nd) : Prop :=
  l.length ≤ maxLen ∧ (l.length = 0 ∨ ∃ b o, a = some ⟨b, o, none⟩ ∧ ∀ i (h : i < l.length), NodeAt w b (o + i * 6) l[i])
def Ints (w : World) (a : Option Addr) (l : List Int) : Prop :=
  l.length ≤ maxLen ∧ (l.length = 0 ∨ ∃ b o, a = some ⟨b, o, none⟩ ∧ ∀ i (h : i < l.length), w.cell? ⟨b, o + i, none⟩ = some (.int .i64 l[i]))

theorem lt_of_cell {w : World} {p : Addr} {v : Value} (h : w.cell? p = some v) : p.block < w.heap.size := World.block_lt_of_cell? _ _ h
theorem NodeAt.below {w w' : World} {b p : Nat} {n : Nd} (h : NodeAt w b p n) {B : Nat} (k : Below B w w') (hb : b < B) : NodeAt w' b p n :=
  ⟨by rw [k.cell hb]; exact h.c0, by rw [k.cell hb]; exact h.c1, by rw [k.cell hb]; exact h.c2, by rw [k.cell hb]; exact h.c3, by rw [k.cell hb]; exact h.c4, by rw [k.cell hb]; exact h.c5⟩
theorem NodeAt.lt {w : World} {b p : Nat} {n : Nd} (h : NodeAt w b p n) : b < w.heap.size := lt_of_cell (p := ⟨b, p, none⟩) h.c0
theorem Nodes.below {w w' : World} {a : Option Addr} {l : List Nd} (h : Nodes w a l) (k : Below w.heap.size w w') : Nodes w' a l := by
  refine ⟨h.1, ?_⟩
  rcases h.2 with h0 | ⟨b, o, rfl, hc⟩
  · exact .inl h0
  · exact .inr ⟨b, o, rfl, fun i hi => (hc i hi).below k (hc i hi).lt⟩
theorem Ints.below {w w' : World} {a : Option Addr} {l : List Int} (h : Ints w a l) (k : Below w.heap.size w w') : Ints w' a l := by
  refine ⟨h.1, ?_⟩
  rcases h.2 with h0 | ⟨b, o, rfl, hc⟩
  · exact .inl h0
  · exact .inr ⟨b, o, rfl, fun i hi => by rw [k.cell (lt_of_cell (hc i hi))]; exact hc i hi⟩

structure Kept (S : Nat → Prop) (w w' : World) : Prop where
  os : w'.os = w.os
  tape : w'.tape = w.tape
  output : w'.output = w.output
  size : w.heap.size ≤ w'.heap.size
  block : ∀ k, k < w.heap.size → ¬ S k → w'.heap[k]? = w.heap[k]?

theorem Kept.refl (S : Nat → Prop) (w : World) : Kept S w w := ⟨rfl, rfl, rfl, Nat.le_refl _, fun _ _ _ => rfl⟩
theorem Kept.trans {S : Nat → Prop} {u v w : World} (h : Kept S u v) (k : Kept S v w) : Kept S u w :=
  ⟨k.os.trans h.os, k.tape.trans h.tape, k.output.trans h.output, Nat.le_trans h.size k.size, fun i hi hb => (k.block i (Nat.lt_of_lt_of_le hi h.size) hb).trans (h.block i hi hb)⟩
theorem Kept.mono {S T : Nat → Prop} {w w' : World} (h : Kept S w w') (k : ∀ i, S i → T i) : Kept T w w' :=
  ⟨h.os, h.tape, h.output, h.size, fun i hi hb => h.block i hi fun x => hb (k i x)⟩
theorem Kept.drew {S : Nat → Prop} {u w : World} (h : Kept S u w) : Kept S u w.drew := ⟨h.os, h.tape, h.output, h.size, h.block⟩
theorem Kept.drewN {S : Nat → Prop} {u w : World} (h : Kept S u w) (n : Nat) : Kept S u (w.drewN n) := ⟨h.os, h.tape, h.output, h.size, h.block⟩
theorem Kept.alloc {S : Nat → Prop} {u w : World} (h : Kept S u w) (o : Obj) : Kept S u (w.alloc o) :=
  h.trans ⟨rfl, rfl, rfl, by simp, fun k hk _ => Below.heap_alloc _ _ _ hk⟩
theorem Kept.setCell {S : Nat → Prop} {u w : World} (h : Kept S u w) {p : Addr} (hp : S p.block) (x : Value) : Kept S u (w.setCell p x) :=
  h.trans ⟨rfl, rfl, rfl, by simp [World.setCell], fun k _ hk => Below.heap_setCell _ _ _ _ (fun e => hk (e ▸ hp))⟩
theorem Kept.cell {S : Nat → Prop} {w w' : World} (h : Kept S w w') {p : Addr} (hp : p.block < w.heap.size) (hb : ¬ S p.block) : w'.cell? p = w.cell? p :=
  World.cell?_of_block (w := w) (h.block p.block hp hb)
theorem Kept.frozen {S : Nat → Prop} {w w' : World} (h : Kept S w w') {p : Addr} (hp : p.block < w.heap.size) (hb : ¬ S p.block) : w'.frozen? p = w.frozen? p :=
  World.frozen?_of_block (w := w) (h.block p.block hp hb)
theorem Kept.below {S : Nat → Prop} {B : Nat} {w w' : World} (h : Kept S w w') (hB : ∀ k, S k → B ≤ k) (hs : B ≤ w.heap.size) : Below B w w' :=
  ⟨h.os, h.tape, h.output, h.size, fun k hk => h.block k (by omega) (fun x => by have := hB k x; omega)⟩
theorem Kept.ofBelow {S : Nat → Prop} {w w' : World} (h : Below w.heap.size w w') : Kept S w w' :=
  ⟨h.os, h.tape, h.output, h.size, fun k hk _ => h.block k hk⟩

def At (a : Option Addr) (k : Nat) : Prop := ∃ x, a = some x ∧ k = x.block

theorem Kept.setAt {b o : Nat} {u w : World} (h : Kept (At (some ⟨b, o, none⟩)) u w) (p : Nat) (x : Value) : Kept (At (some ⟨b, o, none⟩)) u (w.setCell ⟨b, p, none⟩ x) := h.setCell (p := ⟨b, p, none⟩) ⟨⟨b, o, none⟩, rfl, rfl⟩ x
def WInts (w : World) (B : Nat) (a : Option Addr) (l : List Int) : Prop :=
  l.length ≤ maxLen ∧ (l.length = 0 ∨ ∃ b o, a = some ⟨b, o, none⟩ ∧ B ≤ b ∧ ∀ i (h : i < l.length), w.cell? ⟨b, o + i, none⟩ = some (.int .i64 l[i]) ∧ w.frozen? ⟨b, o + i, none⟩ = false)
theorem WInts.ints {w : World} {B : Nat} {a : Option Addr} {l : List Int} (h : WInts w B a l) : Ints w a l := by
  refine ⟨h.1, ?_⟩
  rcases h.2 with h0 | ⟨b, o, ha, _, hc⟩
  · exact .inl h0
  · exact .inr ⟨b, o, ha, fun i hi => (hc i hi).1⟩
theorem WInts.kept {w w' : World} {B : Nat} {a : Option Addr} {l : List Int} (h : WInts w B a l) {S : Nat → Prop} (k : Kept S w w') (hs : ∀ x, a = some x → ¬ S x.block) : WInts w' B a l := by
  refine ⟨h.1, ?_⟩
  rcases h.2 with h0 | ⟨b, o, rfl, hB, hc⟩
  · exact .inl h0
  · exact .inr ⟨b, o, rfl, hB, fun i hi => ⟨by rw [k.cell (lt_of_cell (hc i hi).1) (hs ⟨b, o, none⟩ rfl)]; exact (hc i hi).1, by rw [k.frozen (p := ⟨b, o + i, none⟩) (lt_of_cell (hc i hi).1) (hs ⟨b, o, none⟩ rfl)]; exact (hc i hi).2⟩⟩
theorem Nodes.kept {w w' : World} {a : Option Addr} {l : List Nd} (h : Nodes w a l) {S : Nat → Prop} (k : Kept S w w') (hs : ∀ x, a = some x → ¬ S x.block) : Nodes w' a l := by
  refine ⟨h.1, ?_⟩
  rcases h.2 with h0 | ⟨b, o, rfl, hc⟩
  · exact .inl h0
  · refine .inr ⟨b, o, rfl, fun i hi => ?_⟩
    have hb := (hc i hi).lt
    have hn : ¬ S b := hs ⟨b, o, none⟩ rfl
    obtain ⟨c0, c1, c2, c3, c4, c5⟩ := hc i hi
    exact ⟨by rw [k.cell hb hn]; exact c0, by rw [k.cell hb hn]; exact c1, by rw [k.cell hb hn]; exact c2, by rw [k.cell hb hn]; exact c3, by rw [k.cell hb hn]; exact c4, by rw [k.cell hb hn]; exact c5⟩

theorem set_other {w : World} {p q : Addr} {v : Value} (h : p ≠ q) : (w.setCell p v).cell? q = w.cell? q := by apply World.cell?_setCell_other; exact h
theorem set_same {w : World} {p : Addr} {u v : Value} (h : w.cell? p = some u) : (w.setCell p v).cell? p = some v := by apply World.cell?_setCell_same; exact h

def IntsIn (w : World) (B U : Nat) (a : Option Addr) (l : List Int) : Prop :=
  l.length ≤ maxLen ∧ (l.length = 0 ∨ ∃ b o, a = some ⟨b, o, none⟩ ∧ B ≤ b ∧ b < U ∧ ∀ i (h : i < l.length), w.cell? ⟨b, o + i, none⟩ = some (.int .i64 l[i]) ∧ w.frozen? ⟨b, o + i, none⟩ = false)
theorem WInts.within {w : World} {B : Nat} {a : Option Addr} {l : List Int} (h : WInts w B a l) : IntsIn w B w.heap.size a l := by
  refine ⟨h.1, ?_⟩
  by_cases e : l.length = 0
  · exact .inl e
  · rcases h.2 with h0 | ⟨b, o, ha, hB, hc⟩
    · exact .inl h0
    · exact .inr ⟨b, o, ha, hB, lt_of_cell (p := ⟨b, o + 0, none⟩) (hc 0 (by omega)).1, hc⟩
theorem IntsIn.kept {w w' : World} {B U : Nat} {a : Option Addr} {l : List Int} (h : IntsIn w B U a l) {S : Nat → Prop} (k : Kept S w w') (hs : ∀ b, B ≤ b → b < U → ¬ S b) : IntsIn w' B U a l := by
  refine ⟨h.1, ?_⟩
  rcases h.2 with h0 | ⟨b, o, rfl, hB, hU, hc⟩
  · exact .inl h0
  · exact .inr ⟨b, o, rfl, hB, hU, fun i hi => ⟨by rw [k.cell (lt_of_cell (hc i hi).1) (hs b hB hU)]; exact (hc i hi).1, by rw [k.frozen (p := ⟨b, o + i, none⟩) (lt_of_cell (hc i hi).1) (hs b hB hU)]; exact (hc i hi).2⟩⟩
def setNode (w : World) (b p : Nat) (n : Nd) : World :=
  (((((w.setCell ⟨b, p, none⟩ (.int .i64 n.op)).setCell ⟨b, p + 1, none⟩ (.int .i64 n.w)).setCell ⟨b, p + 2, none⟩ (.int .i64 n.k)).setCell ⟨b, p + 3, none⟩ (.int .i64 n.a)).setCell ⟨b, p + 4, none⟩ (.int .i64 n.b)).setCell ⟨b, p + 5, none⟩ (.int .i64 n.c)
theorem setNode_same {w : World} {b p : Nat} {v n : Nd} (h : NodeAt w b p v) : NodeAt (setNode w b p n) b p n := by
  obtain ⟨c0, c1, c2, c3, c4, c5⟩ := h
  unfold setNode
  refine ⟨?_, ?_, ?_, ?_, ?_, ?_⟩
  · rw [set_other (by simp), set_other (by simp), set_other (by simp), set_other (by simp), set_other (by simp)]; exact set_same c0
  · rw [set_other (by simp), set_other (by simp), set_other (by simp), set_other (by simp)]; exact set_same (by rw [set_other (by simp)]; exact c1)
  · rw [set_other (by simp), set_other (by simp), set_other (by simp)]; exact set_same (by rw [set_other (by simp), set_other (by simp)]; exact c2)
  · rw [set_other (by simp), set_other (by simp)]; exact set_same (by rw [set_other (by simp), set_other (by simp), set_other (by simp)]; exact c3)
  · rw [set_other (by simp)]; exact set_same (by rw [set_other (by simp), set_other (by simp), set_other (by simp), set_other (by simp)]; exact c4)
  · exact set_same (by rw [set_other (by simp), set_other (by simp), set_other (by simp), set_other (by simp), set_other (by simp)]; exact c5)
theorem setNode_cell {w : World} {b p : Nat} {n : Nd} {q : Nat} (h : q < p ∨ p + 6 ≤ q) : (setNode w b p n).cell? ⟨b, q, none⟩ = w.cell? ⟨b, q, none⟩ := by
  unfold setNode
  rw [set_other (by simp <;> omega), set_other (by simp <;> omega), set_other (by simp <;> omega), set_other (by simp <;> omega), set_other (by simp <;> omega), set_other (by simp <;> omega)]
theorem setNode_frozen {w : World} {b p : Nat} {n : Nd} {q : Addr} : (setNode w b p n).frozen? q = w.frozen? q := by
  unfold setNode; simp only [World.frozen?_setCell]
theorem setNode_size {w : World} {b p : Nat} {n : Nd} : (setNode w b p n).heap.size = w.heap.size := by
  simp [setNode, World.setCell]
theorem setNode_other {w : World} {b p q : Nat} {v n : Nd} (h : NodeAt w b q v) (hq : q + 6 ≤ p ∨ p + 6 ≤ q) : NodeAt (setNode w b p n) b q v := by
  obtain ⟨c0, c1, c2, c3, c4, c5⟩ := h
  exact ⟨by rw [setNode_cell (by omega)]; exact c0, by rw [setNode_cell (by omega)]; exact c1, by rw [setNode_cell (by omega)]; exact c2, by rw [setNode_cell (by omega)]; exact c3, by rw [setNode_cell (by omega)]; exact c4, by rw [setNode_cell (by omega)]; exact c5⟩
theorem setNode_keptS {S : Nat → Prop} {b p : Nat} {u w : World} {n : Nd} (hS : S b) (h : Kept S u w) : Kept S u (setNode w b p n) :=
  (((((h.setCell (p := ⟨b, p, none⟩) hS _).setCell (p := ⟨b, p + 1, none⟩) hS _).setCell (p := ⟨b, p + 2, none⟩) hS _).setCell (p := ⟨b, p + 3, none⟩) hS _).setCell (p := ⟨b, p + 4, none⟩) hS _).setCell (p := ⟨b, p + 5, none⟩) hS _
theorem setNode_kept {b o p : Nat} {u w : World} {n : Nd} (h : Kept (At (some ⟨b, o, none⟩)) u w) : Kept (At (some ⟨b, o, none⟩)) u (setNode w b p n) :=
  (((((h.setAt _ _).setAt _ _).setAt _ _).setAt _ _).setAt _ _).setAt _ _

theorem wints_lit (W : World) (B g : Nat) (l : List Int) (T : Nat) (hg : g = W.heap.size) (hB : B ≤ g) (hl : l.length ≤ maxLen) : WInts (W.alloc (.cells (l.map fun x => .int .i64 x).toArray T)) B (some ⟨g, 0, none⟩) l := by
  subst hg
  refine ⟨hl, .inr ⟨W.heap.size, 0, rfl, hB, fun i hi => ⟨?_, by simp⟩⟩⟩
  rw [World.cell?_alloc_new]
  simp [hi]
end Go.Proofs.YtnbenffechplgaaGreat.Nd0

/- Arguments that are lists of nodes, opened. -/
namespace Go.Proofs.YtnbenffechplgaaGreat.Op0
open Go.RowKit Go.ChangeShapes Go.WideShapes
open Nd0
set_option linter.unusedVariables false

theorem cellsInt : Tryz.prog.cellsOf 3 = 1 := by kernel_rfl
theorem cellsNode : Tryz.prog.cellsOf 37 = 6 := by kernel_rfl

theorem six {α : Type} (l : List α) (h : l.length = 6) : ∃ a b c d e f, l = [a, b, c, d, e, f] := by
  match l, h with
  | [a, b, c, d, e, f], _ => exact ⟨a, b, c, d, e, f, rfl⟩

section
variable {H : Type} {enc : TypeId × Value → H} {w : World} {base : Nat} {spare : Nat → Bool} {held : Bool}

theorem node_open {fuel : Nat} {cs : List Value} {x : DataW H × List MemPlace} (h : DataW.trod enc Tryz.prog w base spare held fuel 37 cs = some x) :
    ∃ n : Nd, cs = n.cells := by
  obtain ⟨xs, m, _, rfl, hl, hlen, hf⟩ := DataW.trod_struct Tryz.underlying37 h
  rw [cellsNode] at hl
  obtain ⟨c0, c1, c2, c3, c4, c5, rfl⟩ := six cs hl
  obtain ⟨y0, y1, y2, y3, y4, y5, rfl⟩ := six xs (by simpa using hlen)
  have g0 := hf 0 _ rfl
  have g1 := hf 1 _ rfl
  have g2 := hf 2 _ rfl
  have g3 := hf 3 _ rfl
  have g4 := hf 4 _ rfl
  have g5 := hf 5 _ rfl
  simp [cellsInt] at g0 g1 g2 g3 g4 g5
  obtain ⟨n0, e0, _, _⟩ := DataW.trod_int Tryz.underlying3 g0
  obtain ⟨n1, e1, _, _⟩ := DataW.trod_int Tryz.underlying3 g1
  obtain ⟨n2, e2, _, _⟩ := DataW.trod_int Tryz.underlying3 g2
  obtain ⟨n3, e3, _, _⟩ := DataW.trod_int Tryz.underlying3 g3
  obtain ⟨n4, e4, _, _⟩ := DataW.trod_int Tryz.underlying3 g4
  obtain ⟨n5, e5, _, _⟩ := DataW.trod_int Tryz.underlying3 g5
  simp at e0 e1 e2 e3 e4 e5
  subst e0 e1 e2 e3 e4 e5
  exact ⟨⟨n0, n1, n2, n3, n4, n5⟩, rfl⟩

theorem cells_six {a : Addr} {cs : List Value} (h : w.cells? base a 6 = some cs) : cs.length = 6 ∧ ∀ i, i < 6 → w.cell? (a.add i) = cs[i]? := by
  unfold World.cells? at h
  split at h
  · have hl : cs.length = 6 := by simpa using mapM_some_length h
    refine ⟨hl, fun i hi => ?_⟩
    have := mapM_some_get h i i (by simp [hi])
    exact this
  · cases h

theorem nodes_open {fuel : Nat} {a : Option Addr} {len cap : Nat} {x : DataW H × List MemPlace} (h : DataW.trod enc Tryz.prog w base spare held fuel 22 [.slice a len cap] = some x) :
    len ≤ maxLen ∧ ∃ l : List Nd, l.length = len ∧ Nodes w a l := by
  rcases Deep.open_slice Tryz.underlying22 h with ⟨hcs, _⟩ | ⟨b, len', cap', m, n, D, Pl, hcs, _, hl, hm, hmm, _, hc⟩
  · simp at hcs
    obtain ⟨rfl, rfl, rfl⟩ := hcs
    exact ⟨Nat.zero_le _, [], rfl, Nat.zero_le _, .inl rfl⟩
  · simp at hcs
    obtain ⟨rfl, rfl, rfl⟩ := hcs
    have hlm : len ≤ m := by rw [hmm]; split <;> omega
    have hall : ∀ i, i < len → ∃ nd : Nd, ∀ j, j < 6 → w.cell? ((b.add (i * 6)).add j) = nd.cells[j]? := by
      intro i hi
      obtain ⟨cs', h1, h2⟩ := hc i (by omega)
      rw [cellsNode] at h1
      obtain ⟨nd, rfl⟩ := node_open h2
      exact ⟨nd, (cells_six h1).2⟩
    refine ⟨by omega, ?_⟩
    obtain ⟨f, hf⟩ : ∃ f : Nat → Nd, ∀ i, i < len → ∀ j, j < 6 → w.cell? ((b.add (i * 6)).add j) = (f i).cells[j]? := by
      classical
      refine ⟨fun i => if hi : i < len then Classical.choose (hall i hi) else Nd.zero, fun i hi => ?_⟩
      simp only [dif_pos hi]
      exact Classical.choose_spec (hall i hi)
    refine ⟨(List.range len).map f, by simp, by simp; omega, ?_⟩
    by_cases h0 : len = 0
    · exact .inl (by simp [h0])
    · obtain ⟨xb, xo, spot⟩ := b
      have hs : spot = none := by
        have := hf 0 (by omega) 0 (by omega)
        simp [Addr.add, Nd.cells] at this
        simpa using World.cell?_spot this
      subst hs
      refine .inr ⟨xb, xo, rfl, fun i hi => ?_⟩
      have hi' : i < len := by simpa using hi
      have hg := hf i hi'
      simp only [Addr.add_lit] at hg
      have e : ((List.range len).map f)[i] = f i := by simp
      rw [e]
      exact ⟨hg 0 (by omega), hg 1 (by omega), hg 2 (by omega), hg 3 (by omega), hg 4 (by omega), hg 5 (by omega)⟩
end

end Go.Proofs.YtnbenffechplgaaGreat.Op0

/- Plain facts on words of bits: no Go text in sight. -/
namespace Go.Proofs.YtnbenffechplgaaGreat.Pl1
open Go.RowKit

def p2 (k : Nat) : Int := 2 ^ k

theorem p2_succ (k : Nat) : p2 (k + 1) = 2 * p2 k := by unfold p2; rw [Int.pow_succ]; omega
theorem p2_pos (k : Nat) : 1 ≤ p2 k := by
  induction k with
  | zero => simp [p2]
  | succ n ih => rw [p2_succ]; omega
theorem p2_mono {a b : Nat} (h : a ≤ b) : p2 a ≤ p2 b := by
  induction b with
  | zero => have : a = 0 := by omega
            subst this; exact Int.le_refl _
  | succ n ih =>
    by_cases e : a = n + 1
    · subst e; exact Int.le_refl _
    · have := ih (by omega); have := p2_pos n; rw [p2_succ]; omega
theorem p2_le (k : Nat) (h : k ≤ 8) : p2 k ≤ 256 := by
  have := p2_mono h; have e : p2 8 = 256 := rfl; omega

def wok (w a : Int) : Bool := decide (1 ≤ w ∧ w ≤ 8 ∧ 0 ≤ a ∧ a < p2 w.toNat)
theorem wok_iff {w a : Int} : wok w a = true ↔ 1 ≤ w ∧ w ≤ 8 ∧ 0 ≤ a ∧ a < p2 w.toNat := by simp [wok]
theorem wok_lt {w a : Int} (h : wok w a = true) : 0 ≤ a ∧ a ≤ 255 := by
  obtain ⟨h1, h2, h3, h4⟩ := wok_iff.1 h
  have := p2_le w.toNat (by omega); omega

theorem eight {w : Int} (h1 : 1 ≤ w) (h2 : w ≤ 8) : w = 1 ∨ w = 2 ∨ w = 3 ∨ w = 4 ∨ w = 5 ∨ w = 6 ∨ w = 7 ∨ w = 8 := by omega

theorem bits_and_u8_nat (a b : Nat) (ha : a < 256) (hb : b < 256) : bits .and .u8 (a : Int) (b : Int) = ((a &&& b : Nat) : Int) := by
  have hx : a &&& b < 2 ^ 8 := Nat.and_lt_two_pow _ (by omega)
  have h1 : (BitVec.ofInt 8 (a : Int)).toNat = a := by
    rw [BitVec.ofInt_natCast, BitVec.toNat_ofNat]; exact Nat.mod_eq_of_lt (by omega)
  have h2 : (BitVec.ofInt 8 (b : Int)).toNat = b := by
    rw [BitVec.ofInt_natCast, BitVec.toNat_ofNat]; exact Nat.mod_eq_of_lt (by omega)
  show IntKind.u8.wrap ((BitVec.ofInt 8 (a : Int) &&& BitVec.ofInt 8 (b : Int)).toNat : Int) = _
  rw [BitVec.toNat_and, h1, h2]
  simp only [IntKind.wrap, IntKind.signed, IntKind.bits]
  simp
  omega

theorem bits_or_u8_nat (a b : Nat) (ha : a < 256) (hb : b < 256) : bits .or .u8 (a : Int) (b : Int) = ((a ||| b : Nat) : Int) := by
  have hx : a ||| b < 2 ^ 8 := Nat.or_lt_two_pow (by omega) (by omega)
  have h1 : (BitVec.ofInt 8 (a : Int)).toNat = a := by
    rw [BitVec.ofInt_natCast, BitVec.toNat_ofNat]; exact Nat.mod_eq_of_lt (by omega)
  have h2 : (BitVec.ofInt 8 (b : Int)).toNat = b := by
    rw [BitVec.ofInt_natCast, BitVec.toNat_ofNat]; exact Nat.mod_eq_of_lt (by omega)
  show IntKind.u8.wrap ((BitVec.ofInt 8 (a : Int) ||| BitVec.ofInt 8 (b : Int)).toNat : Int) = _
  rw [BitVec.toNat_or, h1, h2]
  simp only [IntKind.wrap, IntKind.signed, IntKind.bits]
  simp
  omega

theorem and_mask (a : Int) (k : Nat) (h0 : 0 ≤ a) (h1 : a ≤ 255) (hk : k ≤ 8) : bits .and .u8 a (p2 k - 1) = a % p2 k := by
  obtain ⟨n, rfl⟩ := Int.eq_ofNat_of_zero_le h0
  have hp := p2_pos k
  have hl := p2_le k hk
  have e : p2 k - 1 = ((2 ^ k - 1 : Nat) : Int) := by
    have : 1 ≤ 2 ^ k := Nat.one_le_two_pow
    unfold p2; push_cast [this]; rfl
  have e2 : p2 k = ((2 ^ k : Nat) : Int) := by unfold p2; push_cast; rfl
  rw [e, bits_and_u8_nat n (2 ^ k - 1) (by omega) (by omega), Nat.and_two_pow_sub_one_eq_mod, e2]
  omega

theorem dvd256 (k : Nat) (hk : k ≤ 8) : p2 k ∣ 256 := by
  refine ⟨p2 (8 - k), ?_⟩
  unfold p2
  rw [← Int.pow_add, show k + (8 - k) = 8 by omega]; rfl
theorem mod256 (x : Int) (k : Nat) (hk : k ≤ 8) : x % 256 % p2 k = x % p2 k := Int.emod_emod_of_dvd x (dvd256 k hk)
theorem wrap_p2 (k : Nat) (hk : k ≤ 8) : wrap64 (2 ^ k) = p2 k := by
  have h := p2_pos k
  have h' := p2_le k hk
  show wrap64 (p2 k) = p2 k
  unfold wrap64; omega
theorem p2_pow (k : Nat) : (2 : Int) ^ k = p2 k := rfl

theorem shl8 (a b : Int) (yk : IntKind) (h : 8 ≤ b) : Op.shift .shl .u8 a yk b = pure (.int .u8 0) := by
  have hm : min b.toNat 8 = 8 := by omega
  have hn : ¬ b < 0 := by omega
  simp only [Op.shift, IntKind.bits, hm, if_neg hn]
  have : IntKind.u8.wrap (a * 2 ^ 8) = 0 := by
    simp only [IntKind.wrap, IntKind.signed, IntKind.bits]
    simp
  rw [this]
theorem shr8 (a b : Int) (yk : IntKind) (h : 8 ≤ b) (h0 : 0 ≤ a) (h1 : a ≤ 255) : Op.shift .shr .u8 a yk b = pure (.int .u8 0) := by
  have hm : min b.toNat 8 = 8 := by omega
  have hn : ¬ b < 0 := by omega
  simp only [Op.shift, IntKind.bits, hm, if_neg hn]
  have : a.fdiv (2 ^ 8) = 0 := by
    rw [Int.fdiv_eq_ediv_of_nonneg _ (by decide)]; omega
  rw [this]

/-! What each operation answers. -/
def vAdd (w a b : Int) : Int := if wok w a && wok w b then (a + b) % p2 w.toNat else 0
def vSub (w a b : Int) : Int := if wok w a && wok w b then (a - b) % p2 w.toNat else 0
def vMul (w a b : Int) : Int := if wok w a && wok w b then a * b % p2 w.toNat else 0
def vDiv (w a b : Int) : Int := if wok w a && wok w b then (if b = 0 then p2 w.toNat - 1 else a / b) else 0
def vRem (w a b : Int) : Int := if wok w a && wok w b then (if b = 0 then a else a % b) else 0
def vShl (w a b : Int) : Int := if wok w a && wok w b then (if w ≤ b then 0 else a * p2 b.toNat % p2 w.toNat) else 0
def vShr (w a b : Int) : Int := if wok w a && wok w b then (if w ≤ b then 0 else a / p2 b.toNat) else 0
def vFlip (w a : Int) : Int := if wok w a then p2 w.toNat - 1 - a else 0
def sgn (w a : Int) : Int := if p2 (w - 1).toNat ≤ a then a - p2 w.toNat else a
def vSigned (w a : Int) : Int := if wok w a then sgn w a else 0
def vLess (w a b : Int) : Int := if wok w a && wok w b && decide (a < b) then 1 else 0
def vLessSigned (w a b : Int) : Int := if wok w a && wok w b && decide (vSigned w a < vSigned w b) then 1 else 0
def vSlice (w a low n : Int) : Int := if wok w a && decide (0 ≤ low ∧ 1 ≤ n ∧ n ≤ w - low) then a / p2 low.toNat % p2 n.toNat else 0

theorem sgn_pos {w a : Int} (h : p2 (w - 1).toNat ≤ a) : sgn w a = a - p2 w.toNat := if_pos h
theorem sgn_neg {w a : Int} (h : ¬ p2 (w - 1).toNat ≤ a) : sgn w a = a := if_neg h
theorem sgn_hi {w a : Int} (h0 : 1 ≤ w) (h : p2 (w - 1).toNat ≤ a) : (a / 2 ^ (w.toNat - 1) == 0) = false := by
  rw [p2_pow, show w.toNat - 1 = (w - 1).toNat by omega]
  have hp := p2_pos (w - 1).toNat
  have : 1 ≤ a / p2 (w - 1).toNat := Int.le_ediv_of_mul_le (by omega) (by omega)
  rw [beq_eq_false_iff_ne]; omega
theorem sgn_lo {w a : Int} (h0 : 1 ≤ w) (ha : 0 ≤ a) (h : ¬ p2 (w - 1).toNat ≤ a) : (a / 2 ^ (w.toNat - 1) == 0) = true := by
  rw [p2_pow, show w.toNat - 1 = (w - 1).toNat by omega]
  have : a / p2 (w - 1).toNat = 0 := Int.ediv_eq_zero_of_lt ha (by omega)
  rw [beq_iff_eq]; exact this
theorem xor255 (a : Int) (h0 : 0 ≤ a) (h1 : a ≤ 255) : bits .xor .u8 IntKind.u8.max a = 255 - a := by
  obtain ⟨n, rfl⟩ := Int.eq_ofNat_of_zero_le h0
  have h2 : (BitVec.ofInt 8 (n : Int)).toNat = n := by
    rw [BitVec.ofInt_natCast, BitVec.toNat_ofNat]; exact Nat.mod_eq_of_lt (by omega)
  have e : BitVec.ofInt 8 IntKind.u8.max = BitVec.allOnes 8 := by decide
  show IntKind.u8.wrap ((BitVec.ofInt 8 IntKind.u8.max ^^^ BitVec.ofInt 8 (n : Int)).toNat : Int) = _
  rw [e, BitVec.allOnes_xor, BitVec.toNat_not, h2]
  simp only [IntKind.wrap, IntKind.signed, IntKind.bits]
  simp
  omega
theorem flip_spec (a : Int) (k : Nat) (hk : k ≤ 8) (h0 : 0 ≤ a) (h1 : a < p2 k) : (255 - a) % p2 k = p2 k - 1 - a := by
  have hl := p2_le k hk
  have e : 255 - a = (-1 - a) % 256 := by omega
  rw [e, mod256 _ k hk, ← Int.add_emod_right, Int.emod_eq_of_lt (by omega) (by omega)]
  omega
theorem sub_spec (a b : Int) (k : Nat) : (a + p2 k - b) % p2 k = (a - b) % p2 k := by
  rw [show a + p2 k - b = (a - b) + p2 k by omega, Int.add_emod_right]
theorem mul_bd {a b : Int} (ha : 0 ≤ a) (ha' : a ≤ 255) (hb : 0 ≤ b) (hb' : b ≤ 255) : 0 ≤ a * b ∧ a * b ≤ 65025 :=
  ⟨Int.mul_nonneg ha hb, by have := Int.mul_le_mul ha' hb' hb (by omega : (0 : Int) ≤ 255); omega⟩
theorem emod_le {a : Int} (k : Nat) : 0 ≤ a % p2 k ∧ a % p2 k < p2 k :=
  ⟨Int.emod_nonneg _ (by have := p2_pos k; omega), Int.emod_lt_of_pos _ (by have := p2_pos k; omega)⟩

end Go.Proofs.YtnbenffechplgaaGreat.Pl1

/- Terms as plain data: what the parts of a node are, and when a node is right. -/
namespace Go.Proofs.YtnbenffechplgaaGreat.Tm0
open Nd0 Pl1

def parts (n : Nd) : List Int :=
  if n.op = 2 ∨ n.op = 17 ∨ n.op = 19 ∨ n.op = 20 then [n.a]
  else if 3 ≤ n.op ∧ n.op ≤ 16 then [n.a, n.b]
  else if n.op = 18 then [n.a, n.b, n.c]
  else []
theorem parts_one {n : Nd} (h : n.op = 2 ∨ n.op = 17 ∨ n.op = 19 ∨ n.op = 20) : parts n = [n.a] := if_pos h
theorem parts_two {n : Nd} (h : 3 ≤ n.op ∧ n.op ≤ 16) : parts n = [n.a, n.b] := by
  unfold parts; rw [if_neg (by omega), if_pos h]
theorem parts_three {n : Nd} (h : n.op = 18) : parts n = [n.a, n.b, n.c] := by
  unfold parts; rw [if_neg (by omega), if_neg (by omega), if_pos h]
theorem parts_none {n : Nd} (h : ¬ (n.op = 2 ∨ n.op = 17 ∨ n.op = 19 ∨ n.op = 20)) (h2 : ¬ (3 ≤ n.op ∧ n.op ≤ 16)) (h3 : ¬ n.op = 18) : parts n = [] := by
  unfold parts; rw [if_neg h, if_neg h2, if_neg h3]
theorem parts_le (n : Nd) : (parts n).length ≤ 3 := by
  unfold parts; split
  · simp
  · split
    · simp
    · split <;> simp

def shapeOk (n : Nd) (ws : List Int) : Bool :=
  if n.op = 0 then wok n.w n.k && decide (n.a = 0 ∧ n.b = 0 ∧ n.c = 0)
  else if n.op = 1 then decide (0 ≤ n.k ∧ n.k ≤ 7 ∧ n.a = 0 ∧ n.b = 0 ∧ n.c = 0)
  else if n.op = 2 then decide (ws.getD 0 0 = n.w ∧ n.k = 0 ∧ n.b = 0 ∧ n.c = 0)
  else if 3 ≤ n.op ∧ n.op ≤ 12 then decide (ws.getD 0 0 = n.w ∧ ws.getD 1 0 = n.w ∧ n.k = 0 ∧ n.c = 0)
  else if 13 ≤ n.op ∧ n.op ≤ 15 then decide (ws.getD 0 0 = ws.getD 1 0 ∧ n.w = 1 ∧ n.k = 0 ∧ n.c = 0)
  else if n.op = 16 then decide (ws.getD 0 0 + ws.getD 1 0 = n.w ∧ n.k = 0 ∧ n.c = 0)
  else if n.op = 17 then decide (0 ≤ n.k ∧ n.k ≤ ws.getD 0 0 - n.w ∧ n.b = 0 ∧ n.c = 0)
  else if n.op = 18 then decide (ws.getD 0 0 = 1 ∧ ws.getD 1 0 = n.w ∧ ws.getD 2 0 = n.w ∧ n.k = 0)
  else if n.op = 19 ∨ n.op = 20 then decide (0 ≤ n.k ∧ n.k ≤ 7 ∧ 1 ≤ n.b ∧ n.b ≤ 8 ∧ ws.getD 0 0 = 1 ∧ n.w = 1 ∧ n.c = 0)
  else false
def width (l : List Nd) (p : Int) : Int := (nth l p.toNat).w
def nodeOk (l : List Nd) (i : Nat) : Bool :=
  let n := nth l i
  (parts n).all (fun p => decide (0 ≤ p ∧ p < i)) && decide (1 ≤ n.w ∧ n.w ≤ 8) && shapeOk n ((parts n).map (width l))

theorem node_bad_part {l : List Nd} {i : Nat} (k : Nat) (hk : k < (parts (nth l i)).length) (h : ¬ (0 ≤ (parts (nth l i))[k] ∧ (parts (nth l i))[k] < i)) : nodeOk l i = false := by
  have : (parts (nth l i)).all (fun p => decide (0 ≤ p ∧ p < i)) = false := by
    rw [List.all_eq_false]
    exact ⟨_, List.getElem_mem hk, by simpa using h⟩
  simp only [nodeOk]
  rw [this]
  simp
theorem node_bad_width {l : List Nd} {i : Nat} (h : ¬ (1 ≤ (nth l i).w ∧ (nth l i).w ≤ 8)) : nodeOk l i = false := by
  simp only [nodeOk]
  rw [decide_eq_false h]
  simp
theorem node_kind {l : List Nd} {i : Nat} (h : ∀ k (hk : k < (parts (nth l i)).length), 0 ≤ (parts (nth l i))[k] ∧ (parts (nth l i))[k] < i) (hw : 1 ≤ (nth l i).w ∧ (nth l i).w ≤ 8) :
    nodeOk l i = shapeOk (nth l i) ((parts (nth l i)).map (width l)) := by
  have : (parts (nth l i)).all (fun p => decide (0 ≤ p ∧ p < i)) = true := by
    rw [List.all_eq_true]
    intro p hp
    obtain ⟨k, hk, rfl⟩ := List.getElem_of_mem hp
    simpa using h k hk
  simp only [nodeOk]
  rw [this, decide_eq_true hw]
  simp

theorem node_width {l : List Nd} {i : Nat} (h : nodeOk l i = true) : 1 ≤ (nth l i).w ∧ (nth l i).w ≤ 8 := by
  simp only [nodeOk, Bool.and_eq_true, decide_eq_true_eq] at h
  exact h.1.2
def termOk (l : List Nd) : Bool := decide (1 ≤ l.length ∧ l.length ≤ 80) && (List.range l.length).all (nodeOk l)
theorem term_long {l : List Nd} (h : ¬ (1 ≤ l.length ∧ l.length ≤ 80)) : termOk l = false := by
  unfold termOk; rw [decide_eq_false h]; rfl
theorem term_bad {l : List Nd} (k : Nat) (hk : k < l.length) (h : nodeOk l k = false) : termOk l = false := by
  have : (List.range l.length).all (nodeOk l) = false := by
    rw [List.all_eq_false]; exact ⟨k, List.mem_range.2 hk, by simp [h]⟩
  unfold termOk; rw [this, Bool.and_false]
theorem term_good {l : List Nd} (h : 1 ≤ l.length ∧ l.length ≤ 80) (ha : ∀ k, k < l.length → nodeOk l k = true) : termOk l = true := by
  have : (List.range l.length).all (nodeOk l) = true := by
    rw [List.all_eq_true]; intro x hx; exact ha x (List.mem_range.1 hx)
  unfold termOk; rw [this, decide_eq_true h]; rfl
theorem term_len {l : List Nd} (h : termOk l = true) : 1 ≤ l.length ∧ l.length ≤ 80 := by
  simp only [termOk, Bool.and_eq_true, decide_eq_true_eq] at h; exact h.1
theorem term_node {l : List Nd} (h : termOk l = true) {k : Nat} (hk : k < l.length) : nodeOk l k = true := by
  simp only [termOk, Bool.and_eq_true, List.all_eq_true] at h; exact h.2 k (List.mem_range.2 hk)

end Go.Proofs.YtnbenffechplgaaGreat.Tm0
