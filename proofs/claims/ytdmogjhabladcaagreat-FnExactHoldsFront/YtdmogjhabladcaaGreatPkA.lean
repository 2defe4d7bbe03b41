/- Small texts of mine, one behind the other. -/
import Derived.WalkKit
import Derived.Deep.QuietTactic
import Derived.BigQuiet
/- Nodes as plain data, and what it is that a slice of nodes, of whole numbers or of flags can be read. -/
namespace Go.Proofs.YtdmogjhabladcaaGreat.Nd0
open Go.RowKit

/-- A node: six whole numbers. -/
structure Nd where
  op : Int
  w : Int
  k : Int
  a : Int
  b : Int
  c : Int

theorem Nd.ext' {m n : Nd} (h : m.op = n.op ∧ m.w = n.w ∧ m.k = n.k ∧ m.a = n.a ∧ m.b = n.b ∧ m.c = n.c) : m = n := by
  cases m; cases n; simp_all
def Nd.zero : Nd := ⟨0, 0, 0, 0, 0, 0⟩
def Nd.cells (n : Nd) : List Value := [.int .i64 n.op, .int .i64 n.w, .int .i64 n.k, .int .i64 n.a, .int .i64 n.b, .int .i64 n.c]

/-- Node i of a list, or one of noughts. -/
def nth (l : List Nd) (i : Nat) : Nd := l.getD i Nd.zero
theorem nth_get {l : List Nd} {i : Nat} (h : i < l.length) : l[i] = nth l i := by simp [nth, List.getD, h]

/-- The node n lies in block b from cell p on. -/
structure NodeAt (w : World) (b p : Nat) (n : Nd) : Prop where
  c0 : w.cell? ⟨b, p, none⟩ = some (.int .i64 n.op)
  c1 : w.cell? ⟨b, p + 1, none⟩ = some (.int .i64 n.w)
  c2 : w.cell? ⟨b, p + 2, none⟩ = some (.int .i64 n.k)
  c3 : w.cell? ⟨b, p + 3, none⟩ = some (.int .i64 n.a)
  c4 : w.cell? ⟨b, p + 4, none⟩ = some (.int .i64 n.b)
  c5 : w.cell? ⟨b, p + 5, none⟩ = some (.int .i64 n.c)

/-- A slice of the nodes l can be read at address a. -/
def Nodes (w : World) (a : Option Addr) (l : List Nd) : Prop :=
  l.length ≤ maxLen ∧ (l.length = 0 ∨ ∃ b o, a = some ⟨b, o, none⟩ ∧ ∀ i (h : i < l.length), NodeAt w b (o + i * 6) l[i])
/-- A slice of the whole numbers l can be read at address a. -/
def Ints (w : World) (a : Option Addr) (l : List Int) : Prop :=
  l.length ≤ maxLen ∧ (l.length = 0 ∨ ∃ b o, a = some ⟨b, o, none⟩ ∧ ∀ i (h : i < l.length), w.cell? ⟨b, o + i, none⟩ = some (.int .i64 l[i]))

theorem lt_of_cell {w : World} {p : Addr} {v : Value} (h : w.cell? p = some v) : p.block < w.heap.size := World.block_lt_of_cell? _ _ h
theorem NodeAt.below {w w' : World} {b p : Nat} {n : Nd} (h : NodeAt w b p n) {B : Nat} (k : Below B w w') (hb : b < B) : NodeAt w' b p n :=
  ⟨by rw [k.cell hb]; exact h.c0, by rw [k.cell hb]; exact h.c1, by rw [k.cell hb]; exact h.c2, by rw [k.cell hb]; exact h.c3, by rw [k.cell hb]; exact h.c4, by rw [k.cell hb]; exact h.c5⟩
theorem NodeAt.lt {w : World} {b p : Nat} {n : Nd} (h : NodeAt w b p n) : b < w.heap.size := lt_of_cell (p := ⟨b, p, none⟩) h.c0
theorem Nodes.below {w w' : World} {a : Option Addr} {l : List Nd} (h : Nodes w a l) (k : Below w.heap.size w w') : Nodes w' a l := by
  refine ⟨h.1, ?_⟩
  rcases h.2 with h0 | ⟨b, o, rfl, hc⟩
  · exact .inl h0
  · exact .inr ⟨b, o, rfl, fun i hi => (hc i hi).below k (hc i hi).lt⟩
theorem Ints.below {w w' : World} {a : Option Addr} {l : List Int} (h : Ints w a l) (k : Below w.heap.size w w') : Ints w' a l := by
  refine ⟨h.1, ?_⟩
  rcases h.2 with h0 | ⟨b, o, rfl, hc⟩
  · exact .inl h0
  · exact .inr ⟨b, o, rfl, fun i hi => by rw [k.cell (lt_of_cell (hc i hi))]; exact hc i hi⟩

/-- From w to w' no block that was there has turned but those in S. -/
structure Kept (S : Nat → Prop) (w w' : World) : Prop where
  os : w'.os = w.os
  tape : w'.tape = w.tape
  output : w'.output = w.output
  size : w.heap.size ≤ w'.heap.size
  block : ∀ k, k < w.heap.size → ¬ S k → w'.heap[k]? = w.heap[k]?

theorem Kept.refl (S : Nat → Prop) (w : World) : Kept S w w := ⟨rfl, rfl, rfl, Nat.le_refl _, fun _ _ _ => rfl⟩
theorem Kept.trans {S : Nat → Prop} {u v w : World} (h : Kept S u v) (k : Kept S v w) : Kept S u w :=
  ⟨k.os.trans h.os, k.tape.trans h.tape, k.output.trans h.output, Nat.le_trans h.size k.size, fun i hi hb => (k.block i (Nat.lt_of_lt_of_le hi h.size) hb).trans (h.block i hi hb)⟩
theorem Kept.mono {S T : Nat → Prop} {w w' : World} (h : Kept S w w') (k : ∀ i, S i → T i) : Kept T w w' :=
  ⟨h.os, h.tape, h.output, h.size, fun i hi hb => h.block i hi fun x => hb (k i x)⟩
theorem Kept.drew {S : Nat → Prop} {u w : World} (h : Kept S u w) : Kept S u w.drew := ⟨h.os, h.tape, h.output, h.size, h.block⟩
theorem Kept.drewN {S : Nat → Prop} {u w : World} (h : Kept S u w) (n : Nat) : Kept S u (w.drewN n) := ⟨h.os, h.tape, h.output, h.size, h.block⟩
theorem Kept.alloc {S : Nat → Prop} {u w : World} (h : Kept S u w) (o : Obj) : Kept S u (w.alloc o) :=
  h.trans ⟨rfl, rfl, rfl, by simp, fun k hk _ => Below.heap_alloc _ _ _ hk⟩
theorem Kept.setCell {S : Nat → Prop} {u w : World} (h : Kept S u w) {p : Addr} (hp : S p.block) (x : Value) : Kept S u (w.setCell p x) :=
  h.trans ⟨rfl, rfl, rfl, by simp [World.setCell], fun k _ hk => Below.heap_setCell _ _ _ _ (fun e => hk (e ▸ hp))⟩
theorem Kept.cell {S : Nat → Prop} {w w' : World} (h : Kept S w w') {p : Addr} (hp : p.block < w.heap.size) (hb : ¬ S p.block) : w'.cell? p = w.cell? p :=
  World.cell?_of_block (w := w) (h.block p.block hp hb)
theorem Kept.frozen {S : Nat → Prop} {w w' : World} (h : Kept S w w') {p : Addr} (hp : p.block < w.heap.size) (hb : ¬ S p.block) : w'.frozen? p = w.frozen? p :=
  World.frozen?_of_block (w := w) (h.block p.block hp hb)
theorem Kept.below {S : Nat → Prop} {B : Nat} {w w' : World} (h : Kept S w w') (hB : ∀ k, S k → B ≤ k) (hs : B ≤ w.heap.size) : Below B w w' :=
  ⟨h.os, h.tape, h.output, h.size, fun k hk => h.block k (by omega) (fun x => by have := hB k x; omega)⟩
theorem Kept.ofBelow {S : Nat → Prop} {w w' : World} (h : Below w.heap.size w w') : Kept S w w' :=
  ⟨h.os, h.tape, h.output, h.size, fun k hk _ => h.block k hk⟩

/-- The block that an address names. -/
def At (a : Option Addr) (k : Nat) : Prop := ∃ x, a = some x ∧ k = x.block

theorem Kept.setAt {b o : Nat} {u w : World} (h : Kept (At (some ⟨b, o, none⟩)) u w) (p : Nat) (x : Value) : Kept (At (some ⟨b, o, none⟩)) u (w.setCell ⟨b, p, none⟩ x) := h.setCell (p := ⟨b, p, none⟩) ⟨⟨b, o, none⟩, rfl, rfl⟩ x
/-- .. where something is there. -/
def Ats (n : Nat) (a : Option Addr) (k : Nat) : Prop := 0 < n ∧ At a k
/-- A slice of the whole numbers l, in a block from B on, that may be written. -/
def WInts (w : World) (B : Nat) (a : Option Addr) (l : List Int) : Prop :=
  l.length ≤ maxLen ∧ (l.length = 0 ∨ ∃ b o, a = some ⟨b, o, none⟩ ∧ B ≤ b ∧ ∀ i (h : i < l.length), w.cell? ⟨b, o + i, none⟩ = some (.int .i64 l[i]) ∧ w.frozen? ⟨b, o + i, none⟩ = false)
theorem WInts.ints {w : World} {B : Nat} {a : Option Addr} {l : List Int} (h : WInts w B a l) : Ints w a l := by
  refine ⟨h.1, ?_⟩
  rcases h.2 with h0 | ⟨b, o, ha, _, hc⟩
  · exact .inl h0
  · exact .inr ⟨b, o, ha, fun i hi => (hc i hi).1⟩
theorem WInts.kept {w w' : World} {B : Nat} {a : Option Addr} {l : List Int} (h : WInts w B a l) {S : Nat → Prop} (k : Kept S w w') (hs : ∀ x, a = some x → ¬ S x.block) : WInts w' B a l := by
  refine ⟨h.1, ?_⟩
  rcases h.2 with h0 | ⟨b, o, rfl, hB, hc⟩
  · exact .inl h0
  · exact .inr ⟨b, o, rfl, hB, fun i hi => ⟨by rw [k.cell (lt_of_cell (hc i hi).1) (hs ⟨b, o, none⟩ rfl)]; exact (hc i hi).1, by rw [k.frozen (p := ⟨b, o + i, none⟩) (lt_of_cell (hc i hi).1) (hs ⟨b, o, none⟩ rfl)]; exact (hc i hi).2⟩⟩
theorem Nodes.kept {w w' : World} {a : Option Addr} {l : List Nd} (h : Nodes w a l) {S : Nat → Prop} (k : Kept S w w') (hs : ∀ x, a = some x → ¬ S x.block) : Nodes w' a l := by
  refine ⟨h.1, ?_⟩
  rcases h.2 with h0 | ⟨b, o, rfl, hc⟩
  · exact .inl h0
  · refine .inr ⟨b, o, rfl, fun i hi => ?_⟩
    have hb := (hc i hi).lt
    have hn : ¬ S b := hs ⟨b, o, none⟩ rfl
    obtain ⟨c0, c1, c2, c3, c4, c5⟩ := hc i hi
    exact ⟨by rw [k.cell hb hn]; exact c0, by rw [k.cell hb hn]; exact c1, by rw [k.cell hb hn]; exact c2, by rw [k.cell hb hn]; exact c3, by rw [k.cell hb hn]; exact c4, by rw [k.cell hb hn]; exact c5⟩

theorem set_other {w : World} {p q : Addr} {v : Value} (h : p ≠ q) : (w.setCell p v).cell? q = w.cell? q := by apply World.cell?_setCell_other; exact h
theorem set_same {w : World} {p : Addr} {u v : Value} (h : w.cell? p = some u) : (w.setCell p v).cell? p = some v := by apply World.cell?_setCell_same; exact h

/-- A slice of the whole numbers l, in a block from B on and below U, that may be written. -/
def IntsIn (w : World) (B U : Nat) (a : Option Addr) (l : List Int) : Prop :=
  l.length ≤ maxLen ∧ (l.length = 0 ∨ ∃ b o, a = some ⟨b, o, none⟩ ∧ B ≤ b ∧ b < U ∧ ∀ i (h : i < l.length), w.cell? ⟨b, o + i, none⟩ = some (.int .i64 l[i]) ∧ w.frozen? ⟨b, o + i, none⟩ = false)
theorem WInts.within {w : World} {B : Nat} {a : Option Addr} {l : List Int} (h : WInts w B a l) : IntsIn w B w.heap.size a l := by
  refine ⟨h.1, ?_⟩
  by_cases e : l.length = 0
  · exact .inl e
  · rcases h.2 with h0 | ⟨b, o, ha, hB, hc⟩
    · exact .inl h0
    · exact .inr ⟨b, o, ha, hB, lt_of_cell (p := ⟨b, o + 0, none⟩) (hc 0 (by omega)).1, hc⟩
theorem IntsIn.wints {w : World} {B U : Nat} {a : Option Addr} {l : List Int} (h : IntsIn w B U a l) : WInts w B a l := by
  refine ⟨h.1, ?_⟩
  rcases h.2 with h0 | ⟨b, o, ha, hB, _, hc⟩
  · exact .inl h0
  · exact .inr ⟨b, o, ha, hB, hc⟩
theorem IntsIn.kept {w w' : World} {B U : Nat} {a : Option Addr} {l : List Int} (h : IntsIn w B U a l) {S : Nat → Prop} (k : Kept S w w') (hs : ∀ b, B ≤ b → b < U → ¬ S b) : IntsIn w' B U a l := by
  refine ⟨h.1, ?_⟩
  rcases h.2 with h0 | ⟨b, o, rfl, hB, hU, hc⟩
  · exact .inl h0
  · exact .inr ⟨b, o, rfl, hB, hU, fun i hi => ⟨by rw [k.cell (lt_of_cell (hc i hi).1) (hs b hB hU)]; exact (hc i hi).1, by rw [k.frozen (p := ⟨b, o + i, none⟩) (lt_of_cell (hc i hi).1) (hs b hB hU)]; exact (hc i hi).2⟩⟩
theorem IntsIn.again {w w' : World} {B U : Nat} {a : Option Addr} {l l' : List Int} (h : IntsIn w B U a l) (h' : WInts w' B a l') (e : l'.length = l.length) : IntsIn w' B U a l' := by
  refine ⟨h'.1, ?_⟩
  rcases h.2 with h0 | ⟨b, o, rfl, hB, hU, hc⟩
  · exact .inl (by omega)
  · rcases h'.2 with h0 | ⟨b', o', ha, hB', hc'⟩
    · exact .inl h0
    · cases ha
      exact .inr ⟨b, o, rfl, hB, hU, hc'⟩
theorem IntsIn.ats {w : World} {B U : Nat} {a : Option Addr} {l : List Int} (h : IntsIn w B U a l) {k : Nat} (hk : Ats l.length a k) : B ≤ k ∧ k < U := by
  obtain ⟨hp, x, hx, rfl⟩ := hk
  rcases h.2 with h0 | ⟨b, o, rfl, hB, hU, _⟩
  · omega
  · cases hx; exact ⟨hB, hU⟩

/-- Node n written over six cells of block b from p on. -/
def setNode (w : World) (b p : Nat) (n : Nd) : World :=
  (((((w.setCell ⟨b, p, none⟩ (.int .i64 n.op)).setCell ⟨b, p + 1, none⟩ (.int .i64 n.w)).setCell ⟨b, p + 2, none⟩ (.int .i64 n.k)).setCell ⟨b, p + 3, none⟩ (.int .i64 n.a)).setCell ⟨b, p + 4, none⟩ (.int .i64 n.b)).setCell ⟨b, p + 5, none⟩ (.int .i64 n.c)
theorem setNode_same {w : World} {b p : Nat} {v n : Nd} (h : NodeAt w b p v) : NodeAt (setNode w b p n) b p n := by
  obtain ⟨c0, c1, c2, c3, c4, c5⟩ := h
  unfold setNode
  refine ⟨?_, ?_, ?_, ?_, ?_, ?_⟩
  · rw [set_other (by simp), set_other (by simp), set_other (by simp), set_other (by simp), set_other (by simp)]; exact set_same c0
  · rw [set_other (by simp), set_other (by simp), set_other (by simp), set_other (by simp)]; exact set_same (by rw [set_other (by simp)]; exact c1)
  · rw [set_other (by simp), set_other (by simp), set_other (by simp)]; exact set_same (by rw [set_other (by simp), set_other (by simp)]; exact c2)
  · rw [set_other (by simp), set_other (by simp)]; exact set_same (by rw [set_other (by simp), set_other (by simp), set_other (by simp)]; exact c3)
  · rw [set_other (by simp)]; exact set_same (by rw [set_other (by simp), set_other (by simp), set_other (by simp), set_other (by simp)]; exact c4)
  · exact set_same (by rw [set_other (by simp), set_other (by simp), set_other (by simp), set_other (by simp), set_other (by simp)]; exact c5)
theorem setNode_cell {w : World} {b p : Nat} {n : Nd} {q : Nat} (h : q < p ∨ p + 6 ≤ q) : (setNode w b p n).cell? ⟨b, q, none⟩ = w.cell? ⟨b, q, none⟩ := by
  unfold setNode
  rw [set_other (by simp <;> omega), set_other (by simp <;> omega), set_other (by simp <;> omega), set_other (by simp <;> omega), set_other (by simp <;> omega), set_other (by simp <;> omega)]
theorem setNode_frozen {w : World} {b p : Nat} {n : Nd} {q : Addr} : (setNode w b p n).frozen? q = w.frozen? q := by
  unfold setNode; simp only [World.frozen?_setCell]
theorem setNode_size {w : World} {b p : Nat} {n : Nd} : (setNode w b p n).heap.size = w.heap.size := by
  simp [setNode, World.setCell]
theorem setNode_other {w : World} {b p q : Nat} {v n : Nd} (h : NodeAt w b q v) (hq : q + 6 ≤ p ∨ p + 6 ≤ q) : NodeAt (setNode w b p n) b q v := by
  obtain ⟨c0, c1, c2, c3, c4, c5⟩ := h
  exact ⟨by rw [setNode_cell (by omega)]; exact c0, by rw [setNode_cell (by omega)]; exact c1, by rw [setNode_cell (by omega)]; exact c2, by rw [setNode_cell (by omega)]; exact c3, by rw [setNode_cell (by omega)]; exact c4, by rw [setNode_cell (by omega)]; exact c5⟩
theorem setNode_keptS {S : Nat → Prop} {b p : Nat} {u w : World} {n : Nd} (hS : S b) (h : Kept S u w) : Kept S u (setNode w b p n) :=
  (((((h.setCell (p := ⟨b, p, none⟩) hS _).setCell (p := ⟨b, p + 1, none⟩) hS _).setCell (p := ⟨b, p + 2, none⟩) hS _).setCell (p := ⟨b, p + 3, none⟩) hS _).setCell (p := ⟨b, p + 4, none⟩) hS _).setCell (p := ⟨b, p + 5, none⟩) hS _
theorem setNode_kept {b o p : Nat} {u w : World} {n : Nd} (h : Kept (At (some ⟨b, o, none⟩)) u w) : Kept (At (some ⟨b, o, none⟩)) u (setNode w b p n) :=
  (((((h.setAt _ _).setAt _ _).setAt _ _).setAt _ _).setAt _ _).setAt _ _

theorem wints_lit (W : World) (B g : Nat) (l : List Int) (T : Nat) (hg : g = W.heap.size) (hB : B ≤ g) (hl : l.length ≤ maxLen) : WInts (W.alloc (.cells (l.map fun x => .int .i64 x).toArray T)) B (some ⟨g, 0, none⟩) l := by
  subst hg
  refine ⟨hl, .inr ⟨W.heap.size, 0, rfl, hB, fun i hi => ⟨?_, by simp⟩⟩⟩
  rw [World.cell?_alloc_new]
  simp [hi]
/-- The numbers from k0 on. -/
def marks (n : Nat) (k0 : Int) : List Int := (List.range n).map fun (i : Nat) => k0 + (i : Int)
theorem marks_length (n : Nat) (k0 : Int) : (marks n k0).length = n := by simp [marks]
theorem marks_get (n : Nat) (k0 : Int) (i : Nat) (h : i < (marks n k0).length) : (marks n k0)[i] = k0 + i := by simp [marks]

end Go.Proofs.YtdmogjhabladcaaGreat.Nd0

/- Plain facts on words of bits: no Go text in sight. -/
namespace Go.Proofs.YtdmogjhabladcaaGreat.Pl1
open Go.RowKit

/-- 2 to the k, as an integer; kept shut for the walks. -/
def p2 (k : Nat) : Int := 2 ^ k

theorem p2_zero : p2 0 = 1 := rfl
theorem p2_succ (k : Nat) : p2 (k + 1) = 2 * p2 k := by unfold p2; rw [Int.pow_succ]; omega
theorem p2_pos (k : Nat) : 1 ≤ p2 k := by
  induction k with
  | zero => simp [p2]
  | succ n ih => rw [p2_succ]; omega
theorem p2_mono {a b : Nat} (h : a ≤ b) : p2 a ≤ p2 b := by
  induction b with
  | zero => have : a = 0 := by omega
            subst this; exact Int.le_refl _
  | succ n ih =>
    by_cases e : a = n + 1
    · subst e; exact Int.le_refl _
    · have := ih (by omega); have := p2_pos n; rw [p2_succ]; omega
theorem p2_le (k : Nat) (h : k ≤ 8) : p2 k ≤ 256 := by
  have := p2_mono h; have e : p2 8 = 256 := rfl; omega

/-- Whether a is a word of width w. -/
def wok (w a : Int) : Bool := decide (1 ≤ w ∧ w ≤ 8 ∧ 0 ≤ a ∧ a < p2 w.toNat)
theorem wok_iff {w a : Int} : wok w a = true ↔ 1 ≤ w ∧ w ≤ 8 ∧ 0 ≤ a ∧ a < p2 w.toNat := by simp [wok]
theorem wok_lt {w a : Int} (h : wok w a = true) : 0 ≤ a ∧ a ≤ 255 := by
  obtain ⟨h1, h2, h3, h4⟩ := wok_iff.1 h
  have := p2_le w.toNat (by omega); omega

/-- A width is one of eight. -/
theorem eight {w : Int} (h1 : 1 ≤ w) (h2 : w ≤ 8) : w = 1 ∨ w = 2 ∨ w = 3 ∨ w = 4 ∨ w = 5 ∨ w = 6 ∨ w = 7 ∨ w = 8 := by omega

theorem bits_and_u8_nat (a b : Nat) (ha : a < 256) (hb : b < 256) : bits .and .u8 (a : Int) (b : Int) = ((a &&& b : Nat) : Int) := by
  have hx : a &&& b < 2 ^ 8 := Nat.and_lt_two_pow _ (by omega)
  have h1 : (BitVec.ofInt 8 (a : Int)).toNat = a := by
    rw [BitVec.ofInt_natCast, BitVec.toNat_ofNat]; exact Nat.mod_eq_of_lt (by omega)
  have h2 : (BitVec.ofInt 8 (b : Int)).toNat = b := by
    rw [BitVec.ofInt_natCast, BitVec.toNat_ofNat]; exact Nat.mod_eq_of_lt (by omega)
  show IntKind.u8.wrap ((BitVec.ofInt 8 (a : Int) &&& BitVec.ofInt 8 (b : Int)).toNat : Int) = _
  rw [BitVec.toNat_and, h1, h2]
  simp only [IntKind.wrap, IntKind.signed, IntKind.bits]
  simp
  omega

theorem bits_or_u8_nat (a b : Nat) (ha : a < 256) (hb : b < 256) : bits .or .u8 (a : Int) (b : Int) = ((a ||| b : Nat) : Int) := by
  have hx : a ||| b < 2 ^ 8 := Nat.or_lt_two_pow (by omega) (by omega)
  have h1 : (BitVec.ofInt 8 (a : Int)).toNat = a := by
    rw [BitVec.ofInt_natCast, BitVec.toNat_ofNat]; exact Nat.mod_eq_of_lt (by omega)
  have h2 : (BitVec.ofInt 8 (b : Int)).toNat = b := by
    rw [BitVec.ofInt_natCast, BitVec.toNat_ofNat]; exact Nat.mod_eq_of_lt (by omega)
  show IntKind.u8.wrap ((BitVec.ofInt 8 (a : Int) ||| BitVec.ofInt 8 (b : Int)).toNat : Int) = _
  rw [BitVec.toNat_or, h1, h2]
  simp only [IntKind.wrap, IntKind.signed, IntKind.bits]
  simp
  omega

/-- To mask the k lowest bits is the rest by 2 to the k. -/
theorem and_mask (a : Int) (k : Nat) (h0 : 0 ≤ a) (h1 : a ≤ 255) (hk : k ≤ 8) : bits .and .u8 a (p2 k - 1) = a % p2 k := by
  obtain ⟨n, rfl⟩ := Int.eq_ofNat_of_zero_le h0
  have hp := p2_pos k
  have hl := p2_le k hk
  have e : p2 k - 1 = ((2 ^ k - 1 : Nat) : Int) := by
    have : 1 ≤ 2 ^ k := Nat.one_le_two_pow
    unfold p2; push_cast [this]; rfl
  have e2 : p2 k = ((2 ^ k : Nat) : Int) := by unfold p2; push_cast; rfl
  rw [e, bits_and_u8_nat n (2 ^ k - 1) (by omega) (by omega), Nat.and_two_pow_sub_one_eq_mod, e2]
  omega

theorem dvd256 (k : Nat) (hk : k ≤ 8) : p2 k ∣ 256 := by
  refine ⟨p2 (8 - k), ?_⟩
  unfold p2
  rw [← Int.pow_add, show k + (8 - k) = 8 by omega]; rfl
theorem mod256 (x : Int) (k : Nat) (hk : k ≤ 8) : x % 256 % p2 k = x % p2 k := Int.emod_emod_of_dvd x (dvd256 k hk)
theorem wrap_p2 (k : Nat) (hk : k ≤ 8) : wrap64 (2 ^ k) = p2 k := by
  have h := p2_pos k
  have h' := p2_le k hk
  show wrap64 (p2 k) = p2 k
  unfold wrap64; omega
theorem p2_pow (k : Nat) : (2 : Int) ^ k = p2 k := rfl

theorem shl8 (a b : Int) (yk : IntKind) (h : 8 ≤ b) : Op.shift .shl .u8 a yk b = pure (.int .u8 0) := by
  have hm : min b.toNat 8 = 8 := by omega
  have hn : ¬ b < 0 := by omega
  simp only [Op.shift, IntKind.bits, hm, if_neg hn]
  have : IntKind.u8.wrap (a * 2 ^ 8) = 0 := by
    simp only [IntKind.wrap, IntKind.signed, IntKind.bits]
    simp
  rw [this]
theorem shr8 (a b : Int) (yk : IntKind) (h : 8 ≤ b) (h0 : 0 ≤ a) (h1 : a ≤ 255) : Op.shift .shr .u8 a yk b = pure (.int .u8 0) := by
  have hm : min b.toNat 8 = 8 := by omega
  have hn : ¬ b < 0 := by omega
  simp only [Op.shift, IntKind.bits, hm, if_neg hn]
  have : a.fdiv (2 ^ 8) = 0 := by
    rw [Int.fdiv_eq_ediv_of_nonneg _ (by decide)]; omega
  rw [this]

/-! What each operation answers. -/
def vAdd (w a b : Int) : Int := if wok w a && wok w b then (a + b) % p2 w.toNat else 0
def vSub (w a b : Int) : Int := if wok w a && wok w b then (a - b) % p2 w.toNat else 0
def vMul (w a b : Int) : Int := if wok w a && wok w b then a * b % p2 w.toNat else 0
def vDiv (w a b : Int) : Int := if wok w a && wok w b then (if b = 0 then p2 w.toNat - 1 else a / b) else 0
def vRem (w a b : Int) : Int := if wok w a && wok w b then (if b = 0 then a else a % b) else 0
def vShl (w a b : Int) : Int := if wok w a && wok w b then (if w ≤ b then 0 else a * p2 b.toNat % p2 w.toNat) else 0
def vShr (w a b : Int) : Int := if wok w a && wok w b then (if w ≤ b then 0 else a / p2 b.toNat) else 0
def vFlip (w a : Int) : Int := if wok w a then p2 w.toNat - 1 - a else 0
def sgn (w a : Int) : Int := if p2 (w - 1).toNat ≤ a then a - p2 w.toNat else a
def vSigned (w a : Int) : Int := if wok w a then sgn w a else 0
def vLess (w a b : Int) : Int := if wok w a && wok w b && decide (a < b) then 1 else 0
def vLessSigned (w a b : Int) : Int := if wok w a && wok w b && decide (vSigned w a < vSigned w b) then 1 else 0
def vJoin (w a v b : Int) : Int := if wok w a && wok v b && decide (w + v ≤ 8) then a * p2 v.toNat + b else 0
def vSlice (w a low n : Int) : Int := if wok w a && decide (0 ≤ low ∧ 1 ≤ n ∧ n ≤ w - low) then a / p2 low.toNat % p2 n.toNat else 0

theorem sgn_pos {w a : Int} (h : p2 (w - 1).toNat ≤ a) : sgn w a = a - p2 w.toNat := if_pos h
theorem sgn_neg {w a : Int} (h : ¬ p2 (w - 1).toNat ≤ a) : sgn w a = a := if_neg h
theorem sgn_hi {w a : Int} (h0 : 1 ≤ w) (h : p2 (w - 1).toNat ≤ a) : (a / 2 ^ (w.toNat - 1) == 0) = false := by
  rw [p2_pow, show w.toNat - 1 = (w - 1).toNat by omega]
  have hp := p2_pos (w - 1).toNat
  have : 1 ≤ a / p2 (w - 1).toNat := Int.le_ediv_of_mul_le (by omega) (by omega)
  rw [beq_eq_false_iff_ne]; omega
theorem sgn_lo {w a : Int} (h0 : 1 ≤ w) (ha : 0 ≤ a) (h : ¬ p2 (w - 1).toNat ≤ a) : (a / 2 ^ (w.toNat - 1) == 0) = true := by
  rw [p2_pow, show w.toNat - 1 = (w - 1).toNat by omega]
  have : a / p2 (w - 1).toNat = 0 := Int.ediv_eq_zero_of_lt ha (by omega)
  rw [beq_iff_eq]; exact this
theorem xor255 (a : Int) (h0 : 0 ≤ a) (h1 : a ≤ 255) : bits .xor .u8 IntKind.u8.max a = 255 - a := by
  obtain ⟨n, rfl⟩ := Int.eq_ofNat_of_zero_le h0
  have h2 : (BitVec.ofInt 8 (n : Int)).toNat = n := by
    rw [BitVec.ofInt_natCast, BitVec.toNat_ofNat]; exact Nat.mod_eq_of_lt (by omega)
  have e : BitVec.ofInt 8 IntKind.u8.max = BitVec.allOnes 8 := by decide
  show IntKind.u8.wrap ((BitVec.ofInt 8 IntKind.u8.max ^^^ BitVec.ofInt 8 (n : Int)).toNat : Int) = _
  rw [e, BitVec.allOnes_xor, BitVec.toNat_not, h2]
  simp only [IntKind.wrap, IntKind.signed, IntKind.bits]
  simp
  omega
theorem flip_spec (a : Int) (k : Nat) (hk : k ≤ 8) (h0 : 0 ≤ a) (h1 : a < p2 k) : (255 - a) % p2 k = p2 k - 1 - a := by
  have hl := p2_le k hk
  have e : 255 - a = (-1 - a) % 256 := by omega
  rw [e, mod256 _ k hk, ← Int.add_emod_right, Int.emod_eq_of_lt (by omega) (by omega)]
  omega
theorem join_spec (a b : Int) (j k : Nat) (h : j + k ≤ 8) (ha : 0 ≤ a) (ha' : a < p2 j) (hb : 0 ≤ b) (hb' : b < p2 k) :
    a * p2 k % p2 (j + k) = a * p2 k ∧ bits .or .u8 (a * p2 k) b = a * p2 k + b ∧ 0 ≤ a * p2 k + b ∧ a * p2 k + b < p2 (j + k) := by
  have hl := p2_le (j + k) h
  have e : p2 (j + k) = p2 j * p2 k := by unfold p2; rw [Int.pow_add]
  have hk := p2_pos k
  have h1 : 0 ≤ a * p2 k := Int.mul_nonneg ha (by omega)
  have h2 : a * p2 k + p2 k ≤ p2 j * p2 k := by
    have := Int.mul_le_mul_of_nonneg_right (show a + 1 ≤ p2 j by omega) (show 0 ≤ p2 k by omega)
    rw [Int.add_mul, Int.one_mul] at this; exact this
  have h3 : a * p2 k + p2 k ≤ 256 := by omega
  refine ⟨Int.emod_eq_of_lt h1 (by omega), ?_, by omega, by omega⟩
  clear h2 e hl
  obtain ⟨n, rfl⟩ := Int.eq_ofNat_of_zero_le ha
  obtain ⟨c, rfl⟩ := Int.eq_ofNat_of_zero_le hb
  have e2 : p2 k = ((2 ^ k : Nat) : Int) := by unfold p2; push_cast; rfl
  rw [e2] at hb' h1 h3 ⊢
  have e3 : (n : Int) * ((2 ^ k : Nat) : Int) = ((n <<< k : Nat) : Int) := by rw [Nat.shiftLeft_eq]; push_cast; rfl
  rw [e3] at h1 h3 ⊢
  rw [bits_or_u8_nat _ _ (by omega) (by omega), ← Nat.shiftLeft_add_eq_or_of_lt (by omega)]
  push_cast; rfl
theorem sub_spec (a b : Int) (k : Nat) : (a + p2 k - b) % p2 k = (a - b) % p2 k := by
  rw [show a + p2 k - b = (a - b) + p2 k by omega, Int.add_emod_right]
theorem mul_bd {a b : Int} (ha : 0 ≤ a) (ha' : a ≤ 255) (hb : 0 ≤ b) (hb' : b ≤ 255) : 0 ≤ a * b ∧ a * b ≤ 65025 :=
  ⟨Int.mul_nonneg ha hb, by have := Int.mul_le_mul ha' hb' hb (by omega : (0 : Int) ≤ 255); omega⟩
theorem emod_le {a : Int} (k : Nat) : 0 ≤ a % p2 k ∧ a % p2 k < p2 k :=
  ⟨Int.emod_nonneg _ (by have := p2_pos k; omega), Int.emod_lt_of_pos _ (by have := p2_pos k; omega)⟩

end Go.Proofs.YtdmogjhabladcaaGreat.Pl1

/- Terms as plain data: what the parts of a node are, and when a node is right. -/
namespace Go.Proofs.YtdmogjhabladcaaGreat.Tm0
open Nd0 Pl1

/-- The places of a node's parts. -/
def parts (n : Nd) : List Int :=
  if n.op = 2 ∨ n.op = 17 ∨ n.op = 19 ∨ n.op = 20 then [n.a]
  else if 3 ≤ n.op ∧ n.op ≤ 16 then [n.a, n.b]
  else if n.op = 18 then [n.a, n.b, n.c]
  else []
theorem parts_one {n : Nd} (h : n.op = 2 ∨ n.op = 17 ∨ n.op = 19 ∨ n.op = 20) : parts n = [n.a] := if_pos h
theorem parts_two {n : Nd} (h : 3 ≤ n.op ∧ n.op ≤ 16) : parts n = [n.a, n.b] := by
  unfold parts; rw [if_neg (by omega), if_pos h]
theorem parts_three {n : Nd} (h : n.op = 18) : parts n = [n.a, n.b, n.c] := by
  unfold parts; rw [if_neg (by omega), if_neg (by omega), if_pos h]
theorem parts_none {n : Nd} (h : ¬ (n.op = 2 ∨ n.op = 17 ∨ n.op = 19 ∨ n.op = 20)) (h2 : ¬ (3 ≤ n.op ∧ n.op ≤ 16)) (h3 : ¬ n.op = 18) : parts n = [] := by
  unfold parts; rw [if_neg h, if_neg h2, if_neg h3]
theorem parts_le (n : Nd) : (parts n).length ≤ 3 := by
  unfold parts; split
  · simp
  · split
    · simp
    · split <;> simp

/-- Whether a node is right whose parts have the widths ws. -/
def shapeOk (n : Nd) (ws : List Int) : Bool :=
  if n.op = 0 then wok n.w n.k && decide (n.a = 0 ∧ n.b = 0 ∧ n.c = 0)
  else if n.op = 1 then decide (0 ≤ n.k ∧ n.k ≤ 7 ∧ n.a = 0 ∧ n.b = 0 ∧ n.c = 0)
  else if n.op = 2 then decide (ws.getD 0 0 = n.w ∧ n.k = 0 ∧ n.b = 0 ∧ n.c = 0)
  else if 3 ≤ n.op ∧ n.op ≤ 12 then decide (ws.getD 0 0 = n.w ∧ ws.getD 1 0 = n.w ∧ n.k = 0 ∧ n.c = 0)
  else if 13 ≤ n.op ∧ n.op ≤ 15 then decide (ws.getD 0 0 = ws.getD 1 0 ∧ n.w = 1 ∧ n.k = 0 ∧ n.c = 0)
  else if n.op = 16 then decide (ws.getD 0 0 + ws.getD 1 0 = n.w ∧ n.k = 0 ∧ n.c = 0)
  else if n.op = 17 then decide (0 ≤ n.k ∧ n.k ≤ ws.getD 0 0 - n.w ∧ n.b = 0 ∧ n.c = 0)
  else if n.op = 18 then decide (ws.getD 0 0 = 1 ∧ ws.getD 1 0 = n.w ∧ ws.getD 2 0 = n.w ∧ n.k = 0)
  else if n.op = 19 ∨ n.op = 20 then decide (0 ≤ n.k ∧ n.k ≤ 7 ∧ 1 ≤ n.b ∧ n.b ≤ 8 ∧ ws.getD 0 0 = 1 ∧ n.w = 1 ∧ n.c = 0)
  else false
def width (l : List Nd) (p : Int) : Int := (nth l p.toNat).w
/-- Whether node i of a list is right, when those ahead are. -/
def nodeOk (l : List Nd) (i : Nat) : Bool :=
  let n := nth l i
  (parts n).all (fun p => decide (0 ≤ p ∧ p < i)) && decide (1 ≤ n.w ∧ n.w ≤ 8) && shapeOk n ((parts n).map (width l))

theorem node_bad_part {l : List Nd} {i : Nat} (k : Nat) (hk : k < (parts (nth l i)).length) (h : ¬ (0 ≤ (parts (nth l i))[k] ∧ (parts (nth l i))[k] < i)) : nodeOk l i = false := by
  have : (parts (nth l i)).all (fun p => decide (0 ≤ p ∧ p < i)) = false := by
    rw [List.all_eq_false]
    exact ⟨_, List.getElem_mem hk, by simpa using h⟩
  simp only [nodeOk]
  rw [this]
  simp
theorem node_bad_width {l : List Nd} {i : Nat} (h : ¬ (1 ≤ (nth l i).w ∧ (nth l i).w ≤ 8)) : nodeOk l i = false := by
  simp only [nodeOk]
  rw [decide_eq_false h]
  simp
theorem node_kind {l : List Nd} {i : Nat} (h : ∀ k (hk : k < (parts (nth l i)).length), 0 ≤ (parts (nth l i))[k] ∧ (parts (nth l i))[k] < i) (hw : 1 ≤ (nth l i).w ∧ (nth l i).w ≤ 8) :
    nodeOk l i = shapeOk (nth l i) ((parts (nth l i)).map (width l)) := by
  have : (parts (nth l i)).all (fun p => decide (0 ≤ p ∧ p < i)) = true := by
    rw [List.all_eq_true]
    intro p hp
    obtain ⟨k, hk, rfl⟩ := List.getElem_of_mem hp
    simpa using h k hk
  simp only [nodeOk]
  rw [this, decide_eq_true hw]
  simp

theorem node_width {l : List Nd} {i : Nat} (h : nodeOk l i = true) : 1 ≤ (nth l i).w ∧ (nth l i).w ≤ 8 := by
  simp only [nodeOk, Bool.and_eq_true, decide_eq_true_eq] at h
  exact h.1.2
/-- Whether a list of nodes is a term. -/
def termOk (l : List Nd) : Bool := decide (1 ≤ l.length ∧ l.length ≤ 80) && (List.range l.length).all (nodeOk l)
theorem term_long {l : List Nd} (h : ¬ (1 ≤ l.length ∧ l.length ≤ 80)) : termOk l = false := by
  unfold termOk; rw [decide_eq_false h]; rfl
theorem term_bad {l : List Nd} (k : Nat) (hk : k < l.length) (h : nodeOk l k = false) : termOk l = false := by
  have : (List.range l.length).all (nodeOk l) = false := by
    rw [List.all_eq_false]; exact ⟨k, List.mem_range.2 hk, by simp [h]⟩
  unfold termOk; rw [this, Bool.and_false]
theorem term_good {l : List Nd} (h : 1 ≤ l.length ∧ l.length ≤ 80) (ha : ∀ k, k < l.length → nodeOk l k = true) : termOk l = true := by
  have : (List.range l.length).all (nodeOk l) = true := by
    rw [List.all_eq_true]; intro x hx; exact ha x (List.mem_range.1 hx)
  unfold termOk; rw [this, decide_eq_true h]; rfl
theorem term_len {l : List Nd} (h : termOk l = true) : 1 ≤ l.length ∧ l.length ≤ 80 := by
  simp only [termOk, Bool.and_eq_true, decide_eq_true_eq] at h; exact h.1
theorem term_node {l : List Nd} (h : termOk l = true) {k : Nat} (hk : k < l.length) : nodeOk l k = true := by
  simp only [termOk, Bool.and_eq_true, List.all_eq_true] at h; exact h.2 k (List.mem_range.2 hk)

end Go.Proofs.YtdmogjhabladcaaGreat.Tm0

/- What the root reaches, as plain data. -/
namespace Go.Proofs.YtdmogjhabladcaaGreat.Tm1
open Nd0 Pl1 Tm0

def markAll (bs : List Bool) (ps : List Int) : List Bool := ps.foldl (fun b p => b.set p.toNat true) bs
theorem markAll_length (ps : List Int) : ∀ bs : List Bool, (markAll bs ps).length = bs.length := by
  induction ps with
  | nil => intro bs; rfl
  | cons p ps ih => intro bs; show (markAll (bs.set p.toNat true) ps).length = _; rw [ih, List.length_set]
def flag (bs : List Bool) (i : Nat) : Bool := bs.getD i false
theorem flag_get {bs : List Bool} {i : Nat} (h : i < bs.length) : bs[i] = flag bs i := by simp [flag, List.getD, h]
theorem flag_set {bs : List Bool} {i j : Nat} (h : i < bs.length) (x : Bool) : flag (bs.set i x) j = if i = j then x else flag bs j := by
  by_cases e : i = j
  · subst e; simp [flag, List.getD, h]
  · simp [flag, List.getD, e]
def reachStep (l : List Nd) (bs : List Bool) (i : Nat) : List Bool := if flag bs i then markAll bs (parts (nth l i)) else bs
def reachDown (l : List Nd) : Nat → List Bool → List Bool
  | 0, bs => bs
  | k + 1, bs => reachDown l k (reachStep l bs k)
def reachInit (n : Nat) : List Bool := (List.range n).map fun i => i + 1 == n
/-- For each node whether the root reaches it. -/
def reachL (l : List Nd) : List Bool := reachDown l l.length (reachInit l.length)
theorem reachStep_length (l : List Nd) (bs : List Bool) (i : Nat) : (reachStep l bs i).length = bs.length := by
  unfold reachStep; split
  · exact markAll_length _ _
  · rfl
theorem reachDown_length (l : List Nd) : ∀ (k : Nat) (bs : List Bool), (reachDown l k bs).length = bs.length := by
  intro k
  induction k with
  | zero => intro bs; rfl
  | succ k ih => intro bs; show (reachDown l k (reachStep l bs k)).length = _; rw [ih, reachStep_length]
theorem reachInit_length (n : Nat) : (reachInit n).length = n := by simp [reachInit]
theorem reachL_length (l : List Nd) : (reachL l).length = l.length := by unfold reachL; rw [reachDown_length, reachInit_length]
theorem parts_ok {l : List Nd} {i : Nat} (h : nodeOk l i = true) : ∀ k (hk : k < (parts (nth l i)).length), 0 ≤ (parts (nth l i))[k] ∧ (parts (nth l i))[k] < i := by
  simp only [nodeOk, Bool.and_eq_true, List.all_eq_true, decide_eq_true_eq] at h
  intro k hk
  exact h.1.1 _ (List.getElem_mem hk)

end Go.Proofs.YtdmogjhabladcaaGreat.Tm1

/- The places of the reached nodes, as plain data. -/
namespace Go.Proofs.YtdmogjhabladcaaGreat.Tm2
open Nd0 Pl1 Tm0 Tm1

def reachTo (l : List Nd) (k : Nat) : List Int := ((List.range k).filter (flag (reachL l))).map fun (i : Nat) => (i : Int)
/-- The places that the root reaches, ascending. -/
def reachedL (l : List Nd) : List Int := if termOk l then reachTo l l.length else []
theorem reachTo_succ (l : List Nd) (k : Nat) : reachTo l (k + 1) = if flag (reachL l) k then reachTo l k ++ [(k : Int)] else reachTo l k := by
  unfold reachTo
  rw [List.range_succ, List.filter_append, List.map_append]
  cases h : flag (reachL l) k <;> simp [h]
theorem reachTo_length (l : List Nd) (k : Nat) : (reachTo l k).length ≤ k := by
  unfold reachTo
  rw [List.length_map]
  exact Nat.le_trans (List.length_filter_le _ _) (by simp)

theorem reachedL_le (l : List Nd) : (reachedL l).length ≤ l.length := by
  unfold reachedL; split
  · exact reachTo_length l _
  · exact Nat.zero_le _

end Go.Proofs.YtdmogjhabladcaaGreat.Tm2

/- A term without what its root does not reach, as plain data. -/
namespace Go.Proofs.YtdmogjhabladcaaGreat.Tm3
open Nd0 Pl1 Tm0 Tm1 Tm2

/-- The new place of a node. -/
def plc (l : List Nd) (p : Int) : Int := ((reachTo l p.toNat).length : Int)
def places (l : List Nd) (k : Nat) : List Int := (List.range k).map fun i => ((reachTo l i).length : Int)
theorem places_length (l : List Nd) (k : Nat) : (places l k).length = k := by simp [places]
theorem places_get (l : List Nd) (k i : Nat) (h : i < (places l k).length) : (places l k)[i] = plc l (i : Int) := by simp [places, plc]
theorem places_succ (l : List Nd) (k : Nat) : places l (k + 1) = places l k ++ [((reachTo l k).length : Int)] := by
  unfold places; rw [List.range_succ, List.map_append]; rfl
/-- A node with its parts told by their new places. -/
def remap (l : List Nd) (n : Nd) : Nd :=
  ⟨n.op, n.w, n.k, if 0 < (parts n).length then plc l n.a else n.a, if 1 < (parts n).length then plc l n.b else n.b, if 2 < (parts n).length then plc l n.c else n.c⟩
def pruneTo (l : List Nd) (k : Nat) : List Nd := ((List.range k).filter (flag (reachL l))).map fun i => remap l (nth l i)
def pruneL (l : List Nd) : List Nd := if termOk l then pruneTo l l.length else []
theorem pruneTo_succ (l : List Nd) (k : Nat) : pruneTo l (k + 1) = if flag (reachL l) k then pruneTo l k ++ [remap l (nth l k)] else pruneTo l k := by
  unfold pruneTo
  rw [List.range_succ, List.filter_append, List.map_append]
  cases h : flag (reachL l) k <;> simp [h]
theorem pruneTo_length (l : List Nd) (k : Nat) : (pruneTo l k).length = (reachTo l k).length := by simp [pruneTo, reachTo]
theorem pruneL_le (l : List Nd) : (pruneL l).length ≤ l.length := by
  unfold pruneL; split
  · rw [pruneTo_length]; exact reachTo_length l _
  · exact Nat.zero_le _
theorem parts_cases (n : Nd) : parts n = [] ∨ parts n = [n.a] ∨ parts n = [n.a, n.b] ∨ parts n = [n.a, n.b, n.c] := by
  unfold parts
  split
  · exact .inr (.inl rfl)
  · split
    · exact .inr (.inr (.inl rfl))
    · split
      · exact .inr (.inr (.inr rfl))
      · exact .inl rfl

end Go.Proofs.YtdmogjhabladcaaGreat.Tm3

/- Which variables stand free, as plain data. -/
namespace Go.Proofs.YtdmogjhabladcaaGreat.Tm4
open Nd0 Pl1 Tm0 Tm1

def row (rows : List (List Bool)) (p : Int) : List Bool := rows.getD p.toNat []
def inParts (rows : List (List Bool)) (ps : List Int) (v : Nat) : Bool := ps.any fun p => flag (row rows p) v
def freeAt (rows : List (List Bool)) (n : Nd) (v : Nat) : Bool :=
  if (n.op == 19 || n.op == 20) && n.k == (v : Int) then false else (n.op == 1 && n.k == (v : Int)) || inParts rows (parts n) v
def freeRow (rows : List (List Bool)) (n : Nd) : List Bool := (List.range 8).map (freeAt rows n)
/-- For each of the first k nodes which variables are free in it. -/
def freeRows (l : List Nd) : Nat → List (List Bool)
  | 0 => []
  | k + 1 => freeRows l k ++ [freeRow (freeRows l k) (nth l k)]
theorem freeRows_length (l : List Nd) (k : Nat) : (freeRows l k).length = k := by
  induction k with
  | zero => rfl
  | succ k ih => show (freeRows l k ++ [_]).length = _; rw [List.length_append, ih]; rfl
theorem freeRow_length (rows : List (List Bool)) (n : Nd) : (freeRow rows n).length = 8 := by simp [freeRow]
theorem freeRow_take (rows : List (List Bool)) (n : Nd) (v : Nat) (h : v < 8) : (freeRow rows n).take (v + 1) = (freeRow rows n).take v ++ [freeAt rows n v] := by
  rw [List.take_succ_eq_append_getElem (by rw [freeRow_length]; exact h)]
  simp [freeRow]
def freeTop (l : List Nd) : List Bool := row (freeRows l l.length) ((l.length : Int) - 1)
def freeTo (l : List Nd) (k : Nat) : List Int := ((List.range k).filter (flag (freeTop l))).map fun (i : Nat) => (i : Int)
/-- The variables that are free in the root. -/
def freeL (l : List Nd) : List Int := if termOk l then freeTo l 8 else []
theorem freeTo_succ (l : List Nd) (k : Nat) : freeTo l (k + 1) = if flag (freeTop l) k then freeTo l k ++ [(k : Int)] else freeTo l k := by
  unfold freeTo
  rw [List.range_succ, List.filter_append, List.map_append]
  cases h : flag (freeTop l) k <;> simp [h]
theorem freeTo_length (l : List Nd) (k : Nat) : (freeTo l k).length ≤ k := by
  unfold freeTo
  rw [List.length_map]
  exact Nat.le_trans (List.length_filter_le _ _) (by simp)
theorem inParts_take (rows : List (List Bool)) (ps : List Int) (v k : Nat) (h : k < ps.length) : inParts rows (ps.take (k + 1)) v = (inParts rows (ps.take k) v || flag (row rows ps[k]) v) := by
  unfold inParts
  rw [List.take_succ_eq_append_getElem h, List.any_append]
  simp

end Go.Proofs.YtdmogjhabladcaaGreat.Tm4

/- From which nodes a quantifier is reached, as plain data. -/
namespace Go.Proofs.YtdmogjhabladcaaGreat.Tm5
open Nd0 Pl1 Tm0 Tm1

def quant (op : Int) : Bool := op == 19 || op == 20
def outer (op : Int) : Bool := op == 2 || op == 3 || op == 4 || quant op
def below (bs : List Bool) (ps : List Int) : Bool := ps.any fun p => flag bs p.toNat
/-- For each of the first k nodes whether a quantifier is reached from it. -/
def holdTo (l : List Nd) : Nat → List Bool
  | 0 => []
  | k + 1 => holdTo l k ++ [quant (nth l k).op || below (holdTo l k) (parts (nth l k))]
theorem holdTo_length (l : List Nd) (k : Nat) : (holdTo l k).length = k := by
  induction k with
  | zero => rfl
  | succ k ih => show (holdTo l k ++ [_]).length = _; rw [List.length_append, ih]; rfl
theorem below_take (bs : List Bool) (ps : List Int) (k : Nat) (h : k < ps.length) : below bs (ps.take (k + 1)) = (below bs (ps.take k) || flag bs (ps[k]).toNat) := by
  unfold below
  rw [List.take_succ_eq_append_getElem h, List.any_append]
  simp

end Go.Proofs.YtdmogjhabladcaaGreat.Tm5

/- When a term is a sentence, as plain data. -/
namespace Go.Proofs.YtdmogjhabladcaaGreat.Tm6
open Nd0 Pl1 Tm0 Tm1 Tm4 Tm5

def wd (ws : List Int) (p : Int) : Int := ws.getD p.toNat 0
theorem wd_get {ws : List Int} {i : Nat} (h : i < ws.length) : ws[i] = wd ws (i : Int) := by simp [wd, List.getD, h]
def qStep (l : List Nd) (ws : List Int) (k : Nat) : Option (List Int) :=
  if flag (reachL l) k && quant (nth l k).op then (if wd ws (nth l k).k = 0 then some (ws.set (nth l k).k.toNat (nth l k).b) else none) else some ws
/-- The widths that the reached quantifiers among the first k nodes tell; nothing where a variable has two. -/
def quantsTo (l : List Nd) : Nat → Option (List Int)
  | 0 => some (List.replicate 8 0)
  | k + 1 => (quantsTo l k).bind fun ws => qStep l ws k
def badNode (l : List Nd) (ws : List Int) (k : Nat) : Bool :=
  ((nth l k).op == 1 && wd ws (nth l k).k != (nth l k).w) || (flag (holdTo l l.length) k && !outer (nth l k).op)
def addUses (us : List Int) (ps : List Int) : List Int := ps.foldl (fun u p => u.set p.toNat (wd u p + 1)) us
def uStep (l : List Nd) (ws us : List Int) (k : Nat) : Option (List Int) :=
  if flag (reachL l) k then (if badNode l ws k then none else some (addUses us (parts (nth l k)))) else some us
/-- How often each node is a part of one of the first k reached nodes; nothing where one of these may not be. -/
def usesTo (l : List Nd) (ws : List Int) : Nat → Option (List Int)
  | 0 => some (List.replicate l.length 0)
  | k + 1 => (usesTo l ws k).bind fun us => uStep l ws us k
def twice (l : List Nd) (us : List Int) (k : Nat) : Bool := (List.range k).any fun i => flag (reachL l) i && flag (holdTo l l.length) i && decide (1 < wd us (i : Int))
def sentB (l : List Nd) : Bool :=
  termOk l && decide ((nth l (l.length - 1)).w = 1) && decide ((freeL l).length = 0) &&
    match quantsTo l l.length with
    | none => false
    | some ws => match usesTo l ws l.length with
      | none => false
      | some us => !twice l us l.length

theorem quants_none {l : List Nd} {k : Nat} (h : quantsTo l k = none) : ∀ j, k ≤ j → quantsTo l j = none := by
  intro j hj
  induction j with
  | zero => have : k = 0 := by omega
            subst this; exact h
  | succ j ih =>
    by_cases e : k = j + 1
    · subst e; exact h
    · show (quantsTo l j).bind _ = none
      rw [ih (by omega)]; rfl
theorem uses_none {l : List Nd} {ws : List Int} {k : Nat} (h : usesTo l ws k = none) : ∀ j, k ≤ j → usesTo l ws j = none := by
  intro j hj
  induction j with
  | zero => have : k = 0 := by omega
            subst this; exact h
  | succ j ih =>
    by_cases e : k = j + 1
    · subst e; exact h
    · show (usesTo l ws j).bind _ = none
      rw [ih (by omega)]; rfl
theorem quants_succ {l : List Nd} {k : Nat} {ws : List Int} (h : quantsTo l k = some ws) : quantsTo l (k + 1) = qStep l ws k := by
  show (quantsTo l k).bind _ = _; rw [h]; rfl
theorem uses_succ {l : List Nd} {k : Nat} {ws us : List Int} (h : usesTo l ws k = some us) : usesTo l ws (k + 1) = uStep l ws us k := by
  show (usesTo l ws k).bind _ = _; rw [h]; rfl
theorem sent_term {l : List Nd} (h : termOk l = false) : sentB l = false := by unfold sentB; rw [h]; rfl
theorem sent_root {l : List Nd} (h : ¬ (nth l (l.length - 1)).w = 1) : sentB l = false := by unfold sentB; rw [decide_eq_false h]; simp
theorem sent_free {l : List Nd} (h : ¬ (freeL l).length = 0) : sentB l = false := by unfold sentB; rw [decide_eq_false h]; simp
theorem sent_quants {l : List Nd} {k : Nat} (hk : k ≤ l.length) (h : quantsTo l k = none) : sentB l = false := by
  unfold sentB; rw [quants_none h _ hk]; simp
theorem sent_uses {l : List Nd} {k : Nat} {ws : List Int} (hk : k ≤ l.length) (hw : quantsTo l l.length = some ws) (h : usesTo l ws k = none) : sentB l = false := by
  unfold sentB; rw [hw]; simp only; rw [uses_none h _ hk]; simp
theorem sent_twice {l : List Nd} {ws us : List Int} (h1 : termOk l = true) (h2 : (nth l (l.length - 1)).w = 1) (h3 : (freeL l).length = 0) (hw : quantsTo l l.length = some ws) (hu : usesTo l ws l.length = some us) : sentB l = !twice l us l.length := by
  unfold sentB; rw [h1, decide_eq_true h2, decide_eq_true h3, hw]; simp only; rw [hu]; simp
theorem shape_var {l : List Nd} {k : Nat} (h : nodeOk l k = true) : ((nth l k).op = 1 ∨ quant (nth l k).op = true) → 0 ≤ (nth l k).k ∧ (nth l k).k ≤ 7 := by
  intro hop
  simp only [nodeOk, Bool.and_eq_true] at h
  have hs := h.2
  unfold shapeOk at hs
  rcases hop with h1 | h1
  · rw [if_neg (by omega), if_pos h1] at hs
    simp at hs; omega
  · have h2 : (nth l k).op = 19 ∨ (nth l k).op = 20 := by simpa [quant] using h1
    rw [if_neg (by omega), if_neg (by omega), if_neg (by omega), if_neg (by omega), if_neg (by omega), if_neg (by omega), if_neg (by omega), if_neg (by omega), if_pos h2] at hs
    simp at hs; omega

end Go.Proofs.YtdmogjhabladcaaGreat.Tm6

/- Sets of variables as words of bits, as plain data. -/
namespace Go.Proofs.YtdmogjhabladcaaGreat.Tm7
open Nd0 Pl1 Tm0 Tm1 Tm4
open Go.RowKit

theorem bits_andNot_u8_nat (a b : Nat) (ha : a < 256) (hb : b < 256) : bits .andNot .u8 (a : Int) (b : Int) = ((a &&& (255 - b) : Nat) : Int) := by
  have hx : a &&& (255 - b) < 2 ^ 8 := Nat.and_lt_two_pow _ (by omega)
  have h1 : (BitVec.ofInt 8 (a : Int)).toNat = a := by
    rw [BitVec.ofInt_natCast, BitVec.toNat_ofNat]; exact Nat.mod_eq_of_lt (by omega)
  have h2 : (BitVec.ofInt 8 (b : Int)).toNat = b := by
    rw [BitVec.ofInt_natCast, BitVec.toNat_ofNat]; exact Nat.mod_eq_of_lt (by omega)
  show IntKind.u8.wrap ((BitVec.ofInt 8 (a : Int) &&& ~~~ BitVec.ofInt 8 (b : Int)).toNat : Int) = _
  rw [BitVec.toNat_and, BitVec.toNat_not, h1, h2]
  simp only [IntKind.wrap, IntKind.signed, IntKind.bits]
  simp
  omega

theorem bit_not (b v : Nat) (hb : b < 256) (hv : v < 8) : (255 - b).testBit v = !b.testBit v := by
  have h := Nat.testBit_two_pow_sub_succ (x := b) (n := 8) (by omega) v
  have e : 2 ^ 8 - (b + 1) = 255 - b := by omega
  rw [e] at h
  rw [h, decide_eq_true hv, Bool.true_and]

/-- The numbers of the variables in a set. -/
def numsTo (s k : Nat) : List Int := ((List.range k).filter fun v => s.testBit v).map fun (i : Nat) => (i : Int)
theorem numsTo_succ (s k : Nat) : numsTo s (k + 1) = if s.testBit k then numsTo s k ++ [(k : Int)] else numsTo s k := by
  unfold numsTo
  rw [List.range_succ, List.filter_append, List.map_append]
  cases h : s.testBit k <;> simp [h]
theorem numsTo_length (s k : Nat) : (numsTo s k).length ≤ k := by
  unfold numsTo
  rw [List.length_map]
  exact Nat.le_trans (List.length_filter_le _ _) (by simp)
theorem bits_over (s k : Nat) (h : s / 2 ^ k = 0) (v : Nat) (hv : k ≤ v) : s.testBit v = false := by
  have h2 : s < 2 ^ k := by
    rcases Nat.div_eq_zero_iff.1 h with h0 | h0
    · have := Nat.two_pow_pos k; omega
    · exact h0
  exact Nat.testBit_lt_two_pow (Nat.lt_of_lt_of_le h2 (Nat.pow_le_pow_right (by omega) hv))
theorem nums_end (s k : Nat) (h : s / 2 ^ k = 0) (hk : k ≤ 8) : numsTo s k = numsTo s 8 := by
  have : ∀ d, k + d ≤ 8 → numsTo s (k + d) = numsTo s k := by
    intro d
    induction d with
    | zero => intro _; rfl
    | succ d ih =>
      intro hd
      rw [← Nat.add_assoc, numsTo_succ, bits_over s k h _ (by omega)]
      exact ih (by omega)
  have h8 := this (8 - k) (by omega)
  rw [← h8]; congr 1; omega
theorem low_bit (s k : Nat) : (s / 2 ^ k) % 2 = 1 ↔ s.testBit k = true := by
  rw [Nat.testBit_eq_decide_div_mod_eq, decide_eq_true_eq]

/-- The word s is the set of the variables that the row tells. -/
def Has (s : Nat) (r : List Bool) : Prop := s < 256 ∧ ∀ v, v < 8 → s.testBit v = flag r v

theorem bit_one (k v : Nat) : (2 ^ k).testBit v = decide (k = v) := Nat.testBit_two_pow

/-- The set of node n, whose parts' first j are joined so far. -/
def Some_ (s : Nat) (rows : List (List Bool)) (n : Nd) (j : Nat) : Prop := s < 256 ∧ ∀ v, v < 8 → s.testBit v = ((n.op == 1 && n.k == (v : Int)) || inParts rows ((parts n).take j) v)

theorem some_start_var {rows : List (List Bool)} {n : Nd} {kk : Nat} (h1 : n.op = 1) (hk : n.k = (kk : Int)) (h7 : kk ≤ 7) : Some_ (2 ^ kk) rows n 0 := by
  have e := Nat.pow_le_pow_right (n := 2) (by omega) h7
  refine ⟨by omega, fun v hv => ?_⟩
  rw [bit_one, h1, hk]
  simp only [List.take_zero, inParts, List.any_nil, Bool.or_false]
  rw [Bool.eq_iff_iff]; simp
  omega
theorem some_start {rows : List (List Bool)} {n : Nd} (h1 : (n.op == 1) = false) : Some_ 0 rows n 0 := by
  refine ⟨by omega, fun v hv => ?_⟩
  rw [h1]; simp [inParts]
theorem some_next {s t : Nat} {rows : List (List Bool)} {n : Nd} {j : Nat} (h : Some_ s rows n j) (hj : j < (parts n).length) (ht : Has t (row rows (parts n)[j])) : Some_ (s ||| t) rows n (j + 1) := by
  refine ⟨Nat.or_lt_two_pow (n := 8) h.1 ht.1, fun v hv => ?_⟩
  rw [Nat.testBit_or, h.2 v hv, ht.2 v hv, inParts_take _ _ _ _ hj, Bool.or_assoc]
theorem flag_freeRow (rows : List (List Bool)) (n : Nd) (v : Nat) (hv : v < 8) : flag (freeRow rows n) v = freeAt rows n v := by
  simp [flag, freeRow, List.getD, hv]
theorem some_end {s : Nat} {rows : List (List Bool)} {n : Nd} {j : Nat} (h : Some_ s rows n j) (hj : (parts n).length ≤ j) (hq : (n.op == 19 || n.op == 20) = false) : Has s (freeRow rows n) := by
  refine ⟨h.1, fun v hv => ?_⟩
  rw [h.2 v hv, flag_freeRow _ _ _ hv, List.take_of_length_le hj]
  unfold freeAt
  rw [hq]; simp
theorem some_end_quant {s : Nat} {rows : List (List Bool)} {n : Nd} {j kk : Nat} (h : Some_ s rows n j) (hj : (parts n).length ≤ j) (hq : (n.op == 19 || n.op == 20) = true) (hk : n.k = (kk : Int)) (h7 : kk ≤ 7) : Has (s &&& (255 - 2 ^ kk)) (freeRow rows n) := by
  have e := Nat.pow_le_pow_right (n := 2) (by omega) h7
  refine ⟨Nat.and_lt_two_pow _ (n := 8) (Nat.lt_of_le_of_lt (Nat.sub_le _ _) (by decide)), fun v hv => ?_⟩
  rw [Nat.testBit_and, h.2 v hv, flag_freeRow _ _ _ hv, List.take_of_length_le hj, bit_not _ _ (by omega) hv, bit_one]
  unfold freeAt
  rw [hq, hk]
  by_cases ev : kk = v
  · subst ev; simp
  · have e1 : ((kk : Int) == (v : Int)) = false := by simp; omega
    rw [e1]; simp [ev]
theorem row_old (l : List Nd) (k : Nat) (p : Int) (h0 : 0 ≤ p) (hp : p < k) : row (freeRows l (k + 1)) p = row (freeRows l k) p := by
  unfold row
  show (freeRows l k ++ [_]).getD p.toNat [] = _
  rw [List.getD_eq_getElem?_getD, List.getElem?_append_left (by rw [freeRows_length]; omega), ← List.getD_eq_getElem?_getD]
theorem row_new (l : List Nd) (k : Nat) : row (freeRows l (k + 1)) (k : Int) = freeRow (freeRows l k) (nth l k) := by
  unfold row
  show (freeRows l k ++ [_]).getD k [] = _
  rw [List.getD_eq_getElem?_getD, List.getElem?_append_right (by rw [freeRows_length]; exact Nat.le_refl _), freeRows_length]
  simp

theorem nums_free {l : List Nd} {s : Nat} (h : Has s (freeTop l)) : numsTo s 8 = freeTo l 8 := by
  unfold numsTo freeTo
  congr 1
  apply List.filter_congr
  intro v hv
  exact h.2 v (List.mem_range.1 hv)
theorem set_zero {l : List Nd} {s : Nat} (hT : termOk l = true) (h : Has s (freeTop l)) : s = 0 ↔ (freeL l).length = 0 := by
  have e : freeL l = numsTo s 8 := by unfold freeL; rw [hT, nums_free h]; rfl
  rw [e]
  constructor
  · intro h0; subst h0; simp [numsTo]
  · intro h0
    apply Nat.eq_of_testBit_eq
    intro v
    rw [Nat.zero_testBit]
    by_cases hv : v < 8
    · cases hb : s.testBit v
      · rfl
      · have : (v : Int) ∈ numsTo s 8 := by
          unfold numsTo
          exact List.mem_map.2 ⟨v, List.mem_filter.2 ⟨List.mem_range.2 hv, hb⟩, rfl⟩
        rw [List.eq_nil_of_length_eq_zero h0] at this
        cases this
    · exact Nat.testBit_lt_two_pow (Nat.lt_of_lt_of_le h.1 (Nat.pow_le_pow_right (n := 2) (by omega) (by omega : 8 ≤ v)))

end Go.Proofs.YtdmogjhabladcaaGreat.Tm7

/- What the root reaches: the root, the parts of what it reaches, and nothing else. -/
namespace Go.Proofs.YtdmogjhabladcaaGreat.Tm8
open Nd0 Pl1 Tm0 Tm1 Tm2 Tm3

theorem markAll_flag (ps : List Int) : ∀ (bs : List Bool) (i : Nat), i < bs.length → flag (markAll bs ps) i = (flag bs i || ps.any fun p => p.toNat == i) := by
  induction ps with
  | nil => intro bs i _; simp [markAll]
  | cons p ps ih =>
    intro bs i hi
    show flag (markAll (bs.set p.toNat true) ps) i = _
    rw [ih _ _ (by rw [List.length_set]; exact hi)]
    by_cases hp : p.toNat < bs.length
    · rw [flag_set hp]
      by_cases e : p.toNat = i
      · simp [e]
      · have e' : (p.toNat == i) = false := by simpa using e
        rw [if_neg e, List.any_cons, e', Bool.false_or]
    · have : bs.set p.toNat true = bs := List.set_eq_of_length_le (by omega)
      rw [this]
      have e' : (p.toNat == i) = false := by simp; omega
      rw [List.any_cons, e', Bool.false_or]
/-- The parts of each node of a list stand ahead of it. -/
def Down (l : List Nd) : Prop := ∀ i, i < l.length → ∀ p ∈ parts (nth l i), 0 ≤ p ∧ p < (i : Int)
theorem down_of {l : List Nd} (h : termOk l = true) : Down l := by
  intro i hi p hp
  obtain ⟨j, hj, rfl⟩ := List.getElem_of_mem hp
  exact parts_ok (term_node h hi) j hj
theorem step_flag {l : List Nd} (bs : List Bool) (k i : Nat) (hi : i < bs.length) : flag (reachStep l bs k) i = (flag bs i || (flag bs k && (parts (nth l k)).any fun p => p.toNat == i)) := by
  unfold reachStep
  cases h : flag bs k
  · simp
  · rw [if_pos rfl, markAll_flag _ _ _ hi]; simp
theorem down_high {l : List Nd} (hD : Down l) : ∀ (k : Nat) (bs : List Bool), bs.length = l.length → k ≤ l.length → ∀ i, k ≤ i + 1 → i < l.length → flag (reachDown l k bs) i = flag bs i := by
  intro k
  induction k with
  | zero => intro bs _ _ i _ _; rfl
  | succ k ih =>
    intro bs hb hk i hi hl
    show flag (reachDown l k (reachStep l bs k)) i = _
    rw [ih _ (by rw [reachStep_length]; exact hb) (by omega) i (by omega) hl, step_flag _ _ _ (by omega)]
    have : ((parts (nth l k)).any fun p => p.toNat == i) = false := by
      rw [List.any_eq_false]
      intro p hp
      have := hD k (by omega) p hp
      simp; omega
    rw [this]; simp
theorem down_closed {l : List Nd} (hD : Down l) : ∀ (k : Nat) (bs : List Bool), bs.length = l.length → k ≤ l.length → (∀ i, k ≤ i → i < l.length → flag bs i = true → ∀ p ∈ parts (nth l i), flag bs p.toNat = true) →
    ∀ i, i < l.length → flag (reachDown l k bs) i = true → ∀ p ∈ parts (nth l i), flag (reachDown l k bs) p.toNat = true := by
  intro k
  induction k with
  | zero => intro bs _ _ h i hi hf p hp; exact h i (by omega) hi hf p hp
  | succ k ih =>
    intro bs hb hk h
    refine ih (reachStep l bs k) (by rw [reachStep_length]; exact hb) (by omega) ?_
    intro i hki hi hf p hp
    have hpd := hD i hi p hp
    rw [step_flag _ _ _ (by omega)] at hf
    rw [step_flag _ _ _ (by omega)]
    have hna : ((parts (nth l k)).any fun q => q.toNat == i) = false := by
      rw [List.any_eq_false]
      intro q hq
      have := hD k (by omega) q hq
      simp; omega
    rw [hna, Bool.and_false, Bool.or_false] at hf
    by_cases e : i = k
    · subst e
      rw [hf]
      have : ((parts (nth l i)).any fun q => q.toNat == p.toNat) = true := List.any_eq_true.2 ⟨p, hp, by simp⟩
      rw [this]; simp
    · rw [h i (by omega) hi hf p hp]; simp
theorem init_flag (n i : Nat) (h : i < n) : flag (reachInit n) i = (i + 1 == n) := by simp [flag, reachInit, List.getD, h]
theorem reach_closed {l : List Nd} (hD : Down l) {i : Nat} (hi : i < l.length) (hf : flag (reachL l) i = true) {p : Int} (hp : p ∈ parts (nth l i)) : flag (reachL l) p.toNat = true :=
  down_closed hD l.length _ (reachInit_length _) (Nat.le_refl _) (fun i h1 h2 => by omega) i hi hf p hp
theorem down_more {l : List Nd} : ∀ (k : Nat) (bs : List Bool), bs.length = l.length → ∀ i, i < l.length → flag bs i = true → flag (reachDown l k bs) i = true := by
  intro k
  induction k with
  | zero => intro bs _ i _ h; exact h
  | succ k ih =>
    intro bs hb i hi h
    refine ih (reachStep l bs k) (by rw [reachStep_length]; exact hb) i hi ?_
    rw [step_flag _ _ _ (by omega), h]; rfl
theorem reach_root {l : List Nd} (h : 1 ≤ l.length) : flag (reachL l) (l.length - 1) = true :=
  down_more l.length _ (reachInit_length _) _ (by omega) (by rw [init_flag _ _ (by omega)]; simp; omega)
theorem down_why {l : List Nd} (hD : Down l) : ∀ (k : Nat) (bs : List Bool), bs.length = l.length → k ≤ l.length → ∀ i, i < l.length → flag (reachDown l k bs) i = true → flag bs i = true ∨ ∃ j, i < j ∧ j < l.length ∧ flag (reachDown l k bs) j = true ∧ (i : Int) ∈ parts (nth l j) := by
  intro k
  induction k with
  | zero => intro bs _ _ i _ h; exact .inl h
  | succ k ih =>
    intro bs hb hk i hi h
    rcases ih (reachStep l bs k) (by rw [reachStep_length]; exact hb) (by omega) i hi h with h1 | h1
    · rw [step_flag _ _ _ (by omega)] at h1
      simp only [Bool.or_eq_true, Bool.and_eq_true] at h1
      rcases h1 with h1 | ⟨h1, h2⟩
      · exact .inl h1
      · obtain ⟨p, hp, hpe⟩ := List.any_eq_true.1 h2
        have hd := hD k (by omega) p hp
        simp at hpe
        have hpi : p = (i : Int) := by omega
        subst hpi
        refine .inr ⟨k, by omega, by omega, ?_, hp⟩
        exact down_more k _ (by rw [reachStep_length]; exact hb) k (by omega) (by rw [step_flag _ _ _ (by omega), h1]; rfl)
    · exact .inr h1
theorem reach_why {l : List Nd} (hD : Down l) {i : Nat} (hi : i < l.length) (hf : flag (reachL l) i = true) : i + 1 = l.length ∨ ∃ j, i < j ∧ j < l.length ∧ flag (reachL l) j = true ∧ (i : Int) ∈ parts (nth l j) := by
  rcases down_why hD l.length _ (reachInit_length _) (Nat.le_refl _) i hi hf with h | h
  · rw [init_flag _ _ hi] at h; exact .inl (by simpa using h)
  · exact .inr h

/-- The reached places in order, one by one. -/
theorem reach_at (l : List Nd) : ∀ (k j : Nat) (h : j < (reachTo l k).length), ∃ x : Nat, (reachTo l k)[j] = (x : Int) ∧ x < k ∧ flag (reachL l) x = true ∧ (reachTo l x).length = j := by
  intro k
  induction k with
  | zero => intro j h; simp [reachTo] at h
  | succ k ih =>
    intro j h
    have e := reachTo_succ l k
    cases hf : flag (reachL l) k
    · rw [hf] at e
      simp only [Bool.false_eq_true, if_false] at e
      have h' : j < (reachTo l k).length := by rw [← e]; exact h
      obtain ⟨x, h1, h2, h3, h4⟩ := ih j h'
      exact ⟨x, by simp only [e]; exact h1, by omega, h3, h4⟩
    · rw [hf, if_pos rfl] at e
      have hlen : (reachTo l (k + 1)).length = (reachTo l k).length + 1 := by rw [e]; simp
      by_cases hj : j < (reachTo l k).length
      · obtain ⟨x, h1, h2, h3, h4⟩ := ih j hj
        refine ⟨x, ?_, by omega, h3, h4⟩
        simp only [e]
        rw [List.getElem_append_left hj]; exact h1
      · have hje : j = (reachTo l k).length := by omega
        refine ⟨k, ?_, by omega, hf, hje.symm⟩
        simp only [e, hje]
        rw [List.getElem_append_right (Nat.le_refl _)]
        simp
theorem reachTo_mono (l : List Nd) {a b : Nat} (h : a ≤ b) : (reachTo l a).length ≤ (reachTo l b).length := by
  induction b with
  | zero => have : a = 0 := by omega
            subst this; exact Nat.le_refl _
  | succ b ih =>
    by_cases e : a = b + 1
    · subst e; exact Nat.le_refl _
    · refine Nat.le_trans (ih (by omega)) ?_
      rw [reachTo_succ]; split
      · simp
      · exact Nat.le_refl _
theorem reachTo_lt (l : List Nd) {a b : Nat} (h : a < b) (hf : flag (reachL l) a = true) : (reachTo l a).length < (reachTo l b).length := by
  have h1 := reachTo_mono l (a := a + 1) (b := b) (by omega)
  rw [reachTo_succ, hf, if_pos rfl, List.length_append] at h1
  simp at h1; omega
theorem reachTo_inj (l : List Nd) {a b : Nat} (ha : flag (reachL l) a = true) (hb : flag (reachL l) b = true) (h : (reachTo l a).length = (reachTo l b).length) : a = b := by
  rcases Nat.lt_trichotomy a b with h1 | h1 | h1
  · have := reachTo_lt l h1 ha; omega
  · exact h1
  · have := reachTo_lt l h1 hb; omega
theorem prune_map (l : List Nd) (k : Nat) : pruneTo l k = (reachTo l k).map fun p => remap l (nth l p.toNat) := by
  unfold pruneTo reachTo; rw [List.map_map]; rfl

end Go.Proofs.YtdmogjhabladcaaGreat.Tm8

/- A quantifier put on a formula: what is free in it, as plain data. -/
namespace Go.Proofs.YtdmogjhabladcaaGreat.Tm12
open Nd0 Pl1 Tm0 Tm1 Tm4 Tm7

theorem nth_app_left {l : List Nd} {n : Nd} {i : Nat} (h : i < l.length) : nth (l ++ [n]) i = nth l i := by
  unfold nth
  rw [List.getD_eq_getElem?_getD, List.getElem?_append_left h, ← List.getD_eq_getElem?_getD]
theorem nth_app_last (l : List Nd) (n : Nd) : nth (l ++ [n]) l.length = n := by
  unfold nth
  rw [List.getD_eq_getElem?_getD, List.getElem?_append_right (Nat.le_refl _)]
  simp
theorem nodeOk_app {l : List Nd} {n : Nd} {i : Nat} (hi : i < l.length) (h : nodeOk l i = true) : nodeOk (l ++ [n]) i = true := by
  have hp := parts_ok h
  have e : (parts (nth (l ++ [n]) i)).map (width (l ++ [n])) = (parts (nth l i)).map (width l) := by
    rw [nth_app_left hi]
    apply List.map_congr_left
    intro p hpm
    obtain ⟨j, hj, rfl⟩ := List.getElem_of_mem hpm
    have := hp j hj
    unfold width
    rw [nth_app_left (by omega)]
  simp only [nodeOk] at h ⊢
  rw [e, nth_app_left hi]
  exact h
/-- A right term with a quantifier on its root is right. -/
theorem termOk_quant {l : List Nd} (hT : termOk l = true) (hw : (nth l (l.length - 1)).w = 1) (hl : l.length < 80) {op k b : Int} (hop : op = 19 ∨ op = 20) (hk : 0 ≤ k ∧ k ≤ 7) (hb : 1 ≤ b ∧ b ≤ 8) :
    termOk (l ++ [⟨op, 1, k, (l.length : Int) - 1, b, 0⟩]) = true := by
  obtain ⟨hl1, hl2⟩ := term_len hT
  refine term_good (by simp; omega) (fun i hi => ?_)
  simp at hi
  by_cases e : i < l.length
  · exact nodeOk_app e (term_node hT e)
  · have e2 : i = l.length := by omega
    subst e2
    have hp : parts (nth (l ++ [⟨op, 1, k, (l.length : Int) - 1, b, 0⟩]) l.length) = [(l.length : Int) - 1] := by
      rw [nth_app_last]; exact parts_one (by simp only; omega)
    refine (node_kind (fun j hj => ?_) ?_).trans ?_
    · simp only [hp] at hj ⊢
      simp at hj
      subst hj
      simp; omega
    · rw [nth_app_last]; simp
    · rw [hp]
      have ew : width (l ++ [⟨op, 1, k, (l.length : Int) - 1, b, 0⟩]) ((l.length : Int) - 1) = 1 := by
        unfold width
        have : ((l.length : Int) - 1).toNat = l.length - 1 := by omega
        rw [this, nth_app_left (by omega)]; exact hw
      rw [nth_app_last]
      simp only [List.map_cons, List.map_nil, ew]
      unfold shapeOk
      dsimp only
      rw [if_neg (by omega), if_neg (by omega), if_neg (by omega), if_neg (by omega), if_neg (by omega), if_neg (by omega), if_neg (by omega), if_neg (by omega), if_pos hop]
      simp; omega
theorem freeRows_app (l : List Nd) (n : Nd) : ∀ k, k ≤ l.length → freeRows (l ++ [n]) k = freeRows l k := by
  intro k
  induction k with
  | zero => intro _; rfl
  | succ k ih =>
    intro hk
    show freeRows (l ++ [n]) k ++ [_] = freeRows l k ++ [_]
    rw [ih (by omega), nth_app_left (by omega)]
/-- What is free under the quantifier: all that was, but its own variable. -/
theorem free_quant {l : List Nd} (hT : termOk l = true) (hw : (nth l (l.length - 1)).w = 1) (hl : l.length < 80) {op k b : Int} (hop : op = 19 ∨ op = 20) (hk : 0 ≤ k ∧ k ≤ 7) (hb : 1 ≤ b ∧ b ≤ 8) :
    freeL (l ++ [⟨op, 1, k, (l.length : Int) - 1, b, 0⟩]) = (freeL l).filter (fun x => x != k) := by
  obtain ⟨hl1, hl2⟩ := term_len hT
  have hT2 := termOk_quant hT hw hl hop hk hb
  have et : freeTop (l ++ [⟨op, 1, k, (l.length : Int) - 1, b, 0⟩]) = freeRow (freeRows l l.length) ⟨op, 1, k, (l.length : Int) - 1, b, 0⟩ := by
    unfold freeTop
    have e1 : ((l ++ [(⟨op, 1, k, (l.length : Int) - 1, b, 0⟩ : Nd)]).length : Int) - 1 = (l.length : Int) := by simp
    have e2 : (l ++ [(⟨op, 1, k, (l.length : Int) - 1, b, 0⟩ : Nd)]).length = l.length + 1 := by simp
    rw [e1, e2, row_new, nth_app_last, freeRows_app l _ _ (Nat.le_refl _)]
  have ef : ∀ v, v < 8 → flag (freeTop (l ++ [⟨op, 1, k, (l.length : Int) - 1, b, 0⟩])) v = (flag (freeTop l) v && !(k == (v : Int))) := by
    intro v hv
    rw [et, flag_freeRow _ _ _ hv]
    unfold freeAt
    have hq : ((op == 19) || (op == 20)) = true := by simp; omega
    have h1 : (op == 1) = false := by simp; omega
    have hp : parts (⟨op, 1, k, (l.length : Int) - 1, b, 0⟩ : Nd) = [(l.length : Int) - 1] := parts_one (by simp only; omega)
    dsimp only
    rw [hq, h1, hp]
    have hin : inParts (freeRows l l.length) [(l.length : Int) - 1] v = flag (freeTop l) v := by simp [inParts, freeTop]
    rw [hin]
    cases hkv : (k == (v : Int)) <;> simp
  unfold freeL
  rw [hT, hT2]
  simp only [if_true]
  unfold freeTo
  rw [List.filter_map]
  congr 1
  rw [List.filter_filter]
  apply List.filter_congr
  intro v hv
  rw [ef v (List.mem_range.1 hv)]
  simp only [Function.comp]
  rw [Bool.and_comm]
  congr 1
  cases hkv : (k == (v : Int))
  · have : ¬ k = (v : Int) := by simpa using hkv
    simp; exact fun e => this e.symm
  · have : k = (v : Int) := by simpa using hkv
    simp [this]

end Go.Proofs.YtdmogjhabladcaaGreat.Tm12

/- Arrays: what a block holds, cell by cell. -/
namespace Go.Proofs.YtdmogjhabladcaaGreat.Rw0
open Go.RowKit
open Nd0

/-- The first n cells of block g hold what f tells, and may be written. -/
def Row (w : World) (g n : Nat) (f : Nat → Value) : Prop := ∀ i, i < n → w.cell? ⟨g, i, none⟩ = some (f i) ∧ w.frozen? ⟨g, i, none⟩ = false

theorem Row.set {w : World} {g n : Nat} {f : Nat → Value} (h : Row w g n f) {p : Nat} (hp : p < n) (v : Value) : Row (w.setCell ⟨g, p, none⟩ v) g n (fun i => if i = p then v else f i) := by
  intro i hi
  by_cases e : i = p
  · subst e
    dsimp only
    rw [if_pos rfl]
    exact ⟨set_same (h i hi).1, by simp only [World.frozen?_setCell]; exact (h i hi).2⟩
  · dsimp only
    rw [if_neg e]
    exact ⟨by rw [set_other (by intro x; cases x; exact e rfl)]; exact (h i hi).1, by simp only [World.frozen?_setCell]; exact (h i hi).2⟩
theorem Row.kept {w w' : World} {g n : Nat} {f : Nat → Value} (h : Row w g n f) {S : Nat → Prop} (k : Kept S w w') (hs : ¬ S g) : Row w' g n f := fun i hi =>
  ⟨by rw [k.cell (p := ⟨g, i, none⟩) (lt_of_cell (h i hi).1) hs]; exact (h i hi).1, by rw [k.frozen (p := ⟨g, i, none⟩) (lt_of_cell (h i hi).1) hs]; exact (h i hi).2⟩
theorem Row.below {w w' : World} {g n : Nat} {f : Nat → Value} (h : Row w g n f) (k : Below w.heap.size w w') : Row w' g n f := h.kept (S := fun _ => False) (Kept.ofBelow k) (fun h => h)
theorem Row.congr {w : World} {g n : Nat} {f f' : Nat → Value} (h : Row w g n f) (e : ∀ i, i < n → f i = f' i) : Row w g n f' := fun i hi => by rw [← e i hi]; exact h i hi
theorem Row.new (w : World) (cs : Array Value) (T n : Nat) (f : Nat → Value) (h : ∀ i, i < n → cs[i]? = some (f i)) : Row (w.alloc (.cells cs T)) w.heap.size n f := by
  intro i hi
  refine ⟨?_, by simp⟩
  rw [World.cell?_alloc_new]
  exact h i hi
theorem Row.drew {w : World} {g n : Nat} {f : Nat → Value} (h : Row w g n f) : Row w.drew g n f := fun i hi => h i hi
theorem Row.lt {w : World} {g n : Nat} {f : Nat → Value} (h : Row w g n f) (hn : 0 < n) : g < w.heap.size := lt_of_cell (p := ⟨g, 0, none⟩) (h 0 hn).1

end Go.Proofs.YtdmogjhabladcaaGreat.Rw0
