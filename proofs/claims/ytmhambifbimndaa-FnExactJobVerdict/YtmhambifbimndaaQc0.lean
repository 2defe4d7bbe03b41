/- Seens as plain data, and what it is that a slice of them can be read, written, kept. Written by tools/mkflat.py. -/
import Derived.Test.YtmhambifbimndaaNd0
namespace Go.Proofs.Ytmhambifbimndaa.Qc0
open Go.RowKit
open Nd0
set_option linter.unusedVariables false

structure Sn where
  k : ByteArray
  r : Int

def Sn.zero : Sn := ⟨ByteArray.empty, 0⟩
def Sn.cells (x : Sn) : List Value := [.string x.k, .int .i64 x.r]
structure SnAt (w : World) (b p : Nat) (n : Sn) : Prop where
  c0 : w.cell? ⟨b, p, none⟩ = some (.string n.k)
  c1 : w.cell? ⟨b, p + 1, none⟩ = some (.int .i64 n.r)
/-- A slice of l can be read at address a. -/
def Sns (w : World) (a : Option Addr) (l : List Sn) : Prop :=
  l.length ≤ maxLen ∧ (l.length = 0 ∨ ∃ b o, a = some ⟨b, o, none⟩ ∧ ∀ i (h : i < l.length), SnAt w b (o + i * 2) l[i])
theorem SnAt.lt {w : World} {b p : Nat} {n : Sn} (h : SnAt w b p n) : b < w.heap.size := lt_of_cell (p := ⟨b, p, none⟩) h.c0
theorem SnAt.below {w w' : World} {b p : Nat} {n : Sn} (h : SnAt w b p n) {B : Nat} (k : Below B w w') (hb : b < B) : SnAt w' b p n :=
  ⟨by rw [k.cell hb]; exact h.c0, by rw [k.cell hb]; exact h.c1⟩
theorem Sns.below {w w' : World} {a : Option Addr} {l : List Sn} (h : Sns w a l) (k : Below w.heap.size w w') : Sns w' a l := by
  refine ⟨h.1, ?_⟩
  rcases h.2 with h0 | ⟨b, o, rfl, hc⟩
  · exact .inl h0
  · exact .inr ⟨b, o, rfl, fun i hi => (hc i hi).below k (hc i hi).lt⟩
theorem Sns.kept {w w' : World} {a : Option Addr} {l : List Sn} (h : Sns w a l) {S : Nat → Prop} (k : Kept S w w') (hs : ∀ x, a = some x → ¬ S x.block) : Sns w' a l := by
  refine ⟨h.1, ?_⟩
  rcases h.2 with h0 | ⟨b, o, rfl, hc⟩
  · exact .inl h0
  · refine .inr ⟨b, o, rfl, fun i hi => ?_⟩
    have hb := (hc i hi).lt
    have hn : ¬ S b := hs ⟨b, o, none⟩ rfl
    obtain ⟨c0, c1⟩ := hc i hi
    exact ⟨by rw [k.cell hb hn]; exact c0, by rw [k.cell hb hn]; exact c1⟩
/-- A slice of l, in a block from B on, that may be written. -/
def WSns (w : World) (B : Nat) (a : Option Addr) (l : List Sn) : Prop :=
  l.length ≤ maxLen ∧ (l.length = 0 ∨ ∃ b o, a = some ⟨b, o, none⟩ ∧ B ≤ b ∧ (∀ i (h : i < l.length), SnAt w b (o + i * 2) l[i]) ∧ ∀ j, j < l.length * 2 → w.frozen? ⟨b, o + j, none⟩ = false)
theorem WSns.plain {w : World} {B : Nat} {a : Option Addr} {l : List Sn} (h : WSns w B a l) : Sns w a l := by
  refine ⟨h.1, ?_⟩
  rcases h.2 with h0 | ⟨b, o, ha, _, hc, _⟩
  · exact .inl h0
  · exact .inr ⟨b, o, ha, hc⟩
def setSn (w : World) (b p : Nat) (n : Sn) : World :=
  (w.setCell ⟨b, p, none⟩ (.string n.k)).setCell ⟨b, p + 1, none⟩ (.int .i64 n.r)
theorem setSn_same {w : World} {b p : Nat} {v n : Sn} (h : SnAt w b p v) : SnAt (setSn w b p n) b p n := by
  obtain ⟨c0, c1⟩ := h
  unfold setSn
  refine ⟨?_, ?_⟩
  · rw [set_other (by simp)]; exact set_same (c0)
  · exact set_same (by rw [set_other (by simp)]; exact c1)
theorem setSn_cell {w : World} {b p : Nat} {n : Sn} {q : Nat} (h : q < p ∨ p + 2 ≤ q) : (setSn w b p n).cell? ⟨b, q, none⟩ = w.cell? ⟨b, q, none⟩ := by
  unfold setSn
  rw [set_other (by simp <;> omega), set_other (by simp <;> omega)]
theorem setSn_frozen {w : World} {b p : Nat} {n : Sn} {q : Addr} : (setSn w b p n).frozen? q = w.frozen? q := by
  unfold setSn; simp only [World.frozen?_setCell]
theorem setSn_size {w : World} {b p : Nat} {n : Sn} : (setSn w b p n).heap.size = w.heap.size := by
  simp [setSn, World.setCell]
theorem setSn_other {w : World} {b p q : Nat} {v n : Sn} (h : SnAt w b q v) (hq : q + 2 ≤ p ∨ p + 2 ≤ q) : SnAt (setSn w b p n) b q v := by
  obtain ⟨c0, c1⟩ := h
  exact ⟨by rw [setSn_cell (by omega)]; exact c0, by rw [setSn_cell (by omega)]; exact c1⟩
theorem setSn_keptS {S : Nat → Prop} {b p : Nat} {u w : World} {n : Sn} (hS : S b) (h : Kept S u w) : Kept S u (setSn w b p n) :=
  (h.setCell (p := ⟨b, p, none⟩) hS _).setCell (p := ⟨b, p + 1, none⟩) hS _
theorem setSn_kept {b o p : Nat} {u w : World} {n : Sn} (h : Kept (At (some ⟨b, o, none⟩)) u w) : Kept (At (some ⟨b, o, none⟩)) u (setSn w b p n) :=
  setSn_keptS ⟨⟨b, o, none⟩, rfl, rfl⟩ h
/-- A slice of l, in a block from B on and below U, that may be written. -/
def SnsIn (w : World) (B U : Nat) (a : Option Addr) (l : List Sn) : Prop :=
  l.length ≤ maxLen ∧ (l.length = 0 ∨ ∃ b o, a = some ⟨b, o, none⟩ ∧ B ≤ b ∧ b < U ∧ (∀ i (h : i < l.length), SnAt w b (o + i * 2) l[i]) ∧ ∀ j, j < l.length * 2 → w.frozen? ⟨b, o + j, none⟩ = false)
theorem WSns.within {w : World} {B : Nat} {a : Option Addr} {l : List Sn} (h : WSns w B a l) : SnsIn w B w.heap.size a l := by
  refine ⟨h.1, ?_⟩
  by_cases e : l.length = 0
  · exact .inl e
  · rcases h.2 with h0 | ⟨b, o, ha, hB, hc, hf⟩
    · exact .inl h0
    · exact .inr ⟨b, o, ha, hB, (hc 0 (by omega)).lt, hc, hf⟩
theorem SnsIn.wr {w : World} {B U : Nat} {a : Option Addr} {l : List Sn} (h : SnsIn w B U a l) : WSns w B a l := by
  refine ⟨h.1, ?_⟩
  rcases h.2 with h0 | ⟨b, o, ha, hB, _, hc, hf⟩
  · exact .inl h0
  · exact .inr ⟨b, o, ha, hB, hc, hf⟩
theorem SnsIn.kept {w w' : World} {B U : Nat} {a : Option Addr} {l : List Sn} (h : SnsIn w B U a l) {S : Nat → Prop} (k : Kept S w w') (hs : ∀ b, B ≤ b → b < U → ¬ S b) : SnsIn w' B U a l := by
  refine ⟨h.1, ?_⟩
  by_cases e : l.length = 0
  · exact .inl e
  rcases h.2 with h0 | ⟨b, o, rfl, hB, hU, hc, hf⟩
  · exact .inl h0
  · have hb : b < w.heap.size := (hc 0 (by omega)).lt
    have hn : ¬ S b := hs b hB hU
    refine .inr ⟨b, o, rfl, hB, hU, fun i hi => ?_, fun j hj => by rw [k.frozen (p := ⟨b, o + j, none⟩) hb hn]; exact hf j hj⟩
    obtain ⟨c0, c1⟩ := hc i hi
    exact ⟨by rw [k.cell hb hn]; exact c0, by rw [k.cell hb hn]; exact c1⟩
theorem SnsIn.again {w w' : World} {B U : Nat} {a : Option Addr} {l l' : List Sn} (h : SnsIn w B U a l) (h' : WSns w' B a l') (e : l'.length = l.length) : SnsIn w' B U a l' := by
  refine ⟨h'.1, ?_⟩
  rcases h.2 with h0 | ⟨b, o, rfl, hB, hU, hc, hf⟩
  · exact .inl (by omega)
  · rcases h'.2 with h0 | ⟨b', o', ha, hB', hc', hf'⟩
    · exact .inl h0
    · cases ha
      exact .inr ⟨b, o, rfl, hB, hU, hc', hf'⟩
theorem SnsIn.ats {w : World} {B U : Nat} {a : Option Addr} {l : List Sn} (h : SnsIn w B U a l) {k : Nat} (hk : Ats l.length a k) : B ≤ k ∧ k < U := by
  obtain ⟨hp, x, hx, rfl⟩ := hk
  rcases h.2 with h0 | ⟨b, o, rfl, hB, hU, _⟩
  · omega
  · cases hx; exact ⟨hB, hU⟩
theorem SnsIn.below {w w' : World} {B U : Nat} {a : Option Addr} {l : List Sn} (h : SnsIn w B U a l) (k : Below w.heap.size w w') : SnsIn w' B U a l :=
  h.kept (S := fun _ => False) (Kept.ofBelow k) (fun _ _ _ h => h)
theorem SnsIn.plain {w : World} {B U : Nat} {a : Option Addr} {l : List Sn} (h : SnsIn w B U a l) : Sns w a l := h.wr.plain

end Go.Proofs.Ytmhambifbimndaa.Qc0
