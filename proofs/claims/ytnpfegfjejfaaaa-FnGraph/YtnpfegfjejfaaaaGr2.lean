/- How many ands a wire reaches: plain facts; a row of flags in memory. -/
import Derived.Test.YtnpfegfjejfaaaaRows
import Derived.Laws.MakeOwn
import Derived.Test.YtnpfegfjejfaaaaGr0
namespace Go.Proofs.Ytnpfegfjejfaaaa.Gr2
open Go.RowKit
open Nd0 Qb0 Gr0
set_option linter.unusedVariables false

def hitR (R : Nat → Bool) (j : Nat) (k : Nat) : Bool := R k || decide (k = j)
/-- The flags of the nodes behind the last m ands. -/
def szR (n : Nat) (l : List An) (w0 : Nat) : Nat → Nat → Bool
  | 0 => fun k => decide (k = w0)
  | m + 1 => if szR n l w0 m (n + 1 + (l.length - (m + 1))) = true then hitR (hitR (szR n l w0 m) ((nth l (l.length - (m + 1))).a.toNat / 2)) ((nth l (l.length - (m + 1))).b.toNat / 2) else szR n l w0 m
def szC (n : Nat) (l : List An) (w0 : Nat) : Nat → Nat
  | 0 => 0
  | m + 1 => szC n l w0 m + if szR n l w0 m (n + 1 + (l.length - (m + 1))) = true then 1 else 0
theorem szC_le (n : Nat) (l : List An) (w0 m : Nat) : szC n l w0 m ≤ m := by
  induction m with
  | zero => exact Nat.le_refl _
  | succ m ih => unfold szC; split <;> omega
theorem szR_yes {n : Nat} {l : List An} {w0 m i : Nat} (hi : l.length - (m + 1) = i) (h : szR n l w0 m (n + 1 + i) = true) : szR n l w0 (m + 1) = hitR (hitR (szR n l w0 m) ((nth l i).a.toNat / 2)) ((nth l i).b.toNat / 2) ∧ szC n l w0 (m + 1) = szC n l w0 m + 1 := by
  subst hi
  exact ⟨by rw [szR]; rw [if_pos h], by rw [szC]; rw [if_pos h]⟩
theorem szR_no {n : Nat} {l : List An} {w0 m i : Nat} (hi : l.length - (m + 1) = i) (h : szR n l w0 m (n + 1 + i) = false) : szR n l w0 (m + 1) = szR n l w0 m ∧ szC n l w0 (m + 1) = szC n l w0 m := by
  subst hi
  exact ⟨by rw [szR]; rw [if_neg (by rw [h]; simp)], by rw [szC]; rw [if_neg (by rw [h]; simp)]; omega⟩
/-- What GraphSize answers. -/
def sizeG (ins : Int) (l : List An) (w : Int) : Int := if gokB ins l = true ∧ wireB ins l w = true then (szC ins.toNat l (w.toNat / 2) l.length : Int) else -1

/-- A row of flags in block g. -/
def RowB (w : World) (g n : Nat) (R : Nat → Bool) : Prop := ∀ k, k < n → w.cell? ⟨g, k, none⟩ = some (.bool (R k)) ∧ w.frozen? ⟨g, k, none⟩ = false
theorem RowB.kept {w w' : World} {g n : Nat} {R : Nat → Bool} (h : RowB w g n R) {S : Nat → Prop} (k : Kept S w w') (hs : ¬ S g) : RowB w' g n R := by
  intro j hj
  obtain ⟨h1, h2⟩ := h j hj
  have hb : g < w.heap.size := lt_of_cell (p := ⟨g, j, none⟩) h1
  exact ⟨by rw [k.cell (p := ⟨g, j, none⟩) hb hs]; exact h1, by rw [k.frozen (p := ⟨g, j, none⟩) hb hs]; exact h2⟩
theorem RowB.hit {w : World} {g n : Nat} {R : Nat → Bool} (h : RowB w g n R) (j : Nat) : RowB (w.setCell ⟨g, j, none⟩ (.bool true)) g n (hitR R j) := by
  intro k hk
  obtain ⟨h1, h2⟩ := h k hk
  refine ⟨?_, by rw [World.frozen?_setCell]; exact h2⟩
  unfold hitR
  by_cases e : k = j
  · subst e
    rw [set_same h1, decide_eq_true rfl, Bool.or_true]
  · rw [set_other (by intro x; cases x; exact e rfl), decide_eq_false e, Bool.or_false]; exact h1
theorem infoBo : (Try.prog.info? 4).map (fun i => (i.zero, i.size, i.bytes)) = some (some (.bool false), 1, 1) := by kernel_rfl
def zerosB (n : Nat) : Array Value := madeCells #[.bool false] (n * 1)
theorem makeBools (n : Nat) (hn : n ≤ 1048576) (w : World) :
    (Instr.makeSlice 86 (.int .i64 (n : Int)) (.int .i64 (n : Int))).run Try.prog w = .ok (.slice (some ⟨w.heap.size, 0, none⟩) n n) (w.alloc (.cells (zerosB n) 4)) := by
  obtain ⟨i, hi, hzz⟩ := Option.map_eq_some_iff.1 infoBo
  simp only [Prod.mk.injEq] at hzz
  obtain ⟨hz, hs, hb⟩ := hzz
  have h := run_make (P := Try.prog) w 86 4 i _ Try.underlying86 hi hz .i64 .i64 n n (by omega) (Int.le_refl _) (by rw [hb]; omega) (by omega)
  rw [hs] at h
  simpa [zerosB, Value.cells] using h
theorem zerosB_row (w : World) (n T : Nat) : RowB (w.alloc (.cells (zerosB n) T)) w.heap.size n (fun _ => false) := by
  intro k hk
  refine ⟨?_, by simp⟩
  rw [World.cell?_alloc_new]
  simp only [zerosB, madeCells, Array.getElem?_map, Array.getElem?_range]
  rw [if_pos (by omega)]
  simp [Nat.mod_one]

end Go.Proofs.Ytnpfegfjejfaaaa.Gr2
