/- Arrays: what a block holds, cell by cell. -/
import Derived.Test.YthcleldkknmflaaNd0
namespace Go.Proofs.Ythcleldkknmflaa.Rw0
open Go.RowKit
open Nd0

/-- The first n cells of block g hold what f tells, and may be written. -/
def Row (w : World) (g n : Nat) (f : Nat → Value) : Prop := ∀ i, i < n → w.cell? ⟨g, i, none⟩ = some (f i) ∧ w.frozen? ⟨g, i, none⟩ = false

theorem Row.set {w : World} {g n : Nat} {f : Nat → Value} (h : Row w g n f) {p : Nat} (hp : p < n) (v : Value) : Row (w.setCell ⟨g, p, none⟩ v) g n (fun i => if i = p then v else f i) := by
  intro i hi
  by_cases e : i = p
  · subst e
    dsimp only
    rw [if_pos rfl]
    exact ⟨set_same (h i hi).1, by simp only [World.frozen?_setCell]; exact (h i hi).2⟩
  · dsimp only
    rw [if_neg e]
    exact ⟨by rw [set_other (by intro x; cases x; exact e rfl)]; exact (h i hi).1, by simp only [World.frozen?_setCell]; exact (h i hi).2⟩
theorem Row.kept {w w' : World} {g n : Nat} {f : Nat → Value} (h : Row w g n f) {S : Nat → Prop} (k : Kept S w w') (hs : ¬ S g) : Row w' g n f := fun i hi =>
  ⟨by rw [k.cell (p := ⟨g, i, none⟩) (lt_of_cell (h i hi).1) hs]; exact (h i hi).1, by rw [k.frozen (p := ⟨g, i, none⟩) (lt_of_cell (h i hi).1) hs]; exact (h i hi).2⟩
theorem Row.below {w w' : World} {g n : Nat} {f : Nat → Value} (h : Row w g n f) (k : Below w.heap.size w w') : Row w' g n f := h.kept (S := fun _ => False) (Kept.ofBelow k) (fun h => h)
theorem Row.congr {w : World} {g n : Nat} {f f' : Nat → Value} (h : Row w g n f) (e : ∀ i, i < n → f i = f' i) : Row w g n f' := fun i hi => by rw [← e i hi]; exact h i hi
theorem Row.new (w : World) (cs : Array Value) (T n : Nat) (f : Nat → Value) (h : ∀ i, i < n → cs[i]? = some (f i)) : Row (w.alloc (.cells cs T)) w.heap.size n f := by
  intro i hi
  refine ⟨?_, by simp⟩
  rw [World.cell?_alloc_new]
  exact h i hi
theorem Row.drew {w : World} {g n : Nat} {f : Nat → Value} (h : Row w g n f) : Row w.drew g n f := fun i hi => h i hi
theorem Row.lt {w : World} {g n : Nat} {f : Nat → Value} (h : Row w g n f) (hn : 0 < n) : g < w.heap.size := lt_of_cell (p := ⟨g, 0, none⟩) (h 0 hn).1

end Go.Proofs.Ythcleldkknmflaa.Rw0
