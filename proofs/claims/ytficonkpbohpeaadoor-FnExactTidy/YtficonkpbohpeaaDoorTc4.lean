/- Packed tables in memory: a new one, its size, a bit read, a bit put. -/
import Derived.Laws.MakeOwn
import Derived.Deep.RegionHeld3
import Derived.Test.YtficonkpbohpeaaDoorTc3
import Derived.Test.YtficonkpbohpeaaDoorNd0
namespace Go.Proofs.YtficonkpbohpeaaDoor.Tc4
open Go.RowKit
open Ta0 Ta1 Tc2
open Nd0 (Kept set_other set_same lt_of_cell)
set_option linter.unusedVariables false

/-- How many words n bits want. -/
def nw (n : Nat) : Nat := (2 ^ n + 63) / 64
theorem nw_le {n : Nat} (h : n ≤ 12) : 1 ≤ nw n ∧ nw n ≤ 64 := by
  have := p12 h
  unfold nw; omega
theorem nw_at {n p : Nat} (h : p < 2 ^ n) : p / 64 < nw n := by unfold nw; omega
/-- A packed table's value. -/
abbrev pv (n m g : Nat) : Value := .agg #[.int .i64 (n : Int), .slice (some ⟨g, 0, none⟩) m m]
/-- The words of F's bits lie in block g. -/
def Wds (W : World) (g m : Nat) (F : Nat → Bool) : Prop := ∀ i, i < m → W.cell? ⟨g, i, none⟩ = some (.int .u64 (wd F i : Int)) ∧ W.frozen? ⟨g, i, none⟩ = false
theorem Wds.lt {W : World} {g m : Nat} {F : Nat → Bool} (h : Wds W g m F) (hm : 1 ≤ m) : g < W.heap.size := World.block_lt_of_cell? _ _ (h 0 (by omega)).1
theorem Wds.kept {W W' : World} {g m : Nat} {F : Nat → Bool} (h : Wds W g m F) {S : Nat → Prop} (k : Kept S W W') (hs : ¬ S g) : Wds W' g m F := fun i hi => by
  obtain ⟨h1, h2⟩ := h i hi
  have hg : g < W.heap.size := World.block_lt_of_cell? _ _ h1
  exact ⟨by rw [k.cell (p := ⟨g, i, none⟩) hg hs]; exact h1, by rw [k.frozen (p := ⟨g, i, none⟩) hg hs]; exact h2⟩
theorem Wds.below {W W' : World} {g m : Nat} {F : Nat → Bool} (h : Wds W g m F) (k : Below W.heap.size W W') : Wds W' g m F :=
  h.kept (S := fun _ => False) (Kept.ofBelow k) (fun h => h)
theorem Wds.congr {W : World} {g m : Nat} {F G : Nat → Bool} (h : Wds W g m F) (e : ∀ i, i < m → wd F i = wd G i) : Wds W g m G := fun i hi => by
  rw [← e i hi]; exact h i hi
theorem Wds.set {W : World} {g m j : Nat} {F G : Nat → Bool} (h : Wds W g m F) (hj : j < m) (e : ∀ i, i ≠ j → wd F i = wd G i) : Wds (W.setCell ⟨g, j, none⟩ (.int .u64 (wd G j : Int))) g m G := fun i hi => by
  obtain ⟨h1, h2⟩ := h i hi
  by_cases hij : i = j
  · subst hij
    exact ⟨set_same h1, by rw [World.frozen?_setCell]; exact h2⟩
  · rw [← e i hij]
    exact ⟨by rw [set_other (by simp <;> omega)]; exact h1, by rw [World.frozen?_setCell]; exact h2⟩
theorem infoU : (Tryd.prog.info? 73).map (fun i => (i.zero, i.size, i.bytes)) = some (some (.int .u64 0), 1, 8) := by kernel_rfl
def noughtsU (n : Nat) : Array Value := madeCells #[.int .u64 0] (n * 1)
theorem noughtsU_get (n j : Nat) (h : j < n) : (noughtsU n)[j]? = some (.int .u64 0) := by
  simp only [noughtsU, madeCells, Array.getElem?_map, Array.getElem?_range]
  rw [if_pos (by omega)]
  simp only [Option.map_some]
  have e : j % 1 = 0 := Nat.mod_one j
  exact congrArg (fun m => some ((#[.int .u64 0] : Array Value)[m]!)) e
theorem pow_div (x j : Nat) : (x : Int) / (2 : Int) ^ j = ((x / 2 ^ j : Nat) : Int) := by push_cast; rfl

end Go.Proofs.YtficonkpbohpeaaDoor.Tc4
