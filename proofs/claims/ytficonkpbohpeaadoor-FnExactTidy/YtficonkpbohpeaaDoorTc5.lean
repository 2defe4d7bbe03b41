/- Packed tables: one made of a table. -/
import Derived.Test.YtficonkpbohpeaaDoorTc4
namespace Go.Proofs.YtficonkpbohpeaaDoor.Tc5
open Go.RowKit
open Ta0 Ta1 Tc2 Tc4
open Nd0 (Kept set_other set_same lt_of_cell)
open Ss0 (bs bs_size ret_str)
open Ss1 (tl tl_length tl_get tl_take bs_tl tl_bs tl_inj eqb)
set_option linter.unusedVariables false

/-- A block of two cells. -/
structure Lay (W : World) (b : Nat) (x y : Value) : Prop where
  c0 : W.cell? ⟨b, 0, none⟩ = some x
  c1 : W.cell? ⟨b, 1, none⟩ = some y
  f0 : W.frozen? ⟨b, 0, none⟩ = false
  f1 : W.frozen? ⟨b, 1, none⟩ = false
theorem Lay.lt {W : World} {b : Nat} {x y : Value} (h : Lay W b x y) : b < W.heap.size := World.block_lt_of_cell? _ _ h.c0
theorem Lay.kept {W W' : World} {b : Nat} {x y : Value} (h : Lay W b x y) {S : Nat → Prop} (k : Kept S W W') (hs : ¬ S b) : Lay W' b x y :=
  ⟨by rw [k.cell (p := ⟨b, 0, none⟩) h.lt hs]; exact h.c0, by rw [k.cell (p := ⟨b, 1, none⟩) h.lt hs]; exact h.c1, by rw [k.frozen (p := ⟨b, 0, none⟩) h.lt hs]; exact h.f0, by rw [k.frozen (p := ⟨b, 1, none⟩) h.lt hs]; exact h.f1⟩
theorem Lay.below {W W' : World} {b : Nat} {x y : Value} (h : Lay W b x y) (k : Below W.heap.size W W') : Lay W' b x y :=
  h.kept (S := fun _ => False) (Kept.ofBelow k) (fun h => h)
theorem Lay.made (W : World) (x y : Value) (T : Nat) : Lay (W.alloc (.cells #[x, y] T)) W.heap.size x y := ⟨by simp, by simp, by simp, by simp⟩
theorem Lay.alloc {W : World} {b : Nat} {x y : Value} (h : Lay W b x y) (o : Obj) : Lay (W.alloc o) b x y := h.kept (S := fun _ => False) ((Kept.refl _ _).alloc _) (fun h => h)
theorem Lay.put {W : World} {b : Nat} {x y : Value} (h : Lay W b x y) (u v : Value) : Lay ((W.setCell ⟨b, 0, none⟩ u).setCell ⟨b, 1, none⟩ v) b u v :=
  ⟨by rw [set_other (by simp)]; exact set_same h.c0, set_same (by rw [set_other (by simp)]; exact h.c1), by rw [World.frozen?_setCell, World.frozen?_setCell]; exact h.f0, by rw [World.frozen?_setCell, World.frozen?_setCell]; exact h.f1⟩
theorem kset {S : Nat → Prop} {u w : World} (h : Kept S u w) {b o : Nat} (hb : S b) (x : Value) : Kept S u (w.setCell ⟨b, o, none⟩ x) := h.setCell (p := ⟨b, o, none⟩) hb x

theorem bs_tab_get (n : Nat) (F : Nat → Bool) (k : Nat) (h : k < (bs (tab n F)).size) : (bs (tab n F))[k] = sgn (F k) := by
  rw [tl_get]
  have e : tl (bs (tab n F)) = tab n F := tl_bs _
  have h2 : k < (tab n F).length := by rw [bs_size] at h; exact h
  have := tab_get n F k h2
  rw [← this]
  congr 1

end Go.Proofs.YtficonkpbohpeaaDoor.Tc5
