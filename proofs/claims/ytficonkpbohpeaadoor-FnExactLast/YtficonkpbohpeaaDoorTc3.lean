/- Small functions of the laws over tables; the exact law of TableOk. -/
import Derived.Test.YtficonkpbohpeaaDoorTc2
namespace Go.Proofs.YtficonkpbohpeaaDoor.Tc3
open Go.RowKit
open Ta0 Ta1 Tc2
open Ss0 (bs bs_size ret_str)
open Ss1 (tl tl_length tl_get tl_take bs_tl tl_bs tl_inj eqb)
set_option linter.unusedVariables false

/-- A table lies in the block g. -/
structure Tbx (W : World) (g : Nat) (N : Int) (S : ByteArray) : Prop where
  c0 : W.cell? ⟨g, 0, none⟩ = some (.int .i64 N)
  c1 : W.cell? ⟨g, 1, none⟩ = some (.string S)
theorem Tbx.below {W W' : World} {g : Nat} {N : Int} {S : ByteArray} (h : Tbx W g N S) (k : Below W.heap.size W W') : Tbx W' g N S := by
  have hg : g < W.heap.size := World.block_lt_of_cell? _ _ h.c0
  exact ⟨by rw [k.cell (p := ⟨g, 0, none⟩) hg]; exact h.c0, by rw [k.cell (p := ⟨g, 1, none⟩) hg]; exact h.c1⟩
theorem Tbx.made (w : World) (N : Int) (S : ByteArray) (T : Nat) : Tbx (w.alloc (.cells #[.int .i64 N, .string S] T)) w.heap.size N S :=
  ⟨by simp, by simp⟩
theorem Tbx.alloc {W : World} {g : Nat} {N : Int} {S : ByteArray} (h : Tbx W g N S) (o : Obj) : Tbx (W.alloc o) g N S :=
  h.below ((Below.refl _ _).alloc (Nat.le_refl _) _)

end Go.Proofs.YtficonkpbohpeaaDoor.Tc3
