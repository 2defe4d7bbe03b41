/- Small texts of mine, one behind the other. -/
import Derived.Test.YtficonkpbohpeaaDoorPkT33
import Derived.Test.YtficonkpbohpeaaDoorPkT10
/- Small functions of the laws over machines. Written by tools/gen_mx0.py. -/
namespace Go.Proofs.YtficonkpbohpeaaDoor.Mx0
open Go.RowKit
open Nd0 (Kept Ints WInts set_other set_same lt_of_cell)
open Nd6 (Bools)
open Qc0 (Sn Sns WSns)
open Tc2 (tv)
open Mm0
set_option linter.unusedVariables false

/-- A block of cells that may be written. -/
def Mf (W : World) (b : Nat) (L : List Value) : Prop := ∀ i (h : i < L.length), W.cell? ⟨b, i, none⟩ = some L[i] ∧ W.frozen? ⟨b, i, none⟩ = false
theorem Mf.lt {W : World} {b : Nat} {L : List Value} (h : Mf W b L) (hl : 0 < L.length) : b < W.heap.size := World.block_lt_of_cell? _ _ (h 0 hl).1
theorem Mf.kept {W W' : World} {b : Nat} {L : List Value} (h : Mf W b L) {S : Nat → Prop} (k : Kept S W W') (hs : ¬ S b) : Mf W' b L := fun i hi => by
  have hb := h.lt (Nat.lt_of_le_of_lt (Nat.zero_le _) hi)
  exact ⟨by rw [k.cell (p := ⟨b, i, none⟩) hb hs]; exact (h i hi).1, by rw [k.frozen (p := ⟨b, i, none⟩) hb hs]; exact (h i hi).2⟩
theorem Mf.below {W W' : World} {b : Nat} {L : List Value} (h : Mf W b L) (k : Below W.heap.size W W') : Mf W' b L := h.kept (S := fun _ => False) (Kept.ofBelow k) (fun h => h)
theorem Mf.alloc {W : World} {b : Nat} {L : List Value} (h : Mf W b L) (o : Obj) : Mf (W.alloc o) b L := h.kept (S := fun _ => False) ((Kept.refl _ _).alloc _) (fun h => h)
theorem Mf.set {W : World} {b : Nat} {L : List Value} (h : Mf W b L) (i : Nat) (v : Value) : Mf (W.setCell ⟨b, i, none⟩ v) b (L.set i v) := fun j hj => by
  have hj' : j < L.length := by simpa using hj
  refine ⟨?_, by rw [World.frozen?_setCell]; exact (h j hj').2⟩
  by_cases e : i = j
  · subst e
    rw [set_same (h i hj').1]
    simp
  · rw [set_other (by simp), (h j hj').1]
    simp [e]
theorem Mf.other {W : World} {b c : Nat} {L : List Value} (h : Mf W b L) (hc : b ≠ c) (i : Nat) (v : Value) : Mf (W.setCell ⟨c, i, none⟩ v) b L := fun j hj => by
  refine ⟨?_, by rw [World.frozen?_setCell]; exact (h j hj).2⟩
  rw [set_other (by simp)]
  exact (h j hj).1
theorem Mf.made (W : World) (A : Array Value) (T : Nat) : Mf (W.alloc (.cells A T)) W.heap.size A.toList := fun i hi => by
  refine ⟨?_, by simp⟩
  rw [World.cell?_alloc_new]
  have : i < A.size := by simpa using hi
  simp [this]
structure Mz (W : World) (b : Nat) (v0 v1 v2 v3 v4 v5 v6 v7 v8 v9 v10 : Value) : Prop where
  c0 : W.cell? ⟨b, 0, none⟩ = some v0
  c1 : W.cell? ⟨b, 1, none⟩ = some v1
  c2 : W.cell? ⟨b, 2, none⟩ = some v2
  c3 : W.cell? ⟨b, 3, none⟩ = some v3
  c4 : W.cell? ⟨b, 4, none⟩ = some v4
  c5 : W.cell? ⟨b, 5, none⟩ = some v5
  c6 : W.cell? ⟨b, 6, none⟩ = some v6
  c7 : W.cell? ⟨b, 7, none⟩ = some v7
  c8 : W.cell? ⟨b, 8, none⟩ = some v8
  c9 : W.cell? ⟨b, 9, none⟩ = some v9
  c10 : W.cell? ⟨b, 10, none⟩ = some v10
  z0 : W.frozen? ⟨b, 0, none⟩ = false
  z1 : W.frozen? ⟨b, 1, none⟩ = false
  z2 : W.frozen? ⟨b, 2, none⟩ = false
  z3 : W.frozen? ⟨b, 3, none⟩ = false
  z4 : W.frozen? ⟨b, 4, none⟩ = false
  z5 : W.frozen? ⟨b, 5, none⟩ = false
  z6 : W.frozen? ⟨b, 6, none⟩ = false
  z7 : W.frozen? ⟨b, 7, none⟩ = false
  z8 : W.frozen? ⟨b, 8, none⟩ = false
  z9 : W.frozen? ⟨b, 9, none⟩ = false
  z10 : W.frozen? ⟨b, 10, none⟩ = false
theorem Mf.all {W : World} {b : Nat} {v0 v1 v2 v3 v4 v5 v6 v7 v8 v9 v10 : Value} (h : Mf W b [v0, v1, v2, v3, v4, v5, v6, v7, v8, v9, v10]) : Mz W b v0 v1 v2 v3 v4 v5 v6 v7 v8 v9 v10 :=
  ⟨(h 0 (by simp)).1, (h 1 (by simp)).1, (h 2 (by simp)).1, (h 3 (by simp)).1, (h 4 (by simp)).1, (h 5 (by simp)).1, (h 6 (by simp)).1, (h 7 (by simp)).1, (h 8 (by simp)).1, (h 9 (by simp)).1, (h 10 (by simp)).1, (h 0 (by simp)).2, (h 1 (by simp)).2, (h 2 (by simp)).2, (h 3 (by simp)).2, (h 4 (by simp)).2, (h 5 (by simp)).2, (h 6 (by simp)).2, (h 7 (by simp)).2, (h 8 (by simp)).2, (h 9 (by simp)).2, (h 10 (by simp)).2⟩
theorem Mz.mf {W : World} {b : Nat} {v0 v1 v2 v3 v4 v5 v6 v7 v8 v9 v10 : Value} (h : Mz W b v0 v1 v2 v3 v4 v5 v6 v7 v8 v9 v10) : Mf W b [v0, v1, v2, v3, v4, v5, v6, v7, v8, v9, v10] := fun i hi => by
  match i, hi with
  | 0, _ => exact ⟨h.c0, h.z0⟩
  | 1, _ => exact ⟨h.c1, h.z1⟩
  | 2, _ => exact ⟨h.c2, h.z2⟩
  | 3, _ => exact ⟨h.c3, h.z3⟩
  | 4, _ => exact ⟨h.c4, h.z4⟩
  | 5, _ => exact ⟨h.c5, h.z5⟩
  | 6, _ => exact ⟨h.c6, h.z6⟩
  | 7, _ => exact ⟨h.c7, h.z7⟩
  | 8, _ => exact ⟨h.c8, h.z8⟩
  | 9, _ => exact ⟨h.c9, h.z9⟩
  | 10, _ => exact ⟨h.c10, h.z10⟩
theorem Mf.mb {W : World} {b : Nat} {m : Mc} {ra va ma : Option Addr} {rc vc mc : Nat} (h : Mf W b [.slice ra m.row.length rc, .int .i64 m.N, .string m.S, .int .i64 m.room, .slice va m.vals.length vc, .int .i64 m.ret, .bool m.over, .int .i64 m.steps, .int .i64 m.looks, .int .i64 m.hits, .slice ma m.memo.length mc]) : Mb W b m ra va ma rc vc mc :=
  ⟨(h 0 (by simp)).1, (h 1 (by simp)).1, (h 2 (by simp)).1, (h 3 (by simp)).1, (h 4 (by simp)).1, (h 5 (by simp)).1, (h 6 (by simp)).1, (h 7 (by simp)).1, (h 8 (by simp)).1, (h 9 (by simp)).1, (h 10 (by simp)).1⟩

end Go.Proofs.YtficonkpbohpeaaDoor.Mx0

/- Marks on a machine without values and memo. Written by tools/gen_mk0.py. -/
namespace Go.Proofs.YtficonkpbohpeaaDoor.Mk0
open Go.RowKit
open Nd0 (Kept Ints WInts Ats marks)
open Nd6 (Bools markB BoolsIn)
open Ap1 (WBools)
open Mm0 Mx0
set_option linter.unusedVariables false

end Go.Proofs.YtficonkpbohpeaaDoor.Mk0
