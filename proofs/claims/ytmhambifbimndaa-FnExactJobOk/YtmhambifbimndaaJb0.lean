/- A job's value, and its block. Written by tools/mkjb.py. -/
import Derived.Test.YtmhambifbimndaaMx0
namespace Go.Proofs.Ytmhambifbimndaa.Jb0
open Go.RowKit
open Nd0 (Kept set_other set_same)
open Mm0 Mx0
set_option linter.unusedVariables false

/-- Its value. -/
abbrev jval (st : Int) (m : Mc) (jr : ByteArray) (sy : Int) (ra va ma : Option Addr) (rc vc mc : Nat) : Value := .agg #[.int .i64 st, .slice ra m.row.length rc, .int .i64 m.N, .string m.S, .int .i64 m.room, .slice va m.vals.length vc, .int .i64 m.ret, .bool m.over, .int .i64 m.steps, .int .i64 m.looks, .int .i64 m.hits, .slice ma m.memo.length mc, .string jr, .int .i64 sy]
/-- It lies in block b. -/
structure Jb (W : World) (b : Nat) (st : Int) (m : Mc) (jr : ByteArray) (sy : Int) (ra va ma : Option Addr) (rc vc mc : Nat) : Prop where
  c0 : W.cell? ⟨b, 0, none⟩ = some (.int .i64 st)
  c1 : W.cell? ⟨b, 1, none⟩ = some (.slice ra m.row.length rc)
  c2 : W.cell? ⟨b, 2, none⟩ = some (.int .i64 m.N)
  c3 : W.cell? ⟨b, 3, none⟩ = some (.string m.S)
  c4 : W.cell? ⟨b, 4, none⟩ = some (.int .i64 m.room)
  c5 : W.cell? ⟨b, 5, none⟩ = some (.slice va m.vals.length vc)
  c6 : W.cell? ⟨b, 6, none⟩ = some (.int .i64 m.ret)
  c7 : W.cell? ⟨b, 7, none⟩ = some (.bool m.over)
  c8 : W.cell? ⟨b, 8, none⟩ = some (.int .i64 m.steps)
  c9 : W.cell? ⟨b, 9, none⟩ = some (.int .i64 m.looks)
  c10 : W.cell? ⟨b, 10, none⟩ = some (.int .i64 m.hits)
  c11 : W.cell? ⟨b, 11, none⟩ = some (.slice ma m.memo.length mc)
  c12 : W.cell? ⟨b, 12, none⟩ = some (.string jr)
  c13 : W.cell? ⟨b, 13, none⟩ = some (.int .i64 sy)
theorem Jb.lt {W : World} {b : Nat} {st : Int} {m : Mc} {jr : ByteArray} {sy : Int} {ra va ma : Option Addr} {rc vc mc : Nat} (h : Jb W b st m jr sy ra va ma rc vc mc) : b < W.heap.size := World.block_lt_of_cell? _ _ h.c0
theorem Jb.kept {W W' : World} {b : Nat} {st : Int} {m : Mc} {jr : ByteArray} {sy : Int} {ra va ma : Option Addr} {rc vc mc : Nat} (h : Jb W b st m jr sy ra va ma rc vc mc) {S : Nat → Prop} (k : Kept S W W') (hs : ¬ S b) : Jb W' b st m jr sy ra va ma rc vc mc :=
  ⟨by rw [k.cell (p := ⟨b, 0, none⟩) h.lt hs]; exact h.c0, by rw [k.cell (p := ⟨b, 1, none⟩) h.lt hs]; exact h.c1, by rw [k.cell (p := ⟨b, 2, none⟩) h.lt hs]; exact h.c2, by rw [k.cell (p := ⟨b, 3, none⟩) h.lt hs]; exact h.c3, by rw [k.cell (p := ⟨b, 4, none⟩) h.lt hs]; exact h.c4, by rw [k.cell (p := ⟨b, 5, none⟩) h.lt hs]; exact h.c5, by rw [k.cell (p := ⟨b, 6, none⟩) h.lt hs]; exact h.c6, by rw [k.cell (p := ⟨b, 7, none⟩) h.lt hs]; exact h.c7, by rw [k.cell (p := ⟨b, 8, none⟩) h.lt hs]; exact h.c8, by rw [k.cell (p := ⟨b, 9, none⟩) h.lt hs]; exact h.c9, by rw [k.cell (p := ⟨b, 10, none⟩) h.lt hs]; exact h.c10, by rw [k.cell (p := ⟨b, 11, none⟩) h.lt hs]; exact h.c11, by rw [k.cell (p := ⟨b, 12, none⟩) h.lt hs]; exact h.c12, by rw [k.cell (p := ⟨b, 13, none⟩) h.lt hs]; exact h.c13⟩
theorem Jb.below {W W' : World} {b : Nat} {st : Int} {m : Mc} {jr : ByteArray} {sy : Int} {ra va ma : Option Addr} {rc vc mc : Nat} (h : Jb W b st m jr sy ra va ma rc vc mc) (k : Below W.heap.size W W') : Jb W' b st m jr sy ra va ma rc vc mc := h.kept (S := fun _ => False) (Kept.ofBelow k) (fun h => h)
theorem Jb.alloc {W : World} {b : Nat} {st : Int} {m : Mc} {jr : ByteArray} {sy : Int} {ra va ma : Option Addr} {rc vc mc : Nat} (h : Jb W b st m jr sy ra va ma rc vc mc) (o : Obj) : Jb (W.alloc o) b st m jr sy ra va ma rc vc mc := h.kept (S := fun _ => False) ((Kept.refl _ _).alloc _) (fun h => h)
theorem Jb.made (W : World) (st : Int) (m : Mc) (jr : ByteArray) (sy : Int) (ra va ma : Option Addr) (rc vc mc : Nat) (T : Nat) : Jb (W.alloc (.cells #[.int .i64 st, .slice ra m.row.length rc, .int .i64 m.N, .string m.S, .int .i64 m.room, .slice va m.vals.length vc, .int .i64 m.ret, .bool m.over, .int .i64 m.steps, .int .i64 m.looks, .int .i64 m.hits, .slice ma m.memo.length mc, .string jr, .int .i64 sy] T)) W.heap.size st m jr sy ra va ma rc vc mc := ⟨by simp, by simp, by simp, by simp, by simp, by simp, by simp, by simp, by simp, by simp, by simp, by simp, by simp, by simp⟩
/-- The block cell by cell, and that it may be written. -/
structure Jz (W : World) (b : Nat) (v0 v1 v2 v3 v4 v5 v6 v7 v8 v9 v10 v11 v12 v13 : Value) : Prop where
  c0 : W.cell? ⟨b, 0, none⟩ = some v0
  c1 : W.cell? ⟨b, 1, none⟩ = some v1
  c2 : W.cell? ⟨b, 2, none⟩ = some v2
  c3 : W.cell? ⟨b, 3, none⟩ = some v3
  c4 : W.cell? ⟨b, 4, none⟩ = some v4
  c5 : W.cell? ⟨b, 5, none⟩ = some v5
  c6 : W.cell? ⟨b, 6, none⟩ = some v6
  c7 : W.cell? ⟨b, 7, none⟩ = some v7
  c8 : W.cell? ⟨b, 8, none⟩ = some v8
  c9 : W.cell? ⟨b, 9, none⟩ = some v9
  c10 : W.cell? ⟨b, 10, none⟩ = some v10
  c11 : W.cell? ⟨b, 11, none⟩ = some v11
  c12 : W.cell? ⟨b, 12, none⟩ = some v12
  c13 : W.cell? ⟨b, 13, none⟩ = some v13
  z0 : W.frozen? ⟨b, 0, none⟩ = false
  z1 : W.frozen? ⟨b, 1, none⟩ = false
  z2 : W.frozen? ⟨b, 2, none⟩ = false
  z3 : W.frozen? ⟨b, 3, none⟩ = false
  z4 : W.frozen? ⟨b, 4, none⟩ = false
  z5 : W.frozen? ⟨b, 5, none⟩ = false
  z6 : W.frozen? ⟨b, 6, none⟩ = false
  z7 : W.frozen? ⟨b, 7, none⟩ = false
  z8 : W.frozen? ⟨b, 8, none⟩ = false
  z9 : W.frozen? ⟨b, 9, none⟩ = false
  z10 : W.frozen? ⟨b, 10, none⟩ = false
  z11 : W.frozen? ⟨b, 11, none⟩ = false
  z12 : W.frozen? ⟨b, 12, none⟩ = false
  z13 : W.frozen? ⟨b, 13, none⟩ = false
theorem Jz.of {W : World} {b : Nat} {v0 v1 v2 v3 v4 v5 v6 v7 v8 v9 v10 v11 v12 v13 : Value} (h : Mf W b [v0, v1, v2, v3, v4, v5, v6, v7, v8, v9, v10, v11, v12, v13]) : Jz W b v0 v1 v2 v3 v4 v5 v6 v7 v8 v9 v10 v11 v12 v13 :=
  ⟨(h 0 (by simp)).1, (h 1 (by simp)).1, (h 2 (by simp)).1, (h 3 (by simp)).1, (h 4 (by simp)).1, (h 5 (by simp)).1, (h 6 (by simp)).1, (h 7 (by simp)).1, (h 8 (by simp)).1, (h 9 (by simp)).1, (h 10 (by simp)).1, (h 11 (by simp)).1, (h 12 (by simp)).1, (h 13 (by simp)).1, (h 0 (by simp)).2, (h 1 (by simp)).2, (h 2 (by simp)).2, (h 3 (by simp)).2, (h 4 (by simp)).2, (h 5 (by simp)).2, (h 6 (by simp)).2, (h 7 (by simp)).2, (h 8 (by simp)).2, (h 9 (by simp)).2, (h 10 (by simp)).2, (h 11 (by simp)).2, (h 12 (by simp)).2, (h 13 (by simp)).2⟩

end Go.Proofs.Ytmhambifbimndaa.Jb0
