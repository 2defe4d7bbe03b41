/- A machine's value, and its block. Written by tools/gen_mm0.py. -/
import Derived.Test.YtmhambifbimndaaQc0
import Derived.Test.YtmhambifbimndaaNd6
import Derived.Test.YtmhambifbimndaaTa1
import Derived.Test.YtmhambifbimndaaSs1
namespace Go.Proofs.Ytmhambifbimndaa.Mm0
open Go.RowKit
open Nd0 (Kept Ints set_other set_same lt_of_cell)
open Nd6 (Bools)
open Qc0 (Sn Sns)
open Ta1 (tokB)
open Ss1 (tl)
set_option linter.unusedVariables false

structure Mc where
  row : List Bool
  N : Int
  S : ByteArray
  room : Int
  vals : List Int
  ret : Int
  over : Bool
  steps : Int
  looks : Int
  hits : Int
  memo : List Sn
/-- Its value. -/
abbrev mval (m : Mc) (ra va ma : Option Addr) (rc vc mc : Nat) : Value := .agg #[.slice ra m.row.length rc, .int .i64 m.N, .string m.S, .int .i64 m.room, .slice va m.vals.length vc, .int .i64 m.ret, .bool m.over, .int .i64 m.steps, .int .i64 m.looks, .int .i64 m.hits, .slice ma m.memo.length mc]
/-- It lies in block b. -/
structure Mb (W : World) (b : Nat) (m : Mc) (ra va ma : Option Addr) (rc vc mc : Nat) : Prop where
  c0 : W.cell? ⟨b, 0, none⟩ = some (.slice ra m.row.length rc)
  c1 : W.cell? ⟨b, 1, none⟩ = some (.int .i64 m.N)
  c2 : W.cell? ⟨b, 2, none⟩ = some (.string m.S)
  c3 : W.cell? ⟨b, 3, none⟩ = some (.int .i64 m.room)
  c4 : W.cell? ⟨b, 4, none⟩ = some (.slice va m.vals.length vc)
  c5 : W.cell? ⟨b, 5, none⟩ = some (.int .i64 m.ret)
  c6 : W.cell? ⟨b, 6, none⟩ = some (.bool m.over)
  c7 : W.cell? ⟨b, 7, none⟩ = some (.int .i64 m.steps)
  c8 : W.cell? ⟨b, 8, none⟩ = some (.int .i64 m.looks)
  c9 : W.cell? ⟨b, 9, none⟩ = some (.int .i64 m.hits)
  c10 : W.cell? ⟨b, 10, none⟩ = some (.slice ma m.memo.length mc)
theorem Mb.lt {W : World} {b : Nat} {m : Mc} {ra va ma : Option Addr} {rc vc mc : Nat} (h : Mb W b m ra va ma rc vc mc) : b < W.heap.size := World.block_lt_of_cell? _ _ h.c0
theorem Mb.kept {W W' : World} {b : Nat} {m : Mc} {ra va ma : Option Addr} {rc vc mc : Nat} (h : Mb W b m ra va ma rc vc mc) {S : Nat → Prop} (k : Kept S W W') (hs : ¬ S b) : Mb W' b m ra va ma rc vc mc :=
  ⟨by rw [k.cell (p := ⟨b, 0, none⟩) h.lt hs]; exact h.c0, by rw [k.cell (p := ⟨b, 1, none⟩) h.lt hs]; exact h.c1, by rw [k.cell (p := ⟨b, 2, none⟩) h.lt hs]; exact h.c2, by rw [k.cell (p := ⟨b, 3, none⟩) h.lt hs]; exact h.c3, by rw [k.cell (p := ⟨b, 4, none⟩) h.lt hs]; exact h.c4, by rw [k.cell (p := ⟨b, 5, none⟩) h.lt hs]; exact h.c5, by rw [k.cell (p := ⟨b, 6, none⟩) h.lt hs]; exact h.c6, by rw [k.cell (p := ⟨b, 7, none⟩) h.lt hs]; exact h.c7, by rw [k.cell (p := ⟨b, 8, none⟩) h.lt hs]; exact h.c8, by rw [k.cell (p := ⟨b, 9, none⟩) h.lt hs]; exact h.c9, by rw [k.cell (p := ⟨b, 10, none⟩) h.lt hs]; exact h.c10⟩
theorem Mb.below {W W' : World} {b : Nat} {m : Mc} {ra va ma : Option Addr} {rc vc mc : Nat} (h : Mb W b m ra va ma rc vc mc) (k : Below W.heap.size W W') : Mb W' b m ra va ma rc vc mc := h.kept (S := fun _ => False) (Kept.ofBelow k) (fun h => h)
theorem Mb.alloc {W : World} {b : Nat} {m : Mc} {ra va ma : Option Addr} {rc vc mc : Nat} (h : Mb W b m ra va ma rc vc mc) (o : Obj) : Mb (W.alloc o) b m ra va ma rc vc mc := h.kept (S := fun _ => False) ((Kept.refl _ _).alloc _) (fun h => h)
theorem Mb.made (W : World) (m : Mc) (ra va ma : Option Addr) (rc vc mc : Nat) (T : Nat) : Mb (W.alloc (.cells #[.slice ra m.row.length rc, .int .i64 m.N, .string m.S, .int .i64 m.room, .slice va m.vals.length vc, .int .i64 m.ret, .bool m.over, .int .i64 m.steps, .int .i64 m.looks, .int .i64 m.hits, .slice ma m.memo.length mc] T)) W.heap.size m ra va ma rc vc mc := ⟨by simp, by simp, by simp, by simp, by simp, by simp, by simp, by simp, by simp, by simp, by simp⟩
/-- What it points to can be read. -/
structure Mr (W : World) (m : Mc) (ra va ma : Option Addr) : Prop where
  row : Bools W ra m.row
  vals : Ints W va m.vals
  memo : Sns W ma m.memo
theorem Mr.below {W W' : World} {m : Mc} {ra va ma : Option Addr} (h : Mr W m ra va ma) (k : Below W.heap.size W W') : Mr W' m ra va ma := ⟨h.row.below k, h.vals.below k, h.memo.below k⟩
/-- No two keys are alike. -/
def apart (l : List Sn) : Prop := ∀ i j (hi : i < l.length) (hj : j < l.length), j < i → l[j].k ≠ l[i].k
/-- A right machine. -/
structure Mok (m : Mc) : Prop where
  tab : tokB m.N (tl m.S) = true
  row : (m.row.length : Int) = m.N
  room : 0 ≤ m.room ∧ m.room ≤ 40
  memo : (m.memo.length : Int) ≤ m.room
  vals : (m.vals.length : Int) ≤ m.N
  ret : -1 ≤ m.ret ∧ m.ret ≤ 1
  over : m.over = true → 0 ≤ m.ret ∧ m.vals.length = 0
  steps : 0 ≤ m.steps ∧ m.steps ≤ 1000000000
  looks : 0 ≤ m.looks ∧ m.looks ≤ 1000000000
  hits : 0 ≤ m.hits ∧ m.hits ≤ 1000000000
  bits : ∀ x ∈ m.vals, 0 ≤ x ∧ x ≤ 1
  seen : ∀ x ∈ m.memo, 0 ≤ x.r ∧ x.r ≤ 1
  keys : apart m.memo

end Go.Proofs.Ytmhambifbimndaa.Mm0
