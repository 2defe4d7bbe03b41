/- Small texts of mine, one behind the other. -/
import Derived.Deep.RegionHeld3
import Derived.Deep.CutBlock
import Derived.Deep.CutRange
import Derived.Test.YtmhambifbimndaaPkJ26
import Derived.Test.YtmhambifbimndaaTa2
import Derived.Test.YtmhambifbimndaaMm0
import Derived.Test.YtmhambifbimndaaMc0
/- The model's functions over tables: not, both, half. -/
namespace Go.Proofs.Ytmhambifbimndaa.Td2
open Go.RowKit
open Ta0 Ta1 Tc2 Tc5 Ap9 Td1
open Nd0 (Kept set_other set_same lt_of_cell)
open Ss0 (bs bs_size ret_str bs_ext)
open Ss1 (tl tl_length tl_get tl_take bs_tl tl_bs tl_inj eqb)
set_option linter.unusedVariables false

/-- The first k signs. -/
def tk (n : Nat) (G : Nat → Bool) (k : Nat) : List UInt8 := (tab n G).take k
theorem tk_zero (n : Nat) (G : Nat → Bool) : tk n G 0 = [] := rfl
theorem tk_len {n : Nat} {G : Nat → Bool} {k : Nat} (h : k ≤ 2 ^ n) : (tk n G k).length = k := by unfold tk; rw [List.length_take, tab_length]; omega
theorem tk_succ {n : Nat} {G : Nat → Bool} {k : Nat} (h : k < 2 ^ n) : tk n G (k + 1) = tk n G k ++ [sgn (G k)] := by
  unfold tk
  rw [List.take_succ_eq_append_getElem (by rw [tab_length]; exact h), tab_get]
theorem tk_all (n : Nat) (G : Nat → Bool) : tk n G (2 ^ n) = tab n G := by unfold tk; rw [List.take_of_length_le (by rw [tab_length]; omega)]

/-- What stands while a table is written. -/
structure OT (w : World) (B r : Nat) (N : Int) (S : ByteArray) (v : Value) (l : List UInt8) (W : World) : Prop where
  lay : Lay W B (.int .i64 N) (.string S)
  res : Lay W r (.int .i64 0) (.string ByteArray.empty)
  own : Owu W (r + 1) v l
  siz : r + 1 ≤ W.heap.size
  bel : Below w.heap.size w W
theorem OT.next {w W W' : World} {B r : Nat} {N : Int} {S : ByteArray} {v v' : Value} {l l' : List UInt8} (h : OT w B r N S v l W) (hB : B < r + 1) (hw : w.heap.size ≤ r) (hk : Kept (fun k => v.ownBlock = some k) W W') (ho : Owu W' (r + 1) v' l') : OT w B r N S v' l' W' :=
  ⟨h.lay.kept hk (fun e => by have := (h.own.lt _ e).1; omega), h.res.kept hk (fun e => by have := (h.own.lt _ e).1; omega), ho, by have := hk.size; have := h.siz; omega, h.bel.trans (hk.below (fun b hb => by have := (h.own.lt _ hb).1; omega) h.bel.size)⟩

theorem finT {w W : World} {r : Nat} {a b : Value} (hr : Lay W r a b) (hb : Below w.heap.size w W) (hw : w.heap.size ≤ r) (x y : Value) :
    ∃ W', W' = (W.setCell ⟨r, 0, none⟩ x).setCell ⟨r, 1, none⟩ y ∧ Lay W' r x y ∧ Below w.heap.size w W' := by
  have K : Kept (fun b => b = r) W ((W.setCell ⟨r, 0, none⟩ x).setCell ⟨r, 1, none⟩ y) := kset (S := fun b => b = r) (kset (S := fun b => b = r) (Kept.refl (fun b => b = r) W) rfl _) rfl _
  exact ⟨_, rfl, hr.put x y, hb.trans (K.below (fun b hb => by omega) hb.size)⟩

end Go.Proofs.Ytmhambifbimndaa.Td2

/- The model's functions over tables: both. -/
namespace Go.Proofs.Ytmhambifbimndaa.Td3
open Go.RowKit
open Ta0 Ta1 Tc2 Tc5 Ap9 Td1 Td2
open Nd0 (Kept set_other set_same lt_of_cell)
open Ss0 (bs bs_size ret_str bs_ext)
open Ss1 (tl tl_length tl_get tl_take bs_tl tl_bs tl_inj eqb)
set_option linter.unusedVariables false

/-- What stands while a table is written out of two. -/
structure OB (w : World) (N : Int) (S T : ByteArray) (v : Value) (l : List UInt8) (W : World) : Prop where
  lay : Lay W w.heap.size (.int .i64 N) (.string S)
  lay2 : Lay W (w.heap.size + 1) (.int .i64 N) (.string T)
  res : Lay W (w.heap.size + 1 + 1) (.int .i64 0) (.string ByteArray.empty)
  own : Owu W (w.heap.size + 1 + 1 + 1) v l
  siz : w.heap.size + 1 + 1 + 1 ≤ W.heap.size
  bel : Below w.heap.size w W
theorem OB.next {w W W' : World} {N : Int} {S T : ByteArray} {v v' : Value} {l l' : List UInt8} (h : OB w N S T v l W) (hk : Kept (fun k => v.ownBlock = some k) W W') (ho : Owu W' (w.heap.size + 1 + 1 + 1) v' l') : OB w N S T v' l' W' :=
  ⟨h.lay.kept hk (fun e => by have := (h.own.lt _ e).1; omega), h.lay2.kept hk (fun e => by have := (h.own.lt _ e).1; omega), h.res.kept hk (fun e => by have := (h.own.lt _ e).1; omega), ho, by have := hk.size; have := h.siz; omega, h.bel.trans (hk.below (fun b hb => by have := (h.own.lt _ hb).1; omega) h.bel.size)⟩
theorem OB.drewN {w W : World} {N : Int} {S T : ByteArray} {v : Value} {l : List UInt8} (h : OB w N S T v l W) (n : Nat) : OB w N S T v l (W.drewN n) :=
  ⟨h.lay.kept (S := fun _ => False) ((Kept.refl _ _).drewN n) (fun h => h), h.lay2.kept (S := fun _ => False) ((Kept.refl _ _).drewN n) (fun h => h), h.res.kept (S := fun _ => False) ((Kept.refl _ _).drewN n) (fun h => h), h.own.kept (S := fun _ => False) ((Kept.refl _ _).drewN n) (fun _ _ h => h), h.siz, below_drewN h.bel n⟩

end Go.Proofs.Ytmhambifbimndaa.Td3

/- The model's functions over tables: half, at. -/
namespace Go.Proofs.Ytmhambifbimndaa.Td4
open Go.RowKit
open Ta0 Ta1 Ta2 Tc2 Tc5 Ap9 Td1 Td2
open Nd0 (Kept Ints set_other set_same lt_of_cell)
open Ss0 (bs bs_size ret_str bs_ext)
open Ss1 (tl tl_length tl_get tl_take bs_tl tl_bs tl_inj eqb)
set_option linter.unusedVariables false

end Go.Proofs.Ytmhambifbimndaa.Td4

/- The model's machine: what is left of the table. -/
namespace Go.Proofs.Ytmhambifbimndaa.Mm1
open Go.RowKit
open Ta0 Ta1 Ta2 Ta3 Tc2 Tc5 Td1 Td2 Td4 Mc0 Mm0
open Nd0 (Kept Ints set_other set_same lt_of_cell)
open Ss0 (bs bs_size)
set_option linter.unusedVariables false

def bi (b : Bool) : Int := (b.toNat : Int)
theorem lft_snoc {n : Nat} (F : Nat → Bool) (vs : List Bool) (b : Bool) (h : vs.length < n) (q : Nat) : hb (n - vs.length - 1) b.toNat (lft n F vs) q = lft n F (vs ++ [b]) q := by
  unfold hb lft
  rw [pl_snoc, List.length_append, List.length_singleton]
  congr 1
  have e : n - vs.length = (n - (vs.length + 1)) + 1 := by omega
  have e2 : n - vs.length - 1 = n - (vs.length + 1) := by omega
  rw [e2, e, Nat.pow_succ, Nat.add_mul, Nat.mul_comm 2 (pl vs), Nat.mul_assoc (pl vs) 2, Nat.mul_comm 2, Nat.add_assoc]

/-- What stands while halves are taken. -/
structure LS (w : World) (m : Mc) (ra va ma : Option Addr) (rc vc mc q1 q2 q3 : Nat) (e : Int) (S : ByteArray) (W : World) : Prop where
  mb : Mb W q1 m ra va ma rc vc mc
  rs : Lay W q2 (.int .i64 0) (.string ByteArray.empty)
  t : Lay W q3 (.int .i64 e) (.string S)
  bel : Below w.heap.size w W
theorem LS.below {w W W' : World} {m : Mc} {ra va ma : Option Addr} {rc vc mc q1 q2 q3 : Nat} {e : Int} {S : ByteArray} (h : LS w m ra va ma rc vc mc q1 q2 q3 e S W) (k : Below W.heap.size W W') : LS w m ra va ma rc vc mc q1 q2 q3 e S W' :=
  ⟨h.mb.below k, h.rs.below k, h.t.below k, h.bel.trans (k.mono h.bel.size)⟩
theorem LS.alloc {w W : World} {m : Mc} {ra va ma : Option Addr} {rc vc mc q1 q2 q3 : Nat} {e : Int} {S : ByteArray} (h : LS w m ra va ma rc vc mc q1 q2 q3 e S W) (o : Obj) : LS w m ra va ma rc vc mc q1 q2 q3 e S (W.alloc o) := h.below ((Below.refl _ _).alloc (Nat.le_refl _) _)
theorem LS.drew {w W : World} {m : Mc} {ra va ma : Option Addr} {rc vc mc q1 q2 q3 : Nat} {e : Int} {S : ByteArray} (h : LS w m ra va ma rc vc mc q1 q2 q3 e S W) : LS w m ra va ma rc vc mc q1 q2 q3 e S W.drew := h.below (Below.refl _ _).drew
theorem LS.put {w W : World} {m : Mc} {ra va ma : Option Addr} {rc vc mc q1 q2 q3 : Nat} {e : Int} {S : ByteArray} (h : LS w m ra va ma rc vc mc q1 q2 q3 e S W) (h1 : q1 ≠ q3) (h2 : q2 ≠ q3) (h3 : w.heap.size ≤ q3) (e' : Int) (S' : ByteArray) : LS w m ra va ma rc vc mc q1 q2 q3 e' S' ((W.setCell ⟨q3, 0, none⟩ (.int .i64 e')).setCell ⟨q3, 1, none⟩ (.string S')) := by
  have K : Kept (fun b => b = q3) W ((W.setCell ⟨q3, 0, none⟩ (.int .i64 e')).setCell ⟨q3, 1, none⟩ (.string S')) := kset (S := fun b => b = q3) (kset (S := fun b => b = q3) (Kept.refl (fun b => b = q3) W) rfl _) rfl _
  exact ⟨h.mb.kept K h1, h.rs.kept K h2, h.t.put _ _, h.bel.trans (K.below (fun b hb => by omega) h.bel.size)⟩
theorem LS.put2 {w W : World} {m : Mc} {ra va ma : Option Addr} {rc vc mc q1 q2 q3 z : Nat} {e : Int} {S : ByteArray} {x y : Value} (h : LS w m ra va ma rc vc mc q1 q2 q3 e S W) (hL : Lay W z x y) (h1 : q1 ≠ z) (h2 : q2 ≠ z) (h4 : q3 ≠ z) (h3 : w.heap.size ≤ z) (u v : Value) : LS w m ra va ma rc vc mc q1 q2 q3 e S ((W.setCell ⟨z, 0, none⟩ u).setCell ⟨z, 1, none⟩ v) := by
  have K : Kept (fun b => b = z) W ((W.setCell ⟨z, 0, none⟩ u).setCell ⟨z, 1, none⟩ v) := kset (S := fun b => b = z) (kset (S := fun b => b = z) (Kept.refl (fun b => b = z) W) rfl _) rfl _
  exact ⟨h.mb.kept K h1, h.rs.kept K h2, h.t.kept K h4, h.bel.trans (K.below (fun b hb => by omega) h.bel.size)⟩

theorem LayE (W : World) (x y : Value) (T : Nat) : Lay (W.alloc (.cells #[x, y] T)).drew W.heap.size x y := (Lay.made W x y T).kept (S := fun _ => False) (Kept.refl _ _).drew (fun h => h)
theorem take_bit {vb : List Bool} {j : Nat} (h : j < vb.length) : vb.take (j + 1) = vb.take j ++ [vb[j]] := List.take_succ_eq_append_getElem h

end Go.Proofs.Ytmhambifbimndaa.Mm1
