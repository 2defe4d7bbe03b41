/- The model's functions over tables: both. -/
import Derived.Test.YtlpbfbghgacjiaaTd2
namespace Go.Proofs.Ytlpbfbghgacjiaa.Td3
open Go.RowKit
open Ta0 Ta1 Tc2 Tc5 Ap9 Td1 Td2
open Nd0 (Kept set_other set_same lt_of_cell)
open Ss0 (bs bs_size ret_str bs_ext)
open Ss1 (tl tl_length tl_get tl_take bs_tl tl_bs tl_inj eqb)
set_option linter.unusedVariables false

/-- What stands while a table is written out of two. -/
structure OB (w : World) (N : Int) (S T : ByteArray) (v : Value) (l : List UInt8) (W : World) : Prop where
  lay : Lay W w.heap.size (.int .i64 N) (.string S)
  lay2 : Lay W (w.heap.size + 1) (.int .i64 N) (.string T)
  res : Lay W (w.heap.size + 1 + 1) (.int .i64 0) (.string ByteArray.empty)
  own : Owu W (w.heap.size + 1 + 1 + 1) v l
  siz : w.heap.size + 1 + 1 + 1 ≤ W.heap.size
  bel : Below w.heap.size w W
theorem OB.next {w W W' : World} {N : Int} {S T : ByteArray} {v v' : Value} {l l' : List UInt8} (h : OB w N S T v l W) (hk : Kept (fun k => v.ownBlock = some k) W W') (ho : Owu W' (w.heap.size + 1 + 1 + 1) v' l') : OB w N S T v' l' W' :=
  ⟨h.lay.kept hk (fun e => by have := (h.own.lt _ e).1; omega), h.lay2.kept hk (fun e => by have := (h.own.lt _ e).1; omega), h.res.kept hk (fun e => by have := (h.own.lt _ e).1; omega), ho, by have := hk.size; have := h.siz; omega, h.bel.trans (hk.below (fun b hb => by have := (h.own.lt _ hb).1; omega) h.bel.size)⟩
theorem OB.drewN {w W : World} {N : Int} {S T : ByteArray} {v : Value} {l : List UInt8} (h : OB w N S T v l W) (n : Nat) : OB w N S T v l (W.drewN n) :=
  ⟨h.lay.kept (S := fun _ => False) ((Kept.refl _ _).drewN n) (fun h => h), h.lay2.kept (S := fun _ => False) ((Kept.refl _ _).drewN n) (fun h => h), h.res.kept (S := fun _ => False) ((Kept.refl _ _).drewN n) (fun h => h), h.own.kept (S := fun _ => False) ((Kept.refl _ _).drewN n) (fun _ _ h => h), h.siz, below_drewN h.bel n⟩

end Go.Proofs.Ytlpbfbghgacjiaa.Td3
