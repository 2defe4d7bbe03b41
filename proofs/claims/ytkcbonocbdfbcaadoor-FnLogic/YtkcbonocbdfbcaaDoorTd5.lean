/- The model's functions over tables: needs. -/
import Derived.Test.YtkcbonocbdfbcaaDoorTd4
import Derived.Test.YtkcbonocbdfbcaaDoorAp0
namespace Go.Proofs.YtkcbonocbdfbcaaDoor.Td5
open Go.RowKit
open Ta0 Ta1 Ta2 Tc2 Tc5 Td1 Td2 Ap0
open Nd0 (Kept Ints WInts set_other set_same lt_of_cell)
open Ss0 (bs bs_size ret_str bs_ext)
open Ss1 (tl tl_length tl_get tl_take bs_tl tl_bs tl_inj eqb)
set_option linter.unusedVariables false

theorem bne48 {a b : Bool} (h : a ≠ b) : ((48 + (a.toNat : Int)) != (48 + (b.toNat : Int))) = true := by
  cases a <;> cases b <;> first | rfl | exact absurd rfl h

/-- What stands while numbers are collected. -/
structure ON (w : World) (N : Int) (S : ByteArray) (v : Value) (l : List Int) (W : World) : Prop where
  lay : Lay W w.heap.size (.int .i64 N) (.string S)
  own : Ows W (w.heap.size + 1) v l
  siz : w.heap.size + 1 ≤ W.heap.size
  bel : Below w.heap.size w W
theorem ON.next {w W W' : World} {N : Int} {S : ByteArray} {v v' : Value} {l l' : List Int} (h : ON w N S v l W) (hk : Kept (fun k => v.ownBlock = some k) W W') (ho : Ows W' (w.heap.size + 1) v' l') : ON w N S v' l' W' :=
  ⟨h.lay.kept hk (fun e => by have := (h.own.lt _ e).1; omega), ho, by have := hk.size; have := h.siz; omega, h.bel.trans (hk.below (fun b hb => by have := (h.own.lt _ hb).1; omega) h.bel.size)⟩
theorem ON.below {w W W' : World} {N : Int} {S : ByteArray} {v : Value} {l : List Int} (h : ON w N S v l W) (k : Below W.heap.size W W') : ON w N S v l W' :=
  ⟨h.lay.below k, h.own.kept (S := fun _ => False) (Kept.ofBelow k) (fun _ _ h => h), by have := k.size; have := h.siz; omega, h.bel.trans (k.mono h.bel.size)⟩
theorem ON.drewN {w W : World} {N : Int} {S : ByteArray} {v : Value} {l : List Int} (h : ON w N S v l W) (n : Nat) : ON w N S v l (W.drewN n) := h.below (below_drewN (Below.refl _ _) n)
theorem ON.start (w : World) (N : Int) (S : ByteArray) : ON w N S (.slice (some ⟨w.heap.size + 1, 0, none⟩) 0 0) [] ((w.alloc (.cells #[.int .i64 N, .string S] 25)).alloc (.cells #[] 3)) := by
  refine ⟨(Lay.made _ _ _ _).alloc _, ?_, by simp, ((Below.refl _ _).alloc (Nat.le_refl _) _).alloc (by simp) _⟩
  have := Ows.lit (w.alloc (.cells #[.int .i64 N, .string S] 25)) (w.heap.size + 1) (by simp)
  simpa using this
theorem ON.wints {w W : World} {N : Int} {S : ByteArray} {v : Value} {l : List Int} (h : ON w N S v l W) : ∃ a c, v = .slice a l.length c ∧ WInts W w.heap.size a l := by
  obtain ⟨a, c, hv, hw⟩ := h.own.form
  refine ⟨a, c, hv, hw.1, ?_⟩
  rcases hw.2 with h0 | ⟨b, o, ha, hb, hc⟩
  · exact .inl h0
  · exact .inr ⟨b, o, ha, by omega, hc⟩

end Go.Proofs.YtkcbonocbdfbcaaDoor.Td5
