/- The walk of the program's Apply, out of the contracts of its operators. -/
import Derived.Test.YtjhhmnelddidjaaPv1
namespace Go.Proofs.Ytjhhmnelddidjaa.Pv3
open Go.RowKit
open Nd0 Pl1 Pl2 Vl1 Vl2 Bt0 Wd1 Wd2 Wd3 Wd4 Wd5 Ic4 Pv1
open Sv1 (Rg below1)
set_option linter.unusedVariables false
theorem eqIn_func (d : Nat) (f : Fn) (x y : Array Value) (w : World) : (Op.equalIn (d + 1) 44 (.func f x y) .nilFunc).run Try.prog w = .ok false w := by
  simp [Op.equalIn, run_underlying Try.underlying44]
theorem eqIn_nil (d : Nat) (w : World) : (Op.equalIn (d + 1) 44 .nilFunc .nilFunc).run Try.prog w = .ok true w := by
  simp [Op.equalIn, run_underlying Try.underlying44]
theorem eql_func (f : Fn) (x y : Array Value) (w : World) : (binOp .eql 44 (.func f x y) .nilFunc).run Try.prog w = .ok (.bool false) w := by
  have h : (Op.equal 44 (.func f x y) .nilFunc).run Try.prog w = .ok false w := eqIn_func 9999 f x y w
  simp only [binOp]
  simp [h]
theorem eql_nil (w : World) : (binOp .eql 44 .nilFunc .nilFunc).run Try.prog w = .ok (.bool true) w := by
  have h : (Op.equal 44 .nilFunc .nilFunc).run Try.prog w = .ok true w := eqIn_nil 9999 w
  simp only [binOp]
  simp [h]
theorem facts7 (w : World) (k : Nat) (f v0 v1 v2 v3 v4 v5 : Value) (hk : k < tab.size) (h : tab[k]'hk = f) :
    (((w.alloc (.cells #[v0, v1, v2, v3, v4, v5] 25)).alloc (.cells tab 45)).alloc (.cells tab 45)).cell? ⟨w.heap.size, 0, none⟩ = some v0 ∧
    (((w.alloc (.cells #[v0, v1, v2, v3, v4, v5] 25)).alloc (.cells tab 45)).alloc (.cells tab 45)).cell? ⟨w.heap.size, 1, none⟩ = some v1 ∧
    (((w.alloc (.cells #[v0, v1, v2, v3, v4, v5] 25)).alloc (.cells tab 45)).alloc (.cells tab 45)).cell? ⟨w.heap.size, 2, none⟩ = some v2 ∧
    (((w.alloc (.cells #[v0, v1, v2, v3, v4, v5] 25)).alloc (.cells tab 45)).alloc (.cells tab 45)).cell? ⟨w.heap.size, 3, none⟩ = some v3 ∧
    (((w.alloc (.cells #[v0, v1, v2, v3, v4, v5] 25)).alloc (.cells tab 45)).alloc (.cells tab 45)).cell? ⟨w.heap.size, 4, none⟩ = some v4 ∧
    (((w.alloc (.cells #[v0, v1, v2, v3, v4, v5] 25)).alloc (.cells tab 45)).alloc (.cells tab 45)).cell? ⟨w.heap.size, 5, none⟩ = some v5 ∧
    (((w.alloc (.cells #[v0, v1, v2, v3, v4, v5] 25)).alloc (.cells tab 45)).alloc (.cells tab 45)).cell? ⟨w.heap.size + 1 + 1, k, none⟩ = some f := by
  have hB : Below (w.alloc (.cells #[v0, v1, v2, v3, v4, v5] 25)).heap.size (w.alloc (.cells #[v0, v1, v2, v3, v4, v5] 25)) (((w.alloc (.cells #[v0, v1, v2, v3, v4, v5] 25)).alloc (.cells tab 45)).alloc (.cells tab 45)) := ((Below.refl _ _).alloc (Nat.le_refl _) _).alloc (by simp) _
  have e : ((w.alloc (.cells #[v0, v1, v2, v3, v4, v5] 25)).alloc (.cells tab 45)).heap.size = w.heap.size + 1 + 1 := by simp
  refine ⟨?_, ?_, ?_, ?_, ?_, ?_, ?_⟩
  · rw [hB.cell (by simp), World.cell?_alloc_new]; rfl
  · rw [hB.cell (by simp), World.cell?_alloc_new]; rfl
  · rw [hB.cell (by simp), World.cell?_alloc_new]; rfl
  · rw [hB.cell (by simp), World.cell?_alloc_new]; rfl
  · rw [hB.cell (by simp), World.cell?_alloc_new]; rfl
  · rw [hB.cell (by simp), World.cell?_alloc_new]; rfl
  · rw [← e, World.cell?_alloc_new, ← h]
    exact Array.getElem?_eq_getElem hk
theorem kept7 {W W' : World} {b t k : Nat} {v0 v1 v2 v3 v4 v5 f : Value}
    (h : W.cell? ⟨b, 0, none⟩ = some v0 ∧ W.cell? ⟨b, 1, none⟩ = some v1 ∧ W.cell? ⟨b, 2, none⟩ = some v2 ∧ W.cell? ⟨b, 3, none⟩ = some v3 ∧ W.cell? ⟨b, 4, none⟩ = some v4 ∧ W.cell? ⟨b, 5, none⟩ = some v5 ∧ W.cell? ⟨t, k, none⟩ = some f) (hb : Below W.heap.size W W') :
    W'.cell? ⟨b, 0, none⟩ = some v0 ∧ W'.cell? ⟨b, 1, none⟩ = some v1 ∧ W'.cell? ⟨b, 2, none⟩ = some v2 ∧ W'.cell? ⟨b, 3, none⟩ = some v3 ∧ W'.cell? ⟨b, 4, none⟩ = some v4 ∧ W'.cell? ⟨b, 5, none⟩ = some v5 ∧ W'.cell? ⟨t, k, none⟩ = some f := by
  obtain ⟨h0, h1, h2, h3, h4, h5, h6⟩ := h
  exact ⟨(hb.cell (lt_of_cell h0)).trans h0, (hb.cell (lt_of_cell h1)).trans h1, (hb.cell (lt_of_cell h2)).trans h2, (hb.cell (lt_of_cell h3)).trans h3, (hb.cell (lt_of_cell h4)).trans h4, (hb.cell (lt_of_cell h5)).trans h5, (hb.cell (lt_of_cell h6)).trans h6⟩
def iApp (n : Nd) (W a b c v : Int) (w : World) : Prop :=
    Calls Try.prog 7 #[.agg #[.int .i64 n.op, .int .i64 n.w, .int .i64 n.k, .int .i64 n.a, .int .i64 n.b, .int .i64 n.c], .int .i64 W, .int .i64 a, .int .i64 b, .int .i64 c] w fun e w' => e = .returned (.int .i64 v) ∧ Below w.heap.size w w'

end Go.Proofs.Ytjhhmnelddidjaa.Pv3
