/- What the law FnMerge needs. -/
import Derived.Test.YteplffphkakliaaPkMc
import Derived.Test.YteplffphkakliaaPkKa
import Derived.Test.YteplffphkakliaaPkKb
import Derived.Test.YteplffphkakliaaLw4
import Derived.Test.YteplffphkakliaaPkKf
namespace Go.Proofs.Yteplffphkakliaa.Lk0
open Go.RowKit
open Ta0 Ta1 Ta2 Ta3 Tc2 Tc5 De0 De1
open Nd0 (Kept set_other set_same lt_of_cell Ints WInts)
open Nd6 (Bools)
open Dp4 (iDecide)
open Dp8 (iMerge)
open Ss0 (bs bs_size)
set_option linter.unusedVariables false

theorem merge_ok {row : List Bool} {n k : Nat} (F : Nat → Bool) (hrn : row.length = n) (hk : k < row.length) (h : k = n - 1 ∨ ndB n F k = false) : dc (row.take k ++ row.drop (k + 1)) (mg (n - 1 - k) row[k] F) = dc row F := by
  have e : row = row.take k ++ row[k] :: row.drop (k + 1) := by rw [← List.drop_eq_getElem_cons hk, List.take_append_drop]
  have hl : (row.drop (k + 1)).length = n - 1 - k := by rw [List.length_drop, hrn]; omega
  have hl1 : (row.take k).length = k := by rw [List.length_take]; omega
  rcases h with h | h
  · have e2 : row.drop (k + 1) = [] := List.drop_eq_nil_of_le (by omega)
    have h0 : n - 1 - k = 0 := by omega
    rw [e2, h0, List.append_nil]
    conv => rhs; rw [e, e2]
    exact (dc_last _ _ F).symm
  · conv => rhs; rw [e]
    rw [dc_idle, hl]
    intro p hp
    rw [hl]
    rw [hl, hl1] at hp
    exact idle_put (by omega) h (by rw [show k + (n - 1 - k) = n - 1 by omega] at hp; exact hp)
/-- The bits that a table doesn't need, as numbers from 0 on. -/
def idN (n : Nat) (F : Nat → Bool) : List Nat := (List.range n).filter fun b => !ndB n F b
theorem idN_int (n : Nat) (F : Nat → Bool) : idTo n F n = (idN n F).map fun (b : Nat) => (b : Int) := rfl
theorem idN_mem {n k : Nat} {F : Nat → Bool} (h : k ∈ idN n F) : k < n ∧ ndB n F k = false := by
  have := List.mem_filter.1 h
  exact ⟨List.mem_range.1 this.1, by simpa using this.2⟩
theorem idN_len (n : Nat) (F : Nat → Bool) : (idN n F).length ≤ n := by
  have h := id_nd n n F
  rw [idN_int, List.length_map] at h
  omega

theorem sl_h (b o n c k : Nat) (h : k ≤ c) (w : World) :
    (Instr.slice 24 (.slice (some ⟨b, o, none⟩) n c) none (some (.int .i64 (k : Int))) none).run Try.prog w = .ok (.slice (some ⟨b, o, none⟩) k c) w := by
  rw [run_slice_h w 24 _ _ _ Try.underlying24 .i64 (k : Int) (by omega) (by omega)]
  by_cases e : c = 0
  · simp [go_sem, e, sliced]
  · simp [go_sem, e, sliced]
theorem sl_l (b o n c k : Nat) (h : k + 1 ≤ n) (w : World) :
    (Instr.slice 24 (.slice (some ⟨b, o, none⟩) n c) (some (.int .i64 ((k : Int) + 1))) none none).run Try.prog w = .ok (.slice (some ⟨b, if c = k + 1 then o else o + (k + 1), none⟩) (n - (k + 1)) (c - (k + 1))) w := by
  rw [run_slice_l w 24 _ _ _ Try.underlying24 .i64 ((k : Int) + 1) (by omega) (by omega)]
  have e0 : ((k : Int) + 1).toNat = k + 1 := by omega
  rw [e0]
  by_cases e : c = k + 1
  · simp [go_sem, e, sliced]
  · simp [go_sem, e, sliced]

/-- What is told of a bit that is taken out. -/
structure Mg (w1 : World) (n n1 c xb xo tb tc k : Nat) (A Bl C : List Bool) (S U : ByteArray) (d : Bool) : Prop where
  mg : ∀ W : World, Below w1.heap.size w1 W → Calls Try.prog 16 #[.slice (some ⟨xb, xo, none⟩) n c, tv (n : Int) S, .int .i64 (k : Int)] W fun e w' => e = .returned (.tuple #[tv (n1 : Int) U, .bool true]) ∧ Below W.heap.size W w'
  sa : ∀ W : World, (Instr.slice 24 (.slice (some ⟨xb, xo, none⟩) n c) none (some (.int .i64 (k : Int))) none).run Try.prog W = .ok (.slice (some ⟨xb, xo, none⟩) A.length c) W
  sb : ∀ W : World, (Instr.slice 24 (.slice (some ⟨xb, xo, none⟩) n c) (some (.int .i64 ((k : Int) + 1))) none none).run Try.prog W = .ok (.slice (some ⟨xb, tb, none⟩) Bl.length tc) W
  ca : ∀ W : World, Below w1.heap.size w1 W → ∀ j (h : j < A.length), W.cell? ⟨xb, xo + j, none⟩ = some (.bool A[j])
  cb : ∀ W : World, Below w1.heap.size w1 W → ∀ j (h : j < Bl.length), W.cell? ⟨xb, tb + j, none⟩ = some (.bool Bl[j])
  ab : A ++ Bl = C
  la : A.length ≤ 6
  lc : C.length ≤ 6
  dec : ∀ (W : World) (g cp : Nat), Bools W (some ⟨g, 0, none⟩) C → Calls Try.prog 13 #[.slice (some ⟨g, 0, none⟩) C.length cp, tv (n1 : Int) U] W fun e w' => e = .returned (.tuple #[.int .i64 (d.toNat : Int), .bool true]) ∧ Below W.heap.size W w'

theorem merge_facts (w1 : World) (n c : Nat) (F : Nat → Bool) (ra : Option Addr) (row : List Bool) (hn : n ≤ 6) (h1 : 1 ≤ n) (hrn : row.length = n) (hnc : n ≤ c) (hB : Bools w1 ra row) :
    ∃ xb xo, ra = some ⟨xb, xo, none⟩ ∧ ∀ k : Nat, k < n → (k = n - 1 ∨ ndB n F k = false) → ∃ tb tc A Bl C U, Mg w1 n (n - 1) c xb xo tb tc k A Bl C (bs (tab n F)) U (dc row F) := by
  rcases hB.2 with h0 | ⟨xb, xo, rfl, hc⟩
  · omega
  refine ⟨xb, xo, rfl, fun k hk hkk => ?_⟩
  have hkr : k < row.length := by omega
  refine ⟨if c = k + 1 then xo else xo + (k + 1), c - (k + 1), row.take k, row.drop (k + 1), row.take k ++ row.drop (k + 1), bs (tab (n - 1) (mg (n - 1 - k) row[k] F)), ⟨fun W h => ?_, fun W => ?_, fun W => ?_, fun W h j hj => ?_, fun W h j hj => ?_, rfl, ?_, ?_, fun W g cp hW => ?_⟩⟩
  · have := iMerge (n - 1) F (some ⟨xb, xo, none⟩) row c k W (by omega) (by omega) hkr (hB.below h)
    rw [show n - 1 + 1 = n by omega, show ((n - 1 : Nat) : Int) + 1 = (n : Int) by omega] at this
    exact this
  · rw [List.length_take, show min k row.length = k by omega]
    exact sl_h xb xo n c k (by omega) W
  · rw [List.length_drop, hrn]
    exact sl_l xb xo n c k (by omega) W
  · rw [List.length_take] at hj
    have h2 := hc j (by omega)
    rw [h.cell (lt_of_cell h2), h2]
    simp
  · rw [List.length_drop] at hj
    rw [if_neg (by omega)]
    have h2 := hc (k + 1 + j) (by omega)
    have e : xo + (k + 1) + j = xo + (k + 1 + j) := by omega
    rw [e, h.cell (lt_of_cell h2), h2]
    simp
  · rw [List.length_take]; omega
  · rw [List.length_append, List.length_take, List.length_drop]; omega
  · have hcl : (row.take k ++ row.drop (k + 1)).length = n - 1 := by rw [List.length_append, List.length_take, List.length_drop]; omega
    have := iDecide (n - 1) (mg (n - 1 - k) row[k] F) (some ⟨g, 0, none⟩) _ cp W (by omega) hcl hW
    rw [merge_ok F hrn hkr hkk] at this
    rw [hcl]
    exact this

end Go.Proofs.Yteplffphkakliaa.Lk0
