/- Small texts of mine, one behind the other. -/
import Derived.Laws.IdiomStrings
import Derived.Test.YtficonkpbohpeaaDoorPkT10
import Derived.Test.YtficonkpbohpeaaDoorAp9
/- The model's functions over tables: count, known, not. -/
namespace Go.Proofs.YtficonkpbohpeaaDoor.Td1
open Go.RowKit
open Ta0 Ta1 Tc2 Tc5 Ap9
open Nd0 (Kept set_other set_same lt_of_cell)
open Ss0 (bs bs_size ret_str)
open Ss1 (tl tl_length tl_get tl_take bs_tl tl_bs tl_inj eqb)
set_option linter.unusedVariables false

/-- What a right table's string has: its size and its signs. -/
structure Sg (S : ByteArray) (P : Nat) (F : Nat → Bool) : Prop where
  size : S.size = P
  at_ : ∀ k (h : k < S.size), (S[k].toNat : Int) = 48 + ((F k).toNat : Int)
theorem sg_tab (n : Nat) (F : Nat → Bool) : Sg (bs (tab n F)) (2 ^ n) F :=
  ⟨by rw [bs_size, tab_length], fun k h => by rw [bs_tab_get, sgn_toNat]; push_cast; rfl⟩

/-- What is known: 0, 1 or nothing. -/
def knw (n : Nat) (F : Nat → Bool) : Int := if cnt F (2 ^ n) = 0 then 0 else if cnt F (2 ^ n) = 2 ^ n then 1 else -1
theorem knw_same {n : Nat} {F : Nat → Bool} (h : ∀ j, j < 2 ^ n → F j = F 0) : knw n F = ((F 0).toNat : Int) := by
  unfold knw
  have hp := Nat.one_le_two_pow (n := n)
  cases h0 : F 0
  · rw [if_pos ((cnt_zero F _).2 fun j hj => by rw [h j hj, h0])]; rfl
  · have h1 := (cnt_all F (2 ^ n)).2 fun j hj => by rw [h j hj, h0]
    rw [if_neg (by omega), if_pos h1]; rfl
theorem knw_diff {n : Nat} {F : Nat → Bool} {k : Nat} (hk : k < 2 ^ n) (h : F k ≠ F 0) : knw n F = -1 := by
  unfold knw
  have hp := Nat.one_le_two_pow (n := n)
  rw [if_neg, if_neg]
  · intro e
    have := (cnt_all F _).1 e
    exact h (by rw [this k hk, this 0 (by omega)])
  · intro e
    have := (cnt_zero F _).1 e
    exact h (by rw [this k hk, this 0 (by omega)])

end Go.Proofs.YtficonkpbohpeaaDoor.Td1

/- The model's functions over tables: not, both, half. -/
namespace Go.Proofs.YtficonkpbohpeaaDoor.Td2
open Go.RowKit
open Ta0 Ta1 Tc2 Tc5 Ap9 Td1
open Nd0 (Kept set_other set_same lt_of_cell)
open Ss0 (bs bs_size ret_str bs_ext)
open Ss1 (tl tl_length tl_get tl_take bs_tl tl_bs tl_inj eqb)
set_option linter.unusedVariables false

theorem _root_.Go.Proofs.YtficonkpbohpeaaDoor.Ap9.Owu.text {W : World} {B : Nat} {v : Value} {l : List UInt8} (h : Owu W B v l) (hl : 1 ≤ l.length) : (convert 22 9 v).run Tryd.prog W = .ok (.string (bs l)) W := by
  obtain ⟨a, c, rfl, hw⟩ := h.form
  rcases hw.2 with h0 | ⟨b, o, rfl, _, hc⟩
  · omega
  · exact run_convert_bytes_back (P := Tryd.prog) W 22 9 5 ⟨b, o, none⟩ c l Tryd.underlying22 Tryd.underlying5 Tryd.underlying9 (fun j hj => by rw [Addr.add_lit]; exact (hc j hj).1)

/-- The first k signs. -/
def tk (n : Nat) (G : Nat → Bool) (k : Nat) : List UInt8 := (tab n G).take k
theorem tk_zero (n : Nat) (G : Nat → Bool) : tk n G 0 = [] := rfl
theorem tk_len {n : Nat} {G : Nat → Bool} {k : Nat} (h : k ≤ 2 ^ n) : (tk n G k).length = k := by unfold tk; rw [List.length_take, tab_length]; omega
theorem tk_succ {n : Nat} {G : Nat → Bool} {k : Nat} (h : k < 2 ^ n) : tk n G (k + 1) = tk n G k ++ [sgn (G k)] := by
  unfold tk
  rw [List.take_succ_eq_append_getElem (by rw [tab_length]; exact h), tab_get]
theorem tk_all (n : Nat) (G : Nat → Bool) : tk n G (2 ^ n) = tab n G := by unfold tk; rw [List.take_of_length_le (by rw [tab_length]; omega)]

/-- What stands while a table is written. -/
structure OT (w : World) (B r : Nat) (N : Int) (S : ByteArray) (v : Value) (l : List UInt8) (W : World) : Prop where
  lay : Lay W B (.int .i64 N) (.string S)
  res : Lay W r (.int .i64 0) (.string ByteArray.empty)
  own : Owu W (r + 1) v l
  siz : r + 1 ≤ W.heap.size
  bel : Below w.heap.size w W
theorem OT.next {w W W' : World} {B r : Nat} {N : Int} {S : ByteArray} {v v' : Value} {l l' : List UInt8} (h : OT w B r N S v l W) (hB : B < r + 1) (hw : w.heap.size ≤ r) (hk : Kept (fun k => v.ownBlock = some k) W W') (ho : Owu W' (r + 1) v' l') : OT w B r N S v' l' W' :=
  ⟨h.lay.kept hk (fun e => by have := (h.own.lt _ e).1; omega), h.res.kept hk (fun e => by have := (h.own.lt _ e).1; omega), ho, by have := hk.size; have := h.siz; omega, h.bel.trans (hk.below (fun b hb => by have := (h.own.lt _ hb).1; omega) h.bel.size)⟩

theorem finT {w W : World} {r : Nat} {a b : Value} (hr : Lay W r a b) (hb : Below w.heap.size w W) (hw : w.heap.size ≤ r) (x y : Value) :
    ∃ W', W' = (W.setCell ⟨r, 0, none⟩ x).setCell ⟨r, 1, none⟩ y ∧ Lay W' r x y ∧ Below w.heap.size w W' := by
  have K : Kept (fun b => b = r) W ((W.setCell ⟨r, 0, none⟩ x).setCell ⟨r, 1, none⟩ y) := kset (S := fun b => b = r) (kset (S := fun b => b = r) (Kept.refl (fun b => b = r) W) rfl _) rfl _
  exact ⟨_, rfl, hr.put x y, hb.trans (K.below (fun b hb => by omega) hb.size)⟩

end Go.Proofs.YtficonkpbohpeaaDoor.Td2
