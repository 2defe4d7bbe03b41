/- A machine as a text: plain. -/
import Derived.Lib.Join
import Derived.Test.YtmpbedfiamlbpaaGreatDoorZa1
import Derived.Test.YtmpbedfiamlbpaaGreatDoorPkS16
import Derived.Test.YtmpbedfiamlbpaaGreatDoorMm2
import Derived.Test.YtmpbedfiamlbpaaGreatDoorPkS23
namespace Go.Proofs.YtmpbedfiamlbpaaGreatDoor.Zs0
open Go.RowKit
open Tx0 Ta1 Za0
open Mm0 (Mc Mok)
open Mm2 (mokB)
open Qc0 (Sn)
open Wp1 (vt vt_len)
open Ss0 (bs bs_size)
open Ss1 (tl tl_length)
open Tk0 (keyL itoa_dec)
set_option linter.unusedVariables false

/-- The words of the lines. -/
def wd : Nat → List UInt8
  | 0 => [114, 111, 119]
  | 1 => [116, 97, 98, 108, 101]
  | 2 => [114, 111, 111, 109]
  | 3 => [118, 97, 108, 115]
  | 4 => [114, 101, 116]
  | 5 => [111, 118, 101, 114]
  | 6 => [99, 111, 117, 110, 116, 115]
  | _ => [115, 101, 101, 110]
def bI (b : Bool) : Int := if b = true then 1 else 0
/-- What stands behind the word of line i. -/
def bod (m : Mc) : Nat → List UInt8
  | 0 => rowT m.row
  | 1 => keyL m.N.toNat (tl m.S)
  | 2 => Lib.itoa m.room
  | 3 => vt m.vals
  | 4 => Lib.itoa m.ret
  | 5 => Lib.itoa (bI m.over)
  | 6 => Lib.itoa m.steps ++ (32 :: (Lib.itoa m.looks ++ (32 :: Lib.itoa m.hits)))
  | k + 7 => match m.memo[k]? with
    | some x => tl x.k ++ (32 :: Lib.itoa x.r)
    | none => []
def lin (m : Mc) (i : Nat) : List UInt8 := wd i ++ (32 :: (bod m i ++ [10]))
def linTo (m : Mc) (k : Nat) : List (List UInt8) := (List.range k).map (lin m)
def savT (m : Mc) : List UInt8 := (linTo m (7 + m.memo.length)).flatten
theorem linTo_length (m : Mc) (k : Nat) : (linTo m k).length = k := by unfold linTo; simp
theorem linTo_next (m : Mc) (k : Nat) : linTo m (k + 1) = linTo m k ++ [lin m k] := by unfold linTo; rw [List.range_succ, List.map_append]; rfl
/-- Whether a key can be written. -/
def plB (s : List UInt8) : Bool := decide (s ≠ [] ∧ ∀ c ∈ s, isDig c = true ∨ c = 58)
def keysB (m : Mc) : Bool := m.memo.all fun x => plB (tl x.k)
/-- Whether a machine has a text. -/
noncomputable def svB (m : Mc) : Bool := mokB m && (keysB m && decide ((savT m).length ≤ 400000))
noncomputable def svS (m : Mc) : ByteArray := if svB m = true then bs (savT m) else ⟨#[]⟩
theorem wd_len (i : Nat) : (wd i).length ≤ 6 := by
  unfold wd
  split <;> decide
theorem itoa_neg : Lib.itoa (-1) = [45, 49] := by decide +kernel
theorem itoa_len {n : Int} (h0 : -1 ≤ n) (h1 : n ≤ 1000000000) : (Lib.itoa n).length ≤ 10 := by
  by_cases h : n = -1
  · subst h; rw [itoa_neg]; decide
  · obtain ⟨k, rfl⟩ := Int.eq_ofNat_of_zero_le (by omega : 0 ≤ n)
    rw [itoa_dec]
    exact (Zk0.dec_len' (k := 10) (by omega) (by omega)).2
theorem bI_two (b : Bool) : bI b = 0 ∨ bI b = 1 := by cases b; exact .inl rfl; exact .inr rfl
theorem bod_len {m : Mc} (h : Mok m) (hk : ∀ x ∈ m.memo, x.k.size ≤ 1048576) (i : Nat) : (bod m i).length ≤ 1048600 := by
  obtain ⟨n, F, hn, hN, hS⟩ := tok_tab h.tab
  have hrow := h.row
  have hv := h.vals
  match i with
  | 0 => show (rowT m.row).length ≤ _; have := rowT_le m.row; omega
  | 1 =>
    show (keyL m.N.toNat (tl m.S)).length ≤ _
    rw [hN, hS, Int.toNat_natCast]
    unfold keyL
    rw [List.length_append, List.length_cons, tab_length]
    have := Zk0.dec_two hn
    have := (p12 hn).2
    omega
  | 2 => show (Lib.itoa m.room).length ≤ _; have := itoa_len (n := m.room) (by have := h.room; omega) (by have := h.room; omega); omega
  | 3 => show (vt m.vals).length ≤ _; have := vt_len m.vals; omega
  | 4 => show (Lib.itoa m.ret).length ≤ _; have := itoa_len (n := m.ret) h.ret.1 (by have := h.ret; omega); omega
  | 5 => show (Lib.itoa (bI m.over)).length ≤ _; have := itoa_len (n := bI m.over) (by rcases bI_two m.over with e | e <;> omega) (by rcases bI_two m.over with e | e <;> omega); omega
  | 6 =>
    show (Lib.itoa m.steps ++ (32 :: (Lib.itoa m.looks ++ (32 :: Lib.itoa m.hits)))).length ≤ _
    rw [List.length_append, List.length_cons, List.length_append, List.length_cons]
    have := itoa_len (n := m.steps) (by have := h.steps; omega) h.steps.2
    have := itoa_len (n := m.looks) (by have := h.looks; omega) h.looks.2
    have := itoa_len (n := m.hits) (by have := h.hits; omega) h.hits.2
    omega
  | k + 7 =>
    show (match m.memo[k]? with
      | some x => tl x.k ++ (32 :: Lib.itoa x.r)
      | none => []).length ≤ _
    cases hx : m.memo[k]? with
    | none => simp
    | some x =>
      have hm := List.mem_of_getElem? hx
      show (tl x.k ++ (32 :: Lib.itoa x.r)).length ≤ _
      rw [List.length_append, List.length_cons, tl_length]
      have := hk x hm
      have := itoa_len (n := x.r) (by have := h.seen x hm; omega) (by have := h.seen x hm; omega)
      omega
theorem lin_len {m : Mc} (h : Mok m) (hk : ∀ x ∈ m.memo, x.k.size ≤ 1048576) (i : Nat) : (lin m i).length ≤ 1048700 := by
  unfold lin
  rw [List.length_append, List.length_cons, List.length_append]
  have := wd_len i
  have := bod_len h hk i
  simp
  omega
theorem linTo_flat {m : Mc} (h : Mok m) (hk : ∀ x ∈ m.memo, x.k.size ≤ 1048576) (k : Nat) : (linTo m k).flatten.length ≤ k * 1048700 := by
  induction k with
  | zero => simp [linTo]
  | succ k ih =>
    rw [linTo_next, List.flatten_append, List.length_append]
    have := lin_len h hk k
    rw [List.flatten_cons, List.flatten_nil, List.append_nil]
    omega
theorem join_none (L : List (List UInt8)) : Lib.join L [] = L.flatten := by
  cases L with
  | nil => rfl
  | cons x r =>
    rw [Lib.join_cons]
    unfold Lib.joinTail
    rw [show (fun y : List UInt8 => ([] : List UInt8) ++ y) = id from rfl, List.map_id]
    rfl
end Go.Proofs.YtmpbedfiamlbpaaGreatDoor.Zs0
