/- Small texts of mine, one behind the other. -/
import Derived.Test.YtmhambifbimndaaRows
import Derived.Deep.AppendLies
import Derived.OwnWalk
import Derived.Laws.IdiomStrings
import Derived.Test.YtmhambifbimndaaNd0
import Derived.Test.YtmhambifbimndaaPkJ25
/- Lists of bytes that are appended to and written: the law at the walk, and how they are read. -/
namespace Go.Proofs.Ytmhambifbimndaa.Ap9
open Go.RowKit
open Nd0
set_option linter.unusedVariables false

/-- A slice of the bytes l, in a block from B on, that may be written. -/
def WBys (w : World) (B : Nat) (a : Option Addr) (l : List UInt8) : Prop :=
  l.length ≤ maxLen ∧ (l.length = 0 ∨ ∃ b o, a = some ⟨b, o, none⟩ ∧ B ≤ b ∧ ∀ i (h : i < l.length), w.cell? ⟨b, o + i, none⟩ = some (.int .u8 (l[i].toNat : Int)) ∧ w.frozen? ⟨b, o + i, none⟩ = false)

theorem infoByte : (Try.prog.info? 5).map (fun i => (i.zero, i.size, i.bytes)) = some (some (.int .u8 0), 1, 1) := by kernel_rfl

/-- The slice v, in a block from B on, is the bytes l and may be appended to. -/
def Owu (w : World) (B : Nat) (v : Value) (l : List UInt8) : Prop := w.ownsRow B 5 1 v l.length (l.map fun x => .int .u8 (x.toNat : Int))

theorem Owu.form {w : World} {B : Nat} {v : Value} {l : List UInt8} (h : Owu w B v l) : ∃ a c, v = .slice a l.length c ∧ WBys w B a l := by
  obtain ⟨h1, h2⟩ := h
  rcases h2 with ⟨rfl, h0⟩ | ⟨g, cap, cur, rfl, hb, hg, hn, hm, hs, ht⟩
  · have : l = [] := List.eq_nil_of_length_eq_zero h0
    subst this
    exact ⟨none, 0, rfl, Nat.zero_le _, .inl rfl⟩
  · refine ⟨_, _, rfl, by omega, .inr ⟨g, 0, rfl, hb, fun i hi => ⟨?_, ?_⟩⟩⟩
    · rw [Nat.zero_add, cell_of_row w g i cur _ _ hg]
      have e : (cur.toList.take (l.length * 1))[i]? = some (.int .u8 (l[i].toNat : Int)) := by rw [ht]; simp [hi]
      rw [List.getElem?_take_of_lt (by omega)] at e
      simpa using e
    · rw [Nat.zero_add]
      simp [World.frozen?, hg]
theorem Owu.lit (w : World) (B : Nat) (hB : B ≤ w.heap.size) : Owu (w.alloc (.cells #[] 5)) B (.slice (some ⟨w.heap.size, 0, none⟩) 0 0) [] :=
  World.ownsRow_lit w #[] 0 hB (Nat.zero_le _) rfl
theorem Owu.lt {w : World} {B : Nat} {v : Value} {l : List UInt8} (h : Owu w B v l) : ∀ k, v.ownBlock = some k → B ≤ k ∧ k < w.heap.size := World.ownsRow.lt h
theorem Owu.kept {w w' : World} {B : Nat} {v : Value} {l : List UInt8} (h : Owu w B v l) {S : Nat → Prop} (k : Kept S w w') (hs : ∀ i, v.ownBlock = some i → ¬ S i) : Owu w' B v l := by
  refine ⟨h.1, ?_⟩
  rcases h.2 with hn | ⟨g, cap, cur, rfl, hb, hgg, rest⟩
  · exact .inl hn
  · refine .inr ⟨g, cap, cur, rfl, hb, ?_, rest⟩
    rw [k.block g (Array.getElem?_eq_some_iff.1 hgg).1 (hs g rfl)]
    exact hgg

/-- A byte written over. -/
theorem Owu.set {w : World} {B g cap : Nat} {l : List UInt8} (h : Owu w B (.slice (some ⟨g, 0, none⟩) l.length cap) l) (j : Nat) (x : UInt8) : Owu (w.setCell ⟨g, j, none⟩ (.int .u8 (x.toNat : Int))) B (.slice (some ⟨g, 0, none⟩) l.length cap) (l.set j x) := by
  have h1 := (World.ownsRow.stored h j (.int .u8 (x.toNat : Int))).1
  unfold Owu
  rw [List.map_set, List.length_set]
  exact h1
theorem Owu.cell {w : World} {B g cap : Nat} {l : List UInt8} (h : Owu w B (.slice (some ⟨g, 0, none⟩) l.length cap) l) (j : Nat) (hj : j < l.length) : w.cell? ⟨g, j, none⟩ = some (.int .u8 (l[j].toNat : Int)) ∧ w.frozen? ⟨g, j, none⟩ = false := by
  obtain ⟨a, c, hv, hw⟩ := h.form
  cases hv
  rcases hw.2 with h0 | ⟨b, o, hb, _, hc⟩
  · omega
  · cases hb
    have := hc j hj
    rw [Nat.zero_add] at this
    exact this

theorem Owu.set' {w : World} {B g cap n : Nat} {l : List UInt8} (h : Owu w B (.slice (some ⟨g, 0, none⟩) n cap) l) (hn : l.length = n) (j : Nat) (x : UInt8) : Owu (w.setCell ⟨g, j, none⟩ (.int .u8 (x.toNat : Int))) B (.slice (some ⟨g, 0, none⟩) n cap) (l.set j x) := by
  subst hn; exact h.set j x
theorem Owu.cell' {w : World} {B g cap n : Nat} {l : List UInt8} (h : Owu w B (.slice (some ⟨g, 0, none⟩) n cap) l) (hn : l.length = n) (j : Nat) (hj : j < n) : w.cell? ⟨g, j, none⟩ = some (.int .u8 ((l[j]'(by omega)).toNat : Int)) ∧ w.frozen? ⟨g, j, none⟩ = false := by
  subst hn; exact h.cell j hj
theorem Owu.at {w : World} {B : Nat} {v : Value} {l : List UInt8} (h : Owu w B v l) (hl : 1 ≤ l.length) : ∃ g c, v = .slice (some ⟨g, 0, none⟩) l.length c ∧ B ≤ g ∧ g < w.heap.size := by
  rcases h.2 with ⟨rfl, h0⟩ | ⟨g, cap, cur, rfl, hb, hg, _⟩
  · omega
  · exact ⟨g, cap, rfl, hb, (Array.getElem?_eq_some_iff.1 hg).1⟩

end Go.Proofs.Ytmhambifbimndaa.Ap9

/- The model's functions over tables: count, known, not. -/
namespace Go.Proofs.Ytmhambifbimndaa.Td1
open Go.RowKit
open Ta0 Ta1 Tc2 Tc5 Ap9
open Nd0 (Kept set_other set_same lt_of_cell)
open Ss0 (bs bs_size ret_str)
open Ss1 (tl tl_length tl_get tl_take bs_tl tl_bs tl_inj eqb)
set_option linter.unusedVariables false

theorem sOk1 (n : Nat) (F : Nat → Bool) (w : World) (hn : n ≤ 12) :
    Calls Try.prog 42 #[tv (n : Int) (bs (tab n F))] w fun e w' => e = .returned (.bool true) ∧ Below w.heap.size w w' := by
  have := sTableOk (n : Int) (bs (tab n F)) w (by rw [bs_size, tab_length]; have := p12 hn; omega)
  rwa [tl_bs, tab_tok F hn] at this
theorem sOk0 {N : Int} {S : ByteArray} (w : World) (hS : S.size ≤ 1048576) (h : tokB N (tl S) = false) :
    Calls Try.prog 42 #[tv N S] w fun e w' => e = .returned (.bool false) ∧ Below w.heap.size w w' := by
  have := sTableOk N S w hS
  rwa [h] at this

/-- What a right table's string has: its size and its signs. -/
structure Sg (S : ByteArray) (P : Nat) (F : Nat → Bool) : Prop where
  size : S.size = P
  at_ : ∀ k (h : k < S.size), (S[k].toNat : Int) = 48 + ((F k).toNat : Int)
theorem sg_tab (n : Nat) (F : Nat → Bool) : Sg (bs (tab n F)) (2 ^ n) F :=
  ⟨by rw [bs_size, tab_length], fun k h => by rw [bs_tab_get, sgn_toNat]; push_cast; rfl⟩

/-- What is known: 0, 1 or nothing. -/
def knw (n : Nat) (F : Nat → Bool) : Int := if cnt F (2 ^ n) = 0 then 0 else if cnt F (2 ^ n) = 2 ^ n then 1 else -1
theorem knw_same {n : Nat} {F : Nat → Bool} (h : ∀ j, j < 2 ^ n → F j = F 0) : knw n F = ((F 0).toNat : Int) := by
  unfold knw
  have hp := Nat.one_le_two_pow (n := n)
  cases h0 : F 0
  · rw [if_pos ((cnt_zero F _).2 fun j hj => by rw [h j hj, h0])]; rfl
  · have h1 := (cnt_all F (2 ^ n)).2 fun j hj => by rw [h j hj, h0]
    rw [if_neg (by omega), if_pos h1]; rfl
theorem knw_diff {n : Nat} {F : Nat → Bool} {k : Nat} (hk : k < 2 ^ n) (h : F k ≠ F 0) : knw n F = -1 := by
  unfold knw
  have hp := Nat.one_le_two_pow (n := n)
  rw [if_neg, if_neg]
  · intro e
    have := (cnt_all F _).1 e
    exact h (by rw [this k hk, this 0 (by omega)])
  · intro e
    have := (cnt_zero F _).1 e
    exact h (by rw [this k hk, this 0 (by omega)])

end Go.Proofs.Ytmhambifbimndaa.Td1
