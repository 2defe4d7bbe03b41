/- Small texts of mine, one behind the other. -/
import Derived.WalkKit
import Derived.Laws.Bits64
import Derived.Laws.Bits64b
import Derived.Deep.QuietTactic
import Derived.BigQuiet
import Derived.Test.YtmjmnfegaoegjaaGreatDoorRows
import Derived.WalkSpells
import Derived.WalkLawsBesides
/- Bits in words of 64, and how many are set: plain facts. -/
namespace Go.Proofs.YtmjmnfegaoegjaaGreatDoor.Ta0
set_option linter.unusedVariables false

def wdN (F : Nat → Bool) : Nat → Nat
  | 0 => 0
  | k + 1 => wdN F k + (if F k then 2 ^ k else 0)
def cnt (F : Nat → Bool) : Nat → Nat
  | 0 => 0
  | k + 1 => cnt F k + (F k).toNat
theorem cnt_le (F : Nat → Bool) (k : Nat) : cnt F k ≤ k := by
  induction k with
  | zero => exact Nat.le_refl _
  | succ k ih => unfold cnt; cases F k <;> simp <;> omega
theorem cnt_congr {F G : Nat → Bool} (k : Nat) (h : ∀ j, j < k → F j = G j) : cnt F k = cnt G k := by
  induction k with
  | zero => rfl
  | succ k ih => unfold cnt; rw [ih fun j hj => h j (by omega), h k (by omega)]
theorem cnt_none (F : Nat → Bool) (k : Nat) (h : ∀ j, j < k → F j = false) : cnt F k = 0 := by
  induction k with
  | zero => rfl
  | succ k ih => unfold cnt; rw [ih fun j hj => h j (by omega), h k (by omega)]; rfl
theorem cnt_zero (F : Nat → Bool) (k : Nat) : cnt F k = 0 ↔ ∀ j, j < k → F j = false := by
  refine ⟨?_, cnt_none F k⟩
  induction k with
  | zero => intro _ j hj; omega
  | succ k ih =>
    intro h j hj
    unfold cnt at h
    by_cases e : j = k
    · subst e; cases hF : F j
      · rfl
      · rw [hF] at h; simp at h
    · exact ih (by omega) j (by omega)
theorem cnt_all (F : Nat → Bool) (k : Nat) : cnt F k = k ↔ ∀ j, j < k → F j = true := by
  induction k with
  | zero => exact ⟨fun _ j hj => by omega, fun _ => rfl⟩
  | succ k ih =>
    have hl := cnt_le F k
    unfold cnt
    constructor
    · intro h j hj
      have hk : F k = true := by
        cases hF : F k
        · rw [hF] at h; simp at h; omega
        · rfl
      by_cases e : j = k
      · subst e; exact hk
      · rw [hk] at h; simp at h; exact ih.1 (by omega) j (by omega)
    · intro h
      rw [h k (by omega), ih.2 fun j hj => h j (by omega)]; rfl
end Go.Proofs.YtmjmnfegaoegjaaGreatDoor.Ta0

/- Right tables as plain data: signs 48 and 49 at their places; words of 64 bits as Go reckons them. -/
namespace Go.Proofs.YtmjmnfegaoegjaaGreatDoor.Ta1
open Go.RowKit
open Ta0
set_option linter.unusedVariables false

def sgn (b : Bool) : UInt8 := if b then 49 else 48
theorem sgn_toNat (b : Bool) : (sgn b).toNat = 48 + b.toNat := by cases b <;> rfl
def tab (n : Nat) (F : Nat → Bool) : List UInt8 := (List.range (2 ^ n)).map fun i => sgn (F i)
theorem tab_length (n : Nat) (F : Nat → Bool) : (tab n F).length = 2 ^ n := by simp [tab]
theorem tab_get (n : Nat) (F : Nat → Bool) (i : Nat) (h : i < (tab n F).length) : (tab n F)[i] = sgn (F i) := by simp [tab]
theorem tab_ext {n : Nat} {F G : Nat → Bool} (h : ∀ i, i < 2 ^ n → F i = G i) : tab n F = tab n G := by
  unfold tab
  refine List.map_congr_left fun i hi => ?_
  rw [h i (List.mem_range.1 hi)]
theorem list_tab {n : Nat} {F : Nat → Bool} {l : List UInt8} (hl : l.length = 2 ^ n) (h : ∀ i (hi : i < l.length), l[i] = sgn (F i)) : l = tab n F :=
  List.ext_getElem (by rw [tab_length, hl]) fun i h1 h2 => by rw [h i h1, tab_get]
def tokB (N : Int) (l : List UInt8) : Bool := decide (0 ≤ N ∧ N ≤ 12 ∧ l.length = 2 ^ N.toNat ∧ ∀ c ∈ l, c = 48 ∨ c = 49)
theorem tok_tab {N : Int} {l : List UInt8} (h : tokB N l = true) : ∃ (n : Nat) (F : Nat → Bool), n ≤ 12 ∧ N = (n : Int) ∧ l = tab n F := by
  obtain ⟨h0, h1, h2, h3⟩ := of_decide_eq_true h
  refine ⟨N.toNat, fun i => l.getD i 48 == 49, by omega, by omega, list_tab h2 fun i hi => ?_⟩
  have e : l.getD i 48 = l[i] := by simp [List.getD, hi]
  show _ = sgn (l.getD i 48 == 49)
  rw [e]
  rcases h3 l[i] (List.getElem_mem hi) with h | h <;> rw [h] <;> rfl
theorem tab_tok {n : Nat} (F : Nat → Bool) (hn : n ≤ 12) : tokB (n : Int) (tab n F) = true := by
  refine decide_eq_true ⟨by omega, by omega, by rw [tab_length, Int.toNat_natCast], fun c hc => ?_⟩
  obtain ⟨i, _, rfl⟩ := List.mem_map.1 hc
  cases F i
  · exact .inl rfl
  · exact .inr rfl
theorem tok_no {N : Int} {l : List UInt8} (h : ¬ (0 ≤ N ∧ N ≤ 12)) : tokB N l = false := decide_eq_false fun k => h ⟨k.1, k.2.1⟩
theorem tok_len {N : Int} {l : List UInt8} (h : l.length ≠ 2 ^ N.toNat) : tokB N l = false := decide_eq_false fun k => h k.2.2.1
theorem tok_sign {N : Int} {l : List UInt8} {c : UInt8} (hc : c ∈ l) (h : c ≠ 48 ∧ c ≠ 49) : tokB N l = false := decide_eq_false fun k => by
  rcases k.2.2.2 c hc with e | e
  · exact h.1 e
  · exact h.2 e
theorem p12 {n : Nat} (h : n ≤ 12) : 1 ≤ 2 ^ n ∧ 2 ^ n ≤ 4096 := ⟨Nat.one_le_two_pow, Nat.pow_le_pow_right (by omega) h⟩
theorem pcast (n : Nat) : (2 : Int) ^ n = ((2 ^ n : Nat) : Int) := by push_cast; rfl

end Go.Proofs.YtmjmnfegaoegjaaGreatDoor.Ta1

/- Nodes as plain data, and what it is that a slice of nodes, of whole numbers or of flags can be read. -/
namespace Go.Proofs.YtmjmnfegaoegjaaGreatDoor.Nd0
open Go.RowKit

def Ints (w : World) (a : Option Addr) (l : List Int) : Prop :=
  l.length ≤ maxLen ∧ (l.length = 0 ∨ ∃ b o, a = some ⟨b, o, none⟩ ∧ ∀ i (h : i < l.length), w.cell? ⟨b, o + i, none⟩ = some (.int .i64 l[i]))

theorem lt_of_cell {w : World} {p : Addr} {v : Value} (h : w.cell? p = some v) : p.block < w.heap.size := World.block_lt_of_cell? _ _ h
theorem Ints.below {w w' : World} {a : Option Addr} {l : List Int} (h : Ints w a l) (k : Below w.heap.size w w') : Ints w' a l := by
  refine ⟨h.1, ?_⟩
  rcases h.2 with h0 | ⟨b, o, rfl, hc⟩
  · exact .inl h0
  · exact .inr ⟨b, o, rfl, fun i hi => by rw [k.cell (lt_of_cell (hc i hi))]; exact hc i hi⟩

structure Kept (S : Nat → Prop) (w w' : World) : Prop where
  os : w'.os = w.os
  tape : w'.tape = w.tape
  output : w'.output = w.output
  size : w.heap.size ≤ w'.heap.size
  block : ∀ k, k < w.heap.size → ¬ S k → w'.heap[k]? = w.heap[k]?

theorem Kept.refl (S : Nat → Prop) (w : World) : Kept S w w := ⟨rfl, rfl, rfl, Nat.le_refl _, fun _ _ _ => rfl⟩
theorem Kept.trans {S : Nat → Prop} {u v w : World} (h : Kept S u v) (k : Kept S v w) : Kept S u w :=
  ⟨k.os.trans h.os, k.tape.trans h.tape, k.output.trans h.output, Nat.le_trans h.size k.size, fun i hi hb => (k.block i (Nat.lt_of_lt_of_le hi h.size) hb).trans (h.block i hi hb)⟩
theorem Kept.mono {S T : Nat → Prop} {w w' : World} (h : Kept S w w') (k : ∀ i, S i → T i) : Kept T w w' :=
  ⟨h.os, h.tape, h.output, h.size, fun i hi hb => h.block i hi fun x => hb (k i x)⟩
theorem Kept.drew {S : Nat → Prop} {u w : World} (h : Kept S u w) : Kept S u w.drew := ⟨h.os, h.tape, h.output, h.size, h.block⟩
theorem Kept.drewN {S : Nat → Prop} {u w : World} (h : Kept S u w) (n : Nat) : Kept S u (w.drewN n) := ⟨h.os, h.tape, h.output, h.size, h.block⟩
theorem Kept.alloc {S : Nat → Prop} {u w : World} (h : Kept S u w) (o : Obj) : Kept S u (w.alloc o) :=
  h.trans ⟨rfl, rfl, rfl, by simp, fun k hk _ => Below.heap_alloc _ _ _ hk⟩
theorem Kept.setCell {S : Nat → Prop} {u w : World} (h : Kept S u w) {p : Addr} (hp : S p.block) (x : Value) : Kept S u (w.setCell p x) :=
  h.trans ⟨rfl, rfl, rfl, by simp [World.setCell], fun k _ hk => Below.heap_setCell _ _ _ _ (fun e => hk (e ▸ hp))⟩
theorem Kept.cell {S : Nat → Prop} {w w' : World} (h : Kept S w w') {p : Addr} (hp : p.block < w.heap.size) (hb : ¬ S p.block) : w'.cell? p = w.cell? p :=
  World.cell?_of_block (w := w) (h.block p.block hp hb)
theorem Kept.frozen {S : Nat → Prop} {w w' : World} (h : Kept S w w') {p : Addr} (hp : p.block < w.heap.size) (hb : ¬ S p.block) : w'.frozen? p = w.frozen? p :=
  World.frozen?_of_block (w := w) (h.block p.block hp hb)
theorem Kept.below {S : Nat → Prop} {B : Nat} {w w' : World} (h : Kept S w w') (hB : ∀ k, S k → B ≤ k) (hs : B ≤ w.heap.size) : Below B w w' :=
  ⟨h.os, h.tape, h.output, h.size, fun k hk => h.block k (by omega) (fun x => by have := hB k x; omega)⟩
theorem Kept.ofBelow {S : Nat → Prop} {w w' : World} (h : Below w.heap.size w w') : Kept S w w' :=
  ⟨h.os, h.tape, h.output, h.size, fun k hk _ => h.block k hk⟩

def At (a : Option Addr) (k : Nat) : Prop := ∃ x, a = some x ∧ k = x.block

def WInts (w : World) (B : Nat) (a : Option Addr) (l : List Int) : Prop :=
  l.length ≤ maxLen ∧ (l.length = 0 ∨ ∃ b o, a = some ⟨b, o, none⟩ ∧ B ≤ b ∧ ∀ i (h : i < l.length), w.cell? ⟨b, o + i, none⟩ = some (.int .i64 l[i]) ∧ w.frozen? ⟨b, o + i, none⟩ = false)
theorem WInts.ints {w : World} {B : Nat} {a : Option Addr} {l : List Int} (h : WInts w B a l) : Ints w a l := by
  refine ⟨h.1, ?_⟩
  rcases h.2 with h0 | ⟨b, o, ha, _, hc⟩
  · exact .inl h0
  · exact .inr ⟨b, o, ha, fun i hi => (hc i hi).1⟩
theorem set_other {w : World} {p q : Addr} {v : Value} (h : p ≠ q) : (w.setCell p v).cell? q = w.cell? q := by apply World.cell?_setCell_other; exact h
theorem set_same {w : World} {p : Addr} {u v : Value} (h : w.cell? p = some u) : (w.setCell p v).cell? p = some v := by apply World.cell?_setCell_same; exact h

def IntsIn (w : World) (B U : Nat) (a : Option Addr) (l : List Int) : Prop :=
  l.length ≤ maxLen ∧ (l.length = 0 ∨ ∃ b o, a = some ⟨b, o, none⟩ ∧ B ≤ b ∧ b < U ∧ ∀ i (h : i < l.length), w.cell? ⟨b, o + i, none⟩ = some (.int .i64 l[i]) ∧ w.frozen? ⟨b, o + i, none⟩ = false)
theorem WInts.within {w : World} {B : Nat} {a : Option Addr} {l : List Int} (h : WInts w B a l) : IntsIn w B w.heap.size a l := by
  refine ⟨h.1, ?_⟩
  by_cases e : l.length = 0
  · exact .inl e
  · rcases h.2 with h0 | ⟨b, o, ha, hB, hc⟩
    · exact .inl h0
    · exact .inr ⟨b, o, ha, hB, lt_of_cell (p := ⟨b, o + 0, none⟩) (hc 0 (by omega)).1, hc⟩
theorem IntsIn.wints {w : World} {B U : Nat} {a : Option Addr} {l : List Int} (h : IntsIn w B U a l) : WInts w B a l := by
  refine ⟨h.1, ?_⟩
  rcases h.2 with h0 | ⟨b, o, ha, hB, _, hc⟩
  · exact .inl h0
  · exact .inr ⟨b, o, ha, hB, hc⟩
theorem IntsIn.kept {w w' : World} {B U : Nat} {a : Option Addr} {l : List Int} (h : IntsIn w B U a l) {S : Nat → Prop} (k : Kept S w w') (hs : ∀ b, B ≤ b → b < U → ¬ S b) : IntsIn w' B U a l := by
  refine ⟨h.1, ?_⟩
  rcases h.2 with h0 | ⟨b, o, rfl, hB, hU, hc⟩
  · exact .inl h0
  · exact .inr ⟨b, o, rfl, hB, hU, fun i hi => ⟨by rw [k.cell (lt_of_cell (hc i hi).1) (hs b hB hU)]; exact (hc i hi).1, by rw [k.frozen (p := ⟨b, o + i, none⟩) (lt_of_cell (hc i hi).1) (hs b hB hU)]; exact (hc i hi).2⟩⟩
end Go.Proofs.YtmjmnfegaoegjaaGreatDoor.Nd0

/- Plain facts on words of bits: no Go text in sight. -/
namespace Go.Proofs.YtmjmnfegaoegjaaGreatDoor.Pl1
open Go.RowKit

def p2 (k : Nat) : Int := 2 ^ k

theorem p2_succ (k : Nat) : p2 (k + 1) = 2 * p2 k := by unfold p2; rw [Int.pow_succ]; omega
theorem p2_pos (k : Nat) : 1 ≤ p2 k := by
  induction k with
  | zero => simp [p2]
  | succ n ih => rw [p2_succ]; omega
theorem p2_mono {a b : Nat} (h : a ≤ b) : p2 a ≤ p2 b := by
  induction b with
  | zero => have : a = 0 := by omega
            subst this; exact Int.le_refl _
  | succ n ih =>
    by_cases e : a = n + 1
    · subst e; exact Int.le_refl _
    · have := ih (by omega); have := p2_pos n; rw [p2_succ]; omega
theorem p2_le (k : Nat) (h : k ≤ 8) : p2 k ≤ 256 := by
  have := p2_mono h; have e : p2 8 = 256 := rfl; omega

end Go.Proofs.YtmjmnfegaoegjaaGreatDoor.Pl1

/- Terms as plain data: what the parts of a node are, and when a node is right. -/
namespace Go.Proofs.YtmjmnfegaoegjaaGreatDoor.Tm0
open Nd0 Pl1

end Go.Proofs.YtmjmnfegaoegjaaGreatDoor.Tm0

/- What the root reaches, as plain data. -/
namespace Go.Proofs.YtmjmnfegaoegjaaGreatDoor.Tm1
open Nd0 Pl1 Tm0

end Go.Proofs.YtmjmnfegaoegjaaGreatDoor.Tm1

/- The places of the reached nodes, as plain data. -/
namespace Go.Proofs.YtmjmnfegaoegjaaGreatDoor.Tm2
open Nd0 Pl1 Tm0 Tm1

end Go.Proofs.YtmjmnfegaoegjaaGreatDoor.Tm2

/- A term without what its root does not reach, as plain data. -/
namespace Go.Proofs.YtmjmnfegaoegjaaGreatDoor.Tm3
open Nd0 Pl1 Tm0 Tm1 Tm2

end Go.Proofs.YtmjmnfegaoegjaaGreatDoor.Tm3

/- Texts of terms as plain data: numbers in decimal digits, words, the text of a node. -/
namespace Go.Proofs.YtmjmnfegaoegjaaGreatDoor.Tx0
open Nd0 Pl1 Tm0 Tm1

def digs (n : Nat) : List UInt8 := if n = 0 then [] else digs (n / 10) ++ [UInt8.ofNat (48 + n % 10)]
termination_by n
decreasing_by omega
def dec (n : Nat) : List UInt8 := if n = 0 then [48] else digs n
theorem digs_zero : digs 0 = [] := by unfold digs; rfl
theorem digs_pos {n : Nat} (h : 0 < n) : digs n = digs (n / 10) ++ [UInt8.ofNat (48 + n % 10)] := by
  rw [digs.eq_def, if_neg (by omega)]
theorem dig_nat (d : Nat) (h : d < 10) : (UInt8.ofNat (48 + d)).toNat = 48 + d := by
  rw [UInt8.toNat_ofNat']; exact Nat.mod_eq_of_lt (by omega)
def isDig (c : UInt8) : Bool := decide (48 ≤ c.toNat ∧ c.toNat ≤ 57)
theorem digs_all (n : Nat) : ∀ c ∈ digs n, isDig c = true := by
  induction n using Nat.strongRecOn with
  | ind n ih =>
    intro c hc
    by_cases h : n = 0
    · subst h; rw [digs_zero] at hc; cases hc
    · rw [digs_pos (by omega)] at hc
      rcases List.mem_append.1 hc with h1 | h1
      · exact ih (n / 10) (by omega) c h1
      · have e : c = UInt8.ofNat (48 + n % 10) := by simpa using h1
        subst e
        unfold isDig
        rw [dig_nat _ (by omega)]
        simp; omega
theorem digs_len (k : Nat) : ∀ n, n < 10 ^ k → (digs n).length ≤ k := by
  induction k with
  | zero => intro n h; have e : n = 0 := by omega
            subst e; rw [digs_zero]; exact Nat.le_refl _
  | succ k ih =>
    intro n h
    by_cases e : n = 0
    · subst e; rw [digs_zero]; exact Nat.zero_le _
    · rw [digs_pos (by omega), List.length_append]
      have := ih (n / 10) (by rw [Nat.pow_succ] at h; omega)
      simp; omega
theorem digs_one {n : Nat} (h : 0 < n) : 1 ≤ (digs n).length := by rw [digs_pos h]; simp
theorem dec_all (n : Nat) : ∀ c ∈ dec n, isDig c = true := by
  unfold dec
  split
  · intro c hc; have : c = 48 := by simpa using hc
    subst this; rfl
  · exact digs_all n
theorem dec_len {n : Nat} (h : n < 10 ^ 9) : 1 ≤ (dec n).length ∧ (dec n).length ≤ 9 := by
  unfold dec
  split
  · simp
  · exact ⟨digs_one (by omega), digs_len 9 n h⟩
def valL (s : List UInt8) : Nat := s.foldl (fun n c => 10 * n + (c.toNat - 48)) 0
theorem valL_snoc (s : List UInt8) (c : UInt8) : valL (s ++ [c]) = 10 * valL s + (c.toNat - 48) := by
  unfold valL; rw [List.foldl_append]; rfl
theorem val_digs (n : Nat) : valL (digs n) = n := by
  induction n using Nat.strongRecOn with
  | ind n ih =>
    by_cases h : n = 0
    · subst h; rw [digs_zero]; rfl
    · rw [digs_pos (by omega), valL_snoc, ih (n / 10) (by omega), dig_nat _ (by omega)]
      omega
theorem val_dec (n : Nat) : valL (dec n) = n := by
  unfold dec
  split
  · rename_i h; subst h; rfl
  · exact val_digs n
theorem val_lt (s : List UInt8) (h : ∀ c ∈ s, isDig c = true) : valL s < 10 ^ s.length := by
  have key : ∀ (k : Nat) (s : List UInt8), s.length = k → (∀ c ∈ s, isDig c = true) → valL s < 10 ^ k := by
    intro k
    induction k with
    | zero => intro s hs _; have : s = [] := List.eq_nil_of_length_eq_zero hs
              subst this; decide
    | succ k ih =>
      intro s hs hd
      have hne : s ≠ [] := by intro e; rw [e] at hs; simp at hs
      have e := (List.dropLast_concat_getLast hne).symm
      have hl : s.dropLast.length = k := by rw [List.length_dropLast]; omega
      have h1 := ih s.dropLast hl (fun c hc => hd c (List.dropLast_subset s hc))
      have h2 := hd _ (List.getLast_mem hne)
      rw [e, valL_snoc]
      unfold isDig at h2
      simp at h2
      rw [Nat.pow_succ]
      omega
  exact key _ s rfl h
def numL (s : List UInt8) : Option Nat :=
  if s.length = 0 ∨ 9 < s.length then none
  else if s.all isDig then (if dec (valL s) = s then some (valL s) else none) else none
theorem num_dec {n : Nat} (h : n < 10 ^ 9) : numL (dec n) = some n := by
  have hl := dec_len h
  unfold numL
  rw [if_neg (by omega), if_pos (List.all_eq_true.2 (dec_all n)), val_dec, if_pos rfl]
end Go.Proofs.YtmjmnfegaoegjaaGreatDoor.Tx0

/- Strings as lists of bytes; the walk of the model's number in decimal digits. -/
namespace Go.Proofs.YtmjmnfegaoegjaaGreatDoor.Ss0
open Go.RowKit
open Nd0 Tx0
set_option linter.unusedVariables false

def bs (l : List UInt8) : ByteArray := ⟨l.toArray⟩
theorem bs_size (l : List UInt8) : (bs l).size = l.length := by simp [bs, ByteArray.size]
theorem bs_app (a b : List UInt8) : bs a ++ bs b = bs (a ++ b) := by
  apply ByteArray.ext
  simp [bs, ByteArray.data_append]
theorem bs_of (s : ByteArray) : bs s.data.toList = s := by cases s; rfl
theorem bs_ext (l : List UInt8) (i j : Nat) : (bs l).extract i j = bs ((l.take j).drop i) := by
  apply ByteArray.ext
  simp only [bs, ByteArray.data_extract]
  apply Array.ext'
  simp [List.extract_eq_take_drop, List.drop_take]
theorem ret_str {a b : ByteArray} (h : a = b) : Ending.returned (.string a) = .returned (.string b) := by rw [h]
theorem digit_cut (d : Nat) (h : d < 10) : (ByteArray.mk #[48, 49, 50, 51, 52, 53, 54, 55, 56, 57]).extract d (d + 1) = bs [UInt8.ofNat (48 + d)] := by
  have : d = 0 ∨ d = 1 ∨ d = 2 ∨ d = 3 ∨ d = 4 ∨ d = 5 ∨ d = 6 ∨ d = 7 ∨ d = 8 ∨ d = 9 := by omega
  rcases this with h | h | h | h | h | h | h | h | h | h <;> subst h <;> rfl

set_option maxHeartbeats 400000 in
theorem sDec (n : Nat) (w : World) (h : n < 1000000000) :
    Calls Tryz.prog 38 #[.int .i64 n] w fun e w' => e = .returned (.string (bs (dec n))) ∧ w' = w := by
  by_cases h0 : n = 0
  · subst h0
    go_enter Tryz.func38, Tryz.ntmps38
    go_wp2
    go_ret
    exact ⟨rfl, rfl⟩
  · have hz : ¬ (n : Int) = 0 := by omega
    go_enter Tryz.func38, Tryz.ntmps38
    go_wp2
    go_loop [3, 4] (fun o m => ∃ (k : Nat) (s : List UInt8), k ≤ n ∧ m = .int .i64 k ∧ o = .string (bs s) ∧ digs n = digs k ++ s ∧ s.length + (digs k).length ≤ 9) (fun _ m => (intOf m).toNat)
    case atStart => exact ⟨n, [], Nat.le_refl _, rfl, rfl, by simp, by have := digs_len 9 n h; simpa using this⟩
    case round =>
      obtain ⟨k, s, hk, rfl, rfl, hd, hl⟩ := hrel
      have HD : Hid (digs n = digs k ++ s) := hd
      clear hd
      by_cases hk0 : k = 0
      · subst hk0
        have HE : Hid (bs s = bs (dec n)) := by
          show _ = _
          unfold dec
          rw [if_neg h0, HD.out, digs_zero]; rfl
        have hnn : ¬ (n : Int) < 0 := by omega
        go_wp2
        go_ret
        exact ⟨ret_str HE.out, rfl⟩
      · have hkz : ¬ (k : Int) = 0 := by omega
        have hr1 : 0 ≤ (k : Int) % 10 := by omega
        have hr2 : (k : Int) % 10 < 10 := by omega
        have hr3 : ¬ (k : Int) % 10 < 0 := by omega
        have hss : (bs s).size ≤ 9 := by rw [bs_size]; omega
        have hp := digs_pos (n := k) (by omega)
        have HN : Hid (digs n = digs (k / 10) ++ (UInt8.ofNat (48 + k % 10) :: s)) := by
          show _ = _
          rw [HD.out, hp]; simp
        have HL : Hid ((UInt8.ofNat (48 + k % 10) :: s).length + (digs (k / 10)).length ≤ 9) := by
          show _ ≤ _
          rw [hp] at hl
          simp at hl ⊢; omega
        clear hp
        go_wp2
        go_round
        case rel => exact ⟨k / 10, UInt8.ofNat (48 + k % 10) :: s, by omega, by go_num, by rw [digit_cut _ (by omega), bs_app]; rfl, HN.out, HL.out⟩
        case measure => simp [intOf]; omega

end Go.Proofs.YtmjmnfegaoegjaaGreatDoor.Ss0

/- Walks of the model's powers of two and of its test of words. -/
namespace Go.Proofs.YtmjmnfegaoegjaaGreatDoor.Ws1
open Go.RowKit
open Pl1
set_option linter.unusedVariables false

theorem ret_int {k : IntKind} {a b : Int} (h : a = b) : Ending.returned (.int k a) = .returned (.int k b) := by rw [h]
theorem ret_bool {a b : Bool} (h : a = b) : Ending.returned (.bool a) = .returned (.bool b) := by rw [h]

set_option maxHeartbeats 400000 in
theorem spow (m : Int) (w : World) (h0 : 0 ≤ m) (h1 : m ≤ 8) :
    Calls Tryz.prog 100 #[.int .i64 m] w fun e w' => e = .returned (.int .i64 (p2 m.toNat)) ∧ w' = w := by
  obtain ⟨n, rfl⟩ := Int.eq_ofNat_of_zero_le h0
  rw [Int.toNat_natCast]
  go_enter Tryz.func100, Tryz.ntmps100
  go_wp2
  go_loop [3, 4] (fun x i => ∃ k : Nat, k ≤ n ∧ i = .int .i64 k ∧ x = .int .i64 (p2 k)) (fun _ i => n - (intOf i).toNat)
  case atStart => exact ⟨0, Nat.zero_le _, rfl, rfl⟩
  case round =>
    obtain ⟨k, hk, rfl, rfl⟩ := hrel
    have hp := p2_pos k
    have hl := p2_le k (by omega)
    by_cases hlt : k < n
    · go_wp2
      go_round
      case rel => exact ⟨k + 1, by omega, by go_num, by rw [p2_succ]⟩
      case measure => simp [intOf]; omega
    · go_wp2
      go_ret
      have : k = n := by omega
      subst this
      exact ⟨rfl, rfl⟩

set_option maxHeartbeats 400000 in
theorem sIn (x a b : Int) (w : World) :
    Calls Tryz.prog 32 #[.int .i64 x, .int .i64 a, .int .i64 b] w fun e w' => e = .returned (.bool (decide (a ≤ x ∧ x ≤ b))) ∧ w' = w := by
  by_cases h1 : a ≤ x <;> by_cases h2 : x ≤ b
  all_goals
    go_enter Tryz.func32, Tryz.ntmps32
    go_wp2
    go_ret
    exact ⟨ret_bool (by simp <;> omega), rfl⟩

end Go.Proofs.YtmjmnfegaoegjaaGreatDoor.Ws1
