/- Small texts of mine, one behind the other. -/
import Derived.Test.YtldeakifeifgdaaDoorRows
import Derived.WalkKit
import Derived.WalkSpells
import Derived.WalkLawsBesides
import Derived.Deep.QuietTactic
import Derived.BigQuiet
import Derived.Deep.RegionWith
import Derived.Test.YtldeakifeifgdaaDoorPkQd
import Derived.Test.YtldeakifeifgdaaDoorPkQa
import Derived.Test.YtldeakifeifgdaaDoorPkQb
import Derived.Test.YtldeakifeifgdaaDoorPkQc
/- Strings as lists of bytes; the walk of the model's number in decimal digits. -/
namespace Go.Proofs.YtldeakifeifgdaaDoor.Ss0
open Go.RowKit
open Nd0 Tx0
set_option linter.unusedVariables false

/-- Bytes as a string. -/
def bs (l : List UInt8) : ByteArray := ⟨l.toArray⟩
theorem bs_size (l : List UInt8) : (bs l).size = l.length := by simp [bs, ByteArray.size]
theorem bs_app (a b : List UInt8) : bs a ++ bs b = bs (a ++ b) := by
  apply ByteArray.ext
  simp [bs, ByteArray.data_append]
theorem bs_of (s : ByteArray) : bs s.data.toList = s := by cases s; rfl
theorem bs_inj {a b : List UInt8} (h : bs a = bs b) : a = b := by
  have := congrArg (fun s => s.data.toList) h
  simpa [bs] using this
theorem bs_ext (l : List UInt8) (i j : Nat) : (bs l).extract i j = bs ((l.take j).drop i) := by
  apply ByteArray.ext
  simp only [bs, ByteArray.data_extract]
  apply Array.ext'
  simp [List.extract_eq_take_drop, List.drop_take]
theorem ret_str {a b : ByteArray} (h : a = b) : Ending.returned (.string a) = .returned (.string b) := by rw [h]
theorem digit_cut (d : Nat) (h : d < 10) : (ByteArray.mk #[48, 49, 50, 51, 52, 53, 54, 55, 56, 57]).extract d (d + 1) = bs [UInt8.ofNat (48 + d)] := by
  have : d = 0 ∨ d = 1 ∨ d = 2 ∨ d = 3 ∨ d = 4 ∨ d = 5 ∨ d = 6 ∨ d = 7 ∨ d = 8 ∨ d = 9 := by omega
  rcases this with h | h | h | h | h | h | h | h | h | h <;> subst h <;> rfl

set_option maxHeartbeats 400000 in
theorem sDec (n : Nat) (w : World) (h : n < 1000000000) :
    Calls Tryd.prog 101 #[.int .i64 n] w fun e w' => e = .returned (.string (bs (dec n))) ∧ w' = w := by
  by_cases h0 : n = 0
  · subst h0
    go_enter Tryd.func101, Tryd.ntmps101
    go_wp2
    go_ret
    exact ⟨rfl, rfl⟩
  · have hz : ¬ (n : Int) = 0 := by omega
    go_enter Tryd.func101, Tryd.ntmps101
    go_wp2
    go_loop [3, 4] (fun o m => ∃ (k : Nat) (s : List UInt8), k ≤ n ∧ m = .int .i64 k ∧ o = .string (bs s) ∧ digs n = digs k ++ s ∧ s.length + (digs k).length ≤ 9) (fun _ m => (intOf m).toNat)
    case atStart => exact ⟨n, [], Nat.le_refl _, rfl, rfl, by simp, by have := digs_len 9 n h; simpa using this⟩
    case round =>
      obtain ⟨k, s, hk, rfl, rfl, hd, hl⟩ := hrel
      have HD : Hid (digs n = digs k ++ s) := hd
      clear hd
      by_cases hk0 : k = 0
      · subst hk0
        have HE : Hid (bs s = bs (dec n)) := by
          show _ = _
          unfold dec
          rw [if_neg h0, HD.out, digs_zero]; rfl
        have hnn : ¬ (n : Int) < 0 := by omega
        go_wp2
        go_ret
        exact ⟨ret_str HE.out, rfl⟩
      · have hkz : ¬ (k : Int) = 0 := by omega
        have hr1 : 0 ≤ (k : Int) % 10 := by omega
        have hr2 : (k : Int) % 10 < 10 := by omega
        have hr3 : ¬ (k : Int) % 10 < 0 := by omega
        have hss : (bs s).size ≤ 9 := by rw [bs_size]; omega
        have hp := digs_pos (n := k) (by omega)
        have HN : Hid (digs n = digs (k / 10) ++ (UInt8.ofNat (48 + k % 10) :: s)) := by
          show _ = _
          rw [HD.out, hp]; simp
        have HL : Hid ((UInt8.ofNat (48 + k % 10) :: s).length + (digs (k / 10)).length ≤ 9) := by
          show _ ≤ _
          rw [hp] at hl
          simp at hl ⊢; omega
        clear hp
        go_wp2
        go_round
        case rel => exact ⟨k / 10, UInt8.ofNat (48 + k % 10) :: s, by omega, by go_num, by rw [digit_cut _ (by omega), bs_app]; rfl, HN.out, HL.out⟩
        case measure => simp [intOf]; omega

end Go.Proofs.YtldeakifeifgdaaDoor.Ss0

/- Walks of the model's powers of two and of its test of words. -/
namespace Go.Proofs.YtldeakifeifgdaaDoor.Ws1
open Go.RowKit
open Pl1
set_option linter.unusedVariables false

theorem ret_int {k : IntKind} {a b : Int} (h : a = b) : Ending.returned (.int k a) = .returned (.int k b) := by rw [h]
theorem ret_bool {a b : Bool} (h : a = b) : Ending.returned (.bool a) = .returned (.bool b) := by rw [h]

set_option maxHeartbeats 400000 in
theorem spow (m : Int) (w : World) (h0 : 0 ≤ m) (h1 : m ≤ 8) :
    Calls Tryd.prog 61 #[.int .i64 m] w fun e w' => e = .returned (.int .i64 (p2 m.toNat)) ∧ w' = w := by
  obtain ⟨n, rfl⟩ := Int.eq_ofNat_of_zero_le h0
  rw [Int.toNat_natCast]
  go_enter Tryd.func61, Tryd.ntmps61
  go_wp2
  go_loop [3, 4] (fun x i => ∃ k : Nat, k ≤ n ∧ i = .int .i64 k ∧ x = .int .i64 (p2 k)) (fun _ i => n - (intOf i).toNat)
  case atStart => exact ⟨0, Nat.zero_le _, rfl, rfl⟩
  case round =>
    obtain ⟨k, hk, rfl, rfl⟩ := hrel
    have hp := p2_pos k
    have hl := p2_le k (by omega)
    by_cases hlt : k < n
    · go_wp2
      go_round
      case rel => exact ⟨k + 1, by omega, by go_num, by rw [p2_succ]⟩
      case measure => simp [intOf]; omega
    · go_wp2
      go_ret
      have : k = n := by omega
      subst this
      exact ⟨rfl, rfl⟩

set_option maxHeartbeats 400000 in
theorem sIn (x a b : Int) (w : World) :
    Calls Tryd.prog 58 #[.int .i64 x, .int .i64 a, .int .i64 b] w fun e w' => e = .returned (.bool (decide (a ≤ x ∧ x ≤ b))) ∧ w' = w := by
  by_cases h1 : a ≤ x <;> by_cases h2 : x ≤ b
  all_goals
    go_enter Tryd.func58, Tryd.ntmps58
    go_wp2
    go_ret
    exact ⟨ret_bool (by simp <;> omega), rfl⟩

end Go.Proofs.YtldeakifeifgdaaDoor.Ws1

/- The walks of the model's readers of numbers and words. -/
namespace Go.Proofs.YtldeakifeifgdaaDoor.Ss1
open Go.RowKit
open Nd0 Tx0 Ss0
open Ws1 (sIn ret_int)
set_option linter.unusedVariables false

/-- The bytes of a string. -/
def tl (S : ByteArray) : List UInt8 := S.data.toList
theorem tl_bs (l : List UInt8) : tl (bs l) = l := by simp [tl, bs]
theorem bs_tl (S : ByteArray) : bs (tl S) = S := bs_of S
theorem tl_length (S : ByteArray) : (tl S).length = S.size := by unfold tl ByteArray.size; exact Array.length_toList
theorem tl_get (S : ByteArray) (k : Nat) (h : k < S.size) : S[k] = (tl S)[k]'(by rw [tl_length]; exact h) := rfl
theorem tl_ext (S : ByteArray) (i j : Nat) : tl (S.extract i j) = ((tl S).take j).drop i := by
  have := bs_ext (tl S) i j
  rw [bs_tl] at this
  rw [this, tl_bs]
theorem tl_app (S T : ByteArray) : tl (S ++ T) = tl S ++ tl T := by
  have := bs_app (tl S) (tl T)
  rw [bs_tl, bs_tl] at this
  rw [this, tl_bs]
theorem tl_inj {S T : ByteArray} (h : tl S = tl T) : S = T := by rw [← bs_tl S, ← bs_tl T, h]
theorem tl_take (S : ByteArray) (k : Nat) (h : k < S.size) : (tl S).take (k + 1) = (tl S).take k ++ [S[k]] := by
  rw [List.take_succ_eq_append_getElem (by rw [tl_length]; exact h)]; rfl

theorem eqb (S T : ByteArray) : (S.toList == T.toList) = decide (tl S = tl T) := by
  rw [ByteArray.toList_eq, ByteArray.toList_eq, Bool.eq_iff_iff]
  simp [tl]
theorem eqb_false {S T : ByteArray} (h : tl S ≠ tl T) : (S.toList == T.toList) = false := by rw [eqb]; exact decide_eq_false h
theorem eqb_true {S T : ByteArray} (h : tl S = tl T) : (S.toList == T.toList) = true := by rw [eqb]; exact decide_eq_true h

theorem eql_false {S : ByteArray} {l : List UInt8} (h : tl S ≠ l) : (S.toList == l) = false := by
  rw [ByteArray.toList_eq]
  exact beq_eq_false_iff_ne.2 h
theorem eql_true {S : ByteArray} {l : List UInt8} (h : tl S = l) : (S.toList == l) = true := by
  rw [ByteArray.toList_eq]
  exact beq_iff_eq.2 h

/-- A number, or -1. -/
def numI (s : List UInt8) : Int := match numL s with
  | some n => (n : Int)
  | none => -1
theorem num_bad_len {s : List UInt8} (h : s.length = 0 ∨ 9 < s.length) : numI s = -1 := by unfold numI numL; rw [if_pos h]
theorem num_bad_dig {s : List UInt8} (c : UInt8) (hc : c ∈ s) (h : isDig c = false) : numI s = -1 := by
  have : s.all isDig = false := by rw [List.all_eq_false]; exact ⟨c, hc, by simp [h]⟩
  unfold numI numL
  by_cases hl : s.length = 0 ∨ 9 < s.length
  · rw [if_pos hl]
  · rw [if_neg hl, this]; rfl
theorem num_end {s : List UInt8} (hl : ¬ (s.length = 0 ∨ 9 < s.length)) (ha : ∀ c ∈ s, isDig c = true) : numI s = if dec (valL s) = s then (valL s : Int) else -1 := by
  unfold numI numL
  rw [if_neg hl, if_pos (List.all_eq_true.2 ha)]
  by_cases h : dec (valL s) = s
  · rw [if_pos h, if_pos h]
  · rw [if_neg h, if_neg h]

theorem span_at (x y : List UInt8) (hx : ∀ c ∈ x, c ≠ 58) : (x ++ (58 :: y)).takeWhile (fun z => z != 58) = x ∧ (x ++ (58 :: y)).dropWhile (fun z => z != 58) = 58 :: y := by
  induction x with
  | nil => exact ⟨rfl, rfl⟩
  | cons c x ih =>
    have h1 : (c != 58) = true := by simpa using hx c (by simp)
    have h2 := ih (fun d hd => hx d (by simp [hd]))
    rw [List.cons_append, List.takeWhile_cons, List.dropWhile_cons, h1, if_pos rfl, if_pos rfl, h2.1, h2.2]
    exact ⟨rfl, rfl⟩
theorem ret_two {k : IntKind} {a b c d : Int} (h : a = c) (h2 : b = d) : Ending.returned (.tuple #[.int k a, .int k b]) = .returned (.tuple #[.int k c, .int k d]) := by rw [h, h2]
/-- Two numbers, or -1 and -1. -/
def twoA (h : UInt8) (s : List UInt8) : Int := match twoL h s with
  | some (a, _) => (a : Int)
  | none => -1
def twoB (h : UInt8) (s : List UInt8) : Int := match twoL h s with
  | some (_, b) => (b : Int)
  | none => -1
theorem two_none {h : UInt8} {s : List UInt8} (e : twoL h s = none) : twoA h s = -1 ∧ twoB h s = -1 := by
  unfold twoA twoB; rw [e]; exact ⟨rfl, rfl⟩
theorem two_split (h : UInt8) (x y : List UInt8) (hx : ∀ c ∈ x, c ≠ 58) : twoL h (h :: (x ++ (58 :: y))) = match numL x, numL y with
    | some a, some b => some (a, b)
    | _, _ => none := by
  obtain ⟨k1, k2⟩ := span_at x y hx
  simp only [twoL, ↓reduceIte]
  rw [k1, k2]
  rfl
theorem two_nums {h : UInt8} {s x y : List UInt8} (hs : s = h :: (x ++ (58 :: y))) (hx : ∀ c ∈ x, c ≠ 58) : (numI x < 0 ∨ numI y < 0 → twoA h s = -1 ∧ twoB h s = -1) ∧ (¬ (numI x < 0 ∨ numI y < 0) → twoA h s = numI x ∧ twoB h s = numI y) := by
  subst hs
  unfold twoA twoB numI
  rw [two_split h x y hx]
  cases numL x with
  | none => simp
  | some a =>
    cases numL y with
    | none => simp
    | some b => simp
theorem num_range (s : List UInt8) : -1 ≤ numI s ∧ numI s ≤ 1000000000 := by
  unfold numI
  cases h : numL s with
  | none => simp
  | some n =>
    have := (num_some h).2.1
    simp only; omega
theorem two_no_head {h : UInt8} {s : List UInt8} (e : s = [] ∨ ∃ c r, s = c :: r ∧ c ≠ h) : twoL h s = none := by
  rcases e with rfl | ⟨c, r, rfl, hc⟩
  · rfl
  · simp only [twoL]; rw [if_neg hc]
theorem two_no_colon {h : UInt8} {s : List UInt8} (e : ∀ c ∈ s.tail, c ≠ 58) : twoL h s = none := by
  cases s with
  | nil => rfl
  | cons c r =>
    simp only [twoL]
    have key : ∀ r : List UInt8, (∀ c ∈ r, c ≠ 58) → r.dropWhile (fun z => z != 58) = [] := by
      intro r
      induction r with
      | nil => intro _; rfl
      | cons d r ih =>
        intro hr
        have h1 : (d != 58) = true := by simpa using hr d (by simp)
        rw [List.dropWhile_cons, h1, if_pos rfl]
        exact ih (fun x hx => hr x (by simp [hx]))
    rw [key r e]
    split <;> rfl
theorem tl_split (S : ByteArray) (k : Nat) (h1 : 1 ≤ k) (hk : k < S.size) : tl S = (tl S)[0]'(by rw [tl_length]; omega) :: (tl (S.extract 1 k) ++ (S[k] :: tl (S.extract (k + 1) S.size))) := by
  have hl := tl_length S
  rw [tl_ext, tl_ext, tl_get S k hk]
  have e1 : (tl S).take S.size = tl S := List.take_of_length_le (by omega)
  rw [e1]
  have e2 : tl S = (tl S).take k ++ (tl S).drop k := (List.take_append_drop _ _).symm
  have e3 : (tl S).drop k = (tl S)[k]'(by omega) :: (tl S).drop (k + 1) := List.drop_eq_getElem_cons (by omega)
  have e4 : (tl S).take k = (tl S)[0]'(by omega) :: ((tl S).take k).drop 1 := by
    have e5 : (tl S).take k = ((tl S).take k).drop 0 := rfl
    rw [e5, List.drop_eq_getElem_cons (by rw [List.length_take]; omega)]
    simp
  refine e2.trans ?_
  rw [e3]
  refine (congrArg (fun z => z ++ ((tl S)[k]'(by omega) :: (tl S).drop (k + 1))) e4).trans ?_
  rfl

end Go.Proofs.YtldeakifeifgdaaDoor.Ss1

/- A machine's value, and its block. Written by tools/gen_mm0.py. -/
namespace Go.Proofs.YtldeakifeifgdaaDoor.Mm0
open Go.RowKit
open Nd0 (Kept Ints set_other set_same lt_of_cell)
open Nd6 (Bools)
open Qc0 (Sn Sns)
open Ta1 (tokB)
open Ss1 (tl)
set_option linter.unusedVariables false

structure Mc where
  row : List Bool
  N : Int
  S : ByteArray
  room : Int
  vals : List Int
  ret : Int
  over : Bool
  steps : Int
  looks : Int
  hits : Int
  memo : List Sn
/-- Its value. -/
abbrev mval (m : Mc) (ra va ma : Option Addr) (rc vc mc : Nat) : Value := .agg #[.slice ra m.row.length rc, .int .i64 m.N, .string m.S, .int .i64 m.room, .slice va m.vals.length vc, .int .i64 m.ret, .bool m.over, .int .i64 m.steps, .int .i64 m.looks, .int .i64 m.hits, .slice ma m.memo.length mc]
/-- It lies in block b. -/
structure Mb (W : World) (b : Nat) (m : Mc) (ra va ma : Option Addr) (rc vc mc : Nat) : Prop where
  c0 : W.cell? ⟨b, 0, none⟩ = some (.slice ra m.row.length rc)
  c1 : W.cell? ⟨b, 1, none⟩ = some (.int .i64 m.N)
  c2 : W.cell? ⟨b, 2, none⟩ = some (.string m.S)
  c3 : W.cell? ⟨b, 3, none⟩ = some (.int .i64 m.room)
  c4 : W.cell? ⟨b, 4, none⟩ = some (.slice va m.vals.length vc)
  c5 : W.cell? ⟨b, 5, none⟩ = some (.int .i64 m.ret)
  c6 : W.cell? ⟨b, 6, none⟩ = some (.bool m.over)
  c7 : W.cell? ⟨b, 7, none⟩ = some (.int .i64 m.steps)
  c8 : W.cell? ⟨b, 8, none⟩ = some (.int .i64 m.looks)
  c9 : W.cell? ⟨b, 9, none⟩ = some (.int .i64 m.hits)
  c10 : W.cell? ⟨b, 10, none⟩ = some (.slice ma m.memo.length mc)
theorem Mb.lt {W : World} {b : Nat} {m : Mc} {ra va ma : Option Addr} {rc vc mc : Nat} (h : Mb W b m ra va ma rc vc mc) : b < W.heap.size := World.block_lt_of_cell? _ _ h.c0
theorem Mb.kept {W W' : World} {b : Nat} {m : Mc} {ra va ma : Option Addr} {rc vc mc : Nat} (h : Mb W b m ra va ma rc vc mc) {S : Nat → Prop} (k : Kept S W W') (hs : ¬ S b) : Mb W' b m ra va ma rc vc mc :=
  ⟨by rw [k.cell (p := ⟨b, 0, none⟩) h.lt hs]; exact h.c0, by rw [k.cell (p := ⟨b, 1, none⟩) h.lt hs]; exact h.c1, by rw [k.cell (p := ⟨b, 2, none⟩) h.lt hs]; exact h.c2, by rw [k.cell (p := ⟨b, 3, none⟩) h.lt hs]; exact h.c3, by rw [k.cell (p := ⟨b, 4, none⟩) h.lt hs]; exact h.c4, by rw [k.cell (p := ⟨b, 5, none⟩) h.lt hs]; exact h.c5, by rw [k.cell (p := ⟨b, 6, none⟩) h.lt hs]; exact h.c6, by rw [k.cell (p := ⟨b, 7, none⟩) h.lt hs]; exact h.c7, by rw [k.cell (p := ⟨b, 8, none⟩) h.lt hs]; exact h.c8, by rw [k.cell (p := ⟨b, 9, none⟩) h.lt hs]; exact h.c9, by rw [k.cell (p := ⟨b, 10, none⟩) h.lt hs]; exact h.c10⟩
theorem Mb.below {W W' : World} {b : Nat} {m : Mc} {ra va ma : Option Addr} {rc vc mc : Nat} (h : Mb W b m ra va ma rc vc mc) (k : Below W.heap.size W W') : Mb W' b m ra va ma rc vc mc := h.kept (S := fun _ => False) (Kept.ofBelow k) (fun h => h)
theorem Mb.alloc {W : World} {b : Nat} {m : Mc} {ra va ma : Option Addr} {rc vc mc : Nat} (h : Mb W b m ra va ma rc vc mc) (o : Obj) : Mb (W.alloc o) b m ra va ma rc vc mc := h.kept (S := fun _ => False) ((Kept.refl _ _).alloc _) (fun h => h)
theorem Mb.made (W : World) (m : Mc) (ra va ma : Option Addr) (rc vc mc : Nat) (T : Nat) : Mb (W.alloc (.cells #[.slice ra m.row.length rc, .int .i64 m.N, .string m.S, .int .i64 m.room, .slice va m.vals.length vc, .int .i64 m.ret, .bool m.over, .int .i64 m.steps, .int .i64 m.looks, .int .i64 m.hits, .slice ma m.memo.length mc] T)) W.heap.size m ra va ma rc vc mc := ⟨by simp, by simp, by simp, by simp, by simp, by simp, by simp, by simp, by simp, by simp, by simp⟩
/-- What it points to can be read. -/
structure Mr (W : World) (m : Mc) (ra va ma : Option Addr) : Prop where
  row : Bools W ra m.row
  vals : Ints W va m.vals
  memo : Sns W ma m.memo
theorem Mr.below {W W' : World} {m : Mc} {ra va ma : Option Addr} (h : Mr W m ra va ma) (k : Below W.heap.size W W') : Mr W' m ra va ma := ⟨h.row.below k, h.vals.below k, h.memo.below k⟩
/-- No two keys are alike. -/
def apart (l : List Sn) : Prop := ∀ i j (hi : i < l.length) (hj : j < l.length), j < i → l[j].k ≠ l[i].k
/-- A right machine. -/
structure Mok (m : Mc) : Prop where
  tab : tokB m.N (tl m.S) = true
  row : (m.row.length : Int) = m.N
  room : 0 ≤ m.room ∧ m.room ≤ 40
  memo : (m.memo.length : Int) ≤ m.room
  vals : (m.vals.length : Int) ≤ m.N
  ret : -1 ≤ m.ret ∧ m.ret ≤ 1
  over : m.over = true → 0 ≤ m.ret ∧ m.vals.length = 0
  steps : 0 ≤ m.steps ∧ m.steps ≤ 1000000000
  looks : 0 ≤ m.looks ∧ m.looks ≤ 1000000000
  hits : 0 ≤ m.hits ∧ m.hits ≤ 1000000000
  bits : ∀ x ∈ m.vals, 0 ≤ x ∧ x ≤ 1
  seen : ∀ x ∈ m.memo, 0 ≤ x.r ∧ x.r ≤ 1
  keys : apart m.memo

end Go.Proofs.YtldeakifeifgdaaDoor.Mm0

/- Arguments that are machines, opened. -/
namespace Go.Proofs.YtldeakifeifgdaaDoor.Op5
open Go.RowKit Go.ChangeShapes Go.WideShapes
open Nd0 (Ints)
open Nd6 (Bools)
open Qc0 (Sn Sns)
open Mm0 (Mc Mr)
set_option linter.unusedVariables false

theorem cellsInt : Tryd.prog.cellsOf 3 = 1 := by kernel_rfl
theorem cellsBool : Tryd.prog.cellsOf 4 = 1 := by kernel_rfl
theorem cellsTable : Tryd.prog.cellsOf 41 = 2 := by kernel_rfl
theorem cellsBs : Tryd.prog.cellsOf 24 = 1 := by kernel_rfl
theorem cellsIs : Tryd.prog.cellsOf 31 = 1 := by kernel_rfl
theorem cellsSs : Tryd.prog.cellsOf 42 = 1 := by kernel_rfl
theorem cellsMachine : Tryd.prog.cellsOf 44 = 11 := by kernel_rfl
theorem range_of {x : Int} (h : (Lit.int .i64 x).wf = true) : -9223372036854775808 ≤ x ∧ x ≤ 9223372036854775807 := by
  have e1 : IntKind.i64.min = -9223372036854775808 := by decide
  have e2 : IntKind.i64.max = 9223372036854775807 := by decide
  simp [Lit.wf, e1, e2] at h; omega
theorem eleven {α : Type} (l : List α) (h : l.length = 11) : ∃ z0 z1 z2 z3 z4 z5 z6 z7 z8 z9 z10, l = [z0, z1, z2, z3, z4, z5, z6, z7, z8, z9, z10] := by
  match l, h with
  | [z0, z1, z2, z3, z4, z5, z6, z7, z8, z9, z10], _ => exact ⟨z0, z1, z2, z3, z4, z5, z6, z7, z8, z9, z10, rfl⟩
theorem ten {α : Type} (l : List α) (h : l.length = 10) : ∃ z0 z1 z2 z3 z4 z5 z6 z7 z8 z9, l = [z0, z1, z2, z3, z4, z5, z6, z7, z8, z9] := by
  match l, h with
  | [z0, z1, z2, z3, z4, z5, z6, z7, z8, z9], _ => exact ⟨z0, z1, z2, z3, z4, z5, z6, z7, z8, z9, rfl⟩

section
variable {H : Type} {enc : TypeId × Value → H} {w : World} {base : Nat} {spare : Nat → Bool} {held : Bool}
/-- A list that can be read, with its cell. -/
theorem bools_cell {fuel : Nat} {c : Value} {x : DataW H × List MemPlace} (h : DataW.trod enc Tryd.prog w base spare held fuel 24 [c] = some x) : ∃ (a : Option Addr) (l : List Bool) (k : Nat), c = .slice a l.length k ∧ Bools w a l := by
  rcases Deep.open_slice Tryd.underlying24 h with ⟨hcs, _⟩ | ⟨b, len', cap', m, n, D, Pl, hcs, _⟩
  · simp at hcs
    subst hcs
    exact ⟨none, [], 0, rfl, Nat.zero_le _, .inl rfl⟩
  · simp at hcs
    subst hcs
    obtain ⟨_, l, hl, hA⟩ := Op4.bools_open h
    subst hl
    exact ⟨_, l, _, rfl, hA⟩
theorem ints_cell {fuel : Nat} {c : Value} {x : DataW H × List MemPlace} (h : DataW.trod enc Tryd.prog w base spare held fuel 31 [c] = some x) : ∃ (a : Option Addr) (l : List Int) (k : Nat), c = .slice a l.length k ∧ Ints w a l := by
  rcases Deep.open_slice Tryd.underlying31 h with ⟨hcs, _⟩ | ⟨b, len', cap', m, n, D, Pl, hcs, _⟩
  · simp at hcs
    subst hcs
    exact ⟨none, [], 0, rfl, Nat.zero_le _, .inl rfl⟩
  · simp at hcs
    subst hcs
    obtain ⟨_, l, hl, hA⟩ := Op2.ints_open h
    subst hl
    exact ⟨_, l, _, rfl, hA⟩
theorem sns_cell {fuel : Nat} {c : Value} {x : DataW H × List MemPlace} (h : DataW.trod enc Tryd.prog w base spare held fuel 42 [c] = some x) : ∃ (a : Option Addr) (l : List Sn) (k : Nat), c = .slice a l.length k ∧ Sns w a l ∧ ∀ x ∈ l, x.k.size ≤ maxLen := by
  rcases Deep.open_slice Tryd.underlying42 h with ⟨hcs, _⟩ | ⟨b, len', cap', m, n, D, Pl, hcs, _⟩
  · simp at hcs
    subst hcs
    exact ⟨none, [], 0, rfl, ⟨Nat.zero_le _, .inl rfl⟩, fun x hx => by cases hx⟩
  · simp at hcs
    subst hcs
    obtain ⟨_, l, hl, hA, hS⟩ := Qc3.opensSn h
    subst hl
    exact ⟨_, l, _, rfl, hA, hS⟩
theorem machine_open {fuel : Nat} {cs : List Value} {x : DataW H × List MemPlace} (h : DataW.trod enc Tryd.prog w base spare held fuel 44 cs = some x) :
    ∃ (m : Mc) (ra va ma : Option Addr) (rc vc mc : Nat), cs = [.slice ra m.row.length rc, .int .i64 m.N, .string m.S, .int .i64 m.room, .slice va m.vals.length vc, .int .i64 m.ret, .bool m.over, .int .i64 m.steps, .int .i64 m.looks, .int .i64 m.hits, .slice ma m.memo.length mc] ∧ Mr w m ra va ma ∧ m.S.size ≤ maxLen ∧ ∀ x ∈ m.memo, x.k.size ≤ maxLen := by
  obtain ⟨xs, mm, _, rfl, hl, hlen, hf⟩ := DataW.trod_struct Tryd.underlying44 h
  rw [cellsMachine] at hl
  obtain ⟨c0, c1, c2, c3, c4, c5, c6, c7, c8, c9, c10, rfl⟩ := eleven cs hl
  obtain ⟨y0, y1, y2, y3, y4, y5, y6, y7, y8, y9, rfl⟩ := ten xs (by simpa using hlen)
  have g0 := hf 0 _ rfl
  have g1 := hf 1 _ rfl
  have g2 := hf 2 _ rfl
  have g3 := hf 3 _ rfl
  have g4 := hf 4 _ rfl
  have g5 := hf 5 _ rfl
  have g6 := hf 6 _ rfl
  have g7 := hf 7 _ rfl
  have g8 := hf 8 _ rfl
  have g9 := hf 9 _ rfl
  simp [cellsInt, cellsBool, cellsTable, cellsBs, cellsIs, cellsSs] at g0 g1 g2 g3 g4 g5 g6 g7 g8 g9
  obtain ⟨ra, row, rc, rfl, hrow⟩ := bools_cell g0
  obtain ⟨N, S, e1, hS⟩ := Op2.table_open g1
  simp at e1
  obtain ⟨rfl, rfl⟩ := e1
  obtain ⟨n2, e2, _, _⟩ := DataW.trod_int Tryd.underlying3 g2
  obtain ⟨va, vals, vc, rfl, hvals⟩ := ints_cell g3
  obtain ⟨n4, e4, _, _⟩ := DataW.trod_int Tryd.underlying3 g4
  obtain ⟨b5, e5, _⟩ := DataW.trod_bool Tryd.underlying4 g5
  obtain ⟨n6, e6, _, _⟩ := DataW.trod_int Tryd.underlying3 g6
  obtain ⟨n7, e7, _, _⟩ := DataW.trod_int Tryd.underlying3 g7
  obtain ⟨n8, e8, _, _⟩ := DataW.trod_int Tryd.underlying3 g8
  obtain ⟨ma, memo, mc, rfl, hmemo, hk⟩ := sns_cell g9
  simp at e2 e4 e5 e6 e7 e8
  subst e2 e4 e5 e6 e7 e8
  exact ⟨⟨row, N, S, n2, vals, n4, b5, n6, n7, n8, memo⟩, ra, va, ma, rc, vc, mc, rfl, ⟨hrow, hvals, hmemo⟩, hS, hk⟩
end

end Go.Proofs.YtldeakifeifgdaaDoor.Op5
