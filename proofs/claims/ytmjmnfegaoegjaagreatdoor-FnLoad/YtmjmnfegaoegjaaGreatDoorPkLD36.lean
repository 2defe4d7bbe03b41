/- Small texts of mine, one behind the other. -/
import Derived.Lib.Split
import Derived.Deep.CutBlock
import Derived.Test.YtmjmnfegaoegjaaGreatDoorPkLD26
import Derived.Test.YtmjmnfegaoegjaaGreatDoorPkLD20
import Derived.Test.YtmjmnfegaoegjaaGreatDoorPkLD2
/- A machine read from its text: plain, as the program reads. -/
namespace Go.Proofs.YtmjmnfegaoegjaaGreatDoor.Zl0
open Go.RowKit
open Tx0 Ta1 Za0 Za1 Zk0 Zs0
open Mm0 (Mc Mok)
open Mm2 (mokB)
open Qc0 (Sn)
open Ta2 (bitB)
open Wp1 (vt dgt)
open Wp3 (rvB rvL un un_dgt)
open Ss0 (bs bs_size)
open Ss1 (tl tl_bs bs_tl tl_length)
open Tk0 (keyL itoa_dec)
set_option linter.unusedVariables false

def mc0 : Mc := ⟨[], 0, ⟨#[]⟩, 0, [], 0, false, 0, 0, 0, []⟩
def wds (s : List UInt8) : List (List UInt8) := Lib.split s [32]
def numsP (s : List UInt8) : Option (List Int) := if (wds s).all (fun x => (rnP x).2) = true then some ((wds s).map fun x => (rnP x).1) else none
def rd (m : Mc) (b : List UInt8) : Nat → Option Mc
  | 0 => if rrB b = true then some { m with row := rrL b } else none
  | 1 => if rkB b = true then some { m with N := rkN b, S := bs (cutS 58 b) } else none
  | 2 => if (rnP b).2 = true then some { m with room := (rnP b).1 } else none
  | 3 => if rvB b = true then some { m with vals := rvL b } else none
  | 4 => if (rnP b).2 = true then some { m with ret := (rnP b).1 } else none
  | 5 => if (rnP b).2 = true then some { m with over := decide ((rnP b).1 = 1) } else none
  | 6 => match numsP b with
    | some [x, y, z] => some { m with steps := x, looks := y, hits := z }
    | _ => none
  | _ + 7 => if (rnP (cutS 32 b)).2 = true then some { m with memo := m.memo ++ [⟨bs (cutF 32 b), (rnP (cutS 32 b)).1⟩] } else none
def tkL (i : Nat) (m : Mc) (t : List UInt8) : Option Mc := if cutF 32 t = wd i then rd m (cutS 32 t) i else none
def rdAll : Nat → Nat → Mc → List UInt8 → Option Mc
  | 0, _, m, _ => some m
  | f + 1, i, m, r => if r = [] then some m else match tkL i m (cutF 10 r) with
    | none => none
    | some m' => rdAll f (i + 1) m' (cutS 10 r)
def rdS (s : List UInt8) : Option Mc := rdAll s.length 0 mc0 s

def lin0 (m : Mc) (i : Nat) : List UInt8 := wd i ++ (32 :: bod m i)
theorem lin_lin0 (m : Mc) (i : Nat) : lin m i = lin0 m i ++ [10] := by unfold lin lin0; simp
theorem wd_no32 (i : Nat) : ∀ c ∈ wd i, c ≠ 32 ∧ c ≠ 10 := by
  unfold wd
  split <;> decide
theorem itoa_no {n : Int} (h0 : -1 ≤ n) : ∀ c ∈ Lib.itoa n, c ≠ 32 ∧ c ≠ 10 := by
  intro c hc
  by_cases h : n = -1
  · subst h
    rw [itoa_neg] at hc
    simp at hc
    rcases hc with rfl | rfl <;> decide
  · obtain ⟨k, rfl⟩ := Int.eq_ofNat_of_zero_le (by omega : 0 ≤ n)
    rw [itoa_dec] at hc
    have := dec_all k c hc
    exact ⟨dig_not this (by decide), dig_not this (by decide)⟩
theorem rn_itoa {n : Int} (h0 : -1 ≤ n) (h1 : n ≤ 1000000000) : rnP (Lib.itoa n) = (n, true) := by
  by_cases h : n = -1
  · subst h; rw [itoa_neg]; exact rn_minus
  · obtain ⟨k, rfl⟩ := Int.eq_ofNat_of_zero_le (by omega : 0 ≤ n)
    rw [itoa_dec]
    exact rn_dec (by omega)
theorem row_no (l : List Bool) : ∀ c ∈ rowT l, c ≠ 32 ∧ c ≠ 10 := by
  intro c hc
  unfold rowT at hc
  split at hc
  · simp at hc; subst hc; decide
  · obtain ⟨b, _, rfl⟩ := List.mem_map.1 hc
    cases b <;> decide
theorem vt_no {l : List Int} (h : ∀ b ∈ l, bitB b = true) : ∀ c ∈ vt l, c ≠ 32 ∧ c ≠ 10 := by
  intro c hc
  unfold vt at hc
  split at hc
  · simp at hc; subst hc; decide
  · obtain ⟨b, hb, rfl⟩ := List.mem_map.1 hc
    unfold dgt
    split <;> decide
theorem key_no (n : Nat) (F : Nat → Bool) : ∀ c ∈ keyL n (tab n F), c ≠ 32 ∧ c ≠ 10 := by
  intro c hc
  unfold keyL at hc
  rcases List.mem_append.1 hc with h | h
  · have := dec_all n c h
    exact ⟨dig_not this (by decide), dig_not this (by decide)⟩
  · rcases List.mem_cons.1 h with rfl | h
    · decide
    · unfold tab at h
      obtain ⟨i, _, rfl⟩ := List.mem_map.1 h
      unfold sgn
      split <;> decide
theorem pl_no32 {s : List UInt8} (h : plB s = true) : ∀ c ∈ s, c ≠ 32 ∧ c ≠ 10 := by
  intro c hc
  rcases (of_decide_eq_true h).2 c hc with e | e
  · exact ⟨dig_not e (by decide), dig_not e (by decide)⟩
  · subst e; decide
theorem bit_in {x : Int} (h : 0 ≤ x ∧ x ≤ 1) : bitB x = true := by
  unfold bitB
  have : x = 0 ∨ x = 1 := by omega
  rcases this with rfl | rfl <;> rfl
theorem bod_no {m : Mc} (h : Mok m) (hk : ∀ x ∈ m.memo, plB (tl x.k) = true) (i : Nat) : ∀ c ∈ bod m i, c ≠ 10 := by
  match i with
  | 0 => exact fun c hc => (row_no _ c hc).2
  | 1 =>
    obtain ⟨n, F, hn, hN, hS⟩ := tok_tab h.tab
    intro c hc
    have hc : c ∈ keyL m.N.toNat (tl m.S) := hc
    rw [hN, hS, Int.toNat_natCast] at hc
    exact (key_no n F c hc).2
  | 2 => exact fun c hc => (itoa_no (n := m.room) (by have := h.room; omega) c hc).2
  | 3 => exact fun c hc => (vt_no (fun b hb => bit_in (h.bits b hb)) c hc).2
  | 4 => exact fun c hc => (itoa_no (n := m.ret) h.ret.1 c hc).2
  | 5 => exact fun c hc => (itoa_no (n := bI m.over) (by rcases bI_two m.over with e | e <;> omega) c hc).2
  | 6 =>
    intro c hc
    have hc : c ∈ Lib.itoa m.steps ++ (32 :: (Lib.itoa m.looks ++ (32 :: Lib.itoa m.hits))) := hc
    have n1 := itoa_no (n := m.steps) (by have := h.steps; omega)
    have n2 := itoa_no (n := m.looks) (by have := h.looks; omega)
    have n3 := itoa_no (n := m.hits) (by have := h.hits; omega)
    simp only [List.mem_append, List.mem_cons] at hc
    rcases hc with e | e | e | e | e
    · exact (n1 c e).2
    · subst e; decide
    · exact (n2 c e).2
    · subst e; decide
    · exact (n3 c e).2
  | k + 7 =>
    intro c hc
    have hc : c ∈ (match m.memo[k]? with
      | some x => tl x.k ++ (32 :: Lib.itoa x.r)
      | none => []) := hc
    cases hx : m.memo[k]? with
    | none => rw [hx] at hc; cases hc
    | some x =>
      rw [hx] at hc
      have hm := List.mem_of_getElem? hx
      have hc : c ∈ tl x.k ++ (32 :: Lib.itoa x.r) := hc
      simp only [List.mem_append, List.mem_cons] at hc
      rcases hc with e | e | e
      · exact (pl_no32 (hk x hm) c e).2
      · subst e; decide
      · exact (itoa_no (n := x.r) (by have := h.seen x hm; omega) c e).2
theorem cut_line {m : Mc} (h : Mok m) (hk : ∀ x ∈ m.memo, plB (tl x.k) = true) (i : Nat) (r : List UInt8) : cutF 10 (lin m i ++ r) = lin0 m i ∧ cutS 10 (lin m i ++ r) = r := by
  have e : lin m i ++ r = lin0 m i ++ (10 :: r) := by rw [lin_lin0]; simp
  rw [e]
  refine cut_app 10 _ _ (fun c hc => ?_)
  unfold lin0 at hc
  rcases List.mem_append.1 hc with e | e
  · exact (wd_no32 i c e).2
  · rcases List.mem_cons.1 e with rfl | e
    · decide
    · exact bod_no h hk i c e
theorem cut_word (m : Mc) (i : Nat) : cutF 32 (lin0 m i) = wd i ∧ cutS 32 (lin0 m i) = bod m i := cut_app 32 _ _ (fun c hc => (wd_no32 i c hc).1)

theorem idx_hit (d : UInt8) (a r : List UInt8) (h : ∀ c ∈ a, c ≠ d) : Lib.index (a ++ d :: r) [d] = (a.length : Int) := by
  induction a with
  | nil => simp [Lib.index, List.isPrefixOf]
  | cons c l ih =>
    have h1 := ih (fun x hx => h x (by simp [hx]))
    have hc : c ≠ d := h c (by simp)
    have e : Lib.index (c :: (l ++ d :: r)) [d] = if Lib.index (l ++ d :: r) [d] == -1 then -1 else Lib.index (l ++ d :: r) [d] + 1 := by
      conv => lhs; unfold Lib.index
      rw [if_neg (by simp [List.isPrefixOf]; exact fun z => hc z.symm)]
    rw [List.cons_append, e, h1, if_neg (by simp <;> omega)]
    simp
theorem idx_miss (d : UInt8) (s : List UInt8) (h : ∀ c ∈ s, c ≠ d) : Lib.index s [d] = -1 := by
  induction s with
  | nil => simp [Lib.index]
  | cons c l ih =>
    have h1 := ih (fun x hx => h x (by simp [hx]))
    have hc : c ≠ d := h c (by simp)
    have e : Lib.index (c :: l) [d] = if Lib.index l [d] == -1 then -1 else Lib.index l [d] + 1 := by
      conv => lhs; unfold Lib.index
      rw [if_neg (by simp [List.isPrefixOf]; exact fun z => hc z.symm)]
    rw [e, h1]
    rfl
theorem wds_one {s : List UInt8} (h : ∀ c ∈ s, c ≠ 32) : wds s = [s] := by
  unfold wds Lib.split
  rw [Lib.count_miss (idx_miss 32 s h)]
  rfl
theorem wds_more {a r : List UInt8} (h : ∀ c ∈ a, c ≠ 32) : wds (a ++ 32 :: r) = a :: wds r := by
  have hi := idx_hit 32 a r h
  have hd : (a ++ 32 :: r).drop (a.length + 1) = r := by
    rw [List.drop_append]
    simp
  unfold wds Lib.split
  have hc : Lib.count (a ++ 32 :: r) [32] = 1 + Lib.count r [32] := by
    have := Lib.count_hit (s := a ++ 32 :: r) (sub := [32]) (by simp) hi
    simpa [hd] using this
  rw [hc, Nat.add_comm]
  show (if Lib.index (a ++ 32 :: r) [32] == -1 then _ else _) = _
  rw [hi, if_neg (by simp <;> omega)]
  simp [hd]
theorem nums_three {x y z : Int} (hx : -1 ≤ x ∧ x ≤ 1000000000) (hy : -1 ≤ y ∧ y ≤ 1000000000) (hz : -1 ≤ z ∧ z ≤ 1000000000) : numsP (Lib.itoa x ++ (32 :: (Lib.itoa y ++ (32 :: Lib.itoa z)))) = some [x, y, z] := by
  unfold numsP
  rw [wds_more (fun c hc => (itoa_no hx.1 c hc).1), wds_more (fun c hc => (itoa_no hy.1 c hc).1), wds_one (fun c hc => (itoa_no hz.1 c hc).1)]
  simp [rn_itoa hx.1 hx.2, rn_itoa hy.1 hy.2, rn_itoa hz.1 hz.2]
def part (M : Mc) : Nat → Mc
  | 0 => mc0
  | 1 => { mc0 with row := M.row }
  | 2 => { mc0 with row := M.row, N := M.N, S := M.S }
  | 3 => { mc0 with row := M.row, N := M.N, S := M.S, room := M.room }
  | 4 => { mc0 with row := M.row, N := M.N, S := M.S, room := M.room, vals := M.vals }
  | 5 => { mc0 with row := M.row, N := M.N, S := M.S, room := M.room, vals := M.vals, ret := M.ret }
  | 6 => { mc0 with row := M.row, N := M.N, S := M.S, room := M.room, vals := M.vals, ret := M.ret, over := M.over }
  | k + 7 => { M with memo := M.memo.take k }
theorem rv_vt {l : List Int} (h : ∀ b ∈ l, bitB b = true) (hl : l.length ≤ 12) : rvB (vt l) = true ∧ rvL (vt l) = l := by
  by_cases h0 : l = []
  · subst h0; exact ⟨rfl, rfl⟩
  · have e : vt l = l.map dgt := if_neg h0
    have hne : l.map dgt ≠ [45] := by
      intro e
      obtain ⟨b, r, rfl⟩ := List.exists_cons_of_ne_nil h0
      rw [List.map_cons] at e
      have := (List.cons.inj e).1
      unfold dgt at this
      split at this <;> cases this
    have hun : (l.map dgt).map un = l := by
      rw [List.map_map]
      have : ∀ x ∈ l, (un ∘ dgt) x = x := fun x hx => un_dgt (h x hx)
      rw [List.map_congr_left this]
      simp
    rw [e]
    unfold rvB rvL
    rw [if_neg hne, if_neg hne, hun]
    refine ⟨?_, rfl⟩
    rw [decide_eq_true (by simpa using h0)]
    unfold Vo0.valB Vo0.allB
    simp only [Bool.true_and]
    rw [Bool.and_eq_true_iff]
    exact ⟨List.all_eq_true.2 h, by simp; omega⟩
theorem rd_step {M : Mc} (h : Mok M) (hk : ∀ x ∈ M.memo, plB (tl x.k) = true) (i : Nat) (hi : i < 7 + M.memo.length) : rd (part M i) (bod M i) i = some (part M (i + 1)) := by
  match i with
  | 0 =>
    obtain ⟨n, F, hn, hN, hS⟩ := tok_tab h.tab
    have hr := rr_row M.row (by have := h.row; omega)
    show (if rrB (rowT M.row) = true then some { part M 0 with row := rrL (rowT M.row) } else none) = _
    rw [hr.1, if_pos rfl, hr.2]
    rfl
  | 1 =>
    obtain ⟨n, F, hn, hN, hS⟩ := tok_tab h.tab
    have e : bod M 1 = keyL n (tab n F) := by show keyL M.N.toNat (tl M.S) = _; rw [hN, hS, Int.toNat_natCast]
    obtain ⟨k1, k2, k3⟩ := rk_key F hn
    rw [e]
    show (if rkB (keyL n (tab n F)) = true then some { part M 1 with N := rkN (keyL n (tab n F)), S := bs (cutS 58 (keyL n (tab n F))) } else none) = _
    rw [k1, if_pos rfl, k2, k3, ← hS, bs_tl, ← hN]
    rfl
  | 2 =>
    show (if (rnP (Lib.itoa M.room)).2 = true then some { part M 2 with room := (rnP (Lib.itoa M.room)).1 } else none) = _
    rw [rn_itoa (by have := h.room; omega) (by have := h.room; omega), if_pos rfl]
    rfl
  | 3 =>
    obtain ⟨n, F, hn, hN, hS⟩ := tok_tab h.tab
    have hv := rv_vt (l := M.vals) (fun b hb => bit_in (h.bits b hb)) (by have := h.vals; omega)
    show (if rvB (vt M.vals) = true then some { part M 3 with vals := rvL (vt M.vals) } else none) = _
    rw [hv.1, if_pos rfl, hv.2]
    rfl
  | 4 =>
    show (if (rnP (Lib.itoa M.ret)).2 = true then some { part M 4 with ret := (rnP (Lib.itoa M.ret)).1 } else none) = _
    rw [rn_itoa h.ret.1 (by have := h.ret; omega), if_pos rfl]
    rfl
  | 5 =>
    show (if (rnP (Lib.itoa (bI M.over))).2 = true then some { part M 5 with over := decide ((rnP (Lib.itoa (bI M.over))).1 = 1) } else none) = _
    rw [rn_itoa (by rcases bI_two M.over with e | e <;> omega) (by rcases bI_two M.over with e | e <;> omega), if_pos rfl]
    have : decide (bI M.over = 1) = M.over := by cases M.over <;> rfl
    show some { part M 5 with over := decide (bI M.over = 1) } = _
    rw [this]
    rfl
  | 6 =>
    show (match numsP (Lib.itoa M.steps ++ (32 :: (Lib.itoa M.looks ++ (32 :: Lib.itoa M.hits)))) with
      | some [x, y, z] => some { part M 6 with steps := x, looks := y, hits := z }
      | _ => none) = _
    rw [nums_three (by have := h.steps; omega) (by have := h.looks; omega) (by have := h.hits; omega)]
    show some _ = some { M with memo := M.memo.take 0 }
    rw [List.take_zero]
    rfl
  | k + 7 =>
    have hkl : k < M.memo.length := by omega
    have hm := List.getElem_mem hkl
    have e : bod M (k + 7) = tl M.memo[k].k ++ (32 :: Lib.itoa M.memo[k].r) := by
      show (match M.memo[k]? with
        | some x => tl x.k ++ (32 :: Lib.itoa x.r)
        | none => []) = _
      rw [List.getElem?_eq_getElem hkl]
    obtain ⟨c1, c2⟩ := cut_app 32 (tl M.memo[k].k) (Lib.itoa M.memo[k].r) (fun c hc => (pl_no32 (hk _ hm) c hc).1)
    have hs := h.seen _ hm
    rw [e]
    show (if (rnP (cutS 32 (tl M.memo[k].k ++ (32 :: Lib.itoa M.memo[k].r)))).2 = true then some { part M (k + 7) with memo := (part M (k + 7)).memo ++ [(⟨bs (cutF 32 (tl M.memo[k].k ++ (32 :: Lib.itoa M.memo[k].r))), (rnP (cutS 32 (tl M.memo[k].k ++ (32 :: Lib.itoa M.memo[k].r)))).1⟩ : Sn)] } else none) = _
    rw [c1, c2, rn_itoa (by omega) (by omega), if_pos rfl, bs_tl]
    show some { M with memo := M.memo.take k ++ [M.memo[k]] } = some { M with memo := M.memo.take (k + 1) }
    rw [List.take_succ_eq_append_getElem hkl]
theorem rd_from {M : Mc} (h : Mok M) (hk : ∀ x ∈ M.memo, plB (tl x.k) = true) : ∀ (j : Nat) (i f : Nat), i + j = 7 + M.memo.length → j ≤ f → rdAll f i (part M i) (((List.range' i j).map (lin M)).flatten) = some M := by
  intro j
  induction j with
  | zero =>
    intro i f hi _
    have e : part M i = M := by
      obtain rfl : i = M.memo.length + 7 := by omega
      show { M with memo := M.memo.take M.memo.length } = M
      rw [List.take_length]
    rw [e]
    cases f with
    | zero => rfl
    | succ f => rfl
  | succ j ih =>
    intro i f hi hf
    obtain ⟨f', rfl⟩ : ∃ f', f = f' + 1 := ⟨f - 1, by omega⟩
    rw [List.range'_succ, List.map_cons, List.flatten_cons]
    obtain ⟨c1, c2⟩ := cut_line h hk i (((List.range' (i + 1) j).map (lin M)).flatten)
    obtain ⟨d1, d2⟩ := cut_word M i
    show (if lin M i ++ _ = [] then _ else match tkL i (part M i) (cutF 10 (lin M i ++ _)) with
      | none => none
      | some m' => rdAll f' (i + 1) m' (cutS 10 (lin M i ++ _))) = _
    rw [if_neg (by rw [lin_lin0]; simp), c1, c2]
    have ht : tkL i (part M i) (lin0 M i) = some (part M (i + 1)) := by
      unfold tkL
      rw [d1, if_pos rfl, d2]
      exact rd_step h hk i (by omega)
    rw [ht]
    exact ih (i + 1) f' (by omega) (by omega)
theorem lin_pos (m : Mc) (i : Nat) : 1 ≤ (lin m i).length := by rw [lin_lin0]; simp
theorem rd_sav {M : Mc} (h : Mok M) (hk : ∀ x ∈ M.memo, plB (tl x.k) = true) : rdS (savT M) = some M := by
  have e : savT M = ((List.range' 0 (7 + M.memo.length)).map (lin M)).flatten := by
    unfold savT linTo
    rw [List.range_eq_range']
  have hl : ∀ (k i : Nat), k ≤ (((List.range' i k).map (lin M)).flatten).length := by
    intro k
    induction k with
    | zero => intro i; exact Nat.zero_le _
    | succ k ih =>
      intro i
      rw [List.range'_succ, List.map_cons, List.flatten_cons, List.length_append]
      have := ih (i + 1)
      have := lin_pos M i
      omega
  unfold rdS
  rw [e]
  exact rd_from h hk (7 + M.memo.length) 0 _ (by omega) (hl _ 0)
end Go.Proofs.YtmjmnfegaoegjaaGreatDoor.Zl0

/- The program's ReadKey. -/
namespace Go.Proofs.YtmjmnfegaoegjaaGreatDoor.Zk1
open Go.RowKit
open Nd0 (lt_of_cell)
open Ta1 (tab tokB tok_tab tab_length)
open Tc2 (tv iTableOk)
open Tc5 (Lay)
open Td2 (finT)
open Ss0 (bs bs_size)
open Ss1 (tl tl_bs bs_tl tl_length)
open Tk0 (keyL iKey)
open Zk0 Zt0
set_option linter.unusedVariables false

def RkP (S : ByteArray) (e : Ending) : Prop := e = .returned (.tuple #[tv (if rkB (tl S) = true then rkN (tl S) else 0) (bs (if rkB (tl S) = true then cutS 58 (tl S) else [])), .bool (rkB (tl S))])
theorem RkP.yes {S : ByteArray} {N : Int} {T : ByteArray} (h : rkB (tl S) = true) (hN : N = rkN (tl S)) (hT : T = bs (cutS 58 (tl S))) : RkP S (.returned (.tuple #[tv N T, .bool true])) := by
  unfold RkP
  rw [h, if_pos rfl, if_pos rfl, hN, hT]
theorem RkP.no {S : ByteArray} (h : rkB (tl S) = false) : RkP S (.returned (.tuple #[tv 0 ⟨#[]⟩, .bool false])) := by
  unfold RkP
  rw [h]
  rfl

set_option maxRecDepth 100000 in
set_option maxHeartbeats 4000000 in
theorem iReadKey (S : ByteArray) (w : World) (hT : TabZ w) (hs : S.size ≤ 1048576) :
    Calls Tryz.prog 14 #[.string S] w fun e w' => RkP S e ∧ Below w.heap.size w w' := by
  have HTZ : Hid (TabZ w) := hT
  obtain ⟨X0, hX0⟩ : ∃ X, X = w.alloc (.cells #[.int .i64 0, .string ⟨#[]⟩] 26) := ⟨_, rfl⟩
  have b0 : Below w.heap.size w X0 := by rw [hX0]; exact (Below.refl _ _).alloc (Nat.le_refl _) _
  have HB0 : Hid (Below w.heap.size w X0) := b0
  have HR0 : Hid (Lay X0 w.heap.size (.int .i64 0) (.string ⟨#[]⟩)) := by rw [hX0]; exact Lay.made _ _ _ _
  have hE : w.alloc (.cells #[.int .i64 0, .string ⟨#[]⟩] 26) = X0 := hX0.symm
  have HCU : Hid _ := iCut 58 S X0 (hT.below b0) hs
  have hl1 : (cutF 58 (tl S)).length ≤ 1048576 := by have := cutF_le 58 (tl S); rw [tl_length] at this; omega
  have hl2 : (cutS 58 (tl S)).length ≤ 1048576 := by have := cutS_le 58 (tl S); rw [tl_length] at this; omega
  have HRN : Hid (∀ W, TabZ W → Calls Tryz.prog 48 #[.string (bs (cutF 58 (tl S)))] W fun e w' => e = .returned (.tuple #[.int .i64 (rkN (tl S)), .bool (rnP (cutF 58 (tl S))).2]) ∧ Below W.heap.size W w') := fun W h => by
    have := iReadNumber (bs (cutF 58 (tl S))) W h (by rw [bs_size]; exact hl1)
    rw [tl_bs] at this
    exact this
  have HTO : Hid (∀ W, Calls Tryz.prog 42 #[tv (rkN (tl S)) (bs (cutS 58 (tl S)))] W fun e w' => e = .returned (.bool (tokB (rkN (tl S)) (cutS 58 (tl S)))) ∧ Below W.heap.size W w') := fun W => by
    have := iTableOk (rkN (tl S)) (bs (cutS 58 (tl S))) W (by rw [bs_size]; exact hl2)
    rw [tl_bs] at this
    exact this
  obtain ⟨rb, hrb⟩ : ∃ b, b = (rnP (cutF 58 (tl S))).2 := ⟨_, rfl⟩
  obtain ⟨tb, htb⟩ : ∃ b, b = tokB (rkN (tl S)) (cutS 58 (tl S)) := ⟨_, rfl⟩
  have HK : Hid (rkB (tl S) = (rb && (tb && decide (keyL (rkN (tl S)).toNat (cutS 58 (tl S)) = tl S)))) := by show _ = _; rw [hrb, htb]; rfl
  have HKY : Hid (tb = true → ∀ W, TabZ W → Calls Tryz.prog 49 #[tv (rkN (tl S)) (bs (cutS 58 (tl S)))] W fun e w' => e = .returned (.string (bs (keyL (rkN (tl S)).toNat (cutS 58 (tl S))))) ∧ Below W.heap.size W w') := fun ht W h => by
    rw [htb] at ht
    obtain ⟨n, F, hn, hN, hl⟩ := tok_tab ht
    rw [hN, hl, Int.toNat_natCast]
    exact iKey n F W hn h.pow
  rw [← hrb] at HRN
  rw [← htb] at HTO
  clear hX0 b0 hT hs hl1 hl2 hrb htb
  obtain ⟨N, hN⟩ : ∃ N, N = rkN (tl S) := ⟨_, rfl⟩
  have HN : Hid (N = rkN (tl S)) := hN
  obtain ⟨X, hX⟩ : ∃ X, X = bs (cutF 58 (tl S)) := ⟨_, rfl⟩
  obtain ⟨Y, hY⟩ : ∃ Y, Y = bs (cutS 58 (tl S)) := ⟨_, rfl⟩
  have HY : Hid (Y = bs (cutS 58 (tl S))) := hY
  obtain ⟨KS, hKS⟩ : ∃ K, K = bs (keyL (rkN (tl S)).toNat (cutS 58 (tl S))) := ⟨_, rfl⟩
  have HKS : Hid (KS = bs (keyL (rkN (tl S)).toNat (cutS 58 (tl S)))) := hKS
  rw [← hX, ← hY] at HCU
  rw [← hX, ← hN] at HRN
  rw [← hY, ← hN] at HTO
  rw [← hKS, ← hY, ← hN] at HKY
  clear hN hX hY hKS
  go_enter Tryz.func14, Tryz.ntmps14
  go_upto_region 1 with fail
  clear hE
  go_wp2_with fail
  refine Calls.mono HCU.out ?_
  rintro e w1 ⟨⟨cb, rfl⟩, hb⟩
  have HB1 : Hid (Below w.heap.size w w1) := HB0.out.trans (hb.mono HB0.out.size)
  have HR1 : Hid (Lay w1 w.heap.size (.int .i64 0) (.string ⟨#[]⟩)) := HR0.out.below hb
  clear hb HB0 HR0 HCU
  go_wp2_with fail
  refine (HRN.out _ (HTZ.out.below HB1.out)).mono ?_
  rintro e w2 ⟨rfl, hb⟩
  have HB2 : Hid (Below w.heap.size w w2) := HB1.out.trans (hb.mono HB1.out.size)
  have HR2 : Hid (Lay w2 w.heap.size (.int .i64 0) (.string ⟨#[]⟩)) := HR1.out.below hb
  clear hb HB1 HR1 HRN
  go_upto_region 4 with fail
  obtain ⟨W3, hW3⟩ : ∃ X, X = w2.alloc (.cells #[.int .i64 N, .string Y] 26) := ⟨_, rfl⟩
  obtain ⟨q, hq⟩ : ∃ q, q = w2.heap.size := ⟨_, rfl⟩
  have hb : Below w2.heap.size w2 W3 := by rw [hW3]; exact (Below.refl _ _).alloc (Nat.le_refl _) _
  have HT3 : Hid (Lay W3 q (.int .i64 N) (.string Y)) := by rw [hW3, hq]; exact Lay.made _ _ _ _
  have HB3 : Hid (Below w.heap.size w W3) := HB2.out.trans (hb.mono HB2.out.size)
  have HR3 : Hid (Lay W3 w.heap.size (.int .i64 0) (.string ⟨#[]⟩)) := HR2.out.below hb
  rw [← hW3, ← hq]
  clear hb hW3 hq HB2 HR2
  cases rb
  · have HF : Hid (rkB (tl S) = false) := by show _ = _; rw [HK.out]; rfl
    have HFN : Hid _ := finT HR3.out HB3.out (Nat.le_refl _) (.int .i64 0) (.string ⟨#[]⟩)
    obtain ⟨r0, r1, r2, r3⟩ := HR3.out
    go_wp2
    obtain ⟨W, hW, hz, hbz⟩ := HFN.out
    rw [← hW]
    obtain ⟨z0, z1, _, _⟩ := hz
    exact bodyPost_ret (v := .tuple #[tv 0 ⟨#[]⟩, .bool false]) (by simp [results, Tryz.results14, go_sem, z0, z1]) rfl ⟨RkP.no HF.out, hbz⟩
  cases tb
  · have HF : Hid (rkB (tl S) = false) := by show _ = _; rw [HK.out]; rfl
    obtain ⟨t0, t1, _, _⟩ := HT3.out
    go_wp2_with fail
    clear t0 t1
    refine (HTO.out _).mono ?_
    rintro e w4 ⟨rfl, hb⟩
    have HB4 : Hid (Below w.heap.size w w4) := HB3.out.trans (hb.mono HB3.out.size)
    have HR4 : Hid (Lay w4 w.heap.size (.int .i64 0) (.string ⟨#[]⟩)) := HR3.out.below hb
    clear hb
    have HFN : Hid _ := finT HR4.out HB4.out (Nat.le_refl _) (.int .i64 0) (.string ⟨#[]⟩)
    obtain ⟨r0, r1, r2, r3⟩ := HR4.out
    go_wp2
    obtain ⟨W, hW, hz, hbz⟩ := HFN.out
    rw [← hW]
    obtain ⟨z0, z1, _, _⟩ := hz
    exact bodyPost_ret (v := .tuple #[tv 0 ⟨#[]⟩, .bool false]) (by simp [results, Tryz.results14, go_sem, z0, z1]) rfl ⟨RkP.no HF.out, hbz⟩
  have HKY2 : Hid _ := HKY.out rfl
  clear HKY
  obtain ⟨t0, t1, _, _⟩ := HT3.out
  go_wp2_with fail
  clear t0 t1
  refine (HTO.out _).mono ?_
  rintro e w4 ⟨rfl, hb⟩
  have HB4 : Hid (Below w.heap.size w w4) := HB3.out.trans (hb.mono HB3.out.size)
  have HR4 : Hid (Lay w4 w.heap.size (.int .i64 0) (.string ⟨#[]⟩)) := HR3.out.below hb
  have HT4 : Hid (Lay w4 q (.int .i64 N) (.string Y)) := HT3.out.below hb
  clear hb HB3 HR3 HT3
  obtain ⟨t0, t1, _, _⟩ := HT4.out
  go_wp2_with fail
  clear t0 t1
  refine (HKY2.out _ (HTZ.out.below HB4.out)).mono ?_
  rintro e w5 ⟨rfl, hb⟩
  have HB5 : Hid (Below w.heap.size w w5) := HB4.out.trans (hb.mono HB4.out.size)
  have HR5 : Hid (Lay w5 w.heap.size (.int .i64 0) (.string ⟨#[]⟩)) := HR4.out.below hb
  have HT5 : Hid (Lay w5 q (.int .i64 N) (.string Y)) := HT4.out.below hb
  clear hb HB4 HR4 HT4
  by_cases hk : keyL (rkN (tl S)).toNat (cutS 58 (tl S)) = tl S
  · have HF : Hid (rkB (tl S) = true) := by show _ = _; rw [HK.out, decide_eq_true hk]; rfl
    have hne : (KS.toList == S.toList) = true := Ss1.eqb_true (by rw [HKS.out, tl_bs, hk])
    have HFN : Hid _ := finT HR5.out HB5.out (Nat.le_refl _) (.int .i64 N) (.string Y)
    clear hk
    obtain ⟨t0, t1, _, _⟩ := HT5.out
    obtain ⟨r0, r1, r2, r3⟩ := HR5.out
    have hq1 := HT5.out.lt
    go_wp2
    obtain ⟨W, hW, hz, hbz⟩ := HFN.out
    rw [← hW]
    obtain ⟨z0, z1, _, _⟩ := hz
    exact bodyPost_ret (v := .tuple #[tv N Y, .bool true]) (by simp [results, Tryz.results14, go_sem, z0, z1]) rfl ⟨RkP.yes HF.out HN.out HY.out, hbz⟩
  · have HF : Hid (rkB (tl S) = false) := by show _ = _; rw [HK.out, decide_eq_false hk]; rfl
    have hne : (KS.toList == S.toList) = false := Ss1.eqb_false (by rw [HKS.out, tl_bs]; exact hk)
    have HFN : Hid _ := finT HR5.out HB5.out (Nat.le_refl _) (.int .i64 0) (.string ⟨#[]⟩)
    clear hk
    obtain ⟨r0, r1, r2, r3⟩ := HR5.out
    go_wp2
    obtain ⟨W, hW, hz, hbz⟩ := HFN.out
    rw [← hW]
    obtain ⟨z0, z1, _, _⟩ := hz
    exact bodyPost_ret (v := .tuple #[tv 0 ⟨#[]⟩, .bool false]) (by simp [results, Tryz.results14, go_sem, z0, z1]) rfl ⟨RkP.no HF.out, hbz⟩
end Go.Proofs.YtmjmnfegaoegjaaGreatDoor.Zk1
