/- Small texts of mine, one behind the other. -/
import Derived.Lib.Split
import Derived.Test.YtmfpbhjmnadpkaaGreatDoorPkU18
/- Reading a pick, as plain data. -/
namespace Go.Proofs.YtmfpbhjmnadpkaaGreatDoor.Wp3
open Go.RowKit
open Ta2 (bitB)
open Vo0 (allB valB)
open Ss0 (bs bs_size bs_app bs_inj)
open Wp1
set_option linter.unusedVariables false

def un (c : UInt8) : Int := (c.toNat : Int) - 48
/-- t is the text of the pick (l, v). -/
def okT (t : List UInt8) (l : List Int) (v : Int) : Prop := pkB l v = true ∧ t = vt l ++ [32, dgt v]
theorem un_dgt {b : Int} (h : bitB b = true) : un (dgt b) = b := by
  rcases bit_two h with rfl | rfl <;> rfl
theorem dgt_un {c : UInt8} (h : bitB (un c) = true) : dgt (un c) = c := by
  have hb := bit_two h
  unfold un at hb ⊢
  apply UInt8.toNat_inj.1
  rcases hb with e | e
  · rw [e]; show 48 = _; omega
  · rw [e]; show 49 = _; omega
theorem dgt_two (b : Int) : dgt b = 48 ∨ dgt b = 49 := by unfold dgt; split <;> simp
theorem val_mem {l : List Int} (h : valB l 12 = true) : (∀ b ∈ l, bitB b = true) ∧ l.length ≤ 12 := by
  unfold valB allB at h
  simp at h
  exact ⟨h.1, by omega⟩
theorem map_back {l : List Int} (h : ∀ b ∈ l, bitB b = true) : (l.map dgt).map un = l := by
  rw [List.map_map]
  conv => rhs; rw [← List.map_id l]
  exact List.map_congr_left fun b hb => un_dgt (h b hb)
theorem map_fore {x : List UInt8} (h : ∀ b ∈ x.map un, bitB b = true) : (x.map un).map dgt = x := by
  rw [List.map_map]
  conv => rhs; rw [← List.map_id x]
  exact List.map_congr_left fun c hc => dgt_un (h _ (List.mem_map_of_mem hc))
theorem vt_no (l : List Int) : ∀ c ∈ vt l, (c != 32) = true := by
  intro c hc
  unfold vt at hc
  split at hc
  · rw [List.mem_singleton.1 hc]; rfl
  · obtain ⟨b, _, rfl⟩ := List.mem_map.1 hc
    rcases dgt_two b with e | e <;> rw [e] <;> rfl
/-- Values read from a text. -/
def rvL (x : List UInt8) : List Int := if x = [45] then [] else x.map un
def rvB (x : List UInt8) : Bool := if x = [45] then true else decide (x ≠ []) && valB (x.map un) 12
theorem rv_ok {x : List UInt8} (h : rvB x = true) : x = vt (rvL x) ∧ valB (rvL x) 12 = true := by
  unfold rvB at h
  unfold rvL
  by_cases e : x = [45]
  · rw [if_pos e]
    exact ⟨e, rfl⟩
  · rw [if_neg e] at h ⊢
    obtain ⟨h1, h2⟩ := Bool.and_eq_true_iff.1 h
    have h1' : x ≠ [] := of_decide_eq_true h1
    refine ⟨?_, h2⟩
    unfold vt
    rw [if_neg (by intro c; exact h1' (List.map_eq_nil_iff.1 c)), map_fore (val_mem h2).1]
theorem vt_not {l : List Int} (h : l ≠ []) : vt l ≠ [45] := by
  unfold vt
  rw [if_neg h]
  intro e
  cases l with
  | nil => exact h rfl
  | cons b r =>
    have := (List.cons.inj e).1
    rcases dgt_two b with e | e <;> rw [e] at this <;> exact absurd this (by decide)
theorem rv_of {l : List Int} (h : valB l 12 = true) : rvL (vt l) = l ∧ rvB (vt l) = true := by
  unfold rvL rvB
  by_cases e : l = []
  · subst e
    exact ⟨rfl, rfl⟩
  · have e2 : vt l = l.map dgt := by unfold vt; exact if_neg e
    rw [if_neg (vt_not e), if_neg (vt_not e), e2, map_back (val_mem h).1]
    refine ⟨rfl, ?_⟩
    rw [h, Bool.and_true]
    exact decide_eq_true (by intro c; exact e (List.map_eq_nil_iff.1 c))
/-- The part ahead of the first blank, and what stands behind it. -/
def fstT (t : List UInt8) : List UInt8 := t.takeWhile (fun c => c != 32)
def sndT (t : List UInt8) : List UInt8 := (t.dropWhile (fun c => c != 32)).drop 1
theorem cut_split {x : List UInt8} (h : ∀ c ∈ x, (c != 32) = true) (y : List UInt8) : fstT (x ++ 32 :: y) = x ∧ sndT (x ++ 32 :: y) = y := by
  unfold fstT sndT
  induction x with
  | nil => exact ⟨by simp, by simp⟩
  | cons c r ih =>
    have hc := h c List.mem_cons_self
    obtain ⟨i1, i2⟩ := ih fun d hd => h d (List.mem_cons_of_mem _ hd)
    refine ⟨?_, ?_⟩
    · rw [List.cons_append, List.takeWhile_cons_of_pos (p := fun c => c != 32) hc, i1]
    · rw [List.cons_append, List.dropWhile_cons_of_pos (p := fun c => c != 32) hc, i2]
theorem cut_join {t : List UInt8} (h : sndT t ≠ []) : t = fstT t ++ 32 :: sndT t := by
  unfold fstT sndT at *
  induction t with
  | nil => exact absurd rfl h
  | cons c r ih =>
    by_cases hc : (c != 32) = true
    · rw [List.dropWhile_cons_of_pos (p := fun c => c != 32) hc] at h ⊢
      rw [List.takeWhile_cons_of_pos (p := fun c => c != 32) hc, List.cons_append, ← ih h]
    · have hc' : c = 32 := by simpa using hc
      rw [List.dropWhile_cons_of_neg (p := fun c => c != 32) hc, List.takeWhile_cons_of_neg (p := fun c => c != 32) hc, hc']
      rfl
/-- What the program reads. -/
def okP (t : List UInt8) : Bool := rvB (fstT t) && rvB (sndT t) && decide ((rvL (sndT t)).length = 1)
theorem one_of {l : List Int} (h : l.length = 1) : l = [l.getD 0 0] := by
  match l, h with
  | [x], _ => rfl
theorem readP_ok {t : List UInt8} (h : okP t = true) : okT t (rvL (fstT t)) ((rvL (sndT t)).getD 0 0) := by
  unfold okP at h
  obtain ⟨h12, h3⟩ := Bool.and_eq_true_iff.1 h
  obtain ⟨h1, h2⟩ := Bool.and_eq_true_iff.1 h12
  have h3' : (rvL (sndT t)).length = 1 := of_decide_eq_true h3
  obtain ⟨a1, a2⟩ := rv_ok h1
  obtain ⟨b1, b2⟩ := rv_ok h2
  have hone := one_of h3'
  have hv : bitB ((rvL (sndT t)).getD 0 0) = true := (val_mem b2).1 _ (by rw [hone]; simp)
  have hs : sndT t = [dgt ((rvL (sndT t)).getD 0 0)] := by
    conv => lhs; rw [b1, hone]
    rfl
  refine ⟨?_, ?_⟩
  · unfold pkB
    rw [a2, hv]
    rfl
  · have hj := cut_join (t := t) (by rw [hs]; simp)
    conv => lhs; rw [hj, hs]
    conv => lhs; rw [a1]
theorem okT_read {t : List UInt8} {l : List Int} {v : Int} (h : okT t l v) : fstT t = vt l ∧ sndT t = [dgt v] := by
  rw [h.2]
  exact cut_split (vt_no l) [dgt v]
theorem okT_P {t : List UInt8} {l : List Int} {v : Int} (h : okT t l v) : okP t = true ∧ rvL (fstT t) = l ∧ (rvL (sndT t)).getD 0 0 = v := by
  obtain ⟨h1, h2⟩ := okT_read h
  have hp := h.1
  unfold pkB at hp
  obtain ⟨p1, p2⟩ := Bool.and_eq_true_iff.1 hp
  obtain ⟨a1, a2⟩ := rv_of p1
  have hv1 : valB [v] 12 = true := by unfold valB allB; simp [p2]
  obtain ⟨b1, b2⟩ := rv_of hv1
  have e : vt [v] = [dgt v] := by unfold vt; simp
  rw [e] at b1 b2
  unfold okP
  rw [h1, h2, a1, a2, b1, b2]
  exact ⟨rfl, rfl, rfl⟩
/-- What the model reads. -/
def mL (t : List UInt8) : List Int := if t.getD 0 0 = 45 then [] else (t.take (t.length - 2)).map un
def mV (t : List UInt8) : Int := un (t.getD (t.length - 1) 0)
theorem okT_len {t : List UInt8} {l : List Int} {v : Int} (h : okT t l v) : 3 ≤ t.length ∧ t.length ≤ 15 := by
  have hp := h.1
  unfold pkB at hp
  have hl := (val_mem (Bool.and_eq_true_iff.1 hp).1).2
  have h1 := vt_len l
  rw [h.2, List.length_append]
  simp
  omega
theorem okT_M {t : List UInt8} {l : List Int} {v : Int} (h : okT t l v) : mL t = l ∧ mV t = v := by
  have hp := h.1
  unfold pkB at hp
  obtain ⟨p1, p2⟩ := Bool.and_eq_true_iff.1 hp
  have hb := (val_mem p1).1
  have ht := h.2
  have hlen : t.length = (vt l).length + 2 := by rw [ht, List.length_append]; rfl
  constructor
  · unfold mL
    by_cases e : l = []
    · subst e
      rw [if_pos (by rw [ht]; rfl)]
    · have e2 : vt l = l.map dgt := by unfold vt; exact if_neg e
      have h0 : t.getD 0 0 ≠ 45 := by
        cases l with
        | nil => exact absurd rfl e
        | cons b r =>
          rw [ht, e2]
          show dgt b ≠ 45
          rcases dgt_two b with e | e <;> rw [e] <;> decide
      rw [if_neg h0, hlen, Nat.add_sub_cancel, ht, List.take_left', e2, map_back hb]
      rfl
  · unfold mV
    rw [hlen, ht]
    have : (vt l ++ [32, dgt v]).getD ((vt l).length + 2 - 1) 0 = dgt v := by
      simp [List.getD]
    rw [this, un_dgt p2]
theorem pk_ok {t : List UInt8} {l : List Int} {v : Int} (ht : 1 ≤ t.length) (h : pkT l v = bs t) : okT t l v := by
  unfold pkT at h
  by_cases e : pkB l v = true
  · rw [if_pos e] at h
    have := bs_inj h
    exact ⟨e, by rw [← this, List.append_assoc]; rfl⟩
  · rw [if_neg e] at h
    have := congrArg ByteArray.size h
    rw [bs_size] at this
    have e0 : (⟨#[]⟩ : ByteArray).size = 0 := rfl
    omega
theorem ok_pk {t : List UInt8} {l : List Int} {v : Int} (h : okT t l v) : pkT l v = bs t := by
  unfold pkT
  rw [if_pos h.1, h.2, List.append_assoc]
  rfl
end Go.Proofs.YtmfpbhjmnadpkaaGreatDoor.Wp3

/- A machine read from its text: plain, as the program reads. -/
namespace Go.Proofs.YtmfpbhjmnadpkaaGreatDoor.Zl0
open Go.RowKit
open Tx0 Ta1 Za0 Za1 Zk0 Zs0
open Mm0 (Mc Mok)
open Mm2 (mokB)
open Qc0 (Sn)
open Ta2 (bitB)
open Wp1 (vt dgt)
open Wp3 (rvB rvL un un_dgt)
open Ss0 (bs bs_size)
open Ss1 (tl tl_bs bs_tl tl_length)
open Tk0 (keyL itoa_dec)
set_option linter.unusedVariables false

/-- The zero machine. -/
def mc0 : Mc := ⟨[], 0, ⟨#[]⟩, 0, [], 0, false, 0, 0, 0, []⟩
/-- The words of a text, and the numbers that they are. -/
def wds (s : List UInt8) : List (List UInt8) := Lib.split s [32]
def numsP (s : List UInt8) : Option (List Int) := if (wds s).all (fun x => (rnP x).2) = true then some ((wds s).map fun x => (rnP x).1) else none
/-- What line i makes of a machine. -/
def rd (m : Mc) (b : List UInt8) : Nat → Option Mc
  | 0 => if rrB b = true then some { m with row := rrL b } else none
  | 1 => if rkB b = true then some { m with N := rkN b, S := bs (cutS 58 b) } else none
  | 2 => if (rnP b).2 = true then some { m with room := (rnP b).1 } else none
  | 3 => if rvB b = true then some { m with vals := rvL b } else none
  | 4 => if (rnP b).2 = true then some { m with ret := (rnP b).1 } else none
  | 5 => if (rnP b).2 = true then some { m with over := decide ((rnP b).1 = 1) } else none
  | 6 => match numsP b with
    | some [x, y, z] => some { m with steps := x, looks := y, hits := z }
    | _ => none
  | _ + 7 => if (rnP (cutS 32 b)).2 = true then some { m with memo := m.memo ++ [⟨bs (cutF 32 b), (rnP (cutS 32 b)).1⟩] } else none
def tkL (i : Nat) (m : Mc) (t : List UInt8) : Option Mc := if cutF 32 t = wd i then rd m (cutS 32 t) i else none
def rdAll : Nat → Nat → Mc → List UInt8 → Option Mc
  | 0, _, m, _ => some m
  | f + 1, i, m, r => if r = [] then some m else match tkL i m (cutF 10 r) with
    | none => none
    | some m' => rdAll f (i + 1) m' (cutS 10 r)
def rdS (s : List UInt8) : Option Mc := rdAll s.length 0 mc0 s

/-- A line without its end. -/
def lin0 (m : Mc) (i : Nat) : List UInt8 := wd i ++ (32 :: bod m i)
theorem lin_lin0 (m : Mc) (i : Nat) : lin m i = lin0 m i ++ [10] := by unfold lin lin0; simp
theorem wd_no32 (i : Nat) : ∀ c ∈ wd i, c ≠ 32 ∧ c ≠ 10 := by
  unfold wd
  split <;> decide
theorem itoa_no {n : Int} (h0 : -1 ≤ n) : ∀ c ∈ Lib.itoa n, c ≠ 32 ∧ c ≠ 10 := by
  intro c hc
  by_cases h : n = -1
  · subst h
    rw [itoa_neg] at hc
    simp at hc
    rcases hc with rfl | rfl <;> decide
  · obtain ⟨k, rfl⟩ := Int.eq_ofNat_of_zero_le (by omega : 0 ≤ n)
    rw [itoa_dec] at hc
    have := dec_all k c hc
    exact ⟨dig_not this (by decide), dig_not this (by decide)⟩
theorem rn_itoa {n : Int} (h0 : -1 ≤ n) (h1 : n ≤ 1000000000) : rnP (Lib.itoa n) = (n, true) := by
  by_cases h : n = -1
  · subst h; rw [itoa_neg]; exact rn_minus
  · obtain ⟨k, rfl⟩ := Int.eq_ofNat_of_zero_le (by omega : 0 ≤ n)
    rw [itoa_dec]
    exact rn_dec (by omega)
theorem row_no (l : List Bool) : ∀ c ∈ rowT l, c ≠ 32 ∧ c ≠ 10 := by
  intro c hc
  unfold rowT at hc
  split at hc
  · simp at hc; subst hc; decide
  · obtain ⟨b, _, rfl⟩ := List.mem_map.1 hc
    cases b <;> decide
theorem vt_no {l : List Int} (h : ∀ b ∈ l, bitB b = true) : ∀ c ∈ vt l, c ≠ 32 ∧ c ≠ 10 := by
  intro c hc
  unfold vt at hc
  split at hc
  · simp at hc; subst hc; decide
  · obtain ⟨b, hb, rfl⟩ := List.mem_map.1 hc
    unfold dgt
    split <;> decide
theorem key_no (n : Nat) (F : Nat → Bool) : ∀ c ∈ keyL n (tab n F), c ≠ 32 ∧ c ≠ 10 := by
  intro c hc
  unfold keyL at hc
  rcases List.mem_append.1 hc with h | h
  · have := dec_all n c h
    exact ⟨dig_not this (by decide), dig_not this (by decide)⟩
  · rcases List.mem_cons.1 h with rfl | h
    · decide
    · unfold tab at h
      obtain ⟨i, _, rfl⟩ := List.mem_map.1 h
      unfold sgn
      split <;> decide
theorem pl_no32 {s : List UInt8} (h : plB s = true) : ∀ c ∈ s, c ≠ 32 ∧ c ≠ 10 := by
  intro c hc
  rcases (of_decide_eq_true h).2 c hc with e | e
  · exact ⟨dig_not e (by decide), dig_not e (by decide)⟩
  · subst e; decide
theorem bit_in {x : Int} (h : 0 ≤ x ∧ x ≤ 1) : bitB x = true := by
  unfold bitB
  have : x = 0 ∨ x = 1 := by omega
  rcases this with rfl | rfl <;> rfl
theorem bod_no {m : Mc} (h : Mok m) (hk : ∀ x ∈ m.memo, plB (tl x.k) = true) (i : Nat) : ∀ c ∈ bod m i, c ≠ 10 := by
  match i with
  | 0 => exact fun c hc => (row_no _ c hc).2
  | 1 =>
    obtain ⟨n, F, hn, hN, hS⟩ := tok_tab h.tab
    intro c hc
    have hc : c ∈ keyL m.N.toNat (tl m.S) := hc
    rw [hN, hS, Int.toNat_natCast] at hc
    exact (key_no n F c hc).2
  | 2 => exact fun c hc => (itoa_no (n := m.room) (by have := h.room; omega) c hc).2
  | 3 => exact fun c hc => (vt_no (fun b hb => bit_in (h.bits b hb)) c hc).2
  | 4 => exact fun c hc => (itoa_no (n := m.ret) h.ret.1 c hc).2
  | 5 => exact fun c hc => (itoa_no (n := bI m.over) (by rcases bI_two m.over with e | e <;> omega) c hc).2
  | 6 =>
    intro c hc
    have hc : c ∈ Lib.itoa m.steps ++ (32 :: (Lib.itoa m.looks ++ (32 :: Lib.itoa m.hits))) := hc
    have n1 := itoa_no (n := m.steps) (by have := h.steps; omega)
    have n2 := itoa_no (n := m.looks) (by have := h.looks; omega)
    have n3 := itoa_no (n := m.hits) (by have := h.hits; omega)
    simp only [List.mem_append, List.mem_cons] at hc
    rcases hc with e | e | e | e | e
    · exact (n1 c e).2
    · subst e; decide
    · exact (n2 c e).2
    · subst e; decide
    · exact (n3 c e).2
  | k + 7 =>
    intro c hc
    have hc : c ∈ (match m.memo[k]? with
      | some x => tl x.k ++ (32 :: Lib.itoa x.r)
      | none => []) := hc
    cases hx : m.memo[k]? with
    | none => rw [hx] at hc; cases hc
    | some x =>
      rw [hx] at hc
      have hm := List.mem_of_getElem? hx
      have hc : c ∈ tl x.k ++ (32 :: Lib.itoa x.r) := hc
      simp only [List.mem_append, List.mem_cons] at hc
      rcases hc with e | e | e
      · exact (pl_no32 (hk x hm) c e).2
      · subst e; decide
      · exact (itoa_no (n := x.r) (by have := h.seen x hm; omega) c e).2
theorem cut_line {m : Mc} (h : Mok m) (hk : ∀ x ∈ m.memo, plB (tl x.k) = true) (i : Nat) (r : List UInt8) : cutF 10 (lin m i ++ r) = lin0 m i ∧ cutS 10 (lin m i ++ r) = r := by
  have e : lin m i ++ r = lin0 m i ++ (10 :: r) := by rw [lin_lin0]; simp
  rw [e]
  refine cut_app 10 _ _ (fun c hc => ?_)
  unfold lin0 at hc
  rcases List.mem_append.1 hc with e | e
  · exact (wd_no32 i c e).2
  · rcases List.mem_cons.1 e with rfl | e
    · decide
    · exact bod_no h hk i c e
theorem cut_word (m : Mc) (i : Nat) : cutF 32 (lin0 m i) = wd i ∧ cutS 32 (lin0 m i) = bod m i := cut_app 32 _ _ (fun c hc => (wd_no32 i c hc).1)

theorem idx_hit (d : UInt8) (a r : List UInt8) (h : ∀ c ∈ a, c ≠ d) : Lib.index (a ++ d :: r) [d] = (a.length : Int) := by
  induction a with
  | nil => simp [Lib.index, List.isPrefixOf]
  | cons c l ih =>
    have h1 := ih (fun x hx => h x (by simp [hx]))
    have hc : c ≠ d := h c (by simp)
    have e : Lib.index (c :: (l ++ d :: r)) [d] = if Lib.index (l ++ d :: r) [d] == -1 then -1 else Lib.index (l ++ d :: r) [d] + 1 := by
      conv => lhs; unfold Lib.index
      rw [if_neg (by simp [List.isPrefixOf]; exact fun z => hc z.symm)]
    rw [List.cons_append, e, h1, if_neg (by simp <;> omega)]
    simp
theorem idx_miss (d : UInt8) (s : List UInt8) (h : ∀ c ∈ s, c ≠ d) : Lib.index s [d] = -1 := by
  induction s with
  | nil => simp [Lib.index]
  | cons c l ih =>
    have h1 := ih (fun x hx => h x (by simp [hx]))
    have hc : c ≠ d := h c (by simp)
    have e : Lib.index (c :: l) [d] = if Lib.index l [d] == -1 then -1 else Lib.index l [d] + 1 := by
      conv => lhs; unfold Lib.index
      rw [if_neg (by simp [List.isPrefixOf]; exact fun z => hc z.symm)]
    rw [e, h1]
    rfl
theorem wds_one {s : List UInt8} (h : ∀ c ∈ s, c ≠ 32) : wds s = [s] := by
  unfold wds Lib.split
  rw [Lib.count_miss (idx_miss 32 s h)]
  rfl
theorem wds_more {a r : List UInt8} (h : ∀ c ∈ a, c ≠ 32) : wds (a ++ 32 :: r) = a :: wds r := by
  have hi := idx_hit 32 a r h
  have hd : (a ++ 32 :: r).drop (a.length + 1) = r := by
    rw [List.drop_append]
    simp
  unfold wds Lib.split
  have hc : Lib.count (a ++ 32 :: r) [32] = 1 + Lib.count r [32] := by
    have := Lib.count_hit (s := a ++ 32 :: r) (sub := [32]) (by simp) hi
    simpa [hd] using this
  rw [hc, Nat.add_comm]
  show (if Lib.index (a ++ 32 :: r) [32] == -1 then _ else _) = _
  rw [hi, if_neg (by simp <;> omega)]
  simp [hd]
theorem nums_three {x y z : Int} (hx : -1 ≤ x ∧ x ≤ 1000000000) (hy : -1 ≤ y ∧ y ≤ 1000000000) (hz : -1 ≤ z ∧ z ≤ 1000000000) : numsP (Lib.itoa x ++ (32 :: (Lib.itoa y ++ (32 :: Lib.itoa z)))) = some [x, y, z] := by
  unfold numsP
  rw [wds_more (fun c hc => (itoa_no hx.1 c hc).1), wds_more (fun c hc => (itoa_no hy.1 c hc).1), wds_one (fun c hc => (itoa_no hz.1 c hc).1)]
  simp [rn_itoa hx.1 hx.2, rn_itoa hy.1 hy.2, rn_itoa hz.1 hz.2]
/-- What has been read of M when the first i lines are read. -/
def part (M : Mc) : Nat → Mc
  | 0 => mc0
  | 1 => { mc0 with row := M.row }
  | 2 => { mc0 with row := M.row, N := M.N, S := M.S }
  | 3 => { mc0 with row := M.row, N := M.N, S := M.S, room := M.room }
  | 4 => { mc0 with row := M.row, N := M.N, S := M.S, room := M.room, vals := M.vals }
  | 5 => { mc0 with row := M.row, N := M.N, S := M.S, room := M.room, vals := M.vals, ret := M.ret }
  | 6 => { mc0 with row := M.row, N := M.N, S := M.S, room := M.room, vals := M.vals, ret := M.ret, over := M.over }
  | k + 7 => { M with memo := M.memo.take k }
theorem rv_vt {l : List Int} (h : ∀ b ∈ l, bitB b = true) (hl : l.length ≤ 12) : rvB (vt l) = true ∧ rvL (vt l) = l := by
  by_cases h0 : l = []
  · subst h0; exact ⟨rfl, rfl⟩
  · have e : vt l = l.map dgt := if_neg h0
    have hne : l.map dgt ≠ [45] := by
      intro e
      obtain ⟨b, r, rfl⟩ := List.exists_cons_of_ne_nil h0
      rw [List.map_cons] at e
      have := (List.cons.inj e).1
      unfold dgt at this
      split at this <;> cases this
    have hun : (l.map dgt).map un = l := by
      rw [List.map_map]
      have : ∀ x ∈ l, (un ∘ dgt) x = x := fun x hx => un_dgt (h x hx)
      rw [List.map_congr_left this]
      simp
    rw [e]
    unfold rvB rvL
    rw [if_neg hne, if_neg hne, hun]
    refine ⟨?_, rfl⟩
    rw [decide_eq_true (by simpa using h0)]
    unfold Vo0.valB Vo0.allB
    simp only [Bool.true_and]
    rw [Bool.and_eq_true_iff]
    exact ⟨List.all_eq_true.2 h, by simp; omega⟩
theorem rd_step {M : Mc} (h : Mok M) (hk : ∀ x ∈ M.memo, plB (tl x.k) = true) (i : Nat) (hi : i < 7 + M.memo.length) : rd (part M i) (bod M i) i = some (part M (i + 1)) := by
  match i with
  | 0 =>
    obtain ⟨n, F, hn, hN, hS⟩ := tok_tab h.tab
    have hr := rr_row M.row (by have := h.row; omega)
    show (if rrB (rowT M.row) = true then some { part M 0 with row := rrL (rowT M.row) } else none) = _
    rw [hr.1, if_pos rfl, hr.2]
    rfl
  | 1 =>
    obtain ⟨n, F, hn, hN, hS⟩ := tok_tab h.tab
    have e : bod M 1 = keyL n (tab n F) := by show keyL M.N.toNat (tl M.S) = _; rw [hN, hS, Int.toNat_natCast]
    obtain ⟨k1, k2, k3⟩ := rk_key F hn
    rw [e]
    show (if rkB (keyL n (tab n F)) = true then some { part M 1 with N := rkN (keyL n (tab n F)), S := bs (cutS 58 (keyL n (tab n F))) } else none) = _
    rw [k1, if_pos rfl, k2, k3, ← hS, bs_tl, ← hN]
    rfl
  | 2 =>
    show (if (rnP (Lib.itoa M.room)).2 = true then some { part M 2 with room := (rnP (Lib.itoa M.room)).1 } else none) = _
    rw [rn_itoa (by have := h.room; omega) (by have := h.room; omega), if_pos rfl]
    rfl
  | 3 =>
    obtain ⟨n, F, hn, hN, hS⟩ := tok_tab h.tab
    have hv := rv_vt (l := M.vals) (fun b hb => bit_in (h.bits b hb)) (by have := h.vals; omega)
    show (if rvB (vt M.vals) = true then some { part M 3 with vals := rvL (vt M.vals) } else none) = _
    rw [hv.1, if_pos rfl, hv.2]
    rfl
  | 4 =>
    show (if (rnP (Lib.itoa M.ret)).2 = true then some { part M 4 with ret := (rnP (Lib.itoa M.ret)).1 } else none) = _
    rw [rn_itoa h.ret.1 (by have := h.ret; omega), if_pos rfl]
    rfl
  | 5 =>
    show (if (rnP (Lib.itoa (bI M.over))).2 = true then some { part M 5 with over := decide ((rnP (Lib.itoa (bI M.over))).1 = 1) } else none) = _
    rw [rn_itoa (by rcases bI_two M.over with e | e <;> omega) (by rcases bI_two M.over with e | e <;> omega), if_pos rfl]
    have : decide (bI M.over = 1) = M.over := by cases M.over <;> rfl
    show some { part M 5 with over := decide (bI M.over = 1) } = _
    rw [this]
    rfl
  | 6 =>
    show (match numsP (Lib.itoa M.steps ++ (32 :: (Lib.itoa M.looks ++ (32 :: Lib.itoa M.hits)))) with
      | some [x, y, z] => some { part M 6 with steps := x, looks := y, hits := z }
      | _ => none) = _
    rw [nums_three (by have := h.steps; omega) (by have := h.looks; omega) (by have := h.hits; omega)]
    show some _ = some { M with memo := M.memo.take 0 }
    rw [List.take_zero]
    rfl
  | k + 7 =>
    have hkl : k < M.memo.length := by omega
    have hm := List.getElem_mem hkl
    have e : bod M (k + 7) = tl M.memo[k].k ++ (32 :: Lib.itoa M.memo[k].r) := by
      show (match M.memo[k]? with
        | some x => tl x.k ++ (32 :: Lib.itoa x.r)
        | none => []) = _
      rw [List.getElem?_eq_getElem hkl]
    obtain ⟨c1, c2⟩ := cut_app 32 (tl M.memo[k].k) (Lib.itoa M.memo[k].r) (fun c hc => (pl_no32 (hk _ hm) c hc).1)
    have hs := h.seen _ hm
    rw [e]
    show (if (rnP (cutS 32 (tl M.memo[k].k ++ (32 :: Lib.itoa M.memo[k].r)))).2 = true then some { part M (k + 7) with memo := (part M (k + 7)).memo ++ [(⟨bs (cutF 32 (tl M.memo[k].k ++ (32 :: Lib.itoa M.memo[k].r))), (rnP (cutS 32 (tl M.memo[k].k ++ (32 :: Lib.itoa M.memo[k].r)))).1⟩ : Sn)] } else none) = _
    rw [c1, c2, rn_itoa (by omega) (by omega), if_pos rfl, bs_tl]
    show some { M with memo := M.memo.take k ++ [M.memo[k]] } = some { M with memo := M.memo.take (k + 1) }
    rw [List.take_succ_eq_append_getElem hkl]
theorem rd_from {M : Mc} (h : Mok M) (hk : ∀ x ∈ M.memo, plB (tl x.k) = true) : ∀ (j : Nat) (i f : Nat), i + j = 7 + M.memo.length → j ≤ f → rdAll f i (part M i) (((List.range' i j).map (lin M)).flatten) = some M := by
  intro j
  induction j with
  | zero =>
    intro i f hi _
    have e : part M i = M := by
      obtain rfl : i = M.memo.length + 7 := by omega
      show { M with memo := M.memo.take M.memo.length } = M
      rw [List.take_length]
    rw [e]
    cases f with
    | zero => rfl
    | succ f => rfl
  | succ j ih =>
    intro i f hi hf
    obtain ⟨f', rfl⟩ : ∃ f', f = f' + 1 := ⟨f - 1, by omega⟩
    rw [List.range'_succ, List.map_cons, List.flatten_cons]
    obtain ⟨c1, c2⟩ := cut_line h hk i (((List.range' (i + 1) j).map (lin M)).flatten)
    obtain ⟨d1, d2⟩ := cut_word M i
    show (if lin M i ++ _ = [] then _ else match tkL i (part M i) (cutF 10 (lin M i ++ _)) with
      | none => none
      | some m' => rdAll f' (i + 1) m' (cutS 10 (lin M i ++ _))) = _
    rw [if_neg (by rw [lin_lin0]; simp), c1, c2]
    have ht : tkL i (part M i) (lin0 M i) = some (part M (i + 1)) := by
      unfold tkL
      rw [d1, if_pos rfl, d2]
      exact rd_step h hk i (by omega)
    rw [ht]
    exact ih (i + 1) f' (by omega) (by omega)
theorem lin_pos (m : Mc) (i : Nat) : 1 ≤ (lin m i).length := by rw [lin_lin0]; simp
theorem rd_sav {M : Mc} (h : Mok M) (hk : ∀ x ∈ M.memo, plB (tl x.k) = true) : rdS (savT M) = some M := by
  have e : savT M = ((List.range' 0 (7 + M.memo.length)).map (lin M)).flatten := by
    unfold savT linTo
    rw [List.range_eq_range']
  have hl : ∀ (k i : Nat), k ≤ (((List.range' i k).map (lin M)).flatten).length := by
    intro k
    induction k with
    | zero => intro i; exact Nat.zero_le _
    | succ k ih =>
      intro i
      rw [List.range'_succ, List.map_cons, List.flatten_cons, List.length_append]
      have := ih (i + 1)
      have := lin_pos M i
      omega
  unfold rdS
  rw [e]
  exact rd_from h hk (7 + M.memo.length) 0 _ (by omega) (hl _ 0)
end Go.Proofs.YtmfpbhjmnadpkaaGreatDoor.Zl0
