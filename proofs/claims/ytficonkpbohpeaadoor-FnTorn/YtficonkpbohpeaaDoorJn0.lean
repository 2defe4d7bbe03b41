/- Journals: plain. -/
import Derived.Test.YtficonkpbohpeaaDoorZk0
namespace Go.Proofs.YtficonkpbohpeaaDoor.Jn0
open Tx0 Zk0
open Ss1 (numI)
set_option linter.unusedVariables false

theorem drop_of {l a b : List UInt8} (h : l = a ++ b) : l.drop a.length = b := by rw [h, List.drop_left]
theorem take_of {l a b : List UInt8} (h : l = a ++ b) : l.take a.length = a := by rw [h, List.take_left]
/-- The record of a text. -/
def recT (s : List UInt8) : List UInt8 := dec s.length ++ (58 :: (s ++ [59]))
/-- The record that stands at the beginning: its text and how many bytes it has. -/
def recN (l : List UInt8) : Option (List UInt8 × Nat) := match numL (cutF 58 l) with
  | none => none
  | some n => if n ≤ 400000 ∧ (cutS 58 l)[n]? = some 59 then some ((cutS 58 l).take n, (cutF 58 l).length + n + 2) else none
theorem cut_split {c : UInt8} {l : List UInt8} (h : cutS c l ≠ []) : l = cutF c l ++ (c :: cutS c l) := by
  unfold cutF cutS at *
  induction l with
  | nil => simp at h
  | cons x r ih =>
    by_cases hx : x = c
    · subst hx; simp
    · have hc : (x != c) = true := by simp [hx]
      rw [List.takeWhile_cons_of_pos (p := fun c' => c' != c) hc]
      rw [List.dropWhile_cons_of_pos (p := fun c' => c' != c) hc] at h ⊢
      rw [List.cons_append, ← ih h]
theorem recT_len (s : List UInt8) : (recT s).length = (dec s.length).length + s.length + 2 := by unfold recT; simp; omega
theorem rec_cut (s r : List UInt8) : cutF 58 (recT s ++ r) = dec s.length ∧ cutS 58 (recT s ++ r) = s ++ (59 :: r) := by
  have e : recT s ++ r = dec s.length ++ (58 :: (s ++ (59 :: r))) := by unfold recT; simp
  rw [e]
  exact cut_app 58 _ _ (fun d hd => dig_not (dec_all _ d hd) (by decide))
theorem recN_rec {s : List UInt8} (h : s.length ≤ 400000) (r : List UInt8) : recN (recT s ++ r) = some (s, (recT s).length) := by
  obtain ⟨h1, h2⟩ := rec_cut s r
  unfold recN
  rw [h1, h2, num_dec (by omega), recT_len]
  simp [h]
theorem recN_of {l s : List UInt8} {k : Nat} (h : recN l = some (s, k)) : s.length ≤ 400000 ∧ k = (recT s).length ∧ l = recT s ++ l.drop k := by
  unfold recN at h
  split at h
  · cases h
  · rename_i n hn
    split at h
    · rename_i hc
      obtain ⟨hn4, hq⟩ := hc
      simp only [Option.some.injEq, Prod.mk.injEq] at h
      obtain ⟨rfl, rfl⟩ := h
      have hlt : n < (cutS 58 l).length := (List.getElem?_eq_some_iff.1 hq).1
      have hlen : ((cutS 58 l).take n).length = n := by rw [List.length_take]; omega
      have hd := (num_some hn).1
      have hk : (cutF 58 l).length + n + 2 = (recT ((cutS 58 l).take n)).length := by rw [recT_len, hlen, hd]
      have hsp := cut_split (c := 58) (l := l) (by intro e; rw [e] at hlt; simp at hlt)
      have hb : cutS 58 l = (cutS 58 l).take n ++ (59 :: (cutS 58 l).drop (n + 1)) := by
        have e1 := List.take_append_drop n (cutS 58 l)
        rw [List.drop_eq_getElem_cons hlt, (List.getElem?_eq_some_iff.1 hq).2] at e1
        exact e1.symm
      have hl : l = recT ((cutS 58 l).take n) ++ (cutS 58 l).drop (n + 1) := by
        conv => lhs; rw [hsp, hb]
        unfold recT
        rw [hlen, hd]
        simp
      refine ⟨by rw [hlen]; exact hn4, hk, ?_⟩
      rw [hk]
      rw [drop_of hl]
      exact hl
    · cases h
theorem recN_pos {l s : List UInt8} {k : Nat} (h : recN l = some (s, k)) : 3 ≤ k ∧ k ≤ l.length := by
  obtain ⟨h1, h2, h3⟩ := recN_of h
  have := congrArg List.length h3
  rw [List.length_append] at this
  have hd := (dec_len' (n := s.length) (k := 6) (by omega) (by omega)).1
  rw [recT_len] at *
  omega

/-- The records of texts, one behind the other. -/
def cat (L : List (List UInt8)) : List UInt8 := (L.map recT).flatten
theorem cat_nil : cat [] = [] := rfl
theorem cat_cons (s : List UInt8) (L : List (List UInt8)) : cat (s :: L) = recT s ++ cat L := by unfold cat; simp
theorem cat_snoc (L : List (List UInt8)) (s : List UInt8) : cat (L ++ [s]) = cat L ++ recT s := by unfold cat; simp
theorem cat_app (L M : List (List UInt8)) : cat (L ++ M) = cat L ++ cat M := by unfold cat; simp
def Small (L : List (List UInt8)) : Prop := ∀ s ∈ L, s.length ≤ 400000
theorem cat_len (L : List (List UInt8)) : 3 * L.length ≤ (cat L).length := by
  induction L with
  | nil => simp
  | cons s L ih =>
    rw [cat_cons, List.length_append, recT_len, List.length_cons]
    have hd : 1 ≤ (dec s.length).length := by
      unfold dec
      split
      · simp
      · exact digs_one (by omega)
    omega
/-- The texts of the records that stand one behind the other. -/
def rcsF : Nat → List UInt8 → List (List UInt8)
  | 0, _ => []
  | f + 1, l => match recN l with
    | none => []
    | some (s, k) => s :: rcsF f (l.drop k)
def rcs (l : List UInt8) : List (List UInt8) := rcsF l.length l
theorem recN_nil : recN [] = none := by decide +kernel
theorem rcsF_is : ∀ (f : Nat) (l : List UInt8), l.length ≤ f → Small (rcsF f l) ∧ ∃ r, l = cat (rcsF f l) ++ r ∧ recN r = none := by
  intro f
  induction f with
  | zero =>
    intro l hl
    have : l = [] := List.eq_nil_of_length_eq_zero (by omega)
    subst this
    exact ⟨(fun s hs => by cases hs), [], rfl, recN_nil⟩
  | succ f ih =>
    intro l hl
    unfold rcsF
    cases h : recN l with
    | none => exact ⟨(fun s hs => by cases hs), l, rfl, h⟩
    | some x =>
      obtain ⟨s, k⟩ := x
      obtain ⟨h1, h2, h3⟩ := recN_of h
      have hp := recN_pos h
      obtain ⟨i1, r, i2, i3⟩ := ih (l.drop k) (by rw [List.length_drop]; omega)
      refine ⟨?_, r, ?_, i3⟩
      · intro t ht
        simp only [List.mem_cons] at ht
        rcases ht with e | e
        · subst e; exact h1
        · exact i1 t e
      · simp only [cat_cons]
        rw [List.append_assoc, ← i2]
        exact h3
theorem rcsF_eq : ∀ (L : List (List UInt8)) (f : Nat) (r : List UInt8), Small L → recN r = none → L.length < f + 1 → rcsF f (cat L ++ r) = L := by
  intro L
  induction L with
  | nil =>
    intro f r _ hr _
    cases f with
    | zero => rfl
    | succ f => unfold rcsF; rw [cat_nil, List.nil_append, hr]
  | cons s L ih =>
    intro f r hS hr hf
    cases f with
    | zero => simp at hf
    | succ f =>
      unfold rcsF
      rw [cat_cons, List.append_assoc, recN_rec (hS s (by simp))]
      simp only
      rw [List.drop_left, ih f r (fun t ht => hS t (by simp [ht])) hr (by simp at hf; omega)]
theorem rcs_is (l : List UInt8) : Small (rcs l) ∧ ∃ r, l = cat (rcs l) ++ r ∧ recN r = none := rcsF_is _ l (Nat.le_refl _)
theorem rcs_eq {L : List (List UInt8)} {r : List UInt8} (hS : Small L) (hr : recN r = none) : rcs (cat L ++ r) = L := by
  refine rcsF_eq L _ r hS hr ?_
  have := cat_len L
  rw [List.length_append]; omega
theorem rcs_cat {L : List (List UInt8)} (hS : Small L) : rcs (cat L) = L := by
  have := rcs_eq hS recN_nil
  rwa [List.append_nil] at this
/-- Behind which byte the last record ends. -/
def endN (l : List UInt8) : Nat := (cat (rcs l)).length
theorem end_le (l : List UInt8) : endN l ≤ l.length := by
  obtain ⟨_, r, h, _⟩ := rcs_is l
  have := congrArg List.length h
  rw [List.length_append] at this
  unfold endN; omega
theorem take_end (l : List UInt8) : l.take (endN l) = cat (rcs l) := by
  obtain ⟨_, r, h, _⟩ := rcs_is l
  exact take_of h

/-- Numbers as the program reads them. -/
theorem num_rn {d : List UInt8} (h : d.length ≤ 9) : numL d = if (rnP d).2 = true ∧ 0 ≤ (rnP d).1 ∧ dec (rnP d).1.toNat = d then some (rnP d).1.toNat else none := by
  split
  · rename_i hc
    obtain ⟨h1, h2, h3⟩ := hc
    have hlt : (rnP d).1.toNat < 10 ^ 9 := by
      have hv := val_lt d (by rw [← h3]; exact dec_all _)
      rw [← h3, val_dec, h3] at hv
      exact Nat.lt_of_lt_of_le hv (Nat.pow_le_pow_right (by omega) h)
    conv => lhs; rw [← h3]
    exact num_dec hlt
  · rename_i hc
    cases hn : numL d with
    | none => rfl
    | some n =>
      obtain ⟨h1, h2, h3⟩ := num_some hn
      refine absurd ?_ hc
      rw [← h1, rn_dec (by omega)]
      exact ⟨rfl, by simp, by simp⟩
end Go.Proofs.YtficonkpbohpeaaDoor.Jn0
