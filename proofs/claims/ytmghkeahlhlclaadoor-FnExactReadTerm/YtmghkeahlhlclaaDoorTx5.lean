/- How the program writes a term, as plain data: what the root reaches, word by word. -/
import Derived.Lib.Join
import Derived.Test.YtmghkeahlhlclaaDoorPkE
import Derived.Test.YtmghkeahlhlclaaDoorPkA
namespace Go.Proofs.YtmghkeahlhlclaaDoor.Tx5
open Nd0 Pl1 Tm0 Tm1 Tm2 Tm8 Tx0 Tx2 Tx3

/-- The words of all operators, by their numbers. -/
def opTab : List (List UInt8) := [[], [], wNot] ++ wordsL ++ [wSlice, wIf, wAll, wSome]
/-- The words ahead of a node's parts. -/
def hw (n : Nd) : List (List UInt8) :=
  opTab.getD n.op.toNat [] :: (if n.op = 17 then [dec n.k.toNat, dec n.w.toNat] else if n.op = 19 ∨ n.op = 20 then [[118] ++ dec n.k.toNat ++ [58] ++ dec n.b.toNat] else [])
/-- The text of a node as the program writes it, however long. -/
def progN (n : Nd) (ts : List (List UInt8)) : List UInt8 :=
  if n.op = 0 then [35] ++ dec n.w.toNat ++ [58] ++ dec n.k.toNat
  else if n.op = 1 then [118] ++ dec n.k.toNat ++ [58] ++ dec n.w.toNat
  else [40] ++ Lib.join (hw n ++ (parts n).map (txt ts)) [32] ++ [41]

theorem join_app (x : List UInt8) (r ys : List (List UInt8)) (sep : List UInt8) : Lib.join (x :: r ++ ys) sep = Lib.join (x :: r) sep ++ Lib.joinTail sep ys := by
  rw [List.cons_append, Lib.join_cons, Lib.join_cons]
  simp [Lib.joinTail]
theorem join_hw {n : Nd} (h2 : 2 ≤ n.op) (h20 : n.op ≤ 20) : Lib.join (hw n) [32] = headL n := by
  have hc : n.op = 17 ∨ n.op = 19 ∨ n.op = 20 ∨ n.op = 2 ∨ n.op = 18 ∨ (3 ≤ n.op ∧ n.op ≤ 16) := by omega
  unfold hw
  rw [Lib.join_cons]
  rcases hc with h | h | h | h | h | h
  · rw [if_pos h]
    unfold headL
    rw [if_neg (by omega), if_pos h, h]
    simp [Lib.joinTail, opTab, wordsL, wSlice]
  · rw [if_neg (by omega), if_pos (by omega)]
    unfold headL
    rw [if_neg (by omega), if_neg (by omega), if_neg (by omega), if_pos h, h]
    simp [Lib.joinTail, opTab, wordsL, wAll]
  · rw [if_neg (by omega), if_pos (by omega)]
    unfold headL
    rw [if_neg (by omega), if_neg (by omega), if_neg (by omega), if_neg (by omega), if_pos h, h]
    simp [Lib.joinTail, opTab, wordsL, wSome]
  · rw [if_neg (by omega), if_neg (by omega)]
    unfold headL
    rw [if_pos h, h]
    simp [Lib.joinTail, opTab, wordsL]
  · rw [if_neg (by omega), if_neg (by omega)]
    unfold headL
    rw [if_neg (by omega), if_neg (by omega), if_pos h, h]
    simp [Lib.joinTail, opTab, wordsL]
  · rw [if_neg (by omega), if_neg (by omega)]
    unfold headL
    rw [if_neg (by omega), if_neg (by omega), if_neg (by omega), if_neg (by omega), if_neg (by omega)]
    obtain ⟨j, hj⟩ : ∃ j : Nat, n.op = (j : Int) + 3 := ⟨(n.op - 3).toNat, by omega⟩
    have hj14 : j < 14 := by omega
    rw [hj, show ((j : Int) + 3).toNat = j + 3 by omega, show ((j : Int) + 3 - 3).toNat = j by omega]
    have e : opTab.getD (j + 3) [] = wordsL.getD j [] := by
      rw [List.getD_eq_getElem?_getD, List.getD_eq_getElem?_getD]
      show ((([] : List UInt8) :: [] :: wNot :: (wordsL ++ [wSlice, wIf, wAll, wSome]))[j + 3]?).getD [] = _
      rw [List.getElem?_cons_succ, List.getElem?_cons_succ, List.getElem?_cons_succ, List.getElem?_append_left (by exact hj14)]
    rw [e]
    simp [Lib.joinTail]
theorem with_all {ts : List (List UInt8)} : ∀ (ps : List Int) (h : List UInt8), (∀ p ∈ ps, txt ts p ≠ []) → withParts ts h ps = some (h ++ Lib.joinTail [32] (ps.map (txt ts))) := by
  intro ps
  induction ps with
  | nil => intro h _; simp [withParts, Lib.joinTail]
  | cons p ps ih =>
    intro h hp
    simp only [withParts]
    rw [if_neg (hp p (by simp)), ih _ (fun q hq => hp q (by simp [hq]))]
    simp [Lib.joinTail]
theorem hw_cons (n : Nd) : ∃ x r, hw n = x :: r := ⟨_, _, rfl⟩
theorem prog_show {n : Nd} {ts : List (List UInt8)} (h0 : 0 ≤ n.op) (h20 : n.op ≤ 20) (hs : n.op = 0 ∨ n.op = 1 → (progN n ts).length ≤ 4000) (hp : ∀ p ∈ parts n, txt ts p ≠ []) :
    showN n ts = if 4000 < (progN n ts).length then [] else progN n ts := by
  by_cases e0 : n.op = 0
  · rw [if_neg (by have := hs (.inl e0); omega)]
    unfold showN progN
    rw [if_pos e0, if_pos e0]
  by_cases e1 : n.op = 1
  · rw [if_neg (by have := hs (.inr e1); omega)]
    unfold showN progN
    rw [if_neg e0, if_pos e1, if_neg e0, if_pos e1]
  · unfold showN progN
    rw [if_neg e0, if_neg e1, if_neg e0, if_neg e1, with_all _ _ hp]
    obtain ⟨x, r, hx⟩ := hw_cons n
    have hj := join_hw (n := n) (by omega) h20
    rw [hx] at hj ⊢
    rw [join_app, hj]
    simp only [List.length_append, List.length_cons, List.length_nil]
    by_cases hb : 4000 < (headL n).length + (Lib.joinTail [32] ((parts n).map (txt ts))).length + 2
    · rw [if_pos hb, if_pos (by omega)]
    · rw [if_neg hb, if_neg (by omega)]
theorem prog_congr {n : Nd} {ts us : List (List UInt8)} (h : ∀ p ∈ parts n, txt ts p = txt us p) : progN n ts = progN n us := by
  unfold progN
  rw [List.map_congr_left h]
theorem prog_some (n : Nd) (ts : List (List UInt8)) : progN n ts ≠ [] := by
  unfold progN
  split
  · simp
  · split <;> simp
theorem prog_small {n : Nd} {ts : List (List UInt8)} (h : n.op = 0 ∨ n.op = 1) (hk : 0 ≤ n.k ∧ n.k ≤ 255) (hw : 0 ≤ n.w ∧ n.w ≤ 8) : (progN n ts).length ≤ 4000 := by
  have h1 := dec_len (n := n.k.toNat) (by omega)
  have h2 := dec_len (n := n.w.toNat) (by omega)
  unfold progN
  split
  · simp; omega
  · rw [if_pos (by omega)]
    simp; omega
theorem X_none {l : List Nd} (hD : Down l) {i : Nat} (hi : i < l.length) {p : Int} (hp : p ∈ parts (nth l i)) (h : X l p.toNat = []) : X l i = [] := by
  by_cases e : X l i = []
  · exact e
  · exact absurd h (part_text hD hi e hp).2.1
theorem root_none {l : List Nd} (hD : Down l) : ∀ (d i : Nat), l.length - i ≤ d → i < l.length → flag (reachL l) i = true → X l i = [] → X l (l.length - 1) = [] := by
  intro d
  induction d with
  | zero => intro i h hi; omega
  | succ d ih =>
    intro i h hi hf hx
    rcases reach_why hD hi hf with e | ⟨j, hij, hj, hfj, hm⟩
    · have : l.length - 1 = i := by omega
      rw [this]; exact hx
    · exact ih j (by omega) hj hfj (X_none hD hj hm (by rw [Int.toNat_natCast]; exact hx))
theorem show_root {l : List Nd} (h : termOk l = true) (h1 : 1 ≤ l.length) : showL l = X l (l.length - 1) := by
  unfold showL
  rw [if_pos h]
  have : ((l.length : Int) - 1) = ((l.length - 1 : Nat) : Int) := by omega
  rw [this]
  rfl

end Go.Proofs.YtmghkeahlhlclaaDoor.Tx5
