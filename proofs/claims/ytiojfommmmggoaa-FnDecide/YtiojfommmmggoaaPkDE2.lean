/- Small texts of mine, one behind the other. -/
import Derived.Test.YtiojfommmmggoaaPkDE1
import Derived.Test.YtiojfommmmggoaaPkDE0
/- Texts of terms as plain data: numbers in decimal digits, words, the text of a node. -/
namespace Go.Proofs.Ytiojfommmmggoaa.Tx0
open Nd0 Pl1 Tm0 Tm1

end Go.Proofs.Ytiojfommmmggoaa.Tx0

/- The reader of a text is local: what it took it takes again, whatever stands behind; where it fails. -/
namespace Go.Proofs.Ytiojfommmmggoaa.Tx1
open Nd0 Pl1 Tm0 Tm1 Tx0

end Go.Proofs.Ytiojfommmmggoaa.Tx1

/- What the root reaches: the root, the parts of what it reaches, and nothing else. -/
namespace Go.Proofs.Ytiojfommmmggoaa.Tm8
open Nd0 Pl1 Tm0 Tm1 Tm2 Tm3

theorem markAll_flag (ps : List Int) : ∀ (bs : List Bool) (i : Nat), i < bs.length → flag (markAll bs ps) i = (flag bs i || ps.any fun p => p.toNat == i) := by
  induction ps with
  | nil => intro bs i _; simp [markAll]
  | cons p ps ih =>
    intro bs i hi
    show flag (markAll (bs.set p.toNat true) ps) i = _
    rw [ih _ _ (by rw [List.length_set]; exact hi)]
    by_cases hp : p.toNat < bs.length
    · rw [flag_set hp]
      by_cases e : p.toNat = i
      · simp [e]
      · have e' : (p.toNat == i) = false := by simpa using e
        rw [if_neg e, List.any_cons, e', Bool.false_or]
    · have : bs.set p.toNat true = bs := List.set_eq_of_length_le (by omega)
      rw [this]
      have e' : (p.toNat == i) = false := by simp; omega
      rw [List.any_cons, e', Bool.false_or]
def Down (l : List Nd) : Prop := ∀ i, i < l.length → ∀ p ∈ parts (nth l i), 0 ≤ p ∧ p < (i : Int)
theorem down_of {l : List Nd} (h : termOk l = true) : Down l := by
  intro i hi p hp
  obtain ⟨j, hj, rfl⟩ := List.getElem_of_mem hp
  exact parts_ok (term_node h hi) j hj
theorem step_flag {l : List Nd} (bs : List Bool) (k i : Nat) (hi : i < bs.length) : flag (reachStep l bs k) i = (flag bs i || (flag bs k && (parts (nth l k)).any fun p => p.toNat == i)) := by
  unfold reachStep
  cases h : flag bs k
  · simp
  · rw [if_pos rfl, markAll_flag _ _ _ hi]; simp
theorem down_high {l : List Nd} (hD : Down l) : ∀ (k : Nat) (bs : List Bool), bs.length = l.length → k ≤ l.length → ∀ i, k ≤ i + 1 → i < l.length → flag (reachDown l k bs) i = flag bs i := by
  intro k
  induction k with
  | zero => intro bs _ _ i _ _; rfl
  | succ k ih =>
    intro bs hb hk i hi hl
    show flag (reachDown l k (reachStep l bs k)) i = _
    rw [ih _ (by rw [reachStep_length]; exact hb) (by omega) i (by omega) hl, step_flag _ _ _ (by omega)]
    have : ((parts (nth l k)).any fun p => p.toNat == i) = false := by
      rw [List.any_eq_false]
      intro p hp
      have := hD k (by omega) p hp
      simp; omega
    rw [this]; simp
theorem down_closed {l : List Nd} (hD : Down l) : ∀ (k : Nat) (bs : List Bool), bs.length = l.length → k ≤ l.length → (∀ i, k ≤ i → i < l.length → flag bs i = true → ∀ p ∈ parts (nth l i), flag bs p.toNat = true) →
    ∀ i, i < l.length → flag (reachDown l k bs) i = true → ∀ p ∈ parts (nth l i), flag (reachDown l k bs) p.toNat = true := by
  intro k
  induction k with
  | zero => intro bs _ _ h i hi hf p hp; exact h i (by omega) hi hf p hp
  | succ k ih =>
    intro bs hb hk h
    refine ih (reachStep l bs k) (by rw [reachStep_length]; exact hb) (by omega) ?_
    intro i hki hi hf p hp
    have hpd := hD i hi p hp
    rw [step_flag _ _ _ (by omega)] at hf
    rw [step_flag _ _ _ (by omega)]
    have hna : ((parts (nth l k)).any fun q => q.toNat == i) = false := by
      rw [List.any_eq_false]
      intro q hq
      have := hD k (by omega) q hq
      simp; omega
    rw [hna, Bool.and_false, Bool.or_false] at hf
    by_cases e : i = k
    · subst e
      rw [hf]
      have : ((parts (nth l i)).any fun q => q.toNat == p.toNat) = true := List.any_eq_true.2 ⟨p, hp, by simp⟩
      rw [this]; simp
    · rw [h i (by omega) hi hf p hp]; simp
theorem init_flag (n i : Nat) (h : i < n) : flag (reachInit n) i = (i + 1 == n) := by simp [flag, reachInit, List.getD, h]
theorem reach_closed {l : List Nd} (hD : Down l) {i : Nat} (hi : i < l.length) (hf : flag (reachL l) i = true) {p : Int} (hp : p ∈ parts (nth l i)) : flag (reachL l) p.toNat = true :=
  down_closed hD l.length _ (reachInit_length _) (Nat.le_refl _) (fun i h1 h2 => by omega) i hi hf p hp
theorem down_more {l : List Nd} : ∀ (k : Nat) (bs : List Bool), bs.length = l.length → ∀ i, i < l.length → flag bs i = true → flag (reachDown l k bs) i = true := by
  intro k
  induction k with
  | zero => intro bs _ i _ h; exact h
  | succ k ih =>
    intro bs hb i hi h
    refine ih (reachStep l bs k) (by rw [reachStep_length]; exact hb) i hi ?_
    rw [step_flag _ _ _ (by omega), h]; rfl
theorem reach_root {l : List Nd} (h : 1 ≤ l.length) : flag (reachL l) (l.length - 1) = true :=
  down_more l.length _ (reachInit_length _) _ (by omega) (by rw [init_flag _ _ (by omega)]; simp; omega)
theorem down_why {l : List Nd} (hD : Down l) : ∀ (k : Nat) (bs : List Bool), bs.length = l.length → k ≤ l.length → ∀ i, i < l.length → flag (reachDown l k bs) i = true → flag bs i = true ∨ ∃ j, i < j ∧ j < l.length ∧ flag (reachDown l k bs) j = true ∧ (i : Int) ∈ parts (nth l j) := by
  intro k
  induction k with
  | zero => intro bs _ _ i _ h; exact .inl h
  | succ k ih =>
    intro bs hb hk i hi h
    rcases ih (reachStep l bs k) (by rw [reachStep_length]; exact hb) (by omega) i hi h with h1 | h1
    · rw [step_flag _ _ _ (by omega)] at h1
      simp only [Bool.or_eq_true, Bool.and_eq_true] at h1
      rcases h1 with h1 | ⟨h1, h2⟩
      · exact .inl h1
      · obtain ⟨p, hp, hpe⟩ := List.any_eq_true.1 h2
        have hd := hD k (by omega) p hp
        simp at hpe
        have hpi : p = (i : Int) := by omega
        subst hpi
        refine .inr ⟨k, by omega, by omega, ?_, hp⟩
        exact down_more k _ (by rw [reachStep_length]; exact hb) k (by omega) (by rw [step_flag _ _ _ (by omega), h1]; rfl)
    · exact .inr h1
theorem reach_why {l : List Nd} (hD : Down l) {i : Nat} (hi : i < l.length) (hf : flag (reachL l) i = true) : i + 1 = l.length ∨ ∃ j, i < j ∧ j < l.length ∧ flag (reachL l) j = true ∧ (i : Int) ∈ parts (nth l j) := by
  rcases down_why hD l.length _ (reachInit_length _) (Nat.le_refl _) i hi hf with h | h
  · rw [init_flag _ _ hi] at h; exact .inl (by simpa using h)
  · exact .inr h

theorem reach_at (l : List Nd) : ∀ (k j : Nat) (h : j < (reachTo l k).length), ∃ x : Nat, (reachTo l k)[j] = (x : Int) ∧ x < k ∧ flag (reachL l) x = true ∧ (reachTo l x).length = j := by
  intro k
  induction k with
  | zero => intro j h; simp [reachTo] at h
  | succ k ih =>
    intro j h
    have e := reachTo_succ l k
    cases hf : flag (reachL l) k
    · rw [hf] at e
      simp only [Bool.false_eq_true, if_false] at e
      have h' : j < (reachTo l k).length := by rw [← e]; exact h
      obtain ⟨x, h1, h2, h3, h4⟩ := ih j h'
      exact ⟨x, by simp only [e]; exact h1, by omega, h3, h4⟩
    · rw [hf, if_pos rfl] at e
      have hlen : (reachTo l (k + 1)).length = (reachTo l k).length + 1 := by rw [e]; simp
      by_cases hj : j < (reachTo l k).length
      · obtain ⟨x, h1, h2, h3, h4⟩ := ih j hj
        refine ⟨x, ?_, by omega, h3, h4⟩
        simp only [e]
        rw [List.getElem_append_left hj]; exact h1
      · have hje : j = (reachTo l k).length := by omega
        refine ⟨k, ?_, by omega, hf, hje.symm⟩
        simp only [e, hje]
        rw [List.getElem_append_right (Nat.le_refl _)]
        simp
theorem reachTo_mono (l : List Nd) {a b : Nat} (h : a ≤ b) : (reachTo l a).length ≤ (reachTo l b).length := by
  induction b with
  | zero => have : a = 0 := by omega
            subst this; exact Nat.le_refl _
  | succ b ih =>
    by_cases e : a = b + 1
    · subst e; exact Nat.le_refl _
    · refine Nat.le_trans (ih (by omega)) ?_
      rw [reachTo_succ]; split
      · simp
      · exact Nat.le_refl _
theorem reachTo_lt (l : List Nd) {a b : Nat} (h : a < b) (hf : flag (reachL l) a = true) : (reachTo l a).length < (reachTo l b).length := by
  have h1 := reachTo_mono l (a := a + 1) (b := b) (by omega)
  rw [reachTo_succ, hf, if_pos rfl, List.length_append] at h1
  simp at h1; omega
end Go.Proofs.Ytiojfommmmggoaa.Tm8

/- The text of a node is read as that node, when its parts are. -/
namespace Go.Proofs.Ytiojfommmmggoaa.Tx2
open Nd0 Pl1 Tm0 Tm1 Tm3 Tm8 Tx0 Tx1

theorem nth_app {t m : List Nd} {j : Nat} (h : j < t.length) : nth (t ++ m) j = nth t j := by
  unfold nth
  rw [List.getD_eq_getElem?_getD, List.getElem?_append_left h, ← List.getD_eq_getElem?_getD]
end Go.Proofs.Ytiojfommmmggoaa.Tx2

/- Sets of variables as words of bits, as plain data. -/
namespace Go.Proofs.Ytiojfommmmggoaa.Tm7
open Nd0 Pl1 Tm0 Tm1 Tm4
open Go.RowKit

theorem flag_freeRow (rows : List (List Bool)) (n : Nd) (v : Nat) (hv : v < 8) : flag (freeRow rows n) v = freeAt rows n v := by
  simp [flag, freeRow, List.getD, hv]
theorem row_old (l : List Nd) (k : Nat) (p : Int) (h0 : 0 ≤ p) (hp : p < k) : row (freeRows l (k + 1)) p = row (freeRows l k) p := by
  unfold row
  show (freeRows l k ++ [_]).getD p.toNat [] = _
  rw [List.getD_eq_getElem?_getD, List.getElem?_append_left (by rw [freeRows_length]; omega), ← List.getD_eq_getElem?_getD]
theorem row_new (l : List Nd) (k : Nat) : row (freeRows l (k + 1)) (k : Int) = freeRow (freeRows l k) (nth l k) := by
  unfold row
  show (freeRows l k ++ [_]).getD k [] = _
  rw [List.getD_eq_getElem?_getD, List.getElem?_append_right (by rw [freeRows_length]; exact Nat.le_refl _), freeRows_length]
  simp

end Go.Proofs.Ytiojfommmmggoaa.Tm7

/- A quantifier put on a formula: what is free in it, as plain data. -/
namespace Go.Proofs.Ytiojfommmmggoaa.Tm12
open Nd0 Pl1 Tm0 Tm1 Tm4 Tm7

end Go.Proofs.Ytiojfommmmggoaa.Tm12

/- What is written of a term is read: as its canonical form, of which the same is written. -/
namespace Go.Proofs.Ytiojfommmmggoaa.Tx3
open Nd0 Pl1 Tm0 Tm1 Tm3 Tm8 Tx0 Tx1 Tx2

end Go.Proofs.Ytiojfommmmggoaa.Tx3

/- Terms as trees: what a node is with all that lies below it. -/
namespace Go.Proofs.Ytiojfommmmggoaa.Tr0
open Nd0 Pl1 Tm0 Tm1 Tm3 Tm8 Tx0 Tx1 Tx2 Tx3

inductive Tr where
  | leaf (op w k : Int)
  | one (op w k b : Int) (x : Tr)
  | two (op w : Int) (x y : Tr)
  | three (op w : Int) (x y z : Tr)
def Tr.nil : Tr := .leaf 0 0 0
def Tr.op : Tr → Int
  | .leaf o _ _ => o
  | .one o _ _ _ _ => o
  | .two o _ _ _ => o
  | .three o _ _ _ _ => o
def Tr.wid : Tr → Int
  | .leaf _ w _ => w
  | .one _ w _ _ _ => w
  | .two _ w _ _ => w
  | .three _ w _ _ _ => w
def mkF (n : Nd) (f : Nat → Tr) : Tr :=
  if n.op = 2 ∨ n.op = 17 ∨ n.op = 19 ∨ n.op = 20 then .one n.op n.w n.k n.b (f n.a.toNat)
  else if 3 ≤ n.op ∧ n.op ≤ 16 then .two n.op n.w (f n.a.toNat) (f n.b.toNat)
  else if n.op = 18 then .three n.op n.w (f n.a.toNat) (f n.b.toNat) (f n.c.toNat)
  else .leaf n.op n.w n.k
def trTo (l : List Nd) : Nat → List Tr
  | 0 => []
  | k + 1 => trTo l k ++ [mkF (nth l k) fun i => (trTo l k).getD i Tr.nil]
def tr (l : List Nd) (i : Nat) : Tr := (trTo l l.length).getD i Tr.nil

theorem mk_one {n : Nd} (h : n.op = 2 ∨ n.op = 17 ∨ n.op = 19 ∨ n.op = 20) (f : Nat → Tr) : mkF n f = .one n.op n.w n.k n.b (f n.a.toNat) := if_pos h
theorem mk_two {n : Nd} (h : 3 ≤ n.op ∧ n.op ≤ 16) (f : Nat → Tr) : mkF n f = .two n.op n.w (f n.a.toNat) (f n.b.toNat) := by unfold mkF; rw [if_neg (by omega), if_pos h]
theorem mk_three {n : Nd} (h : n.op = 18) (f : Nat → Tr) : mkF n f = .three n.op n.w (f n.a.toNat) (f n.b.toNat) (f n.c.toNat) := by unfold mkF; rw [if_neg (by omega), if_neg (by omega), if_pos h]
theorem mk_leaf {n : Nd} (h : ¬ (n.op = 2 ∨ n.op = 17 ∨ n.op = 19 ∨ n.op = 20)) (h2 : ¬ (3 ≤ n.op ∧ n.op ≤ 16)) (h3 : ¬ n.op = 18) (f : Nat → Tr) : mkF n f = .leaf n.op n.w n.k := by unfold mkF; rw [if_neg h, if_neg h2, if_neg h3]
theorem mk_wid (n : Nd) (f : Nat → Tr) : (mkF n f).wid = n.w := by
  unfold mkF
  split
  · rfl
  · split
    · rfl
    · split <;> rfl
theorem mk_congr {n : Nd} {f g : Nat → Tr} (h : ∀ p ∈ parts n, f p.toNat = g p.toNat) : mkF n f = mkF n g := by
  by_cases h1 : n.op = 2 ∨ n.op = 17 ∨ n.op = 19 ∨ n.op = 20
  · rw [parts_one h1] at h
    rw [mk_one h1, mk_one h1, h n.a (by simp)]
  · by_cases h2 : 3 ≤ n.op ∧ n.op ≤ 16
    · rw [parts_two h2] at h
      rw [mk_two h2, mk_two h2, h n.a (by simp), h n.b (by simp)]
    · by_cases h3 : n.op = 18
      · rw [parts_three h3] at h
        rw [mk_three h3, mk_three h3, h n.a (by simp), h n.b (by simp), h n.c (by simp)]
      · rw [mk_leaf h1 h2 h3, mk_leaf h1 h2 h3]
theorem trTo_length (l : List Nd) (k : Nat) : (trTo l k).length = k := by
  induction k with
  | zero => rfl
  | succ k ih => show (trTo l k ++ [_]).length = _; rw [List.length_append, ih]; rfl
theorem tr_prefix (l : List Nd) {i k : Nat} (hi : i < k) : ∀ n, k ≤ n → (trTo l n).getD i Tr.nil = (trTo l k).getD i Tr.nil := by
  intro n hn
  obtain ⟨d, rfl⟩ : ∃ d, n = k + d := ⟨n - k, by omega⟩
  clear hn
  induction d with
  | zero => rfl
  | succ d ih =>
    rw [← ih]
    show (trTo l (k + d) ++ [_]).getD i Tr.nil = _
    rw [List.getD_eq_getElem?_getD, List.getElem?_append_left (by rw [trTo_length]; omega), ← List.getD_eq_getElem?_getD]
theorem tr_at {l : List Nd} (hD : Down l) {i : Nat} (hi : i < l.length) : tr l i = mkF (nth l i) (tr l) := by
  unfold tr
  rw [tr_prefix l (k := i + 1) (by omega) l.length (by omega)]
  show (trTo l i ++ [mkF (nth l i) fun j => (trTo l i).getD j Tr.nil]).getD i Tr.nil = _
  rw [List.getD_eq_getElem?_getD, List.getElem?_append_right (by rw [trTo_length]; exact Nat.le_refl _), trTo_length, Nat.sub_self]
  show mkF (nth l i) (fun j => (trTo l i).getD j Tr.nil) = _
  refine mk_congr (fun p hp => ?_)
  have := hD i hi p hp
  exact (tr_prefix l (i := p.toNat) (k := i) (by omega) l.length (by omega)).symm
theorem trTo_app (t m : List Nd) : ∀ k, k ≤ t.length → trTo (t ++ m) k = trTo t k := by
  intro k
  induction k with
  | zero => intro _; rfl
  | succ k ih =>
    intro hk
    show trTo (t ++ m) k ++ [_] = trTo t k ++ [_]
    rw [ih (by omega), nth_app (by omega)]
theorem tr_app (t m : List Nd) {j : Nat} (h : j < t.length) : tr (t ++ m) j = tr t j := by
  unfold tr
  rw [tr_prefix (t ++ m) (k := t.length) h (t ++ m).length (by simp), trTo_app t m _ (Nat.le_refl _)]
end Go.Proofs.Ytiojfommmmggoaa.Tr0

/- Plain laws of words: what the laws of chapter 1 ask of the numbers. -/
namespace Go.Proofs.Ytiojfommmmggoaa.Pl2
open Go.RowKit
open Pl1

theorem wok_mod {m : Int} (x : Int) (h1 : 1 ≤ m) (h2 : m ≤ 8) : wok m (x % p2 m.toNat) = true :=
  wok_iff.2 ⟨h1, h2, emod_le _⟩
theorem add_eq {m a b : Int} (ha : wok m a = true) (hb : wok m b = true) : vAdd m a b = (a + b) % p2 m.toNat := by simp [vAdd, ha, hb]
theorem sub_eq {m a b : Int} (ha : wok m a = true) (hb : wok m b = true) : vSub m a b = (a - b) % p2 m.toNat := by simp [vSub, ha, hb]
theorem mul_eq {m a b : Int} (ha : wok m a = true) (hb : wok m b = true) : vMul m a b = a * b % p2 m.toNat := by simp [vMul, ha, hb]
theorem flip_eq {m a : Int} (ha : wok m a = true) : vFlip m a = p2 m.toNat - 1 - a := by simp [vFlip, ha]
theorem wok_add {m a b : Int} (ha : wok m a = true) (hb : wok m b = true) : wok m (vAdd m a b) = true := by
  obtain ⟨h1, h2, _⟩ := wok_iff.1 ha
  rw [add_eq ha hb]; exact wok_mod _ h1 h2
theorem wok_sub {m a b : Int} (ha : wok m a = true) (hb : wok m b = true) : wok m (vSub m a b) = true := by
  obtain ⟨h1, h2, _⟩ := wok_iff.1 ha
  rw [sub_eq ha hb]; exact wok_mod _ h1 h2
theorem wok_mul {m a b : Int} (ha : wok m a = true) (hb : wok m b = true) : wok m (vMul m a b) = true := by
  obtain ⟨h1, h2, _⟩ := wok_iff.1 ha
  rw [mul_eq ha hb]; exact wok_mod _ h1 h2
theorem wok_flip {m a : Int} (ha : wok m a = true) : wok m (vFlip m a) = true := by
  obtain ⟨h1, h2, h3, h4⟩ := wok_iff.1 ha
  rw [flip_eq ha]; exact wok_iff.2 ⟨h1, h2, by omega, by omega⟩

theorem wok_zero {m : Int} (h1 : 1 ≤ m) (h2 : m ≤ 8) : wok m 0 = true := wok_iff.2 ⟨h1, h2, by omega, by have := p2_pos m.toNat; omega⟩
end Go.Proofs.Ytiojfommmmggoaa.Pl2

/- Arrays: what a block holds, cell by cell. -/
namespace Go.Proofs.Ytiojfommmmggoaa.Rw0
open Go.RowKit
open Nd0

def Row (w : World) (g n : Nat) (f : Nat → Value) : Prop := ∀ i, i < n → w.cell? ⟨g, i, none⟩ = some (f i) ∧ w.frozen? ⟨g, i, none⟩ = false

theorem Row.set {w : World} {g n : Nat} {f : Nat → Value} (h : Row w g n f) {p : Nat} (hp : p < n) (v : Value) : Row (w.setCell ⟨g, p, none⟩ v) g n (fun i => if i = p then v else f i) := by
  intro i hi
  by_cases e : i = p
  · subst e
    dsimp only
    rw [if_pos rfl]
    exact ⟨set_same (h i hi).1, by simp only [World.frozen?_setCell]; exact (h i hi).2⟩
  · dsimp only
    rw [if_neg e]
    exact ⟨by rw [set_other (by intro x; cases x; exact e rfl)]; exact (h i hi).1, by simp only [World.frozen?_setCell]; exact (h i hi).2⟩
theorem Row.kept {w w' : World} {g n : Nat} {f : Nat → Value} (h : Row w g n f) {S : Nat → Prop} (k : Kept S w w') (hs : ¬ S g) : Row w' g n f := fun i hi =>
  ⟨by rw [k.cell (p := ⟨g, i, none⟩) (lt_of_cell (h i hi).1) hs]; exact (h i hi).1, by rw [k.frozen (p := ⟨g, i, none⟩) (lt_of_cell (h i hi).1) hs]; exact (h i hi).2⟩
theorem Row.below {w w' : World} {g n : Nat} {f : Nat → Value} (h : Row w g n f) (k : Below w.heap.size w w') : Row w' g n f := h.kept (S := fun _ => False) (Kept.ofBelow k) (fun h => h)
theorem Row.congr {w : World} {g n : Nat} {f f' : Nat → Value} (h : Row w g n f) (e : ∀ i, i < n → f i = f' i) : Row w g n f' := fun i hi => by rw [← e i hi]; exact h i hi
theorem Row.new (w : World) (cs : Array Value) (T n : Nat) (f : Nat → Value) (h : ∀ i, i < n → cs[i]? = some (f i)) : Row (w.alloc (.cells cs T)) w.heap.size n f := by
  intro i hi
  refine ⟨?_, by simp⟩
  rw [World.cell?_alloc_new]
  exact h i hi
theorem Row.drew {w : World} {g n : Nat} {f : Nat → Value} (h : Row w g n f) : Row w.drew g n f := fun i hi => h i hi
theorem Row.lt {w : World} {g n : Nat} {f : Nat → Value} (h : Row w g n f) (hn : 0 < n) : g < w.heap.size := lt_of_cell (p := ⟨g, 0, none⟩) (h 0 hn).1

end Go.Proofs.Ytiojfommmmggoaa.Rw0
