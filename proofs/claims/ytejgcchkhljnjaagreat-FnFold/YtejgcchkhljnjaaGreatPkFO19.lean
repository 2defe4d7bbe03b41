/- Small texts of mine, one behind the other. -/
import Derived.Test.YtejgcchkhljnjaaGreatPkFO12
import Derived.Test.YtejgcchkhljnjaaGreatPkFO16
import Derived.Test.YtejgcchkhljnjaaGreatPkFO17
/- Terms from terms, as plain data: what a walk over a term says of each node, the variables, levels, counts, and what stands behind a term. -/
namespace Go.Proofs.YtejgcchkhljnjaaGreat.Aq0
open Nd0 Pl1 Tm0 Tm1 Tm3 Tm4 Tm5 Tm7 Tm8 Tm12 Tm13
set_option linter.unusedVariables false

def wk {α : Type} (d : α) (f : Nat → Nd → List α → α) (l : List Nd) : Nat → List α
  | 0 => []
  | k + 1 => wk d f l k ++ [f k (nth l k) ((parts (nth l k)).map fun p => (wk d f l k).getD p.toNat d)]
theorem wk_length {α : Type} (d : α) (f : Nat → Nd → List α → α) (l : List Nd) (k : Nat) : (wk d f l k).length = k := by
  induction k with
  | zero => rfl
  | succ k ih => show (wk d f l k ++ [_]).length = _; rw [List.length_append, ih]; rfl
theorem wk_old {α : Type} (d : α) (f : Nat → Nd → List α → α) (l : List Nd) {i k n : Nat} (h : i < k) (hn : k ≤ n) : (wk d f l n).getD i d = (wk d f l k).getD i d := by
  induction n with
  | zero => have : k = 0 := by omega
            subst this; rfl
  | succ n ih =>
    by_cases e : k = n + 1
    · subst e; rfl
    · rw [← ih (by omega)]
      show (wk d f l n ++ [_]).getD i d = _
      rw [List.getD_eq_getElem?_getD, List.getElem?_append_left (by rw [wk_length]; omega), ← List.getD_eq_getElem?_getD]
theorem wk_new {α : Type} (d : α) (f : Nat → Nd → List α → α) (l : List Nd) (k : Nat) : (wk d f l (k + 1)).getD k d = f k (nth l k) ((parts (nth l k)).map fun p => (wk d f l k).getD p.toNat d) := by
  show (wk d f l k ++ [_]).getD k d = _
  rw [List.getD_eq_getElem?_getD, List.getElem?_append_right (by rw [wk_length]; exact Nat.le_refl _), wk_length]
  simp
theorem wk_set {α : Type} (d : α) (f : Nat → Nd → List α → α) (l : List Nd) (k i : Nat) : (wk d f l (k + 1)).getD i d = if i = k then f k (nth l k) ((parts (nth l k)).map fun p => (wk d f l k).getD p.toNat d) else (wk d f l k).getD i d := by
  by_cases e : i = k
  · rw [if_pos e, e, wk_new]
  · rw [if_neg e]
    by_cases h : i < k
    · exact wk_old d f l h (by omega)
    · rw [List.getD_eq_getElem?_getD, List.getD_eq_getElem?_getD, List.getElem?_eq_none (by rw [wk_length]; omega), List.getElem?_eq_none (by rw [wk_length]; omega)]
def said {α : Type} (d : α) (f : Nat → Nd → List α → α) (l : List Nd) (i : Nat) : List α := (parts (nth l i)).map fun p => (wk d f l i).getD p.toNat d
theorem said_len {α : Type} (d : α) (f : Nat → Nd → List α → α) (l : List Nd) (i : Nat) : (said d f l i).length = (parts (nth l i)).length := by simp [said]
theorem wk_at {α : Type} (d : α) (f : Nat → Nd → List α → α) {l : List Nd} (hD : Down l) {i n : Nat} (hi : i < l.length) (hn : i < n) : (wk d f l n).getD i d = f i (nth l i) ((parts (nth l i)).map fun p => (wk d f l n).getD p.toNat d) := by
  rw [wk_old d f l (k := i + 1) (by omega) (by omega), wk_new]
  congr 1
  apply List.map_congr_left
  intro p hp
  have := hD i hi p hp
  rw [wk_old d f l (i := p.toNat) (k := i) (n := n) (by omega) (by omega)]
def mx (a b : Int) : Int := if a < b then b else a
def most (l : List Int) : Int := l.foldl mx 0
theorem most_snoc (l : List Int) (x : Int) : most (l ++ [x]) = mx (most l) x := by simp [most]
def levF (_ : Nat) (_ : Nd) (ps : List Int) : Int := most ps + 1
def levTo (l : List Nd) (k : Nat) : List Int := wk 0 levF l k
def levelL (l : List Nd) : Int := if termOk l then (levTo l l.length).getD (l.length - 1) 0 else 0
theorem mx_bound {a b m : Int} (h0 : 0 ≤ a) (h1 : a ≤ m) (h2 : b ≤ m) : 0 ≤ mx a b ∧ mx a b ≤ m := by unfold mx; split <;> omega
theorem most_bound {m : Int} (hm : 0 ≤ m) : ∀ (l : List Int), (∀ x ∈ l, x ≤ m) → 0 ≤ most l ∧ most l ≤ m := by
  have : ∀ (l : List Int) (a : Int), 0 ≤ a → a ≤ m → (∀ x ∈ l, x ≤ m) → 0 ≤ l.foldl mx a ∧ l.foldl mx a ≤ m := by
    intro l
    induction l with
    | nil => intro a h0 h1 _; exact ⟨h0, h1⟩
    | cons x l ih =>
      intro a h0 h1 h
      have := mx_bound h0 h1 (h x (by simp))
      exact ih _ this.1 this.2 fun y hy => h y (by simp [hy])
  intro l h
  exact this l 0 (by omega) hm h
theorem lev_bound (l : List Nd) : ∀ k, ∀ x ∈ levTo l k, 1 ≤ x ∧ x ≤ (k : Int) := by
  intro k
  induction k with
  | zero => intro x hx; cases hx
  | succ k ih =>
    intro x hx
    have hx' : x ∈ levTo l k ++ [levF k (nth l k) ((parts (nth l k)).map fun p => (levTo l k).getD p.toNat 0)] := hx
    rw [List.mem_append] at hx'
    rcases hx' with h | h
    · have := ih x h; omega
    · have hb := most_bound (m := (k : Int)) (by omega) ((parts (nth l k)).map fun p => (levTo l k).getD p.toNat 0) (fun y hy => by
        obtain ⟨p, _, rfl⟩ := List.mem_map.1 hy
        by_cases e : p.toNat < (levTo l k).length
        · rw [List.getD_eq_getElem?_getD, List.getElem?_eq_getElem e]
          exact (ih _ (List.getElem_mem e)).2
        · rw [List.getD_eq_getElem?_getD, List.getElem?_eq_none (by omega)]; simp)
      simp only [List.mem_singleton] at h
      subst h
      unfold levF
      omega
theorem lev_at (l : List Nd) {i k : Nat} (h : i < k) : 1 ≤ (levTo l k).getD i 0 ∧ (levTo l k).getD i 0 ≤ (k : Int) := by
  have e : i < (levTo l k).length := by unfold levTo; rw [wk_length]; exact h
  rw [List.getD_eq_getElem?_getD, List.getElem?_eq_getElem e]
  exact lev_bound l k _ (List.getElem_mem e)

end Go.Proofs.YtejgcchkhljnjaaGreat.Aq0

/- Terms from terms, as plain data: constants put together, terms joined, numbers that are taken. -/
namespace Go.Proofs.YtejgcchkhljnjaaGreat.Aq1
open Nd0 Pl1 Tm0 Tm1 Tm3 Tm4 Tm5 Tm7 Tm8 Tm12 Tm13 Vl1 Aq0
set_option linter.unusedVariables false

def conB (n : Nd) (ps : List Nd) : Bool := decide (0 < ps.length) && !quant n.op && ps.all fun p => p.op == 0
def kOf (ps : List Nd) (i : Nat) : Int := (ps.getD i Nd.zero).k
def conN (n : Nd) (ps : List Nd) : Nd := ⟨0, n.w, applyL n.op n.w n.k (ps.getD 0 Nd.zero).w (kOf ps 0) (kOf ps 1) (kOf ps 2), 0, 0, 0⟩
def foldF (_ : Nat) (n : Nd) (ps : List Nd) : Nd := if conB n ps then conN n ps else n
def foldTo (l : List Nd) (k : Nat) : List Nd := wk Nd.zero foldF l k
def foldL (l : List Nd) : List Nd := if termOk l then pruneL (foldTo l l.length) else []
theorem foldL_le (l : List Nd) : (foldL l).length ≤ l.length := by
  unfold foldL
  split
  · exact Nat.le_trans (pruneL_le _) (by unfold foldTo; rw [wk_length]; exact Nat.le_refl _)
  · exact Nat.zero_le _

end Go.Proofs.YtejgcchkhljnjaaGreat.Aq1

/- Constants put together, over trees: the same worth, and nothing is left to put together. Plain data. -/
namespace Go.Proofs.YtejgcchkhljnjaaGreat.Aq7
open Nd0 Pl1 Tm0 Tm1 Tm3 Tm5 Tm8 Tr0 Vl1 Aq0 Aq1
set_option linter.unusedVariables false

def kT : Tr → Int
  | .leaf _ _ k => k
  | _ => 0
def cT : Tr → Bool
  | .leaf op _ _ => op == 0
  | _ => false
def foT : Tr → Tr
  | .leaf op w k => .leaf op w k
  | .one op w k b x => if !quant op && cT (foT x) then .leaf 0 w (applyL op w k (foT x).wid (kT (foT x)) 0 0) else .one op w k b (foT x)
  | .two op w x y => if cT (foT x) && cT (foT y) then .leaf 0 w (applyL op w 0 (foT x).wid (kT (foT x)) (kT (foT y)) 0) else .two op w (foT x) (foT y)
  | .three op w x y z => if cT (foT x) && cT (foT y) && cT (foT z) then .leaf 0 w (applyL op w 0 (foT x).wid (kT (foT x)) (kT (foT y)) (kT (foT z))) else .three op w (foT x) (foT y) (foT z)

theorem fo_wid (x : Tr) : (foT x).wid = x.wid := by
  cases x
  · rfl
  all_goals (unfold foT; split <;> rfl)
theorem leaf_val {w K : Int} (h1 : 1 ≤ w) (h8 : w ≤ 8) (e : List Int) : vT (.leaf 0 w K) e = K := by
  show (if (0 : Int) = 1 then e.getD K.toNat 0 else applyL 0 w K 1 0 0 0) = K
  rw [if_neg (by omega)]
  unfold applyL inR
  rw [decide_eq_true (show 1 ≤ w ∧ w ≤ 8 from ⟨h1, h8⟩)]
  rfl
theorem c_val {x : Tr} (h : cT x = true) (h1 : 1 ≤ x.wid) (h8 : x.wid ≤ 8) (e : List Int) : vT x e = kT x := by
  cases x with
  | leaf op w k =>
    have e0 : op = 0 := beq_iff_eq.1 h
    subst e0
    exact leaf_val h1 h8 e
  | one op w k b x => cases h
  | two op w x y => cases h
  | three op w x y z => cases h
theorem fo_val : ∀ x : Tr, Rt x → ∀ e, vT (foT x) e = vT x e := by
  intro x
  induction x with
  | leaf op w k => intro _ e; rfl
  | one op w k b x ih =>
    intro hR e
    have hx := ih hR.2.2.1
    have hw := hR.2.2.1.wid
    unfold foT
    by_cases hc : (!quant op && cT (foT x)) = true
    · rw [if_pos hc]
      rw [Bool.and_eq_true] at hc
      have hq : quant op = false := by
        cases h : quant op
        · rfl
        · rw [h] at hc; cases hc.1
      unfold quant at hq
      rw [Bool.or_eq_false_iff] at hq
      have h19 : ¬ op = 19 := fun h => by rw [h] at hq; cases hq.1
      have h20 : ¬ op = 20 := fun h => by rw [h] at hq; cases hq.2
      rw [leaf_val hR.1 hR.2.1]
      have hk := c_val hc.2 (by rw [fo_wid]; exact hw.1) (by rw [fo_wid]; exact hw.2) e
      rw [hx] at hk
      rw [fo_wid, ← hk]
      show _ = (if op = 19 then _ else if op = 20 then _ else applyL op w k x.wid (vT x e) 0 0)
      rw [if_neg h19, if_neg h20]
    · rw [if_neg hc]
      show (if op = 19 then (if (List.range (2 ^ b.toNat)).all (fun i => vT (foT x) (e.set k.toNat (i : Int)) == 1) then (1 : Int) else 0) else if op = 20 then (if (List.range (2 ^ b.toNat)).any (fun i => vT (foT x) (e.set k.toNat (i : Int)) == 1) then 1 else 0) else applyL op w k (foT x).wid (vT (foT x) e) 0 0) = _
      simp only [hx, fo_wid]
      rfl
  | two op w x y ihx ihy =>
    intro hR e
    have hx := ihx hR.2.2.1
    have hy := ihy hR.2.2.2.1
    have hwx := hR.2.2.1.wid
    have hwy := hR.2.2.2.1.wid
    unfold foT
    by_cases hc : (cT (foT x) && cT (foT y)) = true
    · rw [if_pos hc]
      rw [Bool.and_eq_true] at hc
      rw [leaf_val hR.1 hR.2.1]
      have h1 := c_val hc.1 (by rw [fo_wid]; exact hwx.1) (by rw [fo_wid]; exact hwx.2) e
      have h2 := c_val hc.2 (by rw [fo_wid]; exact hwy.1) (by rw [fo_wid]; exact hwy.2) e
      rw [hx] at h1
      rw [hy] at h2
      rw [fo_wid, ← h1, ← h2]
      rfl
    · rw [if_neg hc]
      show applyL op w 0 (foT x).wid (vT (foT x) e) (vT (foT y) e) 0 = _
      rw [hx, hy, fo_wid]
      rfl
  | three op w x y z ihx ihy ihz =>
    intro hR e
    have hx := ihx hR.2.2.1
    have hy := ihy hR.2.2.2.1
    have hz := ihz hR.2.2.2.2.1
    have hwx := hR.2.2.1.wid
    have hwy := hR.2.2.2.1.wid
    have hwz := hR.2.2.2.2.1.wid
    unfold foT
    by_cases hc : (cT (foT x) && cT (foT y) && cT (foT z)) = true
    · rw [if_pos hc]
      rw [Bool.and_eq_true, Bool.and_eq_true] at hc
      rw [leaf_val hR.1 hR.2.1]
      have h1 := c_val hc.1.1 (by rw [fo_wid]; exact hwx.1) (by rw [fo_wid]; exact hwx.2) e
      have h2 := c_val hc.1.2 (by rw [fo_wid]; exact hwy.1) (by rw [fo_wid]; exact hwy.2) e
      have h3 := c_val hc.2 (by rw [fo_wid]; exact hwz.1) (by rw [fo_wid]; exact hwz.2) e
      rw [hx] at h1
      rw [hy] at h2
      rw [hz] at h3
      rw [fo_wid, ← h1, ← h2, ← h3]
      rfl
    · rw [if_neg hc]
      show applyL op w 0 (foT x).wid (vT (foT x) e) (vT (foT y) e) (vT (foT z) e) = _
      rw [hx, hy, hz, fo_wid]
      rfl
end Go.Proofs.YtejgcchkhljnjaaGreat.Aq7

/- The tree of a folded list is the folded tree. Plain data. -/
namespace Go.Proofs.YtejgcchkhljnjaaGreat.Aq8
open Nd0 Pl1 Tm0 Tm1 Tm3 Tm5 Tm8 Tr0 Vl1 Aq0 Aq1 Aq7
set_option linter.unusedVariables false

theorem apply_k {op : Int} (h0 : ¬ op = 0) (h17 : ¬ op = 17) (W k w a b c : Int) : applyL op W k w a b c = applyL op W 0 w a b c := by
  unfold applyL opL
  simp only [h0, h17, if_false]
theorem ct_mk (m : Nd) (f : Nat → Tr) : cT (mkF m f) = (m.op == 0) := by
  by_cases h1 : m.op = 2 ∨ m.op = 17 ∨ m.op = 19 ∨ m.op = 20
  · rw [mk_one h1]; exact (beq_eq_false_iff_ne.2 (by omega)).symm
  · by_cases h2 : 3 ≤ m.op ∧ m.op ≤ 16
    · rw [mk_two h2]; exact (beq_eq_false_iff_ne.2 (by omega)).symm
    · by_cases h3 : m.op = 18
      · rw [mk_three h3]; exact (beq_eq_false_iff_ne.2 (by omega)).symm
      · rw [mk_leaf h1 h2 h3]; rfl
theorem mk_zero {m : Nd} (h : m.op = 0) (f : Nat → Tr) : mkF m f = .leaf 0 m.w m.k := by
  rw [mk_leaf (by omega) (by omega) (by omega), h]
theorem kt_mk {m : Nd} (h : m.op = 0) (f : Nat → Tr) : kT (mkF m f) = m.k := by rw [mk_zero h]; rfl
theorem fold_len (l : List Nd) : (foldTo l l.length).length = l.length := wk_length _ _ _ _
theorem fold_nth {l : List Nd} (hD : Down l) {i : Nat} (hi : i < l.length) : nth (foldTo l l.length) i = foldF i (nth l i) ((parts (nth l i)).map fun p => nth (foldTo l l.length) p.toNat) := wk_at Nd.zero foldF hD hi hi
theorem con_parts (n : Nd) (ps : List Nd) : parts (conN n ps) = [] := rfl
theorem fold_down {l : List Nd} (hD : Down l) : Down (foldTo l l.length) := by
  intro i hi p hp
  rw [fold_len] at hi
  rw [fold_nth hD hi] at hp
  unfold foldF at hp
  split at hp
  · rw [con_parts] at hp; cases hp
  · exact hD i hi p hp

theorem tr_fold {l : List Nd} (hD : Down l) : ∀ i, i < l.length → tr (foldTo l l.length) i = foT (tr l i) := by
  intro i
  induction i using Nat.strongRecOn with
  | ind i ih =>
    intro hi
    have hF := fold_down hD
    rw [tr_at hF (by rw [fold_len]; exact hi), tr_at hD hi, fold_nth hD hi]
    have hp : ∀ p ∈ parts (nth l i), tr (foldTo l l.length) p.toNat = foT (tr l p.toNat) ∧ cT (foT (tr l p.toNat)) = ((nth (foldTo l l.length) p.toNat).op == 0) ∧ ((nth (foldTo l l.length) p.toNat).op = 0 → kT (foT (tr l p.toNat)) = (nth (foldTo l l.length) p.toNat).k) ∧ (foT (tr l p.toNat)).wid = (nth (foldTo l l.length) p.toNat).w := fun p hp => by
      have hd := hD i hi p hp
      have h := ih p.toNat (by omega) (by omega)
      have ht := tr_at hF (i := p.toNat) (by rw [fold_len]; omega)
      refine ⟨h, ?_, fun h0 => ?_, ?_⟩
      · rw [← h, ht, ct_mk]
      · rw [← h, ht, kt_mk h0]
      · rw [← h, ht, mk_wid]
    generalize foldTo l l.length = F at hp ⊢
    generalize nth l i = n at hp ⊢
    by_cases h1 : n.op = 2 ∨ n.op = 17 ∨ n.op = 19 ∨ n.op = 20
    · rw [parts_one h1] at hp ⊢
      obtain ⟨e1, e2, e3, e4⟩ := hp n.a (by simp)
      simp only [List.map_cons, List.map_nil]
      generalize nth F n.a.toNat = A at e2 e3 e4 ⊢
      have hB : conB n [A] = (!quant n.op && (A.op == 0)) := by unfold conB; simp
      rw [mk_one h1 (tr l)]
      by_cases hc : (!quant n.op && (A.op == 0)) = true
      · have hA : A.op = 0 := by rw [Bool.and_eq_true, beq_iff_eq] at hc; exact hc.2
        have e : foldF i n [A] = conN n [A] := if_pos (hB.trans hc)
        have r : foT (.one n.op n.w n.k n.b (tr l n.a.toNat)) = .leaf 0 n.w (applyL n.op n.w n.k (foT (tr l n.a.toNat)).wid (kT (foT (tr l n.a.toNat))) 0 0) := if_pos (by rw [e2]; exact hc)
        rw [e, r, mk_zero (m := conN n [A]) rfl, e4, e3 hA]
        rfl
      · have e : foldF i n [A] = n := if_neg (fun h => hc (hB.symm.trans h))
        have r : foT (.one n.op n.w n.k n.b (tr l n.a.toNat)) = .one n.op n.w n.k n.b (foT (tr l n.a.toNat)) := if_neg (by rw [e2]; exact hc)
        rw [e, r, mk_one h1, e1]
    · by_cases h2 : 3 ≤ n.op ∧ n.op ≤ 16
      · rw [parts_two h2] at hp ⊢
        obtain ⟨e1, e2, e3, e4⟩ := hp n.a (by simp)
        obtain ⟨f1, f2, f3, f4⟩ := hp n.b (by simp)
        simp only [List.map_cons, List.map_nil]
        generalize nth F n.a.toNat = A at e2 e3 e4 ⊢
        generalize nth F n.b.toNat = B at f2 f3 f4 ⊢
        have hq : quant n.op = false := by unfold quant; rw [Bool.or_eq_false_iff]; exact ⟨beq_eq_false_iff_ne.2 (by omega), beq_eq_false_iff_ne.2 (by omega)⟩
        have hB : conB n [A, B] = ((A.op == 0) && (B.op == 0)) := by unfold conB; simp [hq]
        rw [mk_two h2 (tr l)]
        by_cases hc : ((A.op == 0) && (B.op == 0)) = true
        · have hA : A.op = 0 ∧ B.op = 0 := by rw [Bool.and_eq_true, beq_iff_eq, beq_iff_eq] at hc; exact hc
          have e : foldF i n [A, B] = conN n [A, B] := if_pos (hB.trans hc)
          have r : foT (.two n.op n.w (tr l n.a.toNat) (tr l n.b.toNat)) = .leaf 0 n.w (applyL n.op n.w 0 (foT (tr l n.a.toNat)).wid (kT (foT (tr l n.a.toNat))) (kT (foT (tr l n.b.toNat))) 0) := if_pos (by rw [e2, f2]; exact hc)
          rw [e, r, mk_zero (m := conN n [A, B]) rfl, e4, e3 hA.1, f3 hA.2, ← apply_k (k := n.k) (by omega) (by omega)]
          rfl
        · have e : foldF i n [A, B] = n := if_neg (fun h => hc (hB.symm.trans h))
          have r : foT (.two n.op n.w (tr l n.a.toNat) (tr l n.b.toNat)) = .two n.op n.w (foT (tr l n.a.toNat)) (foT (tr l n.b.toNat)) := if_neg (by rw [e2, f2]; exact hc)
          rw [e, r, mk_two h2, e1, f1]
      · by_cases h3 : n.op = 18
        · rw [parts_three h3] at hp ⊢
          obtain ⟨e1, e2, e3, e4⟩ := hp n.a (by simp)
          obtain ⟨f1, f2, f3, f4⟩ := hp n.b (by simp)
          obtain ⟨g1, g2, g3, g4⟩ := hp n.c (by simp)
          simp only [List.map_cons, List.map_nil]
          generalize nth F n.a.toNat = A at e2 e3 e4 ⊢
          generalize nth F n.b.toNat = B at f2 f3 f4 ⊢
          generalize nth F n.c.toNat = C at g2 g3 g4 ⊢
          have hq : quant n.op = false := by unfold quant; rw [Bool.or_eq_false_iff]; exact ⟨beq_eq_false_iff_ne.2 (by omega), beq_eq_false_iff_ne.2 (by omega)⟩
          have hB : conB n [A, B, C] = ((A.op == 0) && (B.op == 0) && (C.op == 0)) := by unfold conB; simp [hq, Bool.and_assoc]
          rw [mk_three h3 (tr l)]
          by_cases hc : ((A.op == 0) && (B.op == 0) && (C.op == 0)) = true
          · have hA : (A.op = 0 ∧ B.op = 0) ∧ C.op = 0 := by rw [Bool.and_eq_true, Bool.and_eq_true, beq_iff_eq, beq_iff_eq, beq_iff_eq] at hc; exact hc
            have e : foldF i n [A, B, C] = conN n [A, B, C] := if_pos (hB.trans hc)
            have r : foT (.three n.op n.w (tr l n.a.toNat) (tr l n.b.toNat) (tr l n.c.toNat)) = .leaf 0 n.w (applyL n.op n.w 0 (foT (tr l n.a.toNat)).wid (kT (foT (tr l n.a.toNat))) (kT (foT (tr l n.b.toNat))) (kT (foT (tr l n.c.toNat)))) := if_pos (by rw [e2, f2, g2]; exact hc)
            rw [e, r, mk_zero (m := conN n [A, B, C]) rfl, e4, e3 hA.1.1, f3 hA.1.2, g3 hA.2, ← apply_k (k := n.k) (by omega) (by omega)]
            rfl
          · have e : foldF i n [A, B, C] = n := if_neg (fun h => hc (hB.symm.trans h))
            have r : foT (.three n.op n.w (tr l n.a.toNat) (tr l n.b.toNat) (tr l n.c.toNat)) = .three n.op n.w (foT (tr l n.a.toNat)) (foT (tr l n.b.toNat)) (foT (tr l n.c.toNat)) := if_neg (by rw [e2, f2, g2]; exact hc)
            rw [e, r, mk_three h3, e1, f1, g1]
        · rw [parts_none h1 h2 h3]
          have e : foldF i n [] = n := if_neg (by unfold conB; simp)
          rw [List.map_nil, e, mk_leaf h1 h2 h3, mk_leaf h1 h2 h3]
          rfl

end Go.Proofs.YtejgcchkhljnjaaGreat.Aq8

/- A folded right tree is right. Plain data. -/
namespace Go.Proofs.YtejgcchkhljnjaaGreat.Aq9
open Nd0 Pl1 Tm0 Tm1 Tm3 Tm5 Tm8 Tr0 Vl1 Vl2 Aq0 Aq1 Aq7
set_option linter.unusedVariables false

theorem need_con {x : Tr} (h : cT x = true) : ∃ r, needT x = some r ∧ ∀ v : Nat, v < 8 → r.getD v 0 = 0 := by
  cases x with
  | leaf op w k =>
    have e0 : op = 0 := beq_iff_eq.1 h
    subst e0
    refine ⟨_, rfl, fun v hv => ?_⟩
    rw [List.getD_eq_getElem?_getD, List.getElem?_map, List.getElem?_range hv]
    rfl
  | one op w k b x => cases h
  | two op w x y => cases h
  | three op w x y z => cases h
theorem fits_zero {r : List Nat} (e : List Int) (h : ∀ v : Nat, v < 8 → r.getD v 0 = 0) : Fits r e := by
  intro v hv j _ _ hb
  rw [h v hv, Nat.zero_testBit] at hb
  cases hb
def E0 : List Int := List.replicate 8 0
theorem E0_len : E0.length = 8 := by simp [E0]
theorem or_zero {r s : List Nat} (h : ∀ v : Nat, v < 8 → r.getD v 0 = 0) (h2 : ∀ v : Nat, v < 8 → s.getD v 0 = 0) : ∀ v : Nat, v < 8 → (orL r s).getD v 0 = 0 := by
  intro v hv
  rw [or_at r s hv, h v hv, h2 v hv]; rfl

theorem fo_rt : ∀ x : Tr, Rt x → Rt (foT x) := by
  intro x
  induction x with
  | leaf op w k => intro h; exact h
  | one op w k b x ih =>
    intro hR
    have hx := ih hR.2.2.1
    have hw := hR.2.2.1.wid
    have ht : Rt (.one op w k b (foT x)) := ⟨hR.1, hR.2.1, hx, by rw [fo_wid]; exact hR.2.2.2⟩
    unfold foT
    by_cases hc : (!quant op && cT (foT x)) = true
    · rw [if_pos hc]
      rw [Bool.and_eq_true] at hc
      have hq : quant op = false := by
        cases h : quant op
        · rfl
        · rw [h] at hc; cases hc.1
      have hq2 := hq
      unfold quant at hq2
      rw [Bool.or_eq_false_iff] at hq2
      have h19 : ¬ op = 19 := fun h => by rw [h] at hq2; cases hq2.1
      have h20 : ¬ op = 20 := fun h => by rw [h] at hq2; cases hq2.2
      obtain ⟨r, hr, hz⟩ := need_con hc.2
      have hn : needT (.one op w k b (foT x)) = some r := by
        show (needT (foT x)).bind (fun r => if quant op then _ else some r) = _
        rw [hr, hq]
        rfl
      have hv := value_word _ r E0 ht hn E0_len (fits_zero _ hz)
      have hval : vT (.one op w k b (foT x)) E0 = applyL op w k (foT x).wid (kT (foT x)) 0 0 := by
        show (if op = 19 then _ else if op = 20 then _ else applyL op w k (foT x).wid (vT (foT x) E0) 0 0) = _
        rw [if_neg h19, if_neg h20, c_val hc.2 (by rw [fo_wid]; exact hw.1) (by rw [fo_wid]; exact hw.2)]
      rw [hval] at hv
      exact ⟨hR.1, hR.2.1, .inl ⟨rfl, hv⟩⟩
    · rw [if_neg hc]; exact ht
  | two op w x y ihx ihy =>
    intro hR
    have hx := ihx hR.2.2.1
    have hy := ihy hR.2.2.2.1
    have hwx := hR.2.2.1.wid
    have hwy := hR.2.2.2.1.wid
    have ht : Rt (.two op w (foT x) (foT y)) := ⟨hR.1, hR.2.1, hx, hy, by rw [fo_wid, fo_wid]; exact hR.2.2.2.2⟩
    unfold foT
    by_cases hc : (cT (foT x) && cT (foT y)) = true
    · rw [if_pos hc]
      rw [Bool.and_eq_true] at hc
      obtain ⟨r, hr, hz⟩ := need_con hc.1
      obtain ⟨s, hs, hz2⟩ := need_con hc.2
      have hn : needT (.two op w (foT x) (foT y)) = some (orL r s) := by
        show (needT (foT x)).bind (fun r => (needT (foT y)).bind fun s => some (orL r s)) = _
        rw [hr, hs]
        rfl
      have hv := value_word _ _ E0 ht hn E0_len (fits_zero _ (or_zero hz hz2))
      have hval : vT (.two op w (foT x) (foT y)) E0 = applyL op w 0 (foT x).wid (kT (foT x)) (kT (foT y)) 0 := by
        show applyL op w 0 (foT x).wid (vT (foT x) E0) (vT (foT y) E0) 0 = _
        rw [c_val hc.1 (by rw [fo_wid]; exact hwx.1) (by rw [fo_wid]; exact hwx.2), c_val hc.2 (by rw [fo_wid]; exact hwy.1) (by rw [fo_wid]; exact hwy.2)]
      rw [hval] at hv
      exact ⟨hR.1, hR.2.1, .inl ⟨rfl, hv⟩⟩
    · rw [if_neg hc]; exact ht
  | three op w x y z ihx ihy ihz =>
    intro hR
    have hx := ihx hR.2.2.1
    have hy := ihy hR.2.2.2.1
    have hz' := ihz hR.2.2.2.2.1
    have hwx := hR.2.2.1.wid
    have hwy := hR.2.2.2.1.wid
    have hwz := hR.2.2.2.2.1.wid
    have ht : Rt (.three op w (foT x) (foT y) (foT z)) := ⟨hR.1, hR.2.1, hx, hy, hz', by rw [fo_wid, fo_wid, fo_wid]; exact hR.2.2.2.2.2⟩
    unfold foT
    by_cases hc : (cT (foT x) && cT (foT y) && cT (foT z)) = true
    · rw [if_pos hc]
      rw [Bool.and_eq_true, Bool.and_eq_true] at hc
      obtain ⟨r, hr, hz⟩ := need_con hc.1.1
      obtain ⟨s, hs, hz2⟩ := need_con hc.1.2
      obtain ⟨u, hu, hz3⟩ := need_con hc.2
      have hn : needT (.three op w (foT x) (foT y) (foT z)) = some (orL (orL r s) u) := by
        show (needT (foT x)).bind (fun r => (needT (foT y)).bind fun s => (needT (foT z)).bind fun u => some (orL (orL r s) u)) = _
        rw [hr, hs, hu]
        rfl
      have hv := value_word _ _ E0 ht hn E0_len (fits_zero _ (or_zero (or_zero hz hz2) hz3))
      have hval : vT (.three op w (foT x) (foT y) (foT z)) E0 = applyL op w 0 (foT x).wid (kT (foT x)) (kT (foT y)) (kT (foT z)) := by
        show applyL op w 0 (foT x).wid (vT (foT x) E0) (vT (foT y) E0) (vT (foT z) E0) = _
        rw [c_val hc.1.1 (by rw [fo_wid]; exact hwx.1) (by rw [fo_wid]; exact hwx.2), c_val hc.1.2 (by rw [fo_wid]; exact hwy.1) (by rw [fo_wid]; exact hwy.2), c_val hc.2 (by rw [fo_wid]; exact hwz.1) (by rw [fo_wid]; exact hwz.2)]
      rw [hval] at hv
      exact ⟨hR.1, hR.2.1, .inl ⟨rfl, hv⟩⟩
    · rw [if_neg hc]; exact ht

end Go.Proofs.YtejgcchkhljnjaaGreat.Aq9
