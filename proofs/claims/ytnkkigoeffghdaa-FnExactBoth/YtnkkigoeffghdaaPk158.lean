/- Small texts of mine, one behind the other. -/
import Derived.Test.YtnkkigoeffghdaaPk157
import Derived.Test.YtnkkigoeffghdaaPk156
/- A term without what its root does not reach: it is right, all of it is reached, and it is pruned already, as plain data. -/
namespace Go.Proofs.Ytnkkigoeffghdaa.Tm13
open Nd0 Pl1 Tm0 Tm1 Tm2 Tm3 Tm4 Tm5 Tm6 Tm8 Tm9 Tm10

/-- The new place of place x. -/
def pl (l : List Nd) (x : Nat) : Nat := (reachTo l x).length
theorem plc_pl (l : List Nd) (x : Nat) : plc l (x : Int) = (pl l x : Int) := by simp [plc, pl]
theorem pl_succ (l : List Nd) (x : Nat) : pl l (x + 1) = if flag (reachL l) x then pl l x + 1 else pl l x := by
  unfold pl; rw [reachTo_succ]; split
  · simp
  · rfl
theorem prune_ok {l : List Nd} (hT : termOk l = true) : pruneL l = pruneTo l l.length := by unfold pruneL; rw [hT]; rfl
theorem prune_len {l : List Nd} (hT : termOk l = true) : (pruneL l).length = pl l l.length := by rw [prune_ok hT, pruneTo_length]; rfl
theorem pruneTo_nth (l : List Nd) {x : Nat} (hf : flag (reachL l) x = true) : ∀ k, x < k → nth (pruneTo l k) (pl l x) = remap l (nth l x) := by
  intro k
  induction k with
  | zero => intro h; omega
  | succ k ih =>
    intro h
    by_cases e : x = k
    · subst e
      rw [pruneTo_succ, hf, if_pos rfl]
      unfold nth pl
      rw [List.getD_eq_getElem?_getD, List.getElem?_append_right (by rw [pruneTo_length]; exact Nat.le_refl _), pruneTo_length]
      simp
    · have h1 := ih (by omega)
      rw [pruneTo_succ]
      split
      · rw [← h1]
        unfold nth
        rw [List.getD_eq_getElem?_getD, List.getElem?_append_left (by rw [pruneTo_length]; exact reachTo_lt l (by omega) hf), ← List.getD_eq_getElem?_getD]
      · exact h1
theorem prune_nth {l : List Nd} (hT : termOk l = true) {x : Nat} (hx : x < l.length) (hf : flag (reachL l) x = true) : nth (pruneL l) (pl l x) = remap l (nth l x) := by
  rw [prune_ok hT]; exact pruneTo_nth l hf _ hx
theorem pl_lt {l : List Nd} (hT : termOk l = true) {x : Nat} (hx : x < l.length) (hf : flag (reachL l) x = true) : pl l x < (pruneL l).length := by
  rw [prune_len hT]; exact reachTo_lt l hx hf
theorem pl_all {l : List Nd} (hT : termOk l = true) {j : Nat} (hj : j < (pruneL l).length) : ∃ x, x < l.length ∧ flag (reachL l) x = true ∧ pl l x = j := by
  rw [prune_len hT] at hj
  obtain ⟨x, _, h2, h3, h4⟩ := reach_at l l.length j hj
  exact ⟨x, h2, h3, h4⟩
theorem parts_remap (l : List Nd) (n : Nd) : parts (remap l n) = (parts n).map (plc l) := by
  rcases parts_cases n with h | h | h | h
  · have e : remap l n = n := by unfold remap; rw [h]; rfl
    rw [e, h]; rfl
  · have h0 := h
    have e : remap l n = ⟨n.op, n.w, n.k, plc l n.a, n.b, n.c⟩ := by unfold remap; rw [h]; rfl
    rw [e, h]
    have : n.op = 2 ∨ n.op = 17 ∨ n.op = 19 ∨ n.op = 20 := by
      unfold parts at h0
      split at h0
      · assumption
      · split at h0
        · simp at h0
        · split at h0 <;> simp at h0
    exact parts_one (n := ⟨n.op, n.w, n.k, plc l n.a, n.b, n.c⟩) this
  · have h0 := h
    have e : remap l n = ⟨n.op, n.w, n.k, plc l n.a, plc l n.b, n.c⟩ := by unfold remap; rw [h]; rfl
    rw [e, h]
    have : 3 ≤ n.op ∧ n.op ≤ 16 := by
      unfold parts at h0
      split at h0
      · simp at h0
      · split at h0
        · assumption
        · split at h0 <;> simp at h0
    exact parts_two (n := ⟨n.op, n.w, n.k, plc l n.a, plc l n.b, n.c⟩) this
  · have h0 := h
    have e : remap l n = ⟨n.op, n.w, n.k, plc l n.a, plc l n.b, plc l n.c⟩ := by unfold remap; rw [h]; rfl
    rw [e, h]
    have : n.op = 18 := by
      unfold parts at h0
      split at h0
      · simp at h0
      · split at h0
        · simp at h0
        · split at h0
          · assumption
          · simp at h0
    exact parts_three (n := ⟨n.op, n.w, n.k, plc l n.a, plc l n.b, plc l n.c⟩) this
theorem remap_op (l : List Nd) (n : Nd) : (remap l n).op = n.op := rfl
theorem remap_w (l : List Nd) (n : Nd) : (remap l n).w = n.w := rfl
theorem remap_k (l : List Nd) (n : Nd) : (remap l n).k = n.k := rfl
theorem shape_remap (l : List Nd) (n : Nd) (ws : List Int) : shapeOk (remap l n) ws = shapeOk n ws := by
  obtain ⟨op, w, k, a, b, c⟩ := n
  by_cases h1 : op = 2 ∨ op = 17 ∨ op = 19 ∨ op = 20
  · have e : remap l ⟨op, w, k, a, b, c⟩ = ⟨op, w, k, plc l a, b, c⟩ := by unfold remap; rw [parts_one h1]; rfl
    rw [e]
    unfold shapeOk
    dsimp only
    rcases h1 with h | h | h | h <;> subst h <;> rfl
  · by_cases h2 : 3 ≤ op ∧ op ≤ 16
    · have e : remap l ⟨op, w, k, a, b, c⟩ = ⟨op, w, k, plc l a, plc l b, c⟩ := by unfold remap; rw [parts_two h2]; rfl
      rw [e]
      unfold shapeOk
      dsimp only
      have n0 : ¬ op = 0 := by omega
      have n1 : ¬ op = 1 := by omega
      have n2 : ¬ op = 2 := by omega
      have n3 : ¬ op = 17 := by omega
      have n4 : ¬ op = 18 := by omega
      have n5 : ¬ (op = 19 ∨ op = 20) := by omega
      simp only [if_neg n0, if_neg n1, if_neg n2, if_neg n3, if_neg n4, if_neg n5]
    · by_cases h3 : op = 18
      · subst h3
        have e : remap l ⟨18, w, k, a, b, c⟩ = ⟨18, w, k, plc l a, plc l b, plc l c⟩ := by unfold remap; rw [parts_three rfl]; rfl
        rw [e]; rfl
      · have e : remap l ⟨op, w, k, a, b, c⟩ = ⟨op, w, k, a, b, c⟩ := by unfold remap; rw [parts_none h1 h2 h3]; rfl
        rw [e]
/-- A part of a reached node is reached, and its new place is that of a number. -/
theorem part_reached {l : List Nd} (hT : termOk l = true) {x : Nat} (hx : x < l.length) (hf : flag (reachL l) x = true) {p : Int} (hp : p ∈ parts (nth l x)) :
    ∃ y : Nat, p = (y : Int) ∧ y < x ∧ flag (reachL l) y = true ∧ plc l p = (pl l y : Int) := by
  have hd := down_of hT x hx p hp
  have hr := reach_closed (down_of hT) hx hf hp
  refine ⟨p.toNat, by omega, by omega, hr, ?_⟩
  rw [← plc_pl]; congr 1; omega
theorem prune_node {l : List Nd} (hT : termOk l = true) {x : Nat} (hx : x < l.length) (hf : flag (reachL l) x = true) : nodeOk (pruneL l) (pl l x) = true := by
  have hn := prune_nth hT hx hf
  have hk := term_node hT hx
  have e : (parts (nth (pruneL l) (pl l x))).map (width (pruneL l)) = (parts (nth l x)).map (width l) := by
    rw [hn, parts_remap, List.map_map]
    apply List.map_congr_left
    intro p hp
    obtain ⟨y, rfl, hyx, hy, hpl⟩ := part_reached hT hx hf hp
    simp only [Function.comp, width]
    rw [hpl, Int.toNat_natCast, prune_nth hT (by omega) hy, Int.toNat_natCast]
    rfl
  simp only [nodeOk, Bool.and_eq_true, List.all_eq_true, decide_eq_true_eq] at hk ⊢
  rw [e]
  refine ⟨⟨?_, ?_⟩, ?_⟩
  · intro q hq
    rw [hn, parts_remap] at hq
    obtain ⟨p, hp, rfl⟩ := List.mem_map.1 hq
    obtain ⟨y, rfl, hyx, hy, hpl⟩ := part_reached hT hx hf hp
    have := reachTo_lt l hyx hy
    rw [hpl]
    unfold pl
    omega
  · rw [hn]; exact hk.1.2
  · rw [hn, shape_remap]; exact hk.2
theorem prune_root {l : List Nd} (hT : termOk l = true) : pl l (l.length - 1) = (pruneL l).length - 1 ∧ 1 ≤ (pruneL l).length := by
  have hl := term_len hT
  have hr := reach_root (l := l) hl.1
  have h1 := pl_succ l (l.length - 1)
  rw [hr, if_pos rfl] at h1
  have e : l.length - 1 + 1 = l.length := by omega
  rw [e] at h1
  rw [prune_len hT]
  omega
/-- A pruned term is right. -/
theorem prune_term {l : List Nd} (hT : termOk l = true) : termOk (pruneL l) = true := by
  have hl := term_len hT
  have h1 := (prune_root hT).2
  have h2 := pruneL_le l
  refine term_good ⟨h1, by omega⟩ (fun j hj => ?_)
  obtain ⟨x, hx, hf, rfl⟩ := pl_all hT hj
  exact prune_node hT hx hf
theorem prune_reach_at {l : List Nd} (hT : termOk l = true) : ∀ d x, l.length = x + 1 + d → flag (reachL l) x = true → flag (reachL (pruneL l)) (pl l x) = true := by
  intro d
  induction d using Nat.strongRecOn with
  | ind d ih =>
    intro x hd hf
    rcases reach_why (down_of hT) (by omega) hf with h | ⟨j, h1, h2, h3, h4⟩
    · have hr := prune_root hT
      have e : x = l.length - 1 := by omega
      rw [e, hr.1]
      exact reach_root hr.2
    · have hj := ih (l.length - j - 1) (by omega) j (by omega) h3
      have hp : (pl l x : Int) ∈ parts (nth (pruneL l) (pl l j)) := by
        rw [prune_nth hT h2 h3, parts_remap, ← plc_pl]
        exact List.mem_map_of_mem h4
      have := reach_closed (down_of (prune_term hT)) (pl_lt hT h2 h3) hj hp
      rw [Int.toNat_natCast] at this
      exact this
/-- All of a pruned term is reached. -/
theorem prune_reach {l : List Nd} (hT : termOk l = true) {j : Nat} (hj : j < (pruneL l).length) : flag (reachL (pruneL l)) j = true := by
  obtain ⟨x, hx, hf, rfl⟩ := pl_all hT hj
  exact prune_reach_at hT (l.length - x - 1) x (by omega) hf
theorem reachTo_full {m : List Nd} (h : ∀ j, j < m.length → flag (reachL m) j = true) : ∀ k, k ≤ m.length → reachTo m k = (List.range k).map fun (i : Nat) => (i : Int) := by
  intro k hk
  unfold reachTo
  congr 1
  rw [List.filter_eq_self]
  intro j hj
  exact h j (by have := List.mem_range.1 hj; omega)
theorem prune_reached {l : List Nd} (hT : termOk l = true) : reachedL (pruneL l) = (List.range (pruneL l).length).map fun (i : Nat) => (i : Int) := by
  unfold reachedL
  rw [prune_term hT, if_pos rfl]
  exact reachTo_full (fun j hj => prune_reach hT hj) _ (Nat.le_refl _)
theorem reached_len {l : List Nd} (hT : termOk l = true) : (reachedL l).length = (pruneL l).length := by
  rw [prune_len hT]; unfold reachedL; rw [hT]; rfl
theorem remap_self {m : List Nd} (hM : termOk m = true) (h : ∀ j, j < m.length → flag (reachL m) j = true) {i : Nat} (hi : i < m.length) : remap m (nth m i) = nth m i := by
  have hp : ∀ p ∈ parts (nth m i), plc m p = p := by
    intro p hp
    have hd := down_of hM i hi p hp
    unfold plc
    rw [reachTo_full h _ (by omega)]
    simp; omega
  unfold remap
  rcases parts_cases (nth m i) with e | e | e | e
  · rw [e]; rfl
  · rw [e] at hp ⊢
    have := hp (nth m i).a (by simp)
    simp [this]
  · rw [e] at hp ⊢
    have h1 := hp (nth m i).a (by simp)
    have h2 := hp (nth m i).b (by simp)
    simp [h1, h2]
  · rw [e] at hp ⊢
    have h1 := hp (nth m i).a (by simp)
    have h2 := hp (nth m i).b (by simp)
    have h3 := hp (nth m i).c (by simp)
    simp [h1, h2, h3]
theorem map_nth (m : List Nd) : (List.range m.length).map (nth m) = m := by
  apply List.ext_getElem
  · simp
  · intro i h1 h2
    simp only [List.getElem_map, List.getElem_range]
    exact (nth_get h2).symm
/-- A pruned term is pruned already. -/
theorem prune_prune {l : List Nd} (hT : termOk l = true) : pruneL (pruneL l) = pruneL l := by
  have hM := prune_term hT
  rw [prune_ok hM, prune_map, reachTo_full (fun j hj => prune_reach hT hj) _ (Nat.le_refl _), List.map_map]
  refine Eq.trans ?_ (map_nth (pruneL l))
  apply List.map_congr_left
  intro i hi
  simp only [Function.comp, Int.toNat_natCast]
  exact remap_self hM (fun j hj => prune_reach hT hj) (List.mem_range.1 hi)
theorem prune_root_op {l : List Nd} (hT : termOk l = true) : (nth (pruneL l) ((pruneL l).length - 1)).op = (nth l (l.length - 1)).op ∧ (nth (pruneL l) ((pruneL l).length - 1)).w = (nth l (l.length - 1)).w := by
  have hl := term_len hT
  rw [← (prune_root hT).1, prune_nth hT (by omega) (reach_root hl.1)]
  exact ⟨rfl, rfl⟩

end Go.Proofs.Ytnkkigoeffghdaa.Tm13

/- Terms from terms, as plain data: what a walk over a term says of each node, the variables, levels, counts, and what stands behind a term. -/
namespace Go.Proofs.Ytnkkigoeffghdaa.Aq0
open Nd0 Pl1 Tm0 Tm1 Tm3 Tm4 Tm5 Tm7 Tm8 Tm12 Tm13
set_option linter.unusedVariables false

/-- What is said of the first k nodes, where f says it of a place, a node and what was said of its parts. -/
def wk {α : Type} (d : α) (f : Nat → Nd → List α → α) (l : List Nd) : Nat → List α
  | 0 => []
  | k + 1 => wk d f l k ++ [f k (nth l k) ((parts (nth l k)).map fun p => (wk d f l k).getD p.toNat d)]
theorem wk_length {α : Type} (d : α) (f : Nat → Nd → List α → α) (l : List Nd) (k : Nat) : (wk d f l k).length = k := by
  induction k with
  | zero => rfl
  | succ k ih => show (wk d f l k ++ [_]).length = _; rw [List.length_append, ih]; rfl
theorem wk_old {α : Type} (d : α) (f : Nat → Nd → List α → α) (l : List Nd) {i k n : Nat} (h : i < k) (hn : k ≤ n) : (wk d f l n).getD i d = (wk d f l k).getD i d := by
  induction n with
  | zero => have : k = 0 := by omega
            subst this; rfl
  | succ n ih =>
    by_cases e : k = n + 1
    · subst e; rfl
    · rw [← ih (by omega)]
      show (wk d f l n ++ [_]).getD i d = _
      rw [List.getD_eq_getElem?_getD, List.getElem?_append_left (by rw [wk_length]; omega), ← List.getD_eq_getElem?_getD]
theorem wk_new {α : Type} (d : α) (f : Nat → Nd → List α → α) (l : List Nd) (k : Nat) : (wk d f l (k + 1)).getD k d = f k (nth l k) ((parts (nth l k)).map fun p => (wk d f l k).getD p.toNat d) := by
  show (wk d f l k ++ [_]).getD k d = _
  rw [List.getD_eq_getElem?_getD, List.getElem?_append_right (by rw [wk_length]; exact Nat.le_refl _), wk_length]
  simp
theorem wk_set {α : Type} (d : α) (f : Nat → Nd → List α → α) (l : List Nd) (k i : Nat) : (wk d f l (k + 1)).getD i d = if i = k then f k (nth l k) ((parts (nth l k)).map fun p => (wk d f l k).getD p.toNat d) else (wk d f l k).getD i d := by
  by_cases e : i = k
  · rw [if_pos e, e, wk_new]
  · rw [if_neg e]
    by_cases h : i < k
    · exact wk_old d f l h (by omega)
    · rw [List.getD_eq_getElem?_getD, List.getD_eq_getElem?_getD, List.getElem?_eq_none (by rw [wk_length]; omega), List.getElem?_eq_none (by rw [wk_length]; omega)]
/-- What was said of the parts of node i. -/
def said {α : Type} (d : α) (f : Nat → Nd → List α → α) (l : List Nd) (i : Nat) : List α := (parts (nth l i)).map fun p => (wk d f l i).getD p.toNat d
theorem said_len {α : Type} (d : α) (f : Nat → Nd → List α → α) (l : List Nd) (i : Nat) : (said d f l i).length = (parts (nth l i)).length := by simp [said]
/-- Where parts stand ahead, what is said of a node is said out of the whole list. -/
theorem wk_at {α : Type} (d : α) (f : Nat → Nd → List α → α) {l : List Nd} (hD : Down l) {i n : Nat} (hi : i < l.length) (hn : i < n) : (wk d f l n).getD i d = f i (nth l i) ((parts (nth l i)).map fun p => (wk d f l n).getD p.toNat d) := by
  rw [wk_old d f l (k := i + 1) (by omega) (by omega), wk_new]
  congr 1
  apply List.map_congr_left
  intro p hp
  have := hD i hi p hp
  rw [wk_old d f l (i := p.toNat) (k := i) (n := n) (by omega) (by omega)]
/-- A walk that asks nothing of the parts. -/
theorem wk_flat {α : Type} (d : α) (g : Nat → Nd → α) (l : List Nd) (k : Nat) : wk d (fun i n _ => g i n) l k = (List.range k).map fun i => g i (nth l i) := by
  induction k with
  | zero => rfl
  | succ k ih => show wk d _ l k ++ [_] = _; rw [ih, List.range_succ, List.map_append]; rfl
theorem wk_map {α : Type} (d : α) (g : Nd → α) (l : List Nd) : wk d (fun _ n _ => g n) l l.length = l.map g := by
  rw [wk_flat d (fun _ n => g n)]
  conv => rhs; rw [← map_nth l]
  rw [List.map_map]; rfl

/-- Whether a node has the number of a variable. -/
def nmd (n : Nd) : Bool := n.op == 1 || quant n.op
/-- The number v is one of the nodes'. -/
def numB (l : List Nd) (v : Nat) : Bool := l.any fun n => nmd n && n.k == (v : Int)
/-- .. among the first k. -/
def numTo (l : List Nd) (k v : Nat) : Bool := numB (l.take k) v
theorem numTo_succ {l : List Nd} {k : Nat} (h : k < l.length) (v : Nat) : numTo l (k + 1) v = (numTo l k v || (nmd (nth l k) && (nth l k).k == (v : Int))) := by
  unfold numTo numB
  rw [List.take_succ_eq_append_getElem h, List.any_append, nth_get h]
  simp
theorem numTo_all (l : List Nd) (v : Nat) : numTo l l.length v = numB l v := by unfold numTo; rw [List.take_length]
def numRow (l : List Nd) : List Bool := (List.range 8).map (numB l)
theorem numRow_flag (l : List Nd) {v : Nat} (hv : v < 8) : flag (numRow l) v = numB l v := by simp [flag, numRow, List.getD, hv]
def varsTo (l : List Nd) (k : Nat) : List Int := ((List.range k).filter (numB l)).map fun (i : Nat) => (i : Int)
theorem varsTo_succ (l : List Nd) (k : Nat) : varsTo l (k + 1) = if numB l k then varsTo l k ++ [(k : Int)] else varsTo l k := by
  unfold varsTo
  rw [List.range_succ, List.filter_append, List.map_append]
  cases h : numB l k <;> simp [h]
theorem varsTo_length (l : List Nd) (k : Nat) : (varsTo l k).length ≤ k := by
  unfold varsTo
  rw [List.length_map]
  exact Nat.le_trans (List.length_filter_le _ _) (by simp)
/-- The numbers of the variables of a term. -/
def varsL (l : List Nd) : List Int := varsTo (pruneL l) 8
/-- The word s is the set of the numbers of a list. -/
def HasN (s : Nat) (l : List Nd) : Prop := s < 256 ∧ ∀ v, v < 8 → s.testBit v = numB l v
theorem nums_has {s : Nat} {l : List Nd} (h : HasN s l) : numsTo s 8 = varsTo l 8 := by
  unfold numsTo varsTo
  congr 1
  apply List.filter_congr
  intro v hv
  exact h.2 v (List.mem_range.1 hv)

/-- The greater of two. -/
def mx (a b : Int) : Int := if a < b then b else a
def most (l : List Int) : Int := l.foldl mx 0
theorem most_snoc (l : List Int) (x : Int) : most (l ++ [x]) = mx (most l) x := by simp [most]
/-- The level of a node whose parts have these. -/
def levF (_ : Nat) (_ : Nd) (ps : List Int) : Int := most ps + 1
def levTo (l : List Nd) (k : Nat) : List Int := wk 0 levF l k
def levelL (l : List Nd) : Int := if termOk l then (levTo l l.length).getD (l.length - 1) 0 else 0
theorem mx_bound {a b m : Int} (h0 : 0 ≤ a) (h1 : a ≤ m) (h2 : b ≤ m) : 0 ≤ mx a b ∧ mx a b ≤ m := by unfold mx; split <;> omega
theorem most_bound {m : Int} (hm : 0 ≤ m) : ∀ (l : List Int), (∀ x ∈ l, x ≤ m) → 0 ≤ most l ∧ most l ≤ m := by
  have : ∀ (l : List Int) (a : Int), 0 ≤ a → a ≤ m → (∀ x ∈ l, x ≤ m) → 0 ≤ l.foldl mx a ∧ l.foldl mx a ≤ m := by
    intro l
    induction l with
    | nil => intro a h0 h1 _; exact ⟨h0, h1⟩
    | cons x l ih =>
      intro a h0 h1 h
      have := mx_bound h0 h1 (h x (by simp))
      exact ih _ this.1 this.2 fun y hy => h y (by simp [hy])
  intro l h
  exact this l 0 (by omega) hm h
theorem lev_bound (l : List Nd) : ∀ k, ∀ x ∈ levTo l k, 1 ≤ x ∧ x ≤ (k : Int) := by
  intro k
  induction k with
  | zero => intro x hx; cases hx
  | succ k ih =>
    intro x hx
    have hx' : x ∈ levTo l k ++ [levF k (nth l k) ((parts (nth l k)).map fun p => (levTo l k).getD p.toNat 0)] := hx
    rw [List.mem_append] at hx'
    rcases hx' with h | h
    · have := ih x h; omega
    · have hb := most_bound (m := (k : Int)) (by omega) ((parts (nth l k)).map fun p => (levTo l k).getD p.toNat 0) (fun y hy => by
        obtain ⟨p, _, rfl⟩ := List.mem_map.1 hy
        by_cases e : p.toNat < (levTo l k).length
        · rw [List.getD_eq_getElem?_getD, List.getElem?_eq_getElem e]
          exact (ih _ (List.getElem_mem e)).2
        · rw [List.getD_eq_getElem?_getD, List.getElem?_eq_none (by omega)]; simp)
      simp only [List.mem_singleton] at h
      subst h
      unfold levF
      omega
theorem lev_at (l : List Nd) {i k : Nat} (h : i < k) : 1 ≤ (levTo l k).getD i 0 ∧ (levTo l k).getD i 0 ≤ (k : Int) := by
  have e : i < (levTo l k).length := by unfold levTo; rw [wk_length]; exact h
  rw [List.getD_eq_getElem?_getD, List.getElem?_eq_getElem e]
  exact lev_bound l k _ (List.getElem_mem e)

/-- How many of the first k nodes have an operator. -/
def cntTo (l : List Nd) (op : Int) (k : Nat) : Nat := (l.take k).countP fun n => n.op == op
theorem cntTo_succ {l : List Nd} {k : Nat} (h : k < l.length) (op : Int) : cntTo l op (k + 1) = cntTo l op k + if (nth l k).op == op then 1 else 0 := by
  unfold cntTo
  rw [List.take_succ_eq_append_getElem h, List.countP_append, nth_get h]
  simp [List.countP_cons]
theorem cntTo_le (l : List Nd) (op : Int) (k : Nat) : cntTo l op k ≤ k := by
  unfold cntTo
  exact Nat.le_trans List.countP_le_length (by rw [List.length_take]; omega)
def cntL (l : List Nd) (op : Int) : Int := (cntTo (pruneL l) op (pruneL l).length : Int)

/-- A node of number v has number u. -/
def renN (v u : Int) (n : Nd) : Nd := if nmd n && n.k == v then { n with k := u } else n
def renL (l : List Nd) (v u : Int) : List Nd := l.map (renN v u)
def renOk (l : List Nd) (v u : Int) : Bool := termOk l && decide (0 ≤ u ∧ u ≤ 7) && !((u != v) && numB l u.toNat)
def renO (l : List Nd) (v u : Int) : List Nd := if renOk l v u then renL l v u else []
theorem renO_le (l : List Nd) (v u : Int) : (renO l v u).length ≤ l.length := by
  unfold renO renL
  split
  · simp
  · exact Nat.zero_le _
/-- A list of nodes with a node behind it, where both are terms. -/
def behB (l : List Nd) (n : Nd) : Bool := termOk l && termOk (l ++ [n])
def behL (l : List Nd) (n : Nd) : List Nd := if behB l n then l ++ [n] else []
theorem behL_le (l : List Nd) (n : Nd) : (behL l n).length ≤ l.length + 1 := by
  unfold behL
  split
  · simp
  · exact Nat.zero_le _
theorem behL_le80 (l : List Nd) (n : Nd) : (behL l n).length ≤ 80 := by
  unfold behL
  split
  · next h => unfold behB at h; simp only [Bool.and_eq_true] at h; exact (term_len h.2).2
  · exact Nat.zero_le _
def denN (l : List Nd) : Nd := ⟨2, (nth l (l.length - 1)).w, 0, (l.length : Int) - 1, 0, 0⟩
def quN (l : List Nd) (all : Bool) (v w : Int) : Nd := ⟨if all then 19 else 20, 1, v, (l.length : Int) - 1, w, 0⟩

/-- What stands ahead of a right list's end is right. -/
theorem nodeOk_less {l m : List Nd} {i : Nat} (hi : i < l.length) (h : nodeOk (l ++ m) i = true) : nodeOk l i = true := by
  have e0 : ∀ j, j < l.length → nth (l ++ m) j = nth l j := by
    intro j hj
    unfold nth
    rw [List.getD_eq_getElem?_getD, List.getElem?_append_left hj, ← List.getD_eq_getElem?_getD]
  have hp := parts_ok h
  rw [e0 i hi] at hp
  have e : (parts (nth (l ++ m) i)).map (width (l ++ m)) = (parts (nth l i)).map (width l) := by
    rw [e0 i hi]
    apply List.map_congr_left
    intro p hpm
    obtain ⟨j, hj, rfl⟩ := List.getElem_of_mem hpm
    have := hp j hj
    unfold width
    rw [e0 _ (by omega)]
  simp only [nodeOk] at h ⊢
  rw [e, e0 i hi] at h
  exact h
theorem term_less {l m : List Nd} (h : termOk (l ++ m) = true) (h1 : 1 ≤ l.length) : termOk l = true := by
  have hl := term_len h
  rw [List.length_append] at hl
  exact term_good (by omega) fun k hk => nodeOk_less hk (term_node h (by rw [List.length_append]; omega))
/-- A node with a part behind no list is none. -/
theorem term_quN_nil (all : Bool) (v w : Int) : termOk ([] ++ [quN [] all v w]) = false := by
  refine term_bad 0 (by simp) (node_bad_part 0 ?_ ?_)
  · show 0 < (parts (quN [] all v w)).length
    rw [parts_one (by unfold quN; dsimp only; cases all <;> simp)]; simp
  · have e : parts (nth ([] ++ [quN [] all v w]) 0) = [-1] := by
      show parts (quN [] all v w) = _
      rw [parts_one (by unfold quN; dsimp only; cases all <;> simp)]; rfl
    simp only [e]
    simp

end Go.Proofs.Ytnkkigoeffghdaa.Aq0

/- The walks of the model's sets of numbers and of its Vars. -/
namespace Go.Proofs.Ytnkkigoeffghdaa.Am1
open Go.RowKit
open Nd0 Nd1 Tm0 Tm1 Tm3 Tm5 Ap0 Ap1 Sp2 Aq0
open Sp7 (nodeAt_of sPrune)
open Sp10 (sQuant)
set_option linter.unusedVariables false

set_option maxHeartbeats 1000000 in
theorem sNamed (n : Nd) (w : World) :
    Calls Try.prog 94 #[.agg #[.int .i64 n.op, .int .i64 n.w, .int .i64 n.k, .int .i64 n.a, .int .i64 n.b, .int .i64 n.c]] w fun e w' => e = .returned (.bool (nmd n)) ∧ Below w.heap.size w w' := by
  cases h1 : (n.op == 1)
  all_goals
    go_enter Try.func94, Try.ntmps94
    go_wp2_with (go_at_call 65; refine (sQuant _ _).mono ?_; rintro e w' ⟨rfl, rfl⟩)
    go_ret
    exact ⟨ret_bool (by unfold nmd; rw [h1]; rfl), (Below.refl _ _).alloc (Nat.le_refl _) _⟩

set_option maxRecDepth 100000 in
set_option maxHeartbeats 4000000 in
theorem sNums (w : World) (a : Option Addr) (l : List Nd) (c : Nat) (hN : Nodes w a l) :
    Calls Try.prog 60 #[.slice a l.length c] w fun e w' => (∃ v, e = .returned v ∧ Owb w' w.heap.size v (numRow l)) ∧ Below w.heap.size w w' := by
  have HN : Hid (Nodes w a l) := hN
  have hml := hN.1
  unfold maxLen at hml
  have HRN : Hid (∀ k, k < 8 → (numRow l).take (k + 1) = (numRow l).take k ++ [numB l k]) := fun k hk => by
    rw [List.take_succ_eq_append_getElem (by simp [numRow]; exact hk)]; simp [numRow]
  have hr8 : (numRow l).length = 8 := by simp [numRow]
  have HR8 : Hid ((numRow l).length = 8) := hr8
  clear hN hr8
  go_enter Try.func60, Try.ntmps60
  go_wp2
  go_loopw [3, 4] (fun vo q wr => ∃ k : Nat, k ≤ 8 ∧ q = .int .i64 k ∧ Below w.heap.size w wr ∧ Owb wr w.heap.size vo ((numRow l).take k)) (fun _ q _ => 8 - (intOf q).toNat)
  case atStart => exact ⟨0, Nat.zero_le _, rfl, (Below.refl _ _).alloc (Nat.le_refl _) _, Owb.lit w _ (Nat.le_refl _)⟩
  case round =>
    obtain ⟨k, hk, rfl, hb, ho⟩ := hrel
    obtain ⟨ao, co, rfl, -⟩ := ho.form
    have HB : Hid (Below w.heap.size w wr) := hb
    have HO : Hid (Owb wr w.heap.size (.slice ao ((numRow l).take k).length co) ((numRow l).take k)) := ho
    clear hb ho
    by_cases hlt : k < 8
    · have hlz : (k : Int) < 8 := by omega
      have HSC : Hid ((numRow l).take (k + 1) = (numRow l).take k ++ [numB l k]) := HRN.out k hlt
      have hLk : ((numRow l).take k).length ≤ 1048576 := by rw [List.length_take]; omega
      generalize (numRow l).take k = bs at HO HSC hLk
      obtain ⟨wi, rfl⟩ : ∃ wi : World, wi = wr := ⟨_, rfl⟩
      go_wp2_with fail
      go_loopw [5, 6] (fun f q wr => ∃ j : Nat, j ≤ l.length ∧ q = .int .i64 j ∧ f = .bool (numTo l j k) ∧ Below w.heap.size w wr ∧ Owb wr w.heap.size (.slice ao bs.length co) bs) (fun _ q _ => l.length - (intOf q).toNat)
      case atStart => exact ⟨0, Nat.zero_le _, rfl, by unfold numTo numB; rfl, HB.out, HO.out⟩
      case round =>
        clear HB HO
        obtain ⟨j, hj, rfl, rfl, hb, ho⟩ := hrel
        have HB : Hid (Below w.heap.size w wr) := hb
        have HO : Hid (Owb wr w.heap.size (.slice ao bs.length co) bs) := ho
        have hbs : w.heap.size ≤ wr.heap.size := hb.size
        clear hb ho
        by_cases hlj : j < l.length
        · have hljz : (j : Int) < (l.length : Int) := by omega
          have HST : Hid (numTo l (j + 1) k = (numTo l j k || (nmd (nth l j) && (nth l j).k == (k : Int)))) := numTo_succ hlj k
          rcases (HN.out.below HB.out).2 with h0 | ⟨xb, xo, rfl, hc⟩
          · omega
          obtain ⟨p0, p1, p2, p3, p4, p5⟩ := hc j hlj
          rw [nth_get hlj] at p0 p1 p2 p3 p4 p5
          clear hc
          generalize nth l j = n at HST p0 p1 p2 p3 p4 p5
          cases hcur : numTo l j k
          · go_wp2_with fail
            refine (sNamed n _).mono ?_
            rintro e w4 ⟨rfl, hb4⟩
            have HB4 : Hid (Below w.heap.size w w4) := HB.out.trans (hb4.mono hbs)
            have HO4 : Hid (Owb w4 w.heap.size (.slice ao bs.length co) bs) := HO.out.kept (S := fun _ => False) (Kept.ofBelow hb4) (fun _ _ h => h)
            have q2 : w4.cell? ⟨xb, xo + j * 6 + 2, none⟩ = some (.int .i64 n.k) := (hb4.cell (lt_of_cell p2)).trans p2
            clear hb4 p0 p1 p2 p3 p4 p5
            cases hnm : nmd n
            · go_wp2
              go_roundw
              case rel => exact ⟨j + 1, by omega, by go_num, by rw [HST.out, hcur, hnm]; rfl, HB4.out, HO4.out⟩
              case measure => simp [intOf]; omega
            · cases hkk : (n.k == (k : Int))
              all_goals
                go_wp2
                go_roundw
                case rel => exact ⟨j + 1, by omega, by go_num, by rw [HST.out, hcur, hnm, hkk]; rfl, HB4.out, HO4.out⟩
                case measure => simp [intOf]; omega
          · go_wp2
            go_roundw
            case rel => exact ⟨j + 1, by omega, by go_num, by rw [HST.out, hcur]; rfl, HB.out, HO.out⟩
            case measure => simp [intOf]; omega
        · have ej : j = l.length := by omega
          subst ej
          rw [numTo_all]
          have hws : w.heap.size ≤ wr.heap.size := HB.out.size
          go_wp2_with (at_builtin; go_must (refine app_bool _ rfl _ _ rfl w.heap.size (.slice ao bs.length co) bs _ rfl rfl HO.out hws hLk ?_; intro g cp w5 ho5 hk5 hg5))
          have HO5 : Hid (Owb w5 w.heap.size (.slice (some ⟨g, 0, none⟩) (bs.length + 1) cp) (bs ++ [numB l k])) := ho5
          have HB5 : Hid (Below w.heap.size w w5) := HB.out.trans (hk5.below (fun b hb => (HO.out.lt b hb).1) hws)
          clear ho5 hk5 hg5
          go_wp2
          go_roundw
          case rel => exact ⟨k + 1, by omega, by go_num, HB5.out, by rw [HSC.out]; exact HO5.out⟩
          case measure => simp [intOf]; omega
    · have e : k = 8 := by omega
      subst e
      have HE : Hid ((numRow l).take 8 = numRow l) := by show _ = _; rw [List.take_of_length_le (by rw [HR8.out]; exact Nat.le_refl _)]
      go_wp2
      go_ret
      refine ⟨⟨_, rfl, ?_⟩, HB.out⟩
      have h9 := HO.out
      rw [HE.out] at h9
      rw [HE.out]
      exact h9

end Go.Proofs.Ytnkkigoeffghdaa.Am1
