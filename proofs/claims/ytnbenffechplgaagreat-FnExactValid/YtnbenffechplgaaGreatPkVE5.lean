/- Small texts of mine, one behind the other. -/
import Derived.Test.YtnbenffechplgaaGreatRows
import Derived.Deep.AppendLies
import Derived.OwnWalk
import Derived.Deep.RegionHeld
import Derived.Deep.CutRange
import Derived.Test.YtnbenffechplgaaGreatPkVE4
import Derived.Test.YtnbenffechplgaaGreatPkVE3
import Derived.Test.YtnbenffechplgaaGreatPkVE0
import Derived.Test.YtnbenffechplgaaGreatPkVE1
/- A term without what its root does not reach: it is right, all of it is reached, and it is pruned already, as plain data. -/
namespace Go.Proofs.YtnbenffechplgaaGreat.Tm13
open Nd0 Pl1 Tm0 Tm1 Tm2 Tm3 Tm4 Tm5 Tm6 Tm8 Tm9 Tm10

def pl (l : List Nd) (x : Nat) : Nat := (reachTo l x).length
theorem plc_pl (l : List Nd) (x : Nat) : plc l (x : Int) = (pl l x : Int) := by simp [plc, pl]
theorem pl_succ (l : List Nd) (x : Nat) : pl l (x + 1) = if flag (reachL l) x then pl l x + 1 else pl l x := by
  unfold pl; rw [reachTo_succ]; split
  · simp
  · rfl
theorem prune_ok {l : List Nd} (hT : termOk l = true) : pruneL l = pruneTo l l.length := by unfold pruneL; rw [hT]; rfl
theorem prune_len {l : List Nd} (hT : termOk l = true) : (pruneL l).length = pl l l.length := by rw [prune_ok hT, pruneTo_length]; rfl
theorem pruneTo_nth (l : List Nd) {x : Nat} (hf : flag (reachL l) x = true) : ∀ k, x < k → nth (pruneTo l k) (pl l x) = remap l (nth l x) := by
  intro k
  induction k with
  | zero => intro h; omega
  | succ k ih =>
    intro h
    by_cases e : x = k
    · subst e
      rw [pruneTo_succ, hf, if_pos rfl]
      unfold nth pl
      rw [List.getD_eq_getElem?_getD, List.getElem?_append_right (by rw [pruneTo_length]; exact Nat.le_refl _), pruneTo_length]
      simp
    · have h1 := ih (by omega)
      rw [pruneTo_succ]
      split
      · rw [← h1]
        unfold nth
        rw [List.getD_eq_getElem?_getD, List.getElem?_append_left (by rw [pruneTo_length]; exact reachTo_lt l (by omega) hf), ← List.getD_eq_getElem?_getD]
      · exact h1
theorem prune_nth {l : List Nd} (hT : termOk l = true) {x : Nat} (hx : x < l.length) (hf : flag (reachL l) x = true) : nth (pruneL l) (pl l x) = remap l (nth l x) := by
  rw [prune_ok hT]; exact pruneTo_nth l hf _ hx
theorem pl_lt {l : List Nd} (hT : termOk l = true) {x : Nat} (hx : x < l.length) (hf : flag (reachL l) x = true) : pl l x < (pruneL l).length := by
  rw [prune_len hT]; exact reachTo_lt l hx hf
theorem pl_all {l : List Nd} (hT : termOk l = true) {j : Nat} (hj : j < (pruneL l).length) : ∃ x, x < l.length ∧ flag (reachL l) x = true ∧ pl l x = j := by
  rw [prune_len hT] at hj
  obtain ⟨x, _, h2, h3, h4⟩ := reach_at l l.length j hj
  exact ⟨x, h2, h3, h4⟩
theorem parts_remap (l : List Nd) (n : Nd) : parts (remap l n) = (parts n).map (plc l) := by
  rcases parts_cases n with h | h | h | h
  · have e : remap l n = n := by unfold remap; rw [h]; rfl
    rw [e, h]; rfl
  · have h0 := h
    have e : remap l n = ⟨n.op, n.w, n.k, plc l n.a, n.b, n.c⟩ := by unfold remap; rw [h]; rfl
    rw [e, h]
    have : n.op = 2 ∨ n.op = 17 ∨ n.op = 19 ∨ n.op = 20 := by
      unfold parts at h0
      split at h0
      · assumption
      · split at h0
        · simp at h0
        · split at h0 <;> simp at h0
    exact parts_one (n := ⟨n.op, n.w, n.k, plc l n.a, n.b, n.c⟩) this
  · have h0 := h
    have e : remap l n = ⟨n.op, n.w, n.k, plc l n.a, plc l n.b, n.c⟩ := by unfold remap; rw [h]; rfl
    rw [e, h]
    have : 3 ≤ n.op ∧ n.op ≤ 16 := by
      unfold parts at h0
      split at h0
      · simp at h0
      · split at h0
        · assumption
        · split at h0 <;> simp at h0
    exact parts_two (n := ⟨n.op, n.w, n.k, plc l n.a, plc l n.b, n.c⟩) this
  · have h0 := h
    have e : remap l n = ⟨n.op, n.w, n.k, plc l n.a, plc l n.b, plc l n.c⟩ := by unfold remap; rw [h]; rfl
    rw [e, h]
    have : n.op = 18 := by
      unfold parts at h0
      split at h0
      · simp at h0
      · split at h0
        · simp at h0
        · split at h0
          · assumption
          · simp at h0
    exact parts_three (n := ⟨n.op, n.w, n.k, plc l n.a, plc l n.b, plc l n.c⟩) this
theorem remap_op (l : List Nd) (n : Nd) : (remap l n).op = n.op := rfl
theorem remap_k (l : List Nd) (n : Nd) : (remap l n).k = n.k := rfl
theorem shape_remap (l : List Nd) (n : Nd) (ws : List Int) : shapeOk (remap l n) ws = shapeOk n ws := by
  obtain ⟨op, w, k, a, b, c⟩ := n
  by_cases h1 : op = 2 ∨ op = 17 ∨ op = 19 ∨ op = 20
  · have e : remap l ⟨op, w, k, a, b, c⟩ = ⟨op, w, k, plc l a, b, c⟩ := by unfold remap; rw [parts_one h1]; rfl
    rw [e]
    unfold shapeOk
    dsimp only
    rcases h1 with h | h | h | h <;> subst h <;> rfl
  · by_cases h2 : 3 ≤ op ∧ op ≤ 16
    · have e : remap l ⟨op, w, k, a, b, c⟩ = ⟨op, w, k, plc l a, plc l b, c⟩ := by unfold remap; rw [parts_two h2]; rfl
      rw [e]
      unfold shapeOk
      dsimp only
      have n0 : ¬ op = 0 := by omega
      have n1 : ¬ op = 1 := by omega
      have n2 : ¬ op = 2 := by omega
      have n3 : ¬ op = 17 := by omega
      have n4 : ¬ op = 18 := by omega
      have n5 : ¬ (op = 19 ∨ op = 20) := by omega
      simp only [if_neg n0, if_neg n1, if_neg n2, if_neg n3, if_neg n4, if_neg n5]
    · by_cases h3 : op = 18
      · subst h3
        have e : remap l ⟨18, w, k, a, b, c⟩ = ⟨18, w, k, plc l a, plc l b, plc l c⟩ := by unfold remap; rw [parts_three rfl]; rfl
        rw [e]; rfl
      · have e : remap l ⟨op, w, k, a, b, c⟩ = ⟨op, w, k, a, b, c⟩ := by unfold remap; rw [parts_none h1 h2 h3]; rfl
        rw [e]
theorem part_reached {l : List Nd} (hT : termOk l = true) {x : Nat} (hx : x < l.length) (hf : flag (reachL l) x = true) {p : Int} (hp : p ∈ parts (nth l x)) :
    ∃ y : Nat, p = (y : Int) ∧ y < x ∧ flag (reachL l) y = true ∧ plc l p = (pl l y : Int) := by
  have hd := down_of hT x hx p hp
  have hr := reach_closed (down_of hT) hx hf hp
  refine ⟨p.toNat, by omega, by omega, hr, ?_⟩
  rw [← plc_pl]; congr 1; omega
theorem prune_node {l : List Nd} (hT : termOk l = true) {x : Nat} (hx : x < l.length) (hf : flag (reachL l) x = true) : nodeOk (pruneL l) (pl l x) = true := by
  have hn := prune_nth hT hx hf
  have hk := term_node hT hx
  have e : (parts (nth (pruneL l) (pl l x))).map (width (pruneL l)) = (parts (nth l x)).map (width l) := by
    rw [hn, parts_remap, List.map_map]
    apply List.map_congr_left
    intro p hp
    obtain ⟨y, rfl, hyx, hy, hpl⟩ := part_reached hT hx hf hp
    simp only [Function.comp, width]
    rw [hpl, Int.toNat_natCast, prune_nth hT (by omega) hy, Int.toNat_natCast]
    rfl
  simp only [nodeOk, Bool.and_eq_true, List.all_eq_true, decide_eq_true_eq] at hk ⊢
  rw [e]
  refine ⟨⟨?_, ?_⟩, ?_⟩
  · intro q hq
    rw [hn, parts_remap] at hq
    obtain ⟨p, hp, rfl⟩ := List.mem_map.1 hq
    obtain ⟨y, rfl, hyx, hy, hpl⟩ := part_reached hT hx hf hp
    have := reachTo_lt l hyx hy
    rw [hpl]
    unfold pl
    omega
  · rw [hn]; exact hk.1.2
  · rw [hn, shape_remap]; exact hk.2
theorem prune_root {l : List Nd} (hT : termOk l = true) : pl l (l.length - 1) = (pruneL l).length - 1 ∧ 1 ≤ (pruneL l).length := by
  have hl := term_len hT
  have hr := reach_root (l := l) hl.1
  have h1 := pl_succ l (l.length - 1)
  rw [hr, if_pos rfl] at h1
  have e : l.length - 1 + 1 = l.length := by omega
  rw [e] at h1
  rw [prune_len hT]
  omega
theorem prune_term {l : List Nd} (hT : termOk l = true) : termOk (pruneL l) = true := by
  have hl := term_len hT
  have h1 := (prune_root hT).2
  have h2 := pruneL_le l
  refine term_good ⟨h1, by omega⟩ (fun j hj => ?_)
  obtain ⟨x, hx, hf, rfl⟩ := pl_all hT hj
  exact prune_node hT hx hf
theorem prune_reach_at {l : List Nd} (hT : termOk l = true) : ∀ d x, l.length = x + 1 + d → flag (reachL l) x = true → flag (reachL (pruneL l)) (pl l x) = true := by
  intro d
  induction d using Nat.strongRecOn with
  | ind d ih =>
    intro x hd hf
    rcases reach_why (down_of hT) (by omega) hf with h | ⟨j, h1, h2, h3, h4⟩
    · have hr := prune_root hT
      have e : x = l.length - 1 := by omega
      rw [e, hr.1]
      exact reach_root hr.2
    · have hj := ih (l.length - j - 1) (by omega) j (by omega) h3
      have hp : (pl l x : Int) ∈ parts (nth (pruneL l) (pl l j)) := by
        rw [prune_nth hT h2 h3, parts_remap, ← plc_pl]
        exact List.mem_map_of_mem h4
      have := reach_closed (down_of (prune_term hT)) (pl_lt hT h2 h3) hj hp
      rw [Int.toNat_natCast] at this
      exact this
theorem prune_reach {l : List Nd} (hT : termOk l = true) {j : Nat} (hj : j < (pruneL l).length) : flag (reachL (pruneL l)) j = true := by
  obtain ⟨x, hx, hf, rfl⟩ := pl_all hT hj
  exact prune_reach_at hT (l.length - x - 1) x (by omega) hf
theorem map_nth (m : List Nd) : (List.range m.length).map (nth m) = m := by
  apply List.ext_getElem
  · simp
  · intro i h1 h2
    simp only [List.getElem_map, List.getElem_range]
    exact (nth_get h2).symm
end Go.Proofs.YtnbenffechplgaaGreat.Tm13

/- Terms from terms, as plain data: what a walk over a term says of each node, the variables, levels, counts, and what stands behind a term. -/
namespace Go.Proofs.YtnbenffechplgaaGreat.Aq0
open Nd0 Pl1 Tm0 Tm1 Tm3 Tm4 Tm5 Tm7 Tm8 Tm12 Tm13
set_option linter.unusedVariables false

def wk {α : Type} (d : α) (f : Nat → Nd → List α → α) (l : List Nd) : Nat → List α
  | 0 => []
  | k + 1 => wk d f l k ++ [f k (nth l k) ((parts (nth l k)).map fun p => (wk d f l k).getD p.toNat d)]
theorem wk_length {α : Type} (d : α) (f : Nat → Nd → List α → α) (l : List Nd) (k : Nat) : (wk d f l k).length = k := by
  induction k with
  | zero => rfl
  | succ k ih => show (wk d f l k ++ [_]).length = _; rw [List.length_append, ih]; rfl
theorem wk_old {α : Type} (d : α) (f : Nat → Nd → List α → α) (l : List Nd) {i k n : Nat} (h : i < k) (hn : k ≤ n) : (wk d f l n).getD i d = (wk d f l k).getD i d := by
  induction n with
  | zero => have : k = 0 := by omega
            subst this; rfl
  | succ n ih =>
    by_cases e : k = n + 1
    · subst e; rfl
    · rw [← ih (by omega)]
      show (wk d f l n ++ [_]).getD i d = _
      rw [List.getD_eq_getElem?_getD, List.getElem?_append_left (by rw [wk_length]; omega), ← List.getD_eq_getElem?_getD]
theorem wk_new {α : Type} (d : α) (f : Nat → Nd → List α → α) (l : List Nd) (k : Nat) : (wk d f l (k + 1)).getD k d = f k (nth l k) ((parts (nth l k)).map fun p => (wk d f l k).getD p.toNat d) := by
  show (wk d f l k ++ [_]).getD k d = _
  rw [List.getD_eq_getElem?_getD, List.getElem?_append_right (by rw [wk_length]; exact Nat.le_refl _), wk_length]
  simp
theorem wk_set {α : Type} (d : α) (f : Nat → Nd → List α → α) (l : List Nd) (k i : Nat) : (wk d f l (k + 1)).getD i d = if i = k then f k (nth l k) ((parts (nth l k)).map fun p => (wk d f l k).getD p.toNat d) else (wk d f l k).getD i d := by
  by_cases e : i = k
  · rw [if_pos e, e, wk_new]
  · rw [if_neg e]
    by_cases h : i < k
    · exact wk_old d f l h (by omega)
    · rw [List.getD_eq_getElem?_getD, List.getD_eq_getElem?_getD, List.getElem?_eq_none (by rw [wk_length]; omega), List.getElem?_eq_none (by rw [wk_length]; omega)]
def said {α : Type} (d : α) (f : Nat → Nd → List α → α) (l : List Nd) (i : Nat) : List α := (parts (nth l i)).map fun p => (wk d f l i).getD p.toNat d
theorem said_len {α : Type} (d : α) (f : Nat → Nd → List α → α) (l : List Nd) (i : Nat) : (said d f l i).length = (parts (nth l i)).length := by simp [said]
theorem wk_at {α : Type} (d : α) (f : Nat → Nd → List α → α) {l : List Nd} (hD : Down l) {i n : Nat} (hi : i < l.length) (hn : i < n) : (wk d f l n).getD i d = f i (nth l i) ((parts (nth l i)).map fun p => (wk d f l n).getD p.toNat d) := by
  rw [wk_old d f l (k := i + 1) (by omega) (by omega), wk_new]
  congr 1
  apply List.map_congr_left
  intro p hp
  have := hD i hi p hp
  rw [wk_old d f l (i := p.toNat) (k := i) (n := n) (by omega) (by omega)]
theorem wk_flat {α : Type} (d : α) (g : Nat → Nd → α) (l : List Nd) (k : Nat) : wk d (fun i n _ => g i n) l k = (List.range k).map fun i => g i (nth l i) := by
  induction k with
  | zero => rfl
  | succ k ih => show wk d _ l k ++ [_] = _; rw [ih, List.range_succ, List.map_append]; rfl
theorem wk_map {α : Type} (d : α) (g : Nd → α) (l : List Nd) : wk d (fun _ n _ => g n) l l.length = l.map g := by
  rw [wk_flat d (fun _ n => g n)]
  conv => rhs; rw [← map_nth l]
  rw [List.map_map]; rfl

def behB (l : List Nd) (n : Nd) : Bool := termOk l && termOk (l ++ [n])
def behL (l : List Nd) (n : Nd) : List Nd := if behB l n then l ++ [n] else []
def quN (l : List Nd) (all : Bool) (v w : Int) : Nd := ⟨if all then 19 else 20, 1, v, (l.length : Int) - 1, w, 0⟩

theorem nodeOk_less {l m : List Nd} {i : Nat} (hi : i < l.length) (h : nodeOk (l ++ m) i = true) : nodeOk l i = true := by
  have e0 : ∀ j, j < l.length → nth (l ++ m) j = nth l j := by
    intro j hj
    unfold nth
    rw [List.getD_eq_getElem?_getD, List.getElem?_append_left hj, ← List.getD_eq_getElem?_getD]
  have hp := parts_ok h
  rw [e0 i hi] at hp
  have e : (parts (nth (l ++ m) i)).map (width (l ++ m)) = (parts (nth l i)).map (width l) := by
    rw [e0 i hi]
    apply List.map_congr_left
    intro p hpm
    obtain ⟨j, hj, rfl⟩ := List.getElem_of_mem hpm
    have := hp j hj
    unfold width
    rw [e0 _ (by omega)]
  simp only [nodeOk] at h ⊢
  rw [e, e0 i hi] at h
  exact h
theorem term_less {l m : List Nd} (h : termOk (l ++ m) = true) (h1 : 1 ≤ l.length) : termOk l = true := by
  have hl := term_len h
  rw [List.length_append] at hl
  exact term_good (by omega) fun k hk => nodeOk_less hk (term_node h (by rw [List.length_append]; omega))
end Go.Proofs.YtnbenffechplgaaGreat.Aq0

/- Walks of the exact laws' helpers that write: marks put into lists, and looked for. -/
namespace Go.Proofs.YtnbenffechplgaaGreat.Nd3
open Go.RowKit
open Nd0 Nd1
set_option linter.unusedVariables false

def WNodes (w : World) (B : Nat) (a : Option Addr) (l : List Nd) : Prop :=
  l.length ≤ maxLen ∧ (l.length = 0 ∨ ∃ b o, a = some ⟨b, o, none⟩ ∧ B ≤ b ∧ (∀ i (h : i < l.length), NodeAt w b (o + i * 6) l[i]) ∧ ∀ j, j < l.length * 6 → w.frozen? ⟨b, o + j, none⟩ = false)
theorem WNodes.nodes {w : World} {B : Nat} {a : Option Addr} {l : List Nd} (h : WNodes w B a l) : Nodes w a l := by
  refine ⟨h.1, ?_⟩
  rcases h.2 with h0 | ⟨b, o, ha, _, hc, _⟩
  · exact .inl h0
  · exact .inr ⟨b, o, ha, hc⟩

end Go.Proofs.YtnbenffechplgaaGreat.Nd3

/- Lists of nodes that are appended to: the law at the walk, and how they are read. -/
namespace Go.Proofs.YtnbenffechplgaaGreat.Ap2
open Go.RowKit
open Nd0 Nd3
set_option linter.unusedVariables false

theorem infoNode : (Tryz.prog.info? 35).map (fun i => (i.zero, i.size, i.bytes)) = some (some (.agg #[.int .i64 0, .int .i64 0, .int .i64 0, .int .i64 0, .int .i64 0, .int .i64 0]), 6, 48) := by kernel_rfl

def flat (l : List Nd) : List Value := l.flatMap Nd.cells
theorem cells_length (n : Nd) : n.cells.length = 6 := rfl
theorem flat_length (l : List Nd) : (flat l).length = l.length * 6 := by
  induction l with
  | nil => rfl
  | cons n l ih => show (n.cells ++ flat l).length = _; rw [List.length_append, ih, cells_length, List.length_cons]; omega
theorem flat_get (l : List Nd) : ∀ (i : Nat) (h : i < l.length) (j : Nat), j < 6 → (flat l)[i * 6 + j]? = (l[i].cells)[j]? := by
  induction l with
  | nil => intro i h; exact absurd h (Nat.not_lt_zero _)
  | cons n l ih =>
    intro i h j hj
    show (n.cells ++ flat l)[i * 6 + j]? = _
    cases i with
    | zero => rw [Nat.zero_mul, Nat.zero_add, List.getElem?_append_left (by rw [cells_length]; exact hj)]; rfl
    | succ i =>
      rw [List.getElem?_append_right (by rw [cells_length]; omega), cells_length, show (i + 1) * 6 + j - 6 = i * 6 + j by omega]
      exact ih i (by simpa using h) j hj
theorem flat_snoc (l : List Nd) (n : Nd) : flat (l ++ [n]) = flat l ++ n.cells := by simp [flat]

def Own (w : World) (B : Nat) (v : Value) (l : List Nd) : Prop := w.ownsRow B 35 6 v l.length (flat l)

theorem Own.form {w : World} {B : Nat} {v : Value} {l : List Nd} (h : Own w B v l) : ∃ a c, v = .slice a l.length c ∧ WNodes w B a l := by
  obtain ⟨h1, h2⟩ := h
  rcases h2 with ⟨rfl, h0⟩ | ⟨g, cap, cur, rfl, hb, hg, hn, hm, hs, ht⟩
  · have : l = [] := List.eq_nil_of_length_eq_zero h0
    subst this
    exact ⟨none, 0, rfl, Nat.zero_le _, .inl rfl⟩
  · have hcell : ∀ j, j < l.length * 6 → w.cell? ⟨g, j, none⟩ = (flat l)[j]? := by
      intro j hj
      rw [cell_of_row w g j cur _ _ hg, ← ht, List.getElem?_take_of_lt hj]
      simp
    refine ⟨_, _, rfl, by omega, .inr ⟨g, 0, rfl, hb, fun i hi => ?_, fun j hj => ?_⟩⟩
    · have hf := flat_get l i hi
      rw [Nat.zero_add]
      refine ⟨?_, ?_, ?_, ?_, ?_, ?_⟩
      · rw [hcell _ (by omega)]; exact hf 0 (by omega)
      · rw [hcell _ (by omega)]; exact hf 1 (by omega)
      · rw [hcell _ (by omega)]; exact hf 2 (by omega)
      · rw [hcell _ (by omega)]; exact hf 3 (by omega)
      · rw [hcell _ (by omega)]; exact hf 4 (by omega)
      · rw [hcell _ (by omega)]; exact hf 5 (by omega)
    · rw [Nat.zero_add]
      simp [World.frozen?, hg]
theorem Own.lit (w : World) (B : Nat) (hB : B ≤ w.heap.size) : Own (w.alloc (.cells #[] 35)) B (.slice (some ⟨w.heap.size, 0, none⟩) 0 0) [] :=
  World.ownsRow_lit w #[] 0 hB (Nat.zero_le _) rfl
theorem Own.lt {w : World} {B : Nat} {v : Value} {l : List Nd} (h : Own w B v l) : ∀ k, v.ownBlock = some k → B ≤ k ∧ k < w.heap.size := World.ownsRow.lt h
theorem Own.kept {w w' : World} {B : Nat} {v : Value} {l : List Nd} (h : Own w B v l) {S : Nat → Prop} (k : Kept S w w') (hs : ∀ i, v.ownBlock = some i → ¬ S i) : Own w' B v l := by
  refine ⟨h.1, ?_⟩
  rcases h.2 with hn | ⟨g, cap, cur, rfl, hb, hgg, rest⟩
  · exact .inl hn
  · refine .inr ⟨g, cap, cur, rfl, hb, ?_, rest⟩
    rw [k.block g (Array.getElem?_eq_some_iff.1 hgg).1 (hs g rfl)]
    exact hgg
theorem Own.len {w : World} {B : Nat} {v : Value} {l : List Nd} (h : Own w B v l) : ∃ a c, v = .slice a l.length c := by
  obtain ⟨a, c, hv, _⟩ := h.form; exact ⟨a, c, hv⟩

theorem app_node {ops : Array Oper} {rest : List Oper} {o : Oper} {a : Act} {Q : Exit → Act → World → Prop} (W : World) (hgd : o.guard = none) (s x : Operand)
    (ho : o.op = .call { callee := .builtin .append, args := #[s, x], argTypes := #[26, 26] })
    (B : Nat) (v : Value) (l : List Nd) (y : Nd) (hs : a.eval s = v) (G : Nat) (hx : a.eval x = .slice (some ⟨G, 0, none⟩) 1 1) (hG : G = W.heap.size)
    (hown : Own W B v l) (hB : B ≤ W.heap.size) (hlen : l.length ≤ 1048576)
    (h : ∀ g cap w', Own w' B (.slice (some ⟨g, 0, none⟩) (l.length + 1) cap) (l ++ [y]) → Kept (fun k => v.ownBlock = some k) W w' → (v.ownBlock = some g ∨ W.heap.size ≤ g) → wpList Tryz.prog ops Q rest (a.put o.dst (.slice (some ⟨g, 0, none⟩) (l.length + 1) cap)) w') :
    wpList Tryz.prog ops Q (o :: rest) a (W.alloc (.cells #[.int .i64 y.op, .int .i64 y.w, .int .i64 y.k, .int .i64 y.a, .int .i64 y.b, .int .i64 y.c] 35)) := by
  subst hG
  obtain ⟨i, hi, hzz⟩ := Option.map_eq_some_iff.1 infoNode
  simp only [Prod.mk.injEq] at hzz
  obtain ⟨hz, hsz, hb⟩ := hzz
  refine wpList_append_lies (W.alloc (.cells #[.int .i64 y.op, .int .i64 y.w, .int .i64 y.k, .int .i64 y.a, .int .i64 y.b, .int .i64 y.c] 35)) hgd s x 26 ho B 35 i _ 6 48 Tryz.underlying26 hi hz hsz hb rfl (by omega) v l.length (flat l) hs (World.ownsRow.alloc hown _)
    ⟨W.heap.size, 0, none⟩ 1 1 y.cells hx rfl ?_ ?_ (by omega) (by unfold maxLen; omega) (by omega) (by simp; omega) _ rfl ?_
  · intro j u hu
    exact World.news_of_block (heap_alloc_new W _) j u hu
  · intro u hu
    simp [Nd.cells] at hu
    rcases hu with rfl | rfl | rfl | rfl | rfl | rfl <;> rfl
  · intro g cap w' h1 h2 h3 h4
    refine h g cap w' ?_ ?_ ?_
    · unfold Own
      rw [flat_snoc, List.length_append]
      exact h1
    · have k1 : Kept (fun k => v.ownBlock = some k) W (W.alloc (.cells #[.int .i64 y.op, .int .i64 y.w, .int .i64 y.k, .int .i64 y.a, .int .i64 y.b, .int .i64 y.c] 35)) := (Kept.refl _ W).alloc _
      exact k1.trans ⟨h2.os, h2.tape, h2.output, h2.size, fun k hk hn => h2.block k hk (fun e => hn e.symm)⟩
    · rcases h3 with h3 | h3
      · exact .inl h3
      · exact .inr (by rw [h3]; simp)

end Go.Proofs.YtnbenffechplgaaGreat.Ap2

/- Small facts on nodes that are laid and appended. -/
namespace Go.Proofs.YtnbenffechplgaaGreat.Dw3
open Go.RowKit
open Nd0 Nd3 Ap2
set_option linter.unusedVariables false

theorem flat_app (l ys : List Nd) : flat (l ++ ys) = flat l ++ flat ys := by simp [flat]
theorem nodes_cells {W : World} {gx ox : Nat} {ys : List Nd} (hy : ∀ i (h : i < ys.length), NodeAt W gx (ox + i * 6) ys[i]) (j : Nat) (u : Value) (hu : (flat ys)[j]? = some u) : W.cell? ((⟨gx, ox, none⟩ : Addr).add j) = some u := by
  have hadd : (⟨gx, ox, none⟩ : Addr).add j = ⟨gx, ox + j, none⟩ := by unfold Addr.add; split <;> simp_all
  rw [hadd]
  have hj : j < (flat ys).length := (List.getElem?_eq_some_iff.1 hu).1
  rw [flat_length] at hj
  have hi : j / 6 < ys.length := by omega
  have hf := flat_get ys (j / 6) hi (j % 6) (Nat.mod_lt _ (by omega))
  have e : j / 6 * 6 + j % 6 = j := by omega
  rw [e, hu] at hf
  obtain ⟨c0, c1, c2, c3, c4, c5⟩ := hy (j / 6) hi
  have h6 : j % 6 = 0 ∨ j % 6 = 1 ∨ j % 6 = 2 ∨ j % 6 = 3 ∨ j % 6 = 4 ∨ j % 6 = 5 := by omega
  rcases h6 with r | r | r | r | r | r
  · rw [r] at hf; have e2 : ox + j = ox + j / 6 * 6 := by omega
    rw [e2, c0]; exact hf.symm
  · rw [r] at hf; have e2 : ox + j = ox + j / 6 * 6 + 1 := by omega
    rw [e2, c1]; exact hf.symm
  · rw [r] at hf; have e2 : ox + j = ox + j / 6 * 6 + 2 := by omega
    rw [e2, c2]; exact hf.symm
  · rw [r] at hf; have e2 : ox + j = ox + j / 6 * 6 + 3 := by omega
    rw [e2, c3]; exact hf.symm
  · rw [r] at hf; have e2 : ox + j = ox + j / 6 * 6 + 4 := by omega
    rw [e2, c4]; exact hf.symm
  · rw [r] at hf; have e2 : ox + j = ox + j / 6 * 6 + 5 := by omega
    rw [e2, c5]; exact hf.symm

/-- Some nodes more, at a step of a region that draws its order. -/
theorem step_app_nodes {ops : Array Oper} {o : Oper} {a : Act} {K : Act → World → Prop} {Q : Exit → Act → World → Prop} {E : Prop} (W : World) (hgd : o.guard = none) (s x : Operand)
    (ho : o.op = .call { callee := .builtin .append, args := #[s, x], argTypes := #[26, 26] })
    (B : Nat) (v : Value) (l ys : List Nd) (gx ox c : Nat) (hs : a.eval s = v) (hx : a.eval x = .slice (some ⟨gx, ox, none⟩) ys.length c)
    (hy : ∀ i (h : i < ys.length), NodeAt W gx (ox + i * 6) ys[i]) (hp : 0 < ys.length)
    (hown : Ap2.Own W B v l) (hB : B ≤ W.heap.size) (hlen : l.length + ys.length ≤ 1048577)
    (h : ∀ g cap w', Ap2.Own w' B (.slice (some ⟨g, 0, none⟩) (l.length + ys.length) cap) (l ++ ys) → Kept (fun k => v.ownBlock = some k) W w' → (v.ownBlock = some g ∨ W.heap.size ≤ g) → K (a.put o.dst (.slice (some ⟨g, 0, none⟩) (l.length + ys.length) cap)) w') :
    if Region.wanted o (yielded ops a.tmps) = true then Oper.wp Tryz.prog o a W K Q else E := by
  obtain ⟨i, hi, hzz⟩ := Option.map_eq_some_iff.1 infoNode
  simp only [Prod.mk.injEq] at hzz
  obtain ⟨hz, hsz, hb⟩ := hzz
  refine step_append_lies W hgd s x 26 ho B 35 i _ 6 48 Tryz.underlying26 hi hz hsz hb rfl (by omega) v l.length (flat l) hs hown
    ⟨gx, ox, none⟩ ys.length c (flat ys) hx (flat_length ys) (fun j u hu => nodes_cells hy j u hu) ?_ hp (by unfold maxLen; omega) (by omega) hB _ rfl ?_
  · intro u hu
    obtain ⟨n, _, hn⟩ := List.mem_flatMap.1 hu
    simp [Nd.cells] at hn
    rcases hn with rfl | rfl | rfl | rfl | rfl | rfl <;> rfl
  · intro g cap w' h1 h2 h3 h4
    refine h g cap w' ?_ ?_ ?_
    · unfold Ap2.Own
      rw [flat_app, List.length_append]
      exact h1
    · exact ⟨h2.os, h2.tape, h2.output, h2.size, fun k hk hn => h2.block k hk (fun e => hn e.symm)⟩
    · rcases h3 with h3 | h3
      · exact .inl h3
      · exact .inr (by rw [h3]; exact Nat.le_refl _)

end Go.Proofs.YtnbenffechplgaaGreat.Dw3
namespace Go.Proofs.YtnbenffechplgaaGreat.Dw4
open Go.RowKit
open Nd0 Nd3 Ap2
set_option linter.unusedVariables false

theorem own_lit (W : World) (B g : Nat) (hg : g = W.heap.size) (hB : B ≤ g) : Ap2.Own (W.alloc (.cells #[] 35)) B (.slice (some ⟨g, 0, none⟩) 0 0) [] := by
  subst hg; exact Own.lit W B hB
theorem node_new (W : World) (n : Nd) (T g : Nat) (hg : g = W.heap.size) : ∀ i (h : i < [n].length), NodeAt (W.alloc (.cells #[.int .i64 n.op, .int .i64 n.w, .int .i64 n.k, .int .i64 n.a, .int .i64 n.b, .int .i64 n.c] T)) g (0 + i * 6) [n][i] := by
  subst hg
  intro i hi
  have h0 : i = 0 := by simp at hi; exact hi
  subst h0
  refine ⟨?_, ?_, ?_, ?_, ?_, ?_⟩ <;> (rw [World.cell?_alloc_new]; try rfl)
theorem node_kept {W W' : World} {S : Nat → Prop} {n : Nd} {g : Nat} (k : Kept S W W') (hg : g < W.heap.size) (hs : ¬ S g) (h : ∀ i (h : i < [n].length), NodeAt W g (0 + i * 6) [n][i]) : ∀ i (h : i < [n].length), NodeAt W' g (0 + i * 6) [n][i] := by
  intro i hi
  obtain ⟨c0, c1, c2, c3, c4, c5⟩ := h i hi
  exact ⟨by rw [k.cell (p := ⟨g, _, none⟩) hg hs]; exact c0, by rw [k.cell (p := ⟨g, _, none⟩) hg hs]; exact c1, by rw [k.cell (p := ⟨g, _, none⟩) hg hs]; exact c2, by rw [k.cell (p := ⟨g, _, none⟩) hg hs]; exact c3, by rw [k.cell (p := ⟨g, _, none⟩) hg hs]; exact c4, by rw [k.cell (p := ⟨g, _, none⟩) hg hs]; exact c5⟩
theorem own_ne {g h n c : Nat} (hne : g ≠ h) : ¬ (Value.slice (some ⟨g, 0, none⟩) n c).ownBlock = some h := by
  intro e
  have : some g = some h := e
  exact hne (Option.some.inj this)
theorem sz2 (W : World) (o o' : Obj) : (((W.alloc o).alloc o').drew).heap.size = W.heap.size + 1 + 1 := by
  show ((W.alloc o).alloc o').heap.size = _
  simp
theorem node_drew {W : World} {n : Nd} {g : Nat} (h : ∀ i (h : i < [n].length), NodeAt W g (0 + i * 6) [n][i]) : ∀ i (h : i < [n].length), NodeAt W.drew g (0 + i * 6) [n][i] := fun i hi => ⟨(h i hi).c0, (h i hi).c1, (h i hi).c2, (h i hi).c3, (h i hi).c4, (h i hi).c5⟩
end Go.Proofs.YtnbenffechplgaaGreat.Dw4
