/- A term's canonical form is worth what it is worth. -/
import Derived.Test.YtjhhmnelddidjaaVl2
import Derived.Test.YtjhhmnelddidjaaPkE
namespace Go.Proofs.Ytjhhmnelddidjaa.Vl3
open Nd0 Pl1 Pl2 Tm0 Tm1 Tm3 Tm5 Tm8 Tm11 Tm13 Tm14 Tx0 Tx2 Tx3 Tx4 Tr0 Vl1 Vl2
set_option linter.unusedVariables false

theorem remap_reparts (l : List Nd) (n : Nd) : remap l n = reparts n ((parts n).map fun q => (plc l q).toNat) := by
  have hp : ∀ q, ((plc l q).toNat : Int) = plc l q := fun q => by unfold plc; omega
  by_cases h1 : n.op = 2 ∨ n.op = 17 ∨ n.op = 19 ∨ n.op = 20
  · unfold remap reparts; rw [parts_one h1]; simp [hp]
  · by_cases h2 : 3 ≤ n.op ∧ n.op ≤ 16
    · unfold remap reparts; rw [parts_two h2]; simp [hp]
    · by_cases h3 : n.op = 18
      · unfold remap reparts; rw [parts_three h3]; simp [hp]
      · unfold remap reparts; rw [parts_none h1 h2 h3]; simp
theorem X_prune {l : List Nd} (hT : termOk l = true) : ∀ x, x < l.length → flag (reachL l) x = true → X (pruneL l) (pl l x) = X l x := by
  intro x
  induction x using Nat.strongRecOn with
  | ind x ih =>
    intro hx hf
    have hD := down_of hT
    have hDp := down_of (prune_term hT)
    refine X_same hD hDp hx (pl_lt hT hx hf) (is := (parts (nth l x)).map fun q => (plc l q).toNat) (by simp) (by rw [prune_nth hT hx hf]; exact remap_reparts l _) ?_
    rw [List.map_map]
    apply List.map_congr_left
    intro p hp
    have h1 := hD x hx p hp
    have h2 := reach_closed hD hx hf hp
    have h3 := ih p.toNat (by omega) (by omega) h2
    have h4 := plc_pl l p.toNat
    rw [Int.toNat_of_nonneg h1.1] at h4
    simp only [Function.comp]
    rw [h4, Int.toNat_natCast]
    exact h3
theorem show_prune {l : List Nd} (hT : termOk l = true) : showL (pruneL l) = showL l := by
  rw [show_X (prune_term hT), show_X hT, ← (prune_root hT).1]
  exact X_prune hT _ (by have := term_len hT; omega) (reach_root (by have := term_len hT; omega))

theorem sum_erase {α : Type} [DecidableEq α] (f : α → Int) {x : α} : ∀ (b : List α), x ∈ b → (b.map f).sum = f x + ((b.erase x).map f).sum := by
  intro b
  induction b with
  | nil => intro h; cases h
  | cons y b ih =>
    intro h
    by_cases e : y = x
    · subst e
      rw [List.erase_cons_head]
      simp
    · have hx : x ∈ b := by
        rcases List.mem_cons.1 h with e' | e'
        · exact absurd e'.symm e
        · exact e'
      rw [List.erase_cons_tail (by simpa using e)]
      simp only [List.map_cons, List.sum_cons]
      rw [ih hx]
      omega
theorem sum_le_of_inj {α : Type} [DecidableEq α] (f : α → Int) : ∀ (a b : List α), a.Nodup → (∀ x ∈ a, x ∈ b) → (∀ x ∈ b, 0 ≤ f x) → (a.map f).sum ≤ (b.map f).sum := by
  intro a
  induction a with
  | nil =>
    intro b _ _ h0
    induction b with
    | nil => exact Int.le_refl _
    | cons y b ihb =>
      have h1 := h0 y (by simp)
      have h2 := ihb (by simp) (fun x hx => h0 x (by simp [hx]))
      simp only [List.map_nil, List.sum_nil, List.map_cons, List.sum_cons] at h2 ⊢
      omega
  | cons x a ih =>
    intro b hn hs h0
    have hx : x ∈ b := hs x (by simp)
    have hn' := List.nodup_cons.1 hn
    have h1 := ih (b.erase x) hn'.2 (fun y hy => by
      have hne : y ≠ x := by intro e; subst e; exact hn'.1 hy
      exact (List.mem_erase_of_ne hne).2 (hs y (by simp [hy]))) (fun y hy => h0 y (List.mem_of_mem_erase hy))
    have h2 := sum_erase f b hx
    rw [h2]
    simp only [List.map_cons, List.sum_cons]
    omega
/-- The bits of a tree's own quantifier. -/
def bT : Tr → Int
  | .one op _ _ b _ => if quant op then b else 0
  | _ => 0
theorem bT_at {l : List Nd} (hD : Down l) {i : Nat} (hi : i < l.length) : bT (tr l i) = if quant (nth l i).op then (nth l i).b else 0 := by
  rw [tr_at hD hi]
  generalize nth l i = n
  by_cases h1 : n.op = 2 ∨ n.op = 17 ∨ n.op = 19 ∨ n.op = 20
  · rw [mk_one h1]; rfl
  · have hq : quant n.op = false := by
      unfold quant
      simp only [Bool.or_eq_false_iff, beq_eq_false_iff_ne]
      exact ⟨fun e => h1 (by omega), fun e => h1 (by omega)⟩
    rw [hq]
    by_cases h2 : 3 ≤ n.op ∧ n.op ≤ 16
    · rw [mk_two h2]; rfl
    · by_cases h3 : n.op = 18
      · rw [mk_three h3]; rfl
      · rw [mk_leaf h1 h2 h3]; rfl
theorem bT_pos {x : Tr} (h : Rt x) : 0 ≤ bT x := by
  cases x with
  | one op w k b x =>
    obtain ⟨_, _, _, h⟩ := h
    show 0 ≤ if quant op then b else 0
    split
    · rename_i hq
      rcases h with ⟨rfl, _⟩ | ⟨rfl, _⟩ | ⟨_, _, _, _, _, h, _⟩
      · cases hq
      · cases hq
      · omega
    · exact Int.le_refl _
  | leaf _ _ _ => exact Int.le_refl _
  | two _ _ _ _ => exact Int.le_refl _
  | three _ _ _ _ _ => exact Int.le_refl _
theorem bits_le {l : List Nd} (hT : termOk l = true) : ∀ k, k ≤ l.length → bitsTo l k ≤ ((List.range k).map fun i => bT (tr l i)).sum := by
  intro k
  induction k with
  | zero => intro _; exact Int.le_refl _
  | succ k ih =>
    intro hk
    have h1 := ih (by omega)
    have h2 := bT_pos (rt_all (down_of hT) (fun k hk => term_node hT hk) k (by omega)).1
    have h3 := bT_at (down_of hT) (i := k) (by omega)
    rw [List.range_succ, List.map_append, List.sum_append]
    simp only [bitsTo, List.map_cons, List.map_nil, List.sum_cons, List.sum_nil]
    cases hf : flag (reachL l) k
    · simp only [Bool.false_and, Bool.false_eq_true, if_false]; omega
    · simp only [Bool.true_and]
      rw [h3] at h2 ⊢
      split
      · omega
      · omega
theorem bits_all {l : List Nd} (hT : termOk l = true) (hR : ∀ j, j < l.length → flag (reachL l) j = true) : ∀ k, k ≤ l.length → bitsTo l k = ((List.range k).map fun i => bT (tr l i)).sum := by
  intro k
  induction k with
  | zero => intro _; rfl
  | succ k ih =>
    intro hk
    have h1 := ih (by omega)
    have h3 := bT_at (down_of hT) (i := k) (by omega)
    rw [List.range_succ, List.map_append, List.sum_append]
    simp only [bitsTo, List.map_cons, List.map_nil, List.sum_cons, List.sum_nil]
    rw [hR k (by omega), h3, ← h1]
    simp only [Bool.true_and]
    split <;> omega
/-- A list read of a term's text has no more bits. -/
theorem bits_emb {p u : List Nd} (hP : termOk p = true) (hR : ∀ j, j < p.length → flag (reachL p) j = true) (hU : termOk u = true) (hG : Neat u) (hE : Emb p u) : bitsTo u u.length ≤ bitsTo p p.length := by
  classical
  rw [bits_all hP hR p.length (Nat.le_refl _)]
  refine Int.le_trans (bits_le hU u.length (Nat.le_refl _)) ?_
  have h := sum_le_of_inj (α := List UInt8 × Tr) (fun x => bT x.2) ((List.range u.length).map fun j => (X u j, tr u j)) ((List.range p.length).map fun i => (X p i, tr p i)) (by
    rw [List.nodup_iff_pairwise_ne, List.pairwise_map]
    refine List.Pairwise.imp_of_mem ?_ (List.nodup_range (n := u.length))
    intro a b ha hb hab e
    exact hab (text_inj hG (List.mem_range.1 ha) (List.mem_range.1 hb) (hE a (List.mem_range.1 ha)).1 (congrArg Prod.fst e))) (by
    intro x hx
    obtain ⟨j, hj, rfl⟩ := List.mem_map.1 hx
    obtain ⟨i, hi, e1, e2⟩ := (hE j (List.mem_range.1 hj)).2
    exact List.mem_map.2 ⟨i, List.mem_range.2 hi, by rw [e1, e2]⟩) (by
    intro x hx
    obtain ⟨i, hi, rfl⟩ := List.mem_map.1 hx
    exact bT_pos (rt_all (down_of hP) (fun k hk => term_node hP hk) i (List.mem_range.1 hi)).1)
  rw [List.map_map, List.map_map] at h
  exact h
theorem value_parts {l : List Nd} {e : List Int} {x : Int} : valueL l e = some x ↔ termOk l = true ∧ e.length = 8 ∧ bitsTo l l.length ≤ 12 ∧ fitT (root l) e = true ∧ vT (root l) e = x := by
  unfold valueL
  split
  · rename_i hc
    simp only [Bool.and_eq_true, decide_eq_true_eq] at hc
    constructor
    · intro h; cases h; exact ⟨hc.1.1.1, hc.1.1.2, hc.1.2, hc.2, rfl⟩
    · intro h; rw [h.2.2.2.2]
  · rename_i hc
    simp only [Bool.and_eq_true, decide_eq_true_eq] at hc
    constructor
    · intro h; cases h
    · intro h; exact absurd ⟨⟨⟨h.1, h.2.1⟩, h.2.2.1⟩, h.2.2.2.1⟩ hc
/-- A term's canonical form is worth what it is worth. -/
theorem value_canon {l : List Nd} {e : List Int} {x : Int} (h : valueL l e = some x) (hc : canonL l ≠ []) : valueL (canonL l) e = some x := by
  obtain ⟨hT, he, hb, hf, hv⟩ := value_parts.1 h
  have hS : showL l ≠ [] := by
    intro e0
    refine hc ?_
    unfold canonL
    rw [if_pos (by rw [e0]; rfl)]
  have hP := prune_term hT
  have hSp : showL (pruneL l) ≠ [] := by rw [show_prune hT]; exact hS
  obtain ⟨u, h1, h2, h3, hG, hE, hr⟩ := canon_tree hP hSp
  have hu : canonL l = u := by
    unfold canonL
    rw [if_neg (fun e0 => hS (List.eq_nil_of_length_eq_zero e0)), ← show_prune hT, h1]
  have hroot : root u = root l := by
    rw [← root_prune hT]; exact hr
  rw [hu]
  refine value_parts.2 ⟨h2, he, ?_, by rw [hroot]; exact hf, by rw [hroot]; exact hv⟩
  have hb1 := bits_emb hP (fun j hj => prune_reach hT hj) h2 hG hE
  have hb2 : bitsTo (pruneL l) (pruneL l).length = bitsTo l l.length := by
    rw [prune_len hT]; exact bits_pl hT l.length (Nat.le_refl _)
  omega

end Go.Proofs.Ytjhhmnelddidjaa.Vl3
