/- Small texts of mine, one behind the other. -/
import Derived.Test.YtebejleeadofcaaTm10
/- A term without what its root does not reach: it is right, all of it is reached, and it is pruned already, as plain data. -/
namespace Go.Proofs.Ytebejleeadofcaa.Tm13
open Nd0 Pl1 Tm0 Tm1 Tm2 Tm3 Tm4 Tm5 Tm6 Tm8 Tm9 Tm10

/-- The new place of place x. -/
def pl (l : List Nd) (x : Nat) : Nat := (reachTo l x).length
theorem plc_pl (l : List Nd) (x : Nat) : plc l (x : Int) = (pl l x : Int) := by simp [plc, pl]
theorem pl_succ (l : List Nd) (x : Nat) : pl l (x + 1) = if flag (reachL l) x then pl l x + 1 else pl l x := by
  unfold pl; rw [reachTo_succ]; split
  · simp
  · rfl
theorem prune_ok {l : List Nd} (hT : termOk l = true) : pruneL l = pruneTo l l.length := by unfold pruneL; rw [hT]; rfl
theorem prune_len {l : List Nd} (hT : termOk l = true) : (pruneL l).length = pl l l.length := by rw [prune_ok hT, pruneTo_length]; rfl
theorem pruneTo_nth (l : List Nd) {x : Nat} (hf : flag (reachL l) x = true) : ∀ k, x < k → nth (pruneTo l k) (pl l x) = remap l (nth l x) := by
  intro k
  induction k with
  | zero => intro h; omega
  | succ k ih =>
    intro h
    by_cases e : x = k
    · subst e
      rw [pruneTo_succ, hf, if_pos rfl]
      unfold nth pl
      rw [List.getD_eq_getElem?_getD, List.getElem?_append_right (by rw [pruneTo_length]; exact Nat.le_refl _), pruneTo_length]
      simp
    · have h1 := ih (by omega)
      rw [pruneTo_succ]
      split
      · rw [← h1]
        unfold nth
        rw [List.getD_eq_getElem?_getD, List.getElem?_append_left (by rw [pruneTo_length]; exact reachTo_lt l (by omega) hf), ← List.getD_eq_getElem?_getD]
      · exact h1
theorem prune_nth {l : List Nd} (hT : termOk l = true) {x : Nat} (hx : x < l.length) (hf : flag (reachL l) x = true) : nth (pruneL l) (pl l x) = remap l (nth l x) := by
  rw [prune_ok hT]; exact pruneTo_nth l hf _ hx
theorem pl_lt {l : List Nd} (hT : termOk l = true) {x : Nat} (hx : x < l.length) (hf : flag (reachL l) x = true) : pl l x < (pruneL l).length := by
  rw [prune_len hT]; exact reachTo_lt l hx hf
theorem pl_all {l : List Nd} (hT : termOk l = true) {j : Nat} (hj : j < (pruneL l).length) : ∃ x, x < l.length ∧ flag (reachL l) x = true ∧ pl l x = j := by
  rw [prune_len hT] at hj
  obtain ⟨x, _, h2, h3, h4⟩ := reach_at l l.length j hj
  exact ⟨x, h2, h3, h4⟩
theorem parts_remap (l : List Nd) (n : Nd) : parts (remap l n) = (parts n).map (plc l) := by
  rcases parts_cases n with h | h | h | h
  · have e : remap l n = n := by unfold remap; rw [h]; rfl
    rw [e, h]; rfl
  · have h0 := h
    have e : remap l n = ⟨n.op, n.w, n.k, plc l n.a, n.b, n.c⟩ := by unfold remap; rw [h]; rfl
    rw [e, h]
    have : n.op = 2 ∨ n.op = 17 ∨ n.op = 19 ∨ n.op = 20 := by
      unfold parts at h0
      split at h0
      · assumption
      · split at h0
        · simp at h0
        · split at h0 <;> simp at h0
    exact parts_one (n := ⟨n.op, n.w, n.k, plc l n.a, n.b, n.c⟩) this
  · have h0 := h
    have e : remap l n = ⟨n.op, n.w, n.k, plc l n.a, plc l n.b, n.c⟩ := by unfold remap; rw [h]; rfl
    rw [e, h]
    have : 3 ≤ n.op ∧ n.op ≤ 16 := by
      unfold parts at h0
      split at h0
      · simp at h0
      · split at h0
        · assumption
        · split at h0 <;> simp at h0
    exact parts_two (n := ⟨n.op, n.w, n.k, plc l n.a, plc l n.b, n.c⟩) this
  · have h0 := h
    have e : remap l n = ⟨n.op, n.w, n.k, plc l n.a, plc l n.b, plc l n.c⟩ := by unfold remap; rw [h]; rfl
    rw [e, h]
    have : n.op = 18 := by
      unfold parts at h0
      split at h0
      · simp at h0
      · split at h0
        · simp at h0
        · split at h0
          · assumption
          · simp at h0
    exact parts_three (n := ⟨n.op, n.w, n.k, plc l n.a, plc l n.b, plc l n.c⟩) this
theorem remap_op (l : List Nd) (n : Nd) : (remap l n).op = n.op := rfl
theorem remap_w (l : List Nd) (n : Nd) : (remap l n).w = n.w := rfl
theorem remap_k (l : List Nd) (n : Nd) : (remap l n).k = n.k := rfl
theorem shape_remap (l : List Nd) (n : Nd) (ws : List Int) : shapeOk (remap l n) ws = shapeOk n ws := by
  obtain ⟨op, w, k, a, b, c⟩ := n
  by_cases h1 : op = 2 ∨ op = 17 ∨ op = 19 ∨ op = 20
  · have e : remap l ⟨op, w, k, a, b, c⟩ = ⟨op, w, k, plc l a, b, c⟩ := by unfold remap; rw [parts_one h1]; rfl
    rw [e]
    unfold shapeOk
    dsimp only
    rcases h1 with h | h | h | h <;> subst h <;> rfl
  · by_cases h2 : 3 ≤ op ∧ op ≤ 16
    · have e : remap l ⟨op, w, k, a, b, c⟩ = ⟨op, w, k, plc l a, plc l b, c⟩ := by unfold remap; rw [parts_two h2]; rfl
      rw [e]
      unfold shapeOk
      dsimp only
      have n0 : ¬ op = 0 := by omega
      have n1 : ¬ op = 1 := by omega
      have n2 : ¬ op = 2 := by omega
      have n3 : ¬ op = 17 := by omega
      have n4 : ¬ op = 18 := by omega
      have n5 : ¬ (op = 19 ∨ op = 20) := by omega
      simp only [if_neg n0, if_neg n1, if_neg n2, if_neg n3, if_neg n4, if_neg n5]
    · by_cases h3 : op = 18
      · subst h3
        have e : remap l ⟨18, w, k, a, b, c⟩ = ⟨18, w, k, plc l a, plc l b, plc l c⟩ := by unfold remap; rw [parts_three rfl]; rfl
        rw [e]; rfl
      · have e : remap l ⟨op, w, k, a, b, c⟩ = ⟨op, w, k, a, b, c⟩ := by unfold remap; rw [parts_none h1 h2 h3]; rfl
        rw [e]
/-- A part of a reached node is reached, and its new place is that of a number. -/
theorem part_reached {l : List Nd} (hT : termOk l = true) {x : Nat} (hx : x < l.length) (hf : flag (reachL l) x = true) {p : Int} (hp : p ∈ parts (nth l x)) :
    ∃ y : Nat, p = (y : Int) ∧ y < x ∧ flag (reachL l) y = true ∧ plc l p = (pl l y : Int) := by
  have hd := down_of hT x hx p hp
  have hr := reach_closed (down_of hT) hx hf hp
  refine ⟨p.toNat, by omega, by omega, hr, ?_⟩
  rw [← plc_pl]; congr 1; omega
theorem prune_node {l : List Nd} (hT : termOk l = true) {x : Nat} (hx : x < l.length) (hf : flag (reachL l) x = true) : nodeOk (pruneL l) (pl l x) = true := by
  have hn := prune_nth hT hx hf
  have hk := term_node hT hx
  have e : (parts (nth (pruneL l) (pl l x))).map (width (pruneL l)) = (parts (nth l x)).map (width l) := by
    rw [hn, parts_remap, List.map_map]
    apply List.map_congr_left
    intro p hp
    obtain ⟨y, rfl, hyx, hy, hpl⟩ := part_reached hT hx hf hp
    simp only [Function.comp, width]
    rw [hpl, Int.toNat_natCast, prune_nth hT (by omega) hy, Int.toNat_natCast]
    rfl
  simp only [nodeOk, Bool.and_eq_true, List.all_eq_true, decide_eq_true_eq] at hk ⊢
  rw [e]
  refine ⟨⟨?_, ?_⟩, ?_⟩
  · intro q hq
    rw [hn, parts_remap] at hq
    obtain ⟨p, hp, rfl⟩ := List.mem_map.1 hq
    obtain ⟨y, rfl, hyx, hy, hpl⟩ := part_reached hT hx hf hp
    have := reachTo_lt l hyx hy
    rw [hpl]
    unfold pl
    omega
  · rw [hn]; exact hk.1.2
  · rw [hn, shape_remap]; exact hk.2
theorem prune_root {l : List Nd} (hT : termOk l = true) : pl l (l.length - 1) = (pruneL l).length - 1 ∧ 1 ≤ (pruneL l).length := by
  have hl := term_len hT
  have hr := reach_root (l := l) hl.1
  have h1 := pl_succ l (l.length - 1)
  rw [hr, if_pos rfl] at h1
  have e : l.length - 1 + 1 = l.length := by omega
  rw [e] at h1
  rw [prune_len hT]
  omega
/-- A pruned term is right. -/
theorem prune_term {l : List Nd} (hT : termOk l = true) : termOk (pruneL l) = true := by
  have hl := term_len hT
  have h1 := (prune_root hT).2
  have h2 := pruneL_le l
  refine term_good ⟨h1, by omega⟩ (fun j hj => ?_)
  obtain ⟨x, hx, hf, rfl⟩ := pl_all hT hj
  exact prune_node hT hx hf
theorem prune_reach_at {l : List Nd} (hT : termOk l = true) : ∀ d x, l.length = x + 1 + d → flag (reachL l) x = true → flag (reachL (pruneL l)) (pl l x) = true := by
  intro d
  induction d using Nat.strongRecOn with
  | ind d ih =>
    intro x hd hf
    rcases reach_why (down_of hT) (by omega) hf with h | ⟨j, h1, h2, h3, h4⟩
    · have hr := prune_root hT
      have e : x = l.length - 1 := by omega
      rw [e, hr.1]
      exact reach_root hr.2
    · have hj := ih (l.length - j - 1) (by omega) j (by omega) h3
      have hp : (pl l x : Int) ∈ parts (nth (pruneL l) (pl l j)) := by
        rw [prune_nth hT h2 h3, parts_remap, ← plc_pl]
        exact List.mem_map_of_mem h4
      have := reach_closed (down_of (prune_term hT)) (pl_lt hT h2 h3) hj hp
      rw [Int.toNat_natCast] at this
      exact this
/-- All of a pruned term is reached. -/
theorem prune_reach {l : List Nd} (hT : termOk l = true) {j : Nat} (hj : j < (pruneL l).length) : flag (reachL (pruneL l)) j = true := by
  obtain ⟨x, hx, hf, rfl⟩ := pl_all hT hj
  exact prune_reach_at hT (l.length - x - 1) x (by omega) hf
theorem reachTo_full {m : List Nd} (h : ∀ j, j < m.length → flag (reachL m) j = true) : ∀ k, k ≤ m.length → reachTo m k = (List.range k).map fun (i : Nat) => (i : Int) := by
  intro k hk
  unfold reachTo
  congr 1
  rw [List.filter_eq_self]
  intro j hj
  exact h j (by have := List.mem_range.1 hj; omega)
theorem prune_reached {l : List Nd} (hT : termOk l = true) : reachedL (pruneL l) = (List.range (pruneL l).length).map fun (i : Nat) => (i : Int) := by
  unfold reachedL
  rw [prune_term hT, if_pos rfl]
  exact reachTo_full (fun j hj => prune_reach hT hj) _ (Nat.le_refl _)
theorem reached_len {l : List Nd} (hT : termOk l = true) : (reachedL l).length = (pruneL l).length := by
  rw [prune_len hT]; unfold reachedL; rw [hT]; rfl
theorem remap_self {m : List Nd} (hM : termOk m = true) (h : ∀ j, j < m.length → flag (reachL m) j = true) {i : Nat} (hi : i < m.length) : remap m (nth m i) = nth m i := by
  have hp : ∀ p ∈ parts (nth m i), plc m p = p := by
    intro p hp
    have hd := down_of hM i hi p hp
    unfold plc
    rw [reachTo_full h _ (by omega)]
    simp; omega
  unfold remap
  rcases parts_cases (nth m i) with e | e | e | e
  · rw [e]; rfl
  · rw [e] at hp ⊢
    have := hp (nth m i).a (by simp)
    simp [this]
  · rw [e] at hp ⊢
    have h1 := hp (nth m i).a (by simp)
    have h2 := hp (nth m i).b (by simp)
    simp [h1, h2]
  · rw [e] at hp ⊢
    have h1 := hp (nth m i).a (by simp)
    have h2 := hp (nth m i).b (by simp)
    have h3 := hp (nth m i).c (by simp)
    simp [h1, h2, h3]
theorem map_nth (m : List Nd) : (List.range m.length).map (nth m) = m := by
  apply List.ext_getElem
  · simp
  · intro i h1 h2
    simp only [List.getElem_map, List.getElem_range]
    exact (nth_get h2).symm
/-- A pruned term is pruned already. -/
theorem prune_prune {l : List Nd} (hT : termOk l = true) : pruneL (pruneL l) = pruneL l := by
  have hM := prune_term hT
  rw [prune_ok hM, prune_map, reachTo_full (fun j hj => prune_reach hT hj) _ (Nat.le_refl _), List.map_map]
  refine Eq.trans ?_ (map_nth (pruneL l))
  apply List.map_congr_left
  intro i hi
  simp only [Function.comp, Int.toNat_natCast]
  exact remap_self hM (fun j hj => prune_reach hT hj) (List.mem_range.1 hi)
theorem prune_root_op {l : List Nd} (hT : termOk l = true) : (nth (pruneL l) ((pruneL l).length - 1)).op = (nth l (l.length - 1)).op ∧ (nth (pruneL l) ((pruneL l).length - 1)).w = (nth l (l.length - 1)).w := by
  have hl := term_len hT
  rw [← (prune_root hT).1, prune_nth hT (by omega) (reach_root hl.1)]
  exact ⟨rfl, rfl⟩

end Go.Proofs.Ytebejleeadofcaa.Tm13

/- How many bits a sentence quantifies, as plain data. -/
namespace Go.Proofs.Ytebejleeadofcaa.Tm11
open Nd0 Pl1 Tm0 Tm1 Tm2 Tm4 Tm5 Tm6 Tm8 Tm9 Tm10

def bitsTo (l : List Nd) : Nat → Int
  | 0 => 0
  | k + 1 => if flag (reachL l) k && quant (nth l k).op then bitsTo l k + (nth l k).b else bitsTo l k
/-- The bits of a sentence's quantifiers. -/
def bitsL (l : List Nd) : Int := if sentB l then bitsTo l l.length else 0
theorem quant_b {l : List Nd} {k : Nat} (h : nodeOk l k = true) (hq : quant (nth l k).op = true) : 1 ≤ (nth l k).b ∧ (nth l k).b ≤ 8 := by
  simp only [nodeOk, Bool.and_eq_true] at h
  have hs := h.2
  unfold shapeOk at hs
  have h2 : (nth l k).op = 19 ∨ (nth l k).op = 20 := by simpa [quant] using hq
  rw [if_neg (by omega), if_neg (by omega), if_neg (by omega), if_neg (by omega), if_neg (by omega), if_neg (by omega), if_neg (by omega), if_neg (by omega), if_pos h2] at hs
  simp at hs; omega
theorem bits_bound {l : List Nd} (hT : termOk l = true) : ∀ k, k ≤ l.length → 0 ≤ bitsTo l k ∧ bitsTo l k ≤ 8 * (k : Int) := by
  intro k
  induction k with
  | zero => intro _; exact ⟨Int.le_refl _, Int.le_refl _⟩
  | succ k ih =>
    intro hk
    have := ih (by omega)
    have e : bitsTo l (k + 1) = if flag (reachL l) k && quant (nth l k).op then bitsTo l k + (nth l k).b else bitsTo l k := rfl
    rw [e]
    split
    · rename_i h
      simp only [Bool.and_eq_true] at h
      have := quant_b (term_node hT (by omega : k < l.length)) h.2
      omega
    · omega
theorem bits_skip (l : List Nd) {x y : Nat} (hxy : x ≤ y) (h : (reachTo l x).length = (reachTo l y).length) : bitsTo l y = bitsTo l x := by
  induction y with
  | zero => have : x = 0 := by omega
            subst this; rfl
  | succ y ih =>
    by_cases e : x = y + 1
    · subst e; rfl
    · have hf : flag (reachL l) y = false := flag_between l h (by omega) (by omega)
      have e1 : bitsTo l (y + 1) = bitsTo l y := by show (if _ then _ else _) = _; rw [hf]; rfl
      rw [e1]
      refine ih (by omega) ?_
      have := reachTo_succ l y
      rw [hf] at this
      rw [h, this]; rfl
theorem bits_same (l : List Nd) {x y : Nat} (h : (reachTo l x).length = (reachTo l y).length) : bitsTo l y = bitsTo l x := by
  rcases Nat.le_total x y with hh | hh
  · exact bits_skip l hh h
  · exact (bits_skip l hh h.symm).symm
theorem sent_ok {l : List Nd} (h : sentB l = true) : termOk l = true := by
  cases ht : termOk l
  · rw [sent_term ht] at h; cases h
  · rfl

end Go.Proofs.Ytebejleeadofcaa.Tm11
