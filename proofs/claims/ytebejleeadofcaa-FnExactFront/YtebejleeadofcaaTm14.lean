/- A pruned term has the same free variables, is a sentence just when the term was, and has its bits, as plain data. -/
import Derived.Test.YtebejleeadofcaaPkXF13
import Derived.Test.YtebejleeadofcaaPkXF8
namespace Go.Proofs.Ytebejleeadofcaa.Tm14
open Nd0 Pl1 Tm0 Tm1 Tm2 Tm3 Tm4 Tm5 Tm6 Tm8 Tm9 Tm10 Tm11 Tm13 Rw1
open Tm7 (row_old row_new flag_freeRow)

theorem row_prefix (l : List Nd) {k n i : Nat} (hi : i < k) (hk : k ≤ n) : row (freeRows l n) (i : Int) = row (freeRows l k) (i : Int) := by
  induction n with
  | zero => omega
  | succ n ih =>
    by_cases e : k = n + 1
    · subst e; rfl
    · rw [← ih (by omega)]
      exact row_old l n _ (by omega) (by omega)
/-- What is free in a node, by what is free in its parts. -/
theorem free_at {l : List Nd} (hD : Down l) {i : Nat} (hi : i < l.length) {v : Nat} (hv : v < 8) : flag (row (freeRows l l.length) (i : Int)) v = freeAt (freeRows l l.length) (nth l i) v := by
  rw [row_prefix l (k := i + 1) (n := l.length) (by omega) (by omega), row_new, flag_freeRow _ _ _ hv]
  unfold freeAt
  have : inParts (freeRows l i) (parts (nth l i)) v = inParts (freeRows l l.length) (parts (nth l i)) v := by
    unfold inParts
    rw [Bool.eq_iff_iff, List.any_eq_true, List.any_eq_true]
    constructor
    · rintro ⟨p, hp, hf⟩
      have hd := hD i hi p hp
      obtain ⟨y, rfl⟩ : ∃ y : Nat, p = (y : Int) := ⟨p.toNat, by omega⟩
      exact ⟨_, hp, by rw [row_prefix l (k := i) (n := l.length) (by omega) (by omega)]; exact hf⟩
    · rintro ⟨p, hp, hf⟩
      have hd := hD i hi p hp
      obtain ⟨y, rfl⟩ : ∃ y : Nat, p = (y : Int) := ⟨p.toNat, by omega⟩
      exact ⟨_, hp, by rw [← row_prefix l (k := i) (n := l.length) (by omega) (by omega)]; exact hf⟩
  rw [this]
theorem free_pl {l : List Nd} (hT : termOk l = true) {v : Nat} (hv : v < 8) : ∀ x, x < l.length → flag (reachL l) x = true →
    flag (row (freeRows (pruneL l) (pruneL l).length) (pl l x : Int)) v = flag (row (freeRows l l.length) (x : Int)) v := by
  intro x
  induction x using Nat.strongRecOn with
  | ind x ih =>
    intro hx hf
    rw [free_at (down_of hT) hx hv, free_at (down_of (prune_term hT)) (pl_lt hT hx hf) hv, prune_nth hT hx hf]
    unfold freeAt
    rw [remap_op, remap_k, parts_remap]
    have : inParts (freeRows (pruneL l) (pruneL l).length) ((parts (nth l x)).map (plc l)) v = inParts (freeRows l l.length) (parts (nth l x)) v := by
      unfold inParts
      rw [List.any_map, Bool.eq_iff_iff, List.any_eq_true, List.any_eq_true]
      constructor
      · rintro ⟨p, hp, hh⟩
        obtain ⟨y, rfl, hyx, hy, hpl⟩ := part_reached hT hx hf hp
        refine ⟨_, hp, ?_⟩
        rw [← ih y hyx (by omega) hy, ← hpl]; exact hh
      · rintro ⟨p, hp, hh⟩
        obtain ⟨y, rfl, hyx, hy, hpl⟩ := part_reached hT hx hf hp
        refine ⟨_, hp, ?_⟩
        simp only [Function.comp]
        rw [hpl, ih y hyx (by omega) hy]; exact hh
    rw [this]
/-- A pruned term has the same free variables. -/
theorem prune_free {l : List Nd} (hT : termOk l = true) : freeL (pruneL l) = freeL l := by
  have hl := term_len hT
  have hr := prune_root hT
  unfold freeL
  rw [hT, prune_term hT]
  simp only [if_true]
  unfold freeTo
  congr 1
  apply List.filter_congr
  intro v hv
  have h := free_pl hT (List.mem_range.1 hv) (l.length - 1) (by omega) (reach_root hl.1)
  unfold freeTop
  have e1 : ((pruneL l).length : Int) - 1 = (pl l (l.length - 1) : Int) := by omega
  have e2 : (l.length : Int) - 1 = ((l.length - 1 : Nat) : Int) := by omega
  rw [e1, e2]; exact h
theorem hold_pl {l : List Nd} (hT : termOk l = true) : ∀ x, x < l.length → flag (reachL l) x = true →
    flag (holdTo (pruneL l) (pruneL l).length) (pl l x) = flag (holdTo l l.length) x := by
  intro x
  induction x using Nat.strongRecOn with
  | ind x ih =>
    intro hx hf
    rw [hold_at (down_of hT) hx, hold_at (down_of (prune_term hT)) (pl_lt hT hx hf), prune_nth hT hx hf, remap_op, parts_remap]
    congr 1
    unfold below
    rw [List.any_map, Bool.eq_iff_iff, List.any_eq_true, List.any_eq_true]
    constructor
    · rintro ⟨p, hp, hh⟩
      obtain ⟨y, rfl, hyx, hy, hpl⟩ := part_reached hT hx hf hp
      refine ⟨_, hp, ?_⟩
      simp only [Function.comp] at hh
      rw [hpl, Int.toNat_natCast] at hh
      rw [Int.toNat_natCast, ← ih y hyx (by omega) hy]; exact hh
    · rintro ⟨p, hp, hh⟩
      obtain ⟨y, rfl, hyx, hy, hpl⟩ := part_reached hT hx hf hp
      refine ⟨_, hp, ?_⟩
      simp only [Function.comp]
      rw [Int.toNat_natCast] at hh
      rw [hpl, Int.toNat_natCast, ih y hyx (by omega) hy]; exact hh
theorem remap_b_quant (l : List Nd) (n : Nd) (h : quant n.op = true) : (remap l n).b = n.b := by
  have h2 : n.op = 19 ∨ n.op = 20 := by simpa [quant] using h
  unfold remap
  rw [parts_one (by omega)]; rfl
theorem quants_pl {l : List Nd} (hT : termOk l = true) : ∀ x, x ≤ l.length → quantsTo (pruneL l) (pl l x) = quantsTo l x := by
  intro x
  induction x with
  | zero => intro _; rfl
  | succ x ih =>
    intro hx
    rw [pl_succ]
    cases hf : flag (reachL l) x
    · rw [quants_skip1 l x hf]; exact ih (by omega)
    · rw [if_pos rfl]
      show (quantsTo (pruneL l) (pl l x)).bind _ = (quantsTo l x).bind _
      rw [ih (by omega)]
      congr 1
      funext ws
      unfold qStep
      rw [prune_reach hT (pl_lt hT (by omega) hf), hf, prune_nth hT (by omega) hf, remap_op, remap_k]
      cases hq : quant (nth l x).op
      · rfl
      · rw [remap_b_quant l _ hq]
theorem bits_pl {l : List Nd} (hT : termOk l = true) : ∀ x, x ≤ l.length → bitsTo (pruneL l) (pl l x) = bitsTo l x := by
  intro x
  induction x with
  | zero => intro _; rfl
  | succ x ih =>
    intro hx
    rw [pl_succ]
    have e : bitsTo l (x + 1) = if flag (reachL l) x && quant (nth l x).op then bitsTo l x + (nth l x).b else bitsTo l x := rfl
    cases hf : flag (reachL l) x
    · rw [e, hf]; exact ih (by omega)
    · rw [if_pos rfl, e]
      show (if flag (reachL (pruneL l)) (pl l x) && quant (nth (pruneL l) (pl l x)).op then bitsTo (pruneL l) (pl l x) + (nth (pruneL l) (pl l x)).b else bitsTo (pruneL l) (pl l x)) = _
      rw [prune_reach hT (pl_lt hT (by omega) hf), hf, prune_nth hT (by omega) hf, remap_op, ih (by omega)]
      cases hq : quant (nth l x).op
      · rfl
      · rw [remap_b_quant l _ hq]
/-- How often q is among the numbers. -/
def times (ps : List Int) (q : Nat) : Nat := (ps.filter fun p => p.toNat == q).length
theorem addUses_wd (ps : List Int) : ∀ (us : List Int) (q : Nat), (∀ p ∈ ps, p.toNat < us.length) → wd (addUses us ps) (q : Int) = wd us (q : Int) + (times ps q : Int) := by
  induction ps with
  | nil => intro us q _; simp [addUses, times]
  | cons p ps ih =>
    intro us q h
    have hp := h p (by simp)
    show wd (addUses (us.set p.toNat (wd us p + 1)) ps) (q : Int) = _
    rw [ih _ _ (fun r hr => by rw [List.length_set]; exact h r (by simp [hr])), wd_set hp]
    unfold times
    by_cases e : p.toNat = q
    · have e2 := wd_toNat us p
      rw [e] at e2
      have e3 : (p.toNat == q) = true := by simpa using e
      rw [if_pos e.symm, List.filter_cons, e3, if_pos rfl, e2, List.length_cons]
      omega
    · have e3 : (p.toNat == q) = false := by simpa using e
      rw [if_neg (fun x => e x.symm), List.filter_cons, e3]
      rfl
theorem times_pl {l : List Nd} (hT : termOk l = true) {x : Nat} (hx : x < l.length) (hf : flag (reachL l) x = true) {q : Nat} (hq : flag (reachL l) q = true) :
    times ((parts (nth l x)).map (plc l)) (pl l q) = times (parts (nth l x)) q := by
  unfold times
  rw [List.filter_map, List.length_map]
  congr 1
  apply List.filter_congr
  intro p hp
  obtain ⟨y, rfl, hyx, hy, hpl⟩ := part_reached hT hx hf hp
  simp only [Function.comp]
  rw [hpl, Int.toNat_natCast, Int.toNat_natCast, Bool.eq_iff_iff]
  simp only [beq_iff_eq]
  exact ⟨fun e => reachTo_inj l hy hq e, fun e => by rw [e]⟩
theorem wd_zeros (n : Nat) (p : Int) : wd (List.replicate n 0) p = 0 := by have := upto_zero n p; omega
theorem uses_pl {l : List Nd} (hT : termOk l = true) {q : Nat} (hq : flag (reachL l) q = true) : ∀ x, x ≤ l.length → wd (usesF (pruneL l) (pl l x)) (pl l q : Int) = wd (usesF l x) (q : Int) := by
  intro x
  induction x with
  | zero => intro _; show wd (List.replicate _ 0) _ = wd (List.replicate _ 0) _; rw [wd_zeros, wd_zeros]
  | succ x ih =>
    intro hx
    rw [pl_succ]
    have e : usesF l (x + 1) = if flag (reachL l) x then addUses (usesF l x) (parts (nth l x)) else usesF l x := rfl
    cases hf : flag (reachL l) x
    · rw [e, hf]; exact ih (by omega)
    · rw [if_pos rfl, e, hf, if_pos rfl]
      show wd (if flag (reachL (pruneL l)) (pl l x) then addUses (usesF (pruneL l) (pl l x)) (parts (nth (pruneL l) (pl l x))) else usesF (pruneL l) (pl l x)) _ = _
      have hx' : x < l.length := by omega
      rw [prune_reach hT (pl_lt hT hx' hf), if_pos rfl]
      rw [addUses_wd _ _ _ (fun p hp => by
        rw [usesF_length]
        have := down_of (prune_term hT) (pl l x) (pl_lt hT hx' hf) p hp
        have := pl_lt hT hx' hf
        omega)]
      rw [addUses_wd _ _ _ (fun p hp => by
        rw [usesF_length]
        have := down_of hT x hx' p hp
        omega)]
      rw [ih (by omega), prune_nth hT hx' hf, parts_remap, times_pl hT hx' hf hq]
/-- What a sentence is. -/
theorem sent_iff (l : List Nd) : sentB l = true ↔ termOk l = true ∧ (nth l (l.length - 1)).w = 1 ∧ (freeL l).length = 0 ∧ ∃ ws, quantsTo l l.length = some ws ∧ Wid l ws ∧ Mov l := by
  constructor
  · intro h
    refine ⟨sent_ok h, ?_, ?_, ?_⟩
    · apply Classical.byContradiction; intro e; rw [sent_root e] at h; cases h
    · apply Classical.byContradiction; intro e; rw [sent_free e] at h; cases h
    · cases hq : quantsTo l l.length with
      | none => rw [sent_quants (Nat.le_refl _) hq] at h; cases h
      | some ws =>
        refine ⟨ws, rfl, ?_, ?_, ?_⟩
        · intro i hi hf ho
          apply Classical.byContradiction; intro e; rw [sent_wid hq hi hf ho e] at h; cases h
        · intro i hi hf hh
          cases ho : outer (nth l i).op
          · rw [sent_outer hi hf hh ho] at h; cases h
          · rfl
        · intro i hi hf hh
          apply Classical.byContradiction; intro e; rw [sent_used hi hf hh (by omega)] at h; cases h
  · rintro ⟨h1, h2, h3, ws, hq, hw, hm⟩
    exact sent_all h1 h2 h3 hq hw hm
theorem wid_pl {l : List Nd} (hT : termOk l = true) (ws : List Int) : Wid (pruneL l) ws ↔ Wid l ws := by
  constructor
  · intro h i hi hf ho
    have := h (pl l i) (pl_lt hT hi hf) (prune_reach hT (pl_lt hT hi hf))
    rw [prune_nth hT hi hf] at this
    exact this ho
  · intro h j hj _ ho
    obtain ⟨x, hx, hf, rfl⟩ := pl_all hT hj
    rw [prune_nth hT hx hf] at ho ⊢
    exact h x hx hf ho
theorem mov_pl {l : List Nd} (hT : termOk l = true) : Mov (pruneL l) ↔ Mov l := by
  have eu : ∀ {x : Nat}, flag (reachL l) x = true → wd (usesF (pruneL l) (pruneL l).length) (pl l x : Int) = wd (usesF l l.length) (x : Int) := by
    intro x hf
    rw [prune_len hT]; exact uses_pl hT hf _ (Nat.le_refl _)
  constructor
  · rintro ⟨h1, h2⟩
    refine ⟨fun i hi hf hh => ?_, fun i hi hf hh => ?_⟩
    · have := h1 (pl l i) (pl_lt hT hi hf) (prune_reach hT (pl_lt hT hi hf)) (by rw [hold_pl hT i hi hf]; exact hh)
      rw [prune_nth hT hi hf] at this; exact this
    · have := h2 (pl l i) (pl_lt hT hi hf) (prune_reach hT (pl_lt hT hi hf)) (by rw [hold_pl hT i hi hf]; exact hh)
      rw [eu hf] at this; exact this
  · rintro ⟨h1, h2⟩
    refine ⟨fun j hj _ hh => ?_, fun j hj _ hh => ?_⟩
    · obtain ⟨x, hx, hf, rfl⟩ := pl_all hT hj
      rw [hold_pl hT x hx hf] at hh
      rw [prune_nth hT hx hf]; exact h1 x hx hf hh
    · obtain ⟨x, hx, hf, rfl⟩ := pl_all hT hj
      rw [hold_pl hT x hx hf] at hh
      rw [eu hf]; exact h2 x hx hf hh
/-- A pruned term is a sentence just when the term was. -/
theorem prune_sent {l : List Nd} (hT : termOk l = true) : sentB (pruneL l) = sentB l := by
  rw [Bool.eq_iff_iff, sent_iff, sent_iff, prune_free hT, prune_term hT, hT, (prune_root_op hT).2]
  have eq : quantsTo (pruneL l) (pruneL l).length = quantsTo l l.length := by rw [prune_len hT]; exact quants_pl hT _ (Nat.le_refl _)
  rw [eq, mov_pl hT]
  constructor
  · rintro ⟨h1, h2, h3, ws, h4, h5, h6⟩; exact ⟨h1, h2, h3, ws, h4, (wid_pl hT ws).1 h5, h6⟩
  · rintro ⟨h1, h2, h3, ws, h4, h5, h6⟩; exact ⟨h1, h2, h3, ws, h4, (wid_pl hT ws).2 h5, h6⟩
/-- A pruned term has the bits of the term. -/
theorem prune_bits {l : List Nd} (hT : termOk l = true) : bitsL (pruneL l) = bitsL l := by
  unfold bitsL
  rw [prune_sent hT, prune_len hT, bits_pl hT _ (Nat.le_refl _)]

end Go.Proofs.Ytebejleeadofcaa.Tm14
