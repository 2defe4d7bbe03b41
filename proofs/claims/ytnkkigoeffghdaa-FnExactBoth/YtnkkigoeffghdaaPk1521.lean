/- Small texts of mine, one behind the other. -/
import Derived.Test.YtnkkigoeffghdaaPk158
import Derived.Test.YtnkkigoeffghdaaPk1511
import Derived.Test.YtnkkigoeffghdaaPk156
import Derived.Test.YtnkkigoeffghdaaPk1520
/- A pruned term has the same free variables, is a sentence just when the term was, and has its bits, as plain data. -/
namespace Go.Proofs.Ytnkkigoeffghdaa.Tm14
open Nd0 Pl1 Tm0 Tm1 Tm2 Tm3 Tm4 Tm5 Tm6 Tm8 Tm9 Tm10 Tm11 Tm13 Rw1
open Tm7 (row_old row_new flag_freeRow)

theorem row_prefix (l : List Nd) {k n i : Nat} (hi : i < k) (hk : k ≤ n) : row (freeRows l n) (i : Int) = row (freeRows l k) (i : Int) := by
  induction n with
  | zero => omega
  | succ n ih =>
    by_cases e : k = n + 1
    · subst e; rfl
    · rw [← ih (by omega)]
      exact row_old l n _ (by omega) (by omega)
/-- What is free in a node, by what is free in its parts. -/
theorem free_at {l : List Nd} (hD : Down l) {i : Nat} (hi : i < l.length) {v : Nat} (hv : v < 8) : flag (row (freeRows l l.length) (i : Int)) v = freeAt (freeRows l l.length) (nth l i) v := by
  rw [row_prefix l (k := i + 1) (n := l.length) (by omega) (by omega), row_new, flag_freeRow _ _ _ hv]
  unfold freeAt
  have : inParts (freeRows l i) (parts (nth l i)) v = inParts (freeRows l l.length) (parts (nth l i)) v := by
    unfold inParts
    rw [Bool.eq_iff_iff, List.any_eq_true, List.any_eq_true]
    constructor
    · rintro ⟨p, hp, hf⟩
      have hd := hD i hi p hp
      obtain ⟨y, rfl⟩ : ∃ y : Nat, p = (y : Int) := ⟨p.toNat, by omega⟩
      exact ⟨_, hp, by rw [row_prefix l (k := i) (n := l.length) (by omega) (by omega)]; exact hf⟩
    · rintro ⟨p, hp, hf⟩
      have hd := hD i hi p hp
      obtain ⟨y, rfl⟩ : ∃ y : Nat, p = (y : Int) := ⟨p.toNat, by omega⟩
      exact ⟨_, hp, by rw [← row_prefix l (k := i) (n := l.length) (by omega) (by omega)]; exact hf⟩
  rw [this]
theorem free_pl {l : List Nd} (hT : termOk l = true) {v : Nat} (hv : v < 8) : ∀ x, x < l.length → flag (reachL l) x = true →
    flag (row (freeRows (pruneL l) (pruneL l).length) (pl l x : Int)) v = flag (row (freeRows l l.length) (x : Int)) v := by
  intro x
  induction x using Nat.strongRecOn with
  | ind x ih =>
    intro hx hf
    rw [free_at (down_of hT) hx hv, free_at (down_of (prune_term hT)) (pl_lt hT hx hf) hv, prune_nth hT hx hf]
    unfold freeAt
    rw [remap_op, remap_k, parts_remap]
    have : inParts (freeRows (pruneL l) (pruneL l).length) ((parts (nth l x)).map (plc l)) v = inParts (freeRows l l.length) (parts (nth l x)) v := by
      unfold inParts
      rw [List.any_map, Bool.eq_iff_iff, List.any_eq_true, List.any_eq_true]
      constructor
      · rintro ⟨p, hp, hh⟩
        obtain ⟨y, rfl, hyx, hy, hpl⟩ := part_reached hT hx hf hp
        refine ⟨_, hp, ?_⟩
        rw [← ih y hyx (by omega) hy, ← hpl]; exact hh
      · rintro ⟨p, hp, hh⟩
        obtain ⟨y, rfl, hyx, hy, hpl⟩ := part_reached hT hx hf hp
        refine ⟨_, hp, ?_⟩
        simp only [Function.comp]
        rw [hpl, ih y hyx (by omega) hy]; exact hh
    rw [this]
/-- A pruned term has the same free variables. -/
theorem prune_free {l : List Nd} (hT : termOk l = true) : freeL (pruneL l) = freeL l := by
  have hl := term_len hT
  have hr := prune_root hT
  unfold freeL
  rw [hT, prune_term hT]
  simp only [if_true]
  unfold freeTo
  congr 1
  apply List.filter_congr
  intro v hv
  have h := free_pl hT (List.mem_range.1 hv) (l.length - 1) (by omega) (reach_root hl.1)
  unfold freeTop
  have e1 : ((pruneL l).length : Int) - 1 = (pl l (l.length - 1) : Int) := by omega
  have e2 : (l.length : Int) - 1 = ((l.length - 1 : Nat) : Int) := by omega
  rw [e1, e2]; exact h
theorem hold_pl {l : List Nd} (hT : termOk l = true) : ∀ x, x < l.length → flag (reachL l) x = true →
    flag (holdTo (pruneL l) (pruneL l).length) (pl l x) = flag (holdTo l l.length) x := by
  intro x
  induction x using Nat.strongRecOn with
  | ind x ih =>
    intro hx hf
    rw [hold_at (down_of hT) hx, hold_at (down_of (prune_term hT)) (pl_lt hT hx hf), prune_nth hT hx hf, remap_op, parts_remap]
    congr 1
    unfold below
    rw [List.any_map, Bool.eq_iff_iff, List.any_eq_true, List.any_eq_true]
    constructor
    · rintro ⟨p, hp, hh⟩
      obtain ⟨y, rfl, hyx, hy, hpl⟩ := part_reached hT hx hf hp
      refine ⟨_, hp, ?_⟩
      simp only [Function.comp] at hh
      rw [hpl, Int.toNat_natCast] at hh
      rw [Int.toNat_natCast, ← ih y hyx (by omega) hy]; exact hh
    · rintro ⟨p, hp, hh⟩
      obtain ⟨y, rfl, hyx, hy, hpl⟩ := part_reached hT hx hf hp
      refine ⟨_, hp, ?_⟩
      simp only [Function.comp]
      rw [Int.toNat_natCast] at hh
      rw [hpl, Int.toNat_natCast, ih y hyx (by omega) hy]; exact hh
theorem remap_b_quant (l : List Nd) (n : Nd) (h : quant n.op = true) : (remap l n).b = n.b := by
  have h2 : n.op = 19 ∨ n.op = 20 := by simpa [quant] using h
  unfold remap
  rw [parts_one (by omega)]; rfl
theorem quants_pl {l : List Nd} (hT : termOk l = true) : ∀ x, x ≤ l.length → quantsTo (pruneL l) (pl l x) = quantsTo l x := by
  intro x
  induction x with
  | zero => intro _; rfl
  | succ x ih =>
    intro hx
    rw [pl_succ]
    cases hf : flag (reachL l) x
    · rw [quants_skip1 l x hf]; exact ih (by omega)
    · rw [if_pos rfl]
      show (quantsTo (pruneL l) (pl l x)).bind _ = (quantsTo l x).bind _
      rw [ih (by omega)]
      congr 1
      funext ws
      unfold qStep
      rw [prune_reach hT (pl_lt hT (by omega) hf), hf, prune_nth hT (by omega) hf, remap_op, remap_k]
      cases hq : quant (nth l x).op
      · rfl
      · rw [remap_b_quant l _ hq]
theorem bits_pl {l : List Nd} (hT : termOk l = true) : ∀ x, x ≤ l.length → bitsTo (pruneL l) (pl l x) = bitsTo l x := by
  intro x
  induction x with
  | zero => intro _; rfl
  | succ x ih =>
    intro hx
    rw [pl_succ]
    have e : bitsTo l (x + 1) = if flag (reachL l) x && quant (nth l x).op then bitsTo l x + (nth l x).b else bitsTo l x := rfl
    cases hf : flag (reachL l) x
    · rw [e, hf]; exact ih (by omega)
    · rw [if_pos rfl, e]
      show (if flag (reachL (pruneL l)) (pl l x) && quant (nth (pruneL l) (pl l x)).op then bitsTo (pruneL l) (pl l x) + (nth (pruneL l) (pl l x)).b else bitsTo (pruneL l) (pl l x)) = _
      rw [prune_reach hT (pl_lt hT (by omega) hf), hf, prune_nth hT (by omega) hf, remap_op, ih (by omega)]
      cases hq : quant (nth l x).op
      · rfl
      · rw [remap_b_quant l _ hq]
/-- How often q is among the numbers. -/
def times (ps : List Int) (q : Nat) : Nat := (ps.filter fun p => p.toNat == q).length
theorem addUses_wd (ps : List Int) : ∀ (us : List Int) (q : Nat), (∀ p ∈ ps, p.toNat < us.length) → wd (addUses us ps) (q : Int) = wd us (q : Int) + (times ps q : Int) := by
  induction ps with
  | nil => intro us q _; simp [addUses, times]
  | cons p ps ih =>
    intro us q h
    have hp := h p (by simp)
    show wd (addUses (us.set p.toNat (wd us p + 1)) ps) (q : Int) = _
    rw [ih _ _ (fun r hr => by rw [List.length_set]; exact h r (by simp [hr])), wd_set hp]
    unfold times
    by_cases e : p.toNat = q
    · have e2 := wd_toNat us p
      rw [e] at e2
      have e3 : (p.toNat == q) = true := by simpa using e
      rw [if_pos e.symm, List.filter_cons, e3, if_pos rfl, e2, List.length_cons]
      omega
    · have e3 : (p.toNat == q) = false := by simpa using e
      rw [if_neg (fun x => e x.symm), List.filter_cons, e3]
      rfl
theorem times_pl {l : List Nd} (hT : termOk l = true) {x : Nat} (hx : x < l.length) (hf : flag (reachL l) x = true) {q : Nat} (hq : flag (reachL l) q = true) :
    times ((parts (nth l x)).map (plc l)) (pl l q) = times (parts (nth l x)) q := by
  unfold times
  rw [List.filter_map, List.length_map]
  congr 1
  apply List.filter_congr
  intro p hp
  obtain ⟨y, rfl, hyx, hy, hpl⟩ := part_reached hT hx hf hp
  simp only [Function.comp]
  rw [hpl, Int.toNat_natCast, Int.toNat_natCast, Bool.eq_iff_iff]
  simp only [beq_iff_eq]
  exact ⟨fun e => reachTo_inj l hy hq e, fun e => by rw [e]⟩
theorem wd_zeros (n : Nat) (p : Int) : wd (List.replicate n 0) p = 0 := by have := upto_zero n p; omega
theorem uses_pl {l : List Nd} (hT : termOk l = true) {q : Nat} (hq : flag (reachL l) q = true) : ∀ x, x ≤ l.length → wd (usesF (pruneL l) (pl l x)) (pl l q : Int) = wd (usesF l x) (q : Int) := by
  intro x
  induction x with
  | zero => intro _; show wd (List.replicate _ 0) _ = wd (List.replicate _ 0) _; rw [wd_zeros, wd_zeros]
  | succ x ih =>
    intro hx
    rw [pl_succ]
    have e : usesF l (x + 1) = if flag (reachL l) x then addUses (usesF l x) (parts (nth l x)) else usesF l x := rfl
    cases hf : flag (reachL l) x
    · rw [e, hf]; exact ih (by omega)
    · rw [if_pos rfl, e, hf, if_pos rfl]
      show wd (if flag (reachL (pruneL l)) (pl l x) then addUses (usesF (pruneL l) (pl l x)) (parts (nth (pruneL l) (pl l x))) else usesF (pruneL l) (pl l x)) _ = _
      have hx' : x < l.length := by omega
      rw [prune_reach hT (pl_lt hT hx' hf), if_pos rfl]
      rw [addUses_wd _ _ _ (fun p hp => by
        rw [usesF_length]
        have := down_of (prune_term hT) (pl l x) (pl_lt hT hx' hf) p hp
        have := pl_lt hT hx' hf
        omega)]
      rw [addUses_wd _ _ _ (fun p hp => by
        rw [usesF_length]
        have := down_of hT x hx' p hp
        omega)]
      rw [ih (by omega), prune_nth hT hx' hf, parts_remap, times_pl hT hx' hf hq]
/-- What a sentence is. -/
theorem sent_iff (l : List Nd) : sentB l = true ↔ termOk l = true ∧ (nth l (l.length - 1)).w = 1 ∧ (freeL l).length = 0 ∧ ∃ ws, quantsTo l l.length = some ws ∧ Wid l ws ∧ Mov l := by
  constructor
  · intro h
    refine ⟨sent_ok h, ?_, ?_, ?_⟩
    · apply Classical.byContradiction; intro e; rw [sent_root e] at h; cases h
    · apply Classical.byContradiction; intro e; rw [sent_free e] at h; cases h
    · cases hq : quantsTo l l.length with
      | none => rw [sent_quants (Nat.le_refl _) hq] at h; cases h
      | some ws =>
        refine ⟨ws, rfl, ?_, ?_, ?_⟩
        · intro i hi hf ho
          apply Classical.byContradiction; intro e; rw [sent_wid hq hi hf ho e] at h; cases h
        · intro i hi hf hh
          cases ho : outer (nth l i).op
          · rw [sent_outer hi hf hh ho] at h; cases h
          · rfl
        · intro i hi hf hh
          apply Classical.byContradiction; intro e; rw [sent_used hi hf hh (by omega)] at h; cases h
  · rintro ⟨h1, h2, h3, ws, hq, hw, hm⟩
    exact sent_all h1 h2 h3 hq hw hm
theorem wid_pl {l : List Nd} (hT : termOk l = true) (ws : List Int) : Wid (pruneL l) ws ↔ Wid l ws := by
  constructor
  · intro h i hi hf ho
    have := h (pl l i) (pl_lt hT hi hf) (prune_reach hT (pl_lt hT hi hf))
    rw [prune_nth hT hi hf] at this
    exact this ho
  · intro h j hj _ ho
    obtain ⟨x, hx, hf, rfl⟩ := pl_all hT hj
    rw [prune_nth hT hx hf] at ho ⊢
    exact h x hx hf ho
theorem mov_pl {l : List Nd} (hT : termOk l = true) : Mov (pruneL l) ↔ Mov l := by
  have eu : ∀ {x : Nat}, flag (reachL l) x = true → wd (usesF (pruneL l) (pruneL l).length) (pl l x : Int) = wd (usesF l l.length) (x : Int) := by
    intro x hf
    rw [prune_len hT]; exact uses_pl hT hf _ (Nat.le_refl _)
  constructor
  · rintro ⟨h1, h2⟩
    refine ⟨fun i hi hf hh => ?_, fun i hi hf hh => ?_⟩
    · have := h1 (pl l i) (pl_lt hT hi hf) (prune_reach hT (pl_lt hT hi hf)) (by rw [hold_pl hT i hi hf]; exact hh)
      rw [prune_nth hT hi hf] at this; exact this
    · have := h2 (pl l i) (pl_lt hT hi hf) (prune_reach hT (pl_lt hT hi hf)) (by rw [hold_pl hT i hi hf]; exact hh)
      rw [eu hf] at this; exact this
  · rintro ⟨h1, h2⟩
    refine ⟨fun j hj _ hh => ?_, fun j hj _ hh => ?_⟩
    · obtain ⟨x, hx, hf, rfl⟩ := pl_all hT hj
      rw [hold_pl hT x hx hf] at hh
      rw [prune_nth hT hx hf]; exact h1 x hx hf hh
    · obtain ⟨x, hx, hf, rfl⟩ := pl_all hT hj
      rw [hold_pl hT x hx hf] at hh
      rw [eu hf]; exact h2 x hx hf hh
/-- A pruned term is a sentence just when the term was. -/
theorem prune_sent {l : List Nd} (hT : termOk l = true) : sentB (pruneL l) = sentB l := by
  rw [Bool.eq_iff_iff, sent_iff, sent_iff, prune_free hT, prune_term hT, hT, (prune_root_op hT).2]
  have eq : quantsTo (pruneL l) (pruneL l).length = quantsTo l l.length := by rw [prune_len hT]; exact quants_pl hT _ (Nat.le_refl _)
  rw [eq, mov_pl hT]
  constructor
  · rintro ⟨h1, h2, h3, ws, h4, h5, h6⟩; exact ⟨h1, h2, h3, ws, h4, (wid_pl hT ws).1 h5, h6⟩
  · rintro ⟨h1, h2, h3, ws, h4, h5, h6⟩; exact ⟨h1, h2, h3, ws, h4, (wid_pl hT ws).2 h5, h6⟩
/-- A pruned term has the bits of the term. -/
theorem prune_bits {l : List Nd} (hT : termOk l = true) : bitsL (pruneL l) = bitsL l := by
  unfold bitsL
  rw [prune_sent hT, prune_len hT, bits_pl hT _ (Nat.le_refl _)]

end Go.Proofs.Ytnkkigoeffghdaa.Tm14

/- What terms are worth, as plain data: over trees. -/
namespace Go.Proofs.Ytnkkigoeffghdaa.Vl1
open Nd0 Pl1 Pl2 Tm0 Tm1 Tm3 Tm5 Tm8 Tm11 Tm13 Tm14 Tr0
set_option linter.unusedVariables false

def nAnd (a b : Int) : Int := ((a.toNat &&& b.toNat : Nat) : Int)
def nOr (a b : Int) : Int := ((a.toNat ||| b.toNat : Nat) : Int)
def nXor (a b : Int) : Int := ((a.toNat ^^^ b.toNat : Nat) : Int)
/-- The operator of a node of width W over the values of its parts, the first of which has width w. -/
def opL (op W k w a b c : Int) : Int :=
  if op = 0 then k
  else if op = 2 then vFlip W a
  else if op = 3 then nAnd a b
  else if op = 4 then nOr a b
  else if op = 5 then nXor a b
  else if op = 6 then vAdd W a b
  else if op = 7 then vSub W a b
  else if op = 8 then vMul W a b
  else if op = 9 then vDiv W a b
  else if op = 10 then vRem W a b
  else if op = 11 then vShl W a b
  else if op = 12 then vShr W a b
  else if op = 13 then (if a = b then 1 else 0)
  else if op = 14 then vLess w a b
  else if op = 15 then vLessSigned w a b
  else if op = 16 then (if W < w then b else a * p2 (W - w).toNat + b)
  else if op = 17 then vSlice w a k W
  else if op = 18 then (if a = 1 then b else c)
  else 0
def inR (x a b : Int) : Bool := decide (a ≤ x ∧ x ≤ b)
def applyL (op W k w a b c : Int) : Int :=
  if inR W 1 8 && inR w 1 8 && inR a 0 255 && inR b 0 255 && inR c 0 255 then opL op W k w a b c else 0
/-- What a tree is worth where the variables have the values e. -/
def vT : Tr → List Int → Int
  | .leaf op w k, e => if op = 1 then e.getD k.toNat 0 else applyL op w k 1 0 0 0
  | .one op w k b x, e =>
    if op = 19 then (if (List.range (2 ^ b.toNat)).all (fun i => vT x (e.set k.toNat (i : Int)) == 1) then 1 else 0)
    else if op = 20 then (if (List.range (2 ^ b.toNat)).any (fun i => vT x (e.set k.toNat (i : Int)) == 1) then 1 else 0)
    else applyL op w k x.wid (vT x e) 0 0
  | .two op w x y, e => applyL op w 0 x.wid (vT x e) (vT y e) 0
  | .three op w x y z, e => applyL op w 0 x.wid (vT x e) (vT y e) (vT z e)
/-- Of each variable the widths with which a tree wants it, as bits; none where one has another width than its quantifier. -/
def orL (r s : List Nat) : List Nat := (List.range 8).map fun v => r.getD v 0 ||| s.getD v 0
def needT : Tr → Option (List Nat)
  | .leaf op w k => some ((List.range 8).map fun (v : Nat) => if op = 1 ∧ k = (v : Int) then 2 ^ w.toNat else 0)
  | .one op w k b x => (needT x).bind fun r =>
    if quant op then (if r.getD k.toNat 0 ≠ 0 ∧ r.getD k.toNat 0 ≠ 2 ^ b.toNat then none else some (r.set k.toNat 0)) else some r
  | .two _ _ x y => (needT x).bind fun r => (needT y).bind fun s => some (orL r s)
  | .three _ _ x y z => (needT x).bind fun r => (needT y).bind fun s => (needT z).bind fun u => some (orL (orL r s) u)
/-- Each variable that is wanted has a word of each width with which it is. -/
def fitR (r : List Nat) (e : List Int) : Bool := (List.range 8).all fun (v : Nat) => (List.range 8).all fun (j : Nat) => !(r.getD v 0).testBit (j + 1) || wok ((j : Int) + 1) (e.getD v 0)
def fitT (x : Tr) (e : List Int) : Bool := match needT x with
  | none => false
  | some r => fitR r e
/-- A right tree. -/
def Rt : Tr → Prop
  | .leaf op w k => 1 ≤ w ∧ w ≤ 8 ∧ ((op = 0 ∧ wok w k = true) ∨ (op = 1 ∧ 0 ≤ k ∧ k ≤ 7))
  | .one op w k b x => 1 ≤ w ∧ w ≤ 8 ∧ Rt x ∧ ((op = 2 ∧ x.wid = w) ∨ (op = 17 ∧ 0 ≤ k ∧ k ≤ x.wid - w) ∨ ((op = 19 ∨ op = 20) ∧ x.wid = 1 ∧ w = 1 ∧ 0 ≤ k ∧ k ≤ 7 ∧ 1 ≤ b ∧ b ≤ 8))
  | .two op w x y => 1 ≤ w ∧ w ≤ 8 ∧ Rt x ∧ Rt y ∧ ((3 ≤ op ∧ op ≤ 12 ∧ x.wid = w ∧ y.wid = w) ∨ (13 ≤ op ∧ op ≤ 15 ∧ x.wid = y.wid ∧ w = 1) ∨ (op = 16 ∧ x.wid + y.wid = w))
  | .three op w x y z => 1 ≤ w ∧ w ≤ 8 ∧ Rt x ∧ Rt y ∧ Rt z ∧ op = 18 ∧ x.wid = 1 ∧ y.wid = w ∧ z.wid = w
theorem Rt.wid {x : Tr} (h : Rt x) : 1 ≤ x.wid ∧ x.wid ≤ 8 := by
  cases x <;> exact ⟨h.1, h.2.1⟩
theorem rt_all {l : List Nd} (hD : Down l) (hN : ∀ k, k < l.length → nodeOk l k = true) : ∀ i, i < l.length → Rt (tr l i) ∧ (tr l i).wid = (nth l i).w := by
  intro i
  induction i using Nat.strongRecOn with
  | ind i ih =>
    intro hi
    rw [tr_at hD hi, mk_wid]
    refine ⟨?_, rfl⟩
    have hok := hN i hi
    have hw := node_width hok
    have hd := hD i hi
    have hp : ∀ p ∈ parts (nth l i), Rt (tr l p.toNat) ∧ (tr l p.toNat).wid = width l p := fun p hp => by
      have := hd p hp
      exact ih p.toNat (by omega) (by omega)
    simp only [nodeOk, Bool.and_eq_true] at hok
    have hs := hok.2
    generalize nth l i = n at hw hp hs
    by_cases h1 : n.op = 2 ∨ n.op = 17 ∨ n.op = 19 ∨ n.op = 20
    · rw [parts_one h1] at hp hs
      rw [mk_one h1]
      obtain ⟨r1, r2⟩ := hp n.a (by simp)
      refine ⟨hw.1, hw.2, r1, ?_⟩
      rw [r2]
      unfold shapeOk at hs
      simp only [List.map_cons, List.map_nil, List.getD_cons_zero] at hs
      rcases h1 with h | h | h | h
      · rw [if_neg (by omega), if_neg (by omega), if_pos h] at hs
        have := of_decide_eq_true hs
        exact .inl ⟨h, this.1⟩
      · rw [if_neg (by omega), if_neg (by omega), if_neg (by omega), if_neg (by omega), if_neg (by omega), if_neg (by omega), if_pos h] at hs
        have := of_decide_eq_true hs
        exact .inr (.inl ⟨h, this.1, this.2.1⟩)
      · rw [if_neg (by omega), if_neg (by omega), if_neg (by omega), if_neg (by omega), if_neg (by omega), if_neg (by omega), if_neg (by omega), if_neg (by omega), if_pos (.inl h)] at hs
        have := of_decide_eq_true hs
        exact .inr (.inr ⟨.inl h, this.2.2.2.2.1, this.2.2.2.2.2.1, this.1, this.2.1, this.2.2.1, this.2.2.2.1⟩)
      · rw [if_neg (by omega), if_neg (by omega), if_neg (by omega), if_neg (by omega), if_neg (by omega), if_neg (by omega), if_neg (by omega), if_neg (by omega), if_pos (.inr h)] at hs
        have := of_decide_eq_true hs
        exact .inr (.inr ⟨.inr h, this.2.2.2.2.1, this.2.2.2.2.2.1, this.1, this.2.1, this.2.2.1, this.2.2.2.1⟩)
    · by_cases h2 : 3 ≤ n.op ∧ n.op ≤ 16
      · rw [parts_two h2] at hp hs
        rw [mk_two h2]
        obtain ⟨r1, r2⟩ := hp n.a (by simp)
        obtain ⟨s1, s2⟩ := hp n.b (by simp)
        refine ⟨hw.1, hw.2, r1, s1, ?_⟩
        rw [r2, s2]
        unfold shapeOk at hs
        simp only [List.map_cons, List.map_nil, List.getD_cons_zero, List.getD_cons_succ] at hs
        rw [if_neg (by omega), if_neg (by omega), if_neg (by omega)] at hs
        by_cases h12 : n.op ≤ 12
        · rw [if_pos (by omega)] at hs
          have := of_decide_eq_true hs
          exact .inl ⟨h2.1, h12, this.1, this.2.1⟩
        · rw [if_neg (by omega)] at hs
          by_cases h15 : n.op ≤ 15
          · rw [if_pos (by omega)] at hs
            have := of_decide_eq_true hs
            exact .inr (.inl ⟨by omega, h15, this.1, this.2.1⟩)
          · rw [if_neg (by omega), if_pos (by omega)] at hs
            have := of_decide_eq_true hs
            exact .inr (.inr ⟨by omega, this.1⟩)
      · by_cases h3 : n.op = 18
        · rw [parts_three h3] at hp hs
          rw [mk_three h3]
          obtain ⟨r1, r2⟩ := hp n.a (by simp)
          obtain ⟨s1, s2⟩ := hp n.b (by simp)
          obtain ⟨u1, u2⟩ := hp n.c (by simp)
          refine ⟨hw.1, hw.2, r1, s1, u1, h3, ?_⟩
          rw [r2, s2, u2]
          unfold shapeOk at hs
          simp only [List.map_cons, List.map_nil, List.getD_cons_zero, List.getD_cons_succ] at hs
          rw [if_neg (by omega), if_neg (by omega), if_neg (by omega), if_neg (by omega), if_neg (by omega), if_neg (by omega), if_neg (by omega), if_pos h3] at hs
          have := of_decide_eq_true hs
          exact ⟨this.1, this.2.1, this.2.2.1⟩
        · rw [parts_none h1 h2 h3] at hs
          rw [mk_leaf h1 h2 h3]
          refine ⟨hw.1, hw.2, ?_⟩
          unfold shapeOk at hs
          by_cases h0 : n.op = 0
          · rw [if_pos h0] at hs
            simp only [Bool.and_eq_true] at hs
            exact .inl ⟨h0, hs.1⟩
          · rw [if_neg h0] at hs
            by_cases hv : n.op = 1
            · rw [if_pos hv] at hs
              have := of_decide_eq_true hs
              exact .inr ⟨hv, this.1, this.2.1⟩
            · rw [if_neg hv, if_neg (by omega), if_neg (by omega), if_neg (by omega), if_neg (by omega), if_neg (by omega), if_neg (by omega), if_neg (by omega)] at hs
              cases hs

/-- The root's tree. -/
def root (l : List Nd) : Tr := tr l (l.length - 1)
/-- What a term is worth; none where it has no value. -/
def valueL (l : List Nd) (e : List Int) : Option Int :=
  if termOk l && decide (e.length = 8) && decide (bitsTo l l.length ≤ 12) && fitT (root l) e then some (vT (root l) e) else none
theorem tr_prune {l : List Nd} (hT : termOk l = true) : ∀ x, x < l.length → flag (reachL l) x = true → tr (pruneL l) (pl l x) = tr l x := by
  intro x
  induction x using Nat.strongRecOn with
  | ind x ih =>
    intro hx hf
    have hD := down_of hT
    have hDp := down_of (prune_term hT)
    rw [tr_at hDp (pl_lt hT hx hf), tr_at hD hx, prune_nth hT hx hf]
    have hp : ∀ p ∈ parts (nth l x), tr (pruneL l) (plc l p).toNat = tr l p.toNat := fun p hp => by
      have h1 := hD x hx p hp
      have h2 := reach_closed hD hx hf hp
      have h3 := ih p.toNat (by omega) (by omega) h2
      have h4 := plc_pl l p.toNat
      rw [Int.toNat_of_nonneg h1.1] at h4
      rw [h4, Int.toNat_natCast]
      exact h3
    generalize nth l x = n at hp
    by_cases h1 : n.op = 2 ∨ n.op = 17 ∨ n.op = 19 ∨ n.op = 20
    · rw [mk_one (n := remap l n) (by exact h1), mk_one h1]
      have hl := parts_one h1
      rw [hl] at hp
      have e1 : (remap l n).a = plc l n.a := by unfold remap; simp [hl]
      have e2 : (remap l n).b = n.b := by unfold remap; simp [hl]
      rw [e1, e2, hp n.a (by simp)]
      rfl
    · by_cases h2 : 3 ≤ n.op ∧ n.op ≤ 16
      · rw [mk_two (n := remap l n) (by exact h2), mk_two h2]
        have hl := parts_two h2
        rw [hl] at hp
        have e1 : (remap l n).a = plc l n.a := by unfold remap; simp [hl]
        have e2 : (remap l n).b = plc l n.b := by unfold remap; simp [hl]
        rw [e1, e2, hp n.a (by simp), hp n.b (by simp)]
        rfl
      · by_cases h3 : n.op = 18
        · rw [mk_three (n := remap l n) (by exact h3), mk_three h3]
          have hl := parts_three h3
          rw [hl] at hp
          have e1 : (remap l n).a = plc l n.a := by unfold remap; simp [hl]
          have e2 : (remap l n).b = plc l n.b := by unfold remap; simp [hl]
          have e3 : (remap l n).c = plc l n.c := by unfold remap; simp [hl]
          rw [e1, e2, e3, hp n.a (by simp), hp n.b (by simp), hp n.c (by simp)]
          rfl
        · rw [mk_leaf (n := remap l n) (by exact h1) (by exact h2) (by exact h3), mk_leaf h1 h2 h3]
          rfl
theorem root_prune {l : List Nd} (hT : termOk l = true) : root (pruneL l) = root l := by
  unfold root
  rw [← (prune_root hT).1]
  exact tr_prune hT _ (by have := term_len hT; omega) (reach_root (by have := term_len hT; omega))
/-- Without what its root does not reach a term is worth the same. -/
theorem value_prune {l : List Nd} (hT : termOk l = true) (e : List Int) : valueL (pruneL l) e = valueL l e := by
  unfold valueL
  have hb : bitsTo (pruneL l) (pruneL l).length = bitsTo l l.length := by
    rw [prune_len hT]; exact bits_pl hT l.length (Nat.le_refl _)
  rw [prune_term hT, hT, hb, root_prune hT]

end Go.Proofs.Ytnkkigoeffghdaa.Vl1

/- Terms from terms, as plain data: constants put together, terms joined, numbers that are taken. -/
namespace Go.Proofs.Ytnkkigoeffghdaa.Aq1
open Nd0 Pl1 Tm0 Tm1 Tm3 Tm4 Tm5 Tm7 Tm8 Tm12 Tm13 Vl1 Aq0
set_option linter.unusedVariables false

/-- Whether a node whose parts have become these becomes a constant. -/
def conB (n : Nd) (ps : List Nd) : Bool := decide (0 < ps.length) && !quant n.op && ps.all fun p => p.op == 0
def kOf (ps : List Nd) (i : Nat) : Int := (ps.getD i Nd.zero).k
def conN (n : Nd) (ps : List Nd) : Nd := ⟨0, n.w, applyL n.op n.w n.k (ps.getD 0 Nd.zero).w (kOf ps 0) (kOf ps 1) (kOf ps 2), 0, 0, 0⟩
def foldF (_ : Nat) (n : Nd) (ps : List Nd) : Nd := if conB n ps then conN n ps else n
def foldTo (l : List Nd) (k : Nat) : List Nd := wk Nd.zero foldF l k
def foldL (l : List Nd) : List Nd := if termOk l then pruneL (foldTo l l.length) else []
theorem foldL_le (l : List Nd) : (foldL l).length ≤ l.length := by
  unfold foldL
  split
  · exact Nat.le_trans (pruneL_le _) (by unfold foldTo; rw [wk_length]; exact Nat.le_refl _)
  · exact Nat.zero_le _

/-- A node with its parts m places farther on. -/
def shN (m : Int) (n : Nd) : Nd := ⟨n.op, n.w, n.k, if 0 < (parts n).length then n.a + m else n.a, if 1 < (parts n).length then n.b + m else n.b, if 2 < (parts n).length then n.c + m else n.c⟩
def joinL (a b : List Nd) : List Nd := a ++ b.map (shN a.length)
theorem joinL_length (a b : List Nd) : (joinL a b).length = a.length + b.length := by simp [joinL]

/-- The numbers that both lists have, and those that neither has. -/
def shB (a b : List Nd) (v : Nat) : Bool := numB a v && numB b v
def lfB (a b : List Nd) (v : Nat) : Bool := !(numB a v || numB b v)
def shTo (a b : List Nd) (k : Nat) : List Nat := (List.range k).filter (shB a b)
def lfL (a b : List Nd) : List Nat := (List.range 8).filter (lfB a b)
def enough (a b : List Nd) : Bool := decide ((shTo a b 8).length ≤ (lfL a b).length)
/-- The number that a variable of b's has beside a. -/
def nwK (a b : List Nd) (v : Nat) : Nat := if shB a b v then (lfL a b).getD (shTo a b v).length 0 else v
def nwN (a b : List Nd) (n : Nd) : Nd := if nmd n then { n with k := (nwK a b n.k.toNat : Int) } else n
theorem shTo_succ (a b : List Nd) (k : Nat) : shTo a b (k + 1) = if shB a b k then shTo a b k ++ [k] else shTo a b k := by
  unfold shTo
  rw [List.range_succ, List.filter_append]
  cases h : shB a b k <;> simp [h]
theorem shTo_length (a b : List Nd) (k : Nat) : (shTo a b k).length ≤ k := by
  unfold shTo
  exact Nat.le_trans (List.length_filter_le _ _) (by simp)
theorem shTo_mono (a b : List Nd) {j k : Nat} (h : j ≤ k) : (shTo a b j).length ≤ (shTo a b k).length := by
  induction k with
  | zero => have : j = 0 := by omega
            subst this; exact Nat.le_refl _
  | succ k ih =>
    by_cases e : j = k + 1
    · subst e; exact Nat.le_refl _
    · rw [shTo_succ]
      split
      · rw [List.length_append]; have := ih (by omega); omega
      · exact ih (by omega)
theorem shTo_at (a b : List Nd) : ∀ (k j : Nat) (h : j < (shTo a b k).length), (shTo a b k)[j] < k ∧ shB a b (shTo a b k)[j] = true ∧ (shTo a b (shTo a b k)[j]).length = j := by
  intro k
  induction k with
  | zero => intro j h; simp [shTo] at h
  | succ k ih =>
    intro j h
    have e := shTo_succ a b k
    cases hs : shB a b k
    · rw [hs] at e
      simp only [Bool.false_eq_true, if_false] at e
      simp only [e]
      have h9 : j < (shTo a b k).length := by rw [e] at h; exact h
      have := ih j h9
      exact ⟨by omega, this.2⟩
    · rw [hs] at e
      simp only [if_true] at e
      simp only [e]
      rw [e, List.length_append] at h
      by_cases h9 : j < (shTo a b k).length
      · rw [List.getElem_append_left h9]
        have := ih j h9
        exact ⟨by omega, this.2⟩
      · have e2 : j = (shTo a b k).length := by simp at h; omega
        subst e2
        rw [List.getElem_append_right (Nat.le_refl _)]
        simp [hs]
theorem lfL_at (a b : List Nd) {j : Nat} (h : j < (lfL a b).length) : (lfL a b)[j] < 8 ∧ lfB a b (lfL a b)[j] = true := by
  have := List.getElem_mem h
  unfold lfL at this
  rw [List.mem_filter, List.mem_range] at this
  exact this
theorem nwK_lt (a b : List Nd) (he : enough a b = true) {v : Nat} (hv : v < 8) : nwK a b v < 8 := by
  unfold nwK
  split
  · next h =>
    have h1 : (shTo a b v).length < (shTo a b (v + 1)).length := by rw [shTo_succ, h]; simp
    have h2 := shTo_mono a b (j := v + 1) (k := 8) (by omega)
    have h3 : (shTo a b 8).length ≤ (lfL a b).length := of_decide_eq_true he
    have h4 : (shTo a b v).length < (lfL a b).length := by omega
    rw [List.getD_eq_getElem?_getD, List.getElem?_eq_getElem h4]
    exact (lfL_at a b h4).1
  · exact hv
/-- Two sentences as one. -/
def bothAll (a b : List Nd) : List Nd := joinL a (b.map (nwN a b)) ++ [⟨3, 1, 0, (a.length : Int) - 1, (a.length : Int) + b.length - 1, 0⟩]

/-- What is told by its parts' numbers alone keeps its parts. -/
theorem parts_op {n m : Nd} (h : n.op = m.op) (ha : n.a = m.a) (hb : n.b = m.b) (hc : n.c = m.c) : parts n = parts m := by unfold parts; rw [h, ha, hb, hc]
theorem nth_map {l : List Nd} (g : Nd → Nd) {i : Nat} (h : i < l.length) : nth (l.map g) i = g (nth l i) := by
  unfold nth
  rw [List.getD_eq_getElem?_getD, List.getElem?_map, List.getElem?_eq_getElem h, List.getD_eq_getElem?_getD, List.getElem?_eq_getElem h]
  rfl
theorem down_map {l : List Nd} (hD : Down l) (g : Nd → Nd) (hg : ∀ n, parts (g n) = parts n) : Down (l.map g) := by
  intro i hi p hp
  rw [List.length_map] at hi
  rw [nth_map g hi, hg] at hp
  exact hD i hi p hp
theorem nwN_parts (a b : List Nd) (n : Nd) : parts (nwN a b n) = parts n := by
  unfold nwN; split
  · rfl
  · rfl
theorem renN_parts (v u : Int) (n : Nd) : parts (renN v u n) = parts n := by
  unfold renN; split
  · rfl
  · rfl

end Go.Proofs.Ytnkkigoeffghdaa.Aq1
