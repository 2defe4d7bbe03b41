/- What terms are worth, as plain data: over trees. -/
import Derived.Test.YtebejleeadofcaaPkXF10
import Derived.Test.YtebejleeadofcaaTm14
namespace Go.Proofs.Ytebejleeadofcaa.Vl1
open Nd0 Pl1 Pl2 Tm0 Tm1 Tm3 Tm5 Tm8 Tm11 Tm13 Tm14 Tr0
set_option linter.unusedVariables false

def nAnd (a b : Int) : Int := ((a.toNat &&& b.toNat : Nat) : Int)
def nOr (a b : Int) : Int := ((a.toNat ||| b.toNat : Nat) : Int)
def nXor (a b : Int) : Int := ((a.toNat ^^^ b.toNat : Nat) : Int)
/-- The operator of a node of width W over the values of its parts, the first of which has width w. -/
def opL (op W k w a b c : Int) : Int :=
  if op = 0 then k
  else if op = 2 then vFlip W a
  else if op = 3 then nAnd a b
  else if op = 4 then nOr a b
  else if op = 5 then nXor a b
  else if op = 6 then vAdd W a b
  else if op = 7 then vSub W a b
  else if op = 8 then vMul W a b
  else if op = 9 then vDiv W a b
  else if op = 10 then vRem W a b
  else if op = 11 then vShl W a b
  else if op = 12 then vShr W a b
  else if op = 13 then (if a = b then 1 else 0)
  else if op = 14 then vLess w a b
  else if op = 15 then vLessSigned w a b
  else if op = 16 then (if W < w then b else a * p2 (W - w).toNat + b)
  else if op = 17 then vSlice w a k W
  else if op = 18 then (if a = 1 then b else c)
  else 0
def inR (x a b : Int) : Bool := decide (a ≤ x ∧ x ≤ b)
def applyL (op W k w a b c : Int) : Int :=
  if inR W 1 8 && inR w 1 8 && inR a 0 255 && inR b 0 255 && inR c 0 255 then opL op W k w a b c else 0
/-- What a tree is worth where the variables have the values e. -/
def vT : Tr → List Int → Int
  | .leaf op w k, e => if op = 1 then e.getD k.toNat 0 else applyL op w k 1 0 0 0
  | .one op w k b x, e =>
    if op = 19 then (if (List.range (2 ^ b.toNat)).all (fun i => vT x (e.set k.toNat (i : Int)) == 1) then 1 else 0)
    else if op = 20 then (if (List.range (2 ^ b.toNat)).any (fun i => vT x (e.set k.toNat (i : Int)) == 1) then 1 else 0)
    else applyL op w k x.wid (vT x e) 0 0
  | .two op w x y, e => applyL op w 0 x.wid (vT x e) (vT y e) 0
  | .three op w x y z, e => applyL op w 0 x.wid (vT x e) (vT y e) (vT z e)
/-- Of each variable the widths with which a tree wants it, as bits; none where one has another width than its quantifier. -/
def orL (r s : List Nat) : List Nat := (List.range 8).map fun v => r.getD v 0 ||| s.getD v 0
def needT : Tr → Option (List Nat)
  | .leaf op w k => some ((List.range 8).map fun (v : Nat) => if op = 1 ∧ k = (v : Int) then 2 ^ w.toNat else 0)
  | .one op w k b x => (needT x).bind fun r =>
    if quant op then (if r.getD k.toNat 0 ≠ 0 ∧ r.getD k.toNat 0 ≠ 2 ^ b.toNat then none else some (r.set k.toNat 0)) else some r
  | .two _ _ x y => (needT x).bind fun r => (needT y).bind fun s => some (orL r s)
  | .three _ _ x y z => (needT x).bind fun r => (needT y).bind fun s => (needT z).bind fun u => some (orL (orL r s) u)
/-- Each variable that is wanted has a word of each width with which it is. -/
def fitR (r : List Nat) (e : List Int) : Bool := (List.range 8).all fun (v : Nat) => (List.range 8).all fun (j : Nat) => !(r.getD v 0).testBit (j + 1) || wok ((j : Int) + 1) (e.getD v 0)
def fitT (x : Tr) (e : List Int) : Bool := match needT x with
  | none => false
  | some r => fitR r e
/-- A right tree. -/
def Rt : Tr → Prop
  | .leaf op w k => 1 ≤ w ∧ w ≤ 8 ∧ ((op = 0 ∧ wok w k = true) ∨ (op = 1 ∧ 0 ≤ k ∧ k ≤ 7))
  | .one op w k b x => 1 ≤ w ∧ w ≤ 8 ∧ Rt x ∧ ((op = 2 ∧ x.wid = w) ∨ (op = 17 ∧ 0 ≤ k ∧ k ≤ x.wid - w) ∨ ((op = 19 ∨ op = 20) ∧ x.wid = 1 ∧ w = 1 ∧ 0 ≤ k ∧ k ≤ 7 ∧ 1 ≤ b ∧ b ≤ 8))
  | .two op w x y => 1 ≤ w ∧ w ≤ 8 ∧ Rt x ∧ Rt y ∧ ((3 ≤ op ∧ op ≤ 12 ∧ x.wid = w ∧ y.wid = w) ∨ (13 ≤ op ∧ op ≤ 15 ∧ x.wid = y.wid ∧ w = 1) ∨ (op = 16 ∧ x.wid + y.wid = w))
  | .three op w x y z => 1 ≤ w ∧ w ≤ 8 ∧ Rt x ∧ Rt y ∧ Rt z ∧ op = 18 ∧ x.wid = 1 ∧ y.wid = w ∧ z.wid = w
theorem Rt.wid {x : Tr} (h : Rt x) : 1 ≤ x.wid ∧ x.wid ≤ 8 := by
  cases x <;> exact ⟨h.1, h.2.1⟩
theorem rt_all {l : List Nd} (hD : Down l) (hN : ∀ k, k < l.length → nodeOk l k = true) : ∀ i, i < l.length → Rt (tr l i) ∧ (tr l i).wid = (nth l i).w := by
  intro i
  induction i using Nat.strongRecOn with
  | ind i ih =>
    intro hi
    rw [tr_at hD hi, mk_wid]
    refine ⟨?_, rfl⟩
    have hok := hN i hi
    have hw := node_width hok
    have hd := hD i hi
    have hp : ∀ p ∈ parts (nth l i), Rt (tr l p.toNat) ∧ (tr l p.toNat).wid = width l p := fun p hp => by
      have := hd p hp
      exact ih p.toNat (by omega) (by omega)
    simp only [nodeOk, Bool.and_eq_true] at hok
    have hs := hok.2
    generalize nth l i = n at hw hp hs
    by_cases h1 : n.op = 2 ∨ n.op = 17 ∨ n.op = 19 ∨ n.op = 20
    · rw [parts_one h1] at hp hs
      rw [mk_one h1]
      obtain ⟨r1, r2⟩ := hp n.a (by simp)
      refine ⟨hw.1, hw.2, r1, ?_⟩
      rw [r2]
      unfold shapeOk at hs
      simp only [List.map_cons, List.map_nil, List.getD_cons_zero] at hs
      rcases h1 with h | h | h | h
      · rw [if_neg (by omega), if_neg (by omega), if_pos h] at hs
        have := of_decide_eq_true hs
        exact .inl ⟨h, this.1⟩
      · rw [if_neg (by omega), if_neg (by omega), if_neg (by omega), if_neg (by omega), if_neg (by omega), if_neg (by omega), if_pos h] at hs
        have := of_decide_eq_true hs
        exact .inr (.inl ⟨h, this.1, this.2.1⟩)
      · rw [if_neg (by omega), if_neg (by omega), if_neg (by omega), if_neg (by omega), if_neg (by omega), if_neg (by omega), if_neg (by omega), if_neg (by omega), if_pos (.inl h)] at hs
        have := of_decide_eq_true hs
        exact .inr (.inr ⟨.inl h, this.2.2.2.2.1, this.2.2.2.2.2.1, this.1, this.2.1, this.2.2.1, this.2.2.2.1⟩)
      · rw [if_neg (by omega), if_neg (by omega), if_neg (by omega), if_neg (by omega), if_neg (by omega), if_neg (by omega), if_neg (by omega), if_neg (by omega), if_pos (.inr h)] at hs
        have := of_decide_eq_true hs
        exact .inr (.inr ⟨.inr h, this.2.2.2.2.1, this.2.2.2.2.2.1, this.1, this.2.1, this.2.2.1, this.2.2.2.1⟩)
    · by_cases h2 : 3 ≤ n.op ∧ n.op ≤ 16
      · rw [parts_two h2] at hp hs
        rw [mk_two h2]
        obtain ⟨r1, r2⟩ := hp n.a (by simp)
        obtain ⟨s1, s2⟩ := hp n.b (by simp)
        refine ⟨hw.1, hw.2, r1, s1, ?_⟩
        rw [r2, s2]
        unfold shapeOk at hs
        simp only [List.map_cons, List.map_nil, List.getD_cons_zero, List.getD_cons_succ] at hs
        rw [if_neg (by omega), if_neg (by omega), if_neg (by omega)] at hs
        by_cases h12 : n.op ≤ 12
        · rw [if_pos (by omega)] at hs
          have := of_decide_eq_true hs
          exact .inl ⟨h2.1, h12, this.1, this.2.1⟩
        · rw [if_neg (by omega)] at hs
          by_cases h15 : n.op ≤ 15
          · rw [if_pos (by omega)] at hs
            have := of_decide_eq_true hs
            exact .inr (.inl ⟨by omega, h15, this.1, this.2.1⟩)
          · rw [if_neg (by omega), if_pos (by omega)] at hs
            have := of_decide_eq_true hs
            exact .inr (.inr ⟨by omega, this.1⟩)
      · by_cases h3 : n.op = 18
        · rw [parts_three h3] at hp hs
          rw [mk_three h3]
          obtain ⟨r1, r2⟩ := hp n.a (by simp)
          obtain ⟨s1, s2⟩ := hp n.b (by simp)
          obtain ⟨u1, u2⟩ := hp n.c (by simp)
          refine ⟨hw.1, hw.2, r1, s1, u1, h3, ?_⟩
          rw [r2, s2, u2]
          unfold shapeOk at hs
          simp only [List.map_cons, List.map_nil, List.getD_cons_zero, List.getD_cons_succ] at hs
          rw [if_neg (by omega), if_neg (by omega), if_neg (by omega), if_neg (by omega), if_neg (by omega), if_neg (by omega), if_neg (by omega), if_pos h3] at hs
          have := of_decide_eq_true hs
          exact ⟨this.1, this.2.1, this.2.2.1⟩
        · rw [parts_none h1 h2 h3] at hs
          rw [mk_leaf h1 h2 h3]
          refine ⟨hw.1, hw.2, ?_⟩
          unfold shapeOk at hs
          by_cases h0 : n.op = 0
          · rw [if_pos h0] at hs
            simp only [Bool.and_eq_true] at hs
            exact .inl ⟨h0, hs.1⟩
          · rw [if_neg h0] at hs
            by_cases hv : n.op = 1
            · rw [if_pos hv] at hs
              have := of_decide_eq_true hs
              exact .inr ⟨hv, this.1, this.2.1⟩
            · rw [if_neg hv, if_neg (by omega), if_neg (by omega), if_neg (by omega), if_neg (by omega), if_neg (by omega), if_neg (by omega), if_neg (by omega)] at hs
              cases hs

/-- The root's tree. -/
def root (l : List Nd) : Tr := tr l (l.length - 1)
/-- What a term is worth; none where it has no value. -/
def valueL (l : List Nd) (e : List Int) : Option Int :=
  if termOk l && decide (e.length = 8) && decide (bitsTo l l.length ≤ 12) && fitT (root l) e then some (vT (root l) e) else none
theorem tr_prune {l : List Nd} (hT : termOk l = true) : ∀ x, x < l.length → flag (reachL l) x = true → tr (pruneL l) (pl l x) = tr l x := by
  intro x
  induction x using Nat.strongRecOn with
  | ind x ih =>
    intro hx hf
    have hD := down_of hT
    have hDp := down_of (prune_term hT)
    rw [tr_at hDp (pl_lt hT hx hf), tr_at hD hx, prune_nth hT hx hf]
    have hp : ∀ p ∈ parts (nth l x), tr (pruneL l) (plc l p).toNat = tr l p.toNat := fun p hp => by
      have h1 := hD x hx p hp
      have h2 := reach_closed hD hx hf hp
      have h3 := ih p.toNat (by omega) (by omega) h2
      have h4 := plc_pl l p.toNat
      rw [Int.toNat_of_nonneg h1.1] at h4
      rw [h4, Int.toNat_natCast]
      exact h3
    generalize nth l x = n at hp
    by_cases h1 : n.op = 2 ∨ n.op = 17 ∨ n.op = 19 ∨ n.op = 20
    · rw [mk_one (n := remap l n) (by exact h1), mk_one h1]
      have hl := parts_one h1
      rw [hl] at hp
      have e1 : (remap l n).a = plc l n.a := by unfold remap; simp [hl]
      have e2 : (remap l n).b = n.b := by unfold remap; simp [hl]
      rw [e1, e2, hp n.a (by simp)]
      rfl
    · by_cases h2 : 3 ≤ n.op ∧ n.op ≤ 16
      · rw [mk_two (n := remap l n) (by exact h2), mk_two h2]
        have hl := parts_two h2
        rw [hl] at hp
        have e1 : (remap l n).a = plc l n.a := by unfold remap; simp [hl]
        have e2 : (remap l n).b = plc l n.b := by unfold remap; simp [hl]
        rw [e1, e2, hp n.a (by simp), hp n.b (by simp)]
        rfl
      · by_cases h3 : n.op = 18
        · rw [mk_three (n := remap l n) (by exact h3), mk_three h3]
          have hl := parts_three h3
          rw [hl] at hp
          have e1 : (remap l n).a = plc l n.a := by unfold remap; simp [hl]
          have e2 : (remap l n).b = plc l n.b := by unfold remap; simp [hl]
          have e3 : (remap l n).c = plc l n.c := by unfold remap; simp [hl]
          rw [e1, e2, e3, hp n.a (by simp), hp n.b (by simp), hp n.c (by simp)]
          rfl
        · rw [mk_leaf (n := remap l n) (by exact h1) (by exact h2) (by exact h3), mk_leaf h1 h2 h3]
          rfl
theorem root_prune {l : List Nd} (hT : termOk l = true) : root (pruneL l) = root l := by
  unfold root
  rw [← (prune_root hT).1]
  exact tr_prune hT _ (by have := term_len hT; omega) (reach_root (by have := term_len hT; omega))
/-- Without what its root does not reach a term is worth the same. -/
theorem value_prune {l : List Nd} (hT : termOk l = true) (e : List Int) : valueL (pruneL l) e = valueL l e := by
  unfold valueL
  have hb : bitsTo (pruneL l) (pruneL l).length = bitsTo l l.length := by
    rw [prune_len hT]; exact bits_pl hT l.length (Nat.le_refl _)
  rw [prune_term hT, hT, hb, root_prune hT]

end Go.Proofs.Ytebejleeadofcaa.Vl1
