/- Small texts of mine, one behind the other. -/
import Derived.Test.YtejgcchkhljnjaaGreatRows
import Derived.Test.YtejgcchkhljnjaaGreatPkFO16
/- What terms are worth, as plain data: over trees. -/
namespace Go.Proofs.YtejgcchkhljnjaaGreat.Vl1
open Nd0 Pl1 Pl2 Tm0 Tm1 Tm3 Tm5 Tm8 Tm11 Tm13 Tm14 Tr0
set_option linter.unusedVariables false

def nAnd (a b : Int) : Int := ((a.toNat &&& b.toNat : Nat) : Int)
def nOr (a b : Int) : Int := ((a.toNat ||| b.toNat : Nat) : Int)
def nXor (a b : Int) : Int := ((a.toNat ^^^ b.toNat : Nat) : Int)
def opL (op W k w a b c : Int) : Int :=
  if op = 0 then k
  else if op = 2 then vFlip W a
  else if op = 3 then nAnd a b
  else if op = 4 then nOr a b
  else if op = 5 then nXor a b
  else if op = 6 then vAdd W a b
  else if op = 7 then vSub W a b
  else if op = 8 then vMul W a b
  else if op = 9 then vDiv W a b
  else if op = 10 then vRem W a b
  else if op = 11 then vShl W a b
  else if op = 12 then vShr W a b
  else if op = 13 then (if a = b then 1 else 0)
  else if op = 14 then vLess w a b
  else if op = 15 then vLessSigned w a b
  else if op = 16 then (if W < w then b else a * p2 (W - w).toNat + b)
  else if op = 17 then vSlice w a k W
  else if op = 18 then (if a = 1 then b else c)
  else 0
def inR (x a b : Int) : Bool := decide (a ≤ x ∧ x ≤ b)
def applyL (op W k w a b c : Int) : Int :=
  if inR W 1 8 && inR w 1 8 && inR a 0 255 && inR b 0 255 && inR c 0 255 then opL op W k w a b c else 0
def vT : Tr → List Int → Int
  | .leaf op w k, e => if op = 1 then e.getD k.toNat 0 else applyL op w k 1 0 0 0
  | .one op w k b x, e =>
    if op = 19 then (if (List.range (2 ^ b.toNat)).all (fun i => vT x (e.set k.toNat (i : Int)) == 1) then 1 else 0)
    else if op = 20 then (if (List.range (2 ^ b.toNat)).any (fun i => vT x (e.set k.toNat (i : Int)) == 1) then 1 else 0)
    else applyL op w k x.wid (vT x e) 0 0
  | .two op w x y, e => applyL op w 0 x.wid (vT x e) (vT y e) 0
  | .three op w x y z, e => applyL op w 0 x.wid (vT x e) (vT y e) (vT z e)
def orL (r s : List Nat) : List Nat := (List.range 8).map fun v => r.getD v 0 ||| s.getD v 0
def needT : Tr → Option (List Nat)
  | .leaf op w k => some ((List.range 8).map fun (v : Nat) => if op = 1 ∧ k = (v : Int) then 2 ^ w.toNat else 0)
  | .one op w k b x => (needT x).bind fun r =>
    if quant op then (if r.getD k.toNat 0 ≠ 0 ∧ r.getD k.toNat 0 ≠ 2 ^ b.toNat then none else some (r.set k.toNat 0)) else some r
  | .two _ _ x y => (needT x).bind fun r => (needT y).bind fun s => some (orL r s)
  | .three _ _ x y z => (needT x).bind fun r => (needT y).bind fun s => (needT z).bind fun u => some (orL (orL r s) u)
def fitR (r : List Nat) (e : List Int) : Bool := (List.range 8).all fun (v : Nat) => (List.range 8).all fun (j : Nat) => !(r.getD v 0).testBit (j + 1) || wok ((j : Int) + 1) (e.getD v 0)
def fitT (x : Tr) (e : List Int) : Bool := match needT x with
  | none => false
  | some r => fitR r e
def Rt : Tr → Prop
  | .leaf op w k => 1 ≤ w ∧ w ≤ 8 ∧ ((op = 0 ∧ wok w k = true) ∨ (op = 1 ∧ 0 ≤ k ∧ k ≤ 7))
  | .one op w k b x => 1 ≤ w ∧ w ≤ 8 ∧ Rt x ∧ ((op = 2 ∧ x.wid = w) ∨ (op = 17 ∧ 0 ≤ k ∧ k ≤ x.wid - w) ∨ ((op = 19 ∨ op = 20) ∧ x.wid = 1 ∧ w = 1 ∧ 0 ≤ k ∧ k ≤ 7 ∧ 1 ≤ b ∧ b ≤ 8))
  | .two op w x y => 1 ≤ w ∧ w ≤ 8 ∧ Rt x ∧ Rt y ∧ ((3 ≤ op ∧ op ≤ 12 ∧ x.wid = w ∧ y.wid = w) ∨ (13 ≤ op ∧ op ≤ 15 ∧ x.wid = y.wid ∧ w = 1) ∨ (op = 16 ∧ x.wid + y.wid = w))
  | .three op w x y z => 1 ≤ w ∧ w ≤ 8 ∧ Rt x ∧ Rt y ∧ Rt z ∧ op = 18 ∧ x.wid = 1 ∧ y.wid = w ∧ z.wid = w
theorem Rt.wid {x : Tr} (h : Rt x) : 1 ≤ x.wid ∧ x.wid ≤ 8 := by
  cases x <;> exact ⟨h.1, h.2.1⟩
theorem rt_all {l : List Nd} (hD : Down l) (hN : ∀ k, k < l.length → nodeOk l k = true) : ∀ i, i < l.length → Rt (tr l i) ∧ (tr l i).wid = (nth l i).w := by
  intro i
  induction i using Nat.strongRecOn with
  | ind i ih =>
    intro hi
    rw [tr_at hD hi, mk_wid]
    refine ⟨?_, rfl⟩
    have hok := hN i hi
    have hw := node_width hok
    have hd := hD i hi
    have hp : ∀ p ∈ parts (nth l i), Rt (tr l p.toNat) ∧ (tr l p.toNat).wid = width l p := fun p hp => by
      have := hd p hp
      exact ih p.toNat (by omega) (by omega)
    simp only [nodeOk, Bool.and_eq_true] at hok
    have hs := hok.2
    generalize nth l i = n at hw hp hs
    by_cases h1 : n.op = 2 ∨ n.op = 17 ∨ n.op = 19 ∨ n.op = 20
    · rw [parts_one h1] at hp hs
      rw [mk_one h1]
      obtain ⟨r1, r2⟩ := hp n.a (by simp)
      refine ⟨hw.1, hw.2, r1, ?_⟩
      rw [r2]
      unfold shapeOk at hs
      simp only [List.map_cons, List.map_nil, List.getD_cons_zero] at hs
      rcases h1 with h | h | h | h
      · rw [if_neg (by omega), if_neg (by omega), if_pos h] at hs
        have := of_decide_eq_true hs
        exact .inl ⟨h, this.1⟩
      · rw [if_neg (by omega), if_neg (by omega), if_neg (by omega), if_neg (by omega), if_neg (by omega), if_neg (by omega), if_pos h] at hs
        have := of_decide_eq_true hs
        exact .inr (.inl ⟨h, this.1, this.2.1⟩)
      · rw [if_neg (by omega), if_neg (by omega), if_neg (by omega), if_neg (by omega), if_neg (by omega), if_neg (by omega), if_neg (by omega), if_neg (by omega), if_pos (.inl h)] at hs
        have := of_decide_eq_true hs
        exact .inr (.inr ⟨.inl h, this.2.2.2.2.1, this.2.2.2.2.2.1, this.1, this.2.1, this.2.2.1, this.2.2.2.1⟩)
      · rw [if_neg (by omega), if_neg (by omega), if_neg (by omega), if_neg (by omega), if_neg (by omega), if_neg (by omega), if_neg (by omega), if_neg (by omega), if_pos (.inr h)] at hs
        have := of_decide_eq_true hs
        exact .inr (.inr ⟨.inr h, this.2.2.2.2.1, this.2.2.2.2.2.1, this.1, this.2.1, this.2.2.1, this.2.2.2.1⟩)
    · by_cases h2 : 3 ≤ n.op ∧ n.op ≤ 16
      · rw [parts_two h2] at hp hs
        rw [mk_two h2]
        obtain ⟨r1, r2⟩ := hp n.a (by simp)
        obtain ⟨s1, s2⟩ := hp n.b (by simp)
        refine ⟨hw.1, hw.2, r1, s1, ?_⟩
        rw [r2, s2]
        unfold shapeOk at hs
        simp only [List.map_cons, List.map_nil, List.getD_cons_zero, List.getD_cons_succ] at hs
        rw [if_neg (by omega), if_neg (by omega), if_neg (by omega)] at hs
        by_cases h12 : n.op ≤ 12
        · rw [if_pos (by omega)] at hs
          have := of_decide_eq_true hs
          exact .inl ⟨h2.1, h12, this.1, this.2.1⟩
        · rw [if_neg (by omega)] at hs
          by_cases h15 : n.op ≤ 15
          · rw [if_pos (by omega)] at hs
            have := of_decide_eq_true hs
            exact .inr (.inl ⟨by omega, h15, this.1, this.2.1⟩)
          · rw [if_neg (by omega), if_pos (by omega)] at hs
            have := of_decide_eq_true hs
            exact .inr (.inr ⟨by omega, this.1⟩)
      · by_cases h3 : n.op = 18
        · rw [parts_three h3] at hp hs
          rw [mk_three h3]
          obtain ⟨r1, r2⟩ := hp n.a (by simp)
          obtain ⟨s1, s2⟩ := hp n.b (by simp)
          obtain ⟨u1, u2⟩ := hp n.c (by simp)
          refine ⟨hw.1, hw.2, r1, s1, u1, h3, ?_⟩
          rw [r2, s2, u2]
          unfold shapeOk at hs
          simp only [List.map_cons, List.map_nil, List.getD_cons_zero, List.getD_cons_succ] at hs
          rw [if_neg (by omega), if_neg (by omega), if_neg (by omega), if_neg (by omega), if_neg (by omega), if_neg (by omega), if_neg (by omega), if_pos h3] at hs
          have := of_decide_eq_true hs
          exact ⟨this.1, this.2.1, this.2.2.1⟩
        · rw [parts_none h1 h2 h3] at hs
          rw [mk_leaf h1 h2 h3]
          refine ⟨hw.1, hw.2, ?_⟩
          unfold shapeOk at hs
          by_cases h0 : n.op = 0
          · rw [if_pos h0] at hs
            simp only [Bool.and_eq_true] at hs
            exact .inl ⟨h0, hs.1⟩
          · rw [if_neg h0] at hs
            by_cases hv : n.op = 1
            · rw [if_pos hv] at hs
              have := of_decide_eq_true hs
              exact .inr ⟨hv, this.1, this.2.1⟩
            · rw [if_neg hv, if_neg (by omega), if_neg (by omega), if_neg (by omega), if_neg (by omega), if_neg (by omega), if_neg (by omega), if_neg (by omega)] at hs
              cases hs

def root (l : List Nd) : Tr := tr l (l.length - 1)
def valueL (l : List Nd) (e : List Int) : Option Int :=
  if termOk l && decide (e.length = 8) && decide (bitsTo l l.length ≤ 12) && fitT (root l) e then some (vT (root l) e) else none
theorem tr_prune {l : List Nd} (hT : termOk l = true) : ∀ x, x < l.length → flag (reachL l) x = true → tr (pruneL l) (pl l x) = tr l x := by
  intro x
  induction x using Nat.strongRecOn with
  | ind x ih =>
    intro hx hf
    have hD := down_of hT
    have hDp := down_of (prune_term hT)
    rw [tr_at hDp (pl_lt hT hx hf), tr_at hD hx, prune_nth hT hx hf]
    have hp : ∀ p ∈ parts (nth l x), tr (pruneL l) (plc l p).toNat = tr l p.toNat := fun p hp => by
      have h1 := hD x hx p hp
      have h2 := reach_closed hD hx hf hp
      have h3 := ih p.toNat (by omega) (by omega) h2
      have h4 := plc_pl l p.toNat
      rw [Int.toNat_of_nonneg h1.1] at h4
      rw [h4, Int.toNat_natCast]
      exact h3
    generalize nth l x = n at hp
    by_cases h1 : n.op = 2 ∨ n.op = 17 ∨ n.op = 19 ∨ n.op = 20
    · rw [mk_one (n := remap l n) (by exact h1), mk_one h1]
      have hl := parts_one h1
      rw [hl] at hp
      have e1 : (remap l n).a = plc l n.a := by unfold remap; simp [hl]
      have e2 : (remap l n).b = n.b := by unfold remap; simp [hl]
      rw [e1, e2, hp n.a (by simp)]
      rfl
    · by_cases h2 : 3 ≤ n.op ∧ n.op ≤ 16
      · rw [mk_two (n := remap l n) (by exact h2), mk_two h2]
        have hl := parts_two h2
        rw [hl] at hp
        have e1 : (remap l n).a = plc l n.a := by unfold remap; simp [hl]
        have e2 : (remap l n).b = plc l n.b := by unfold remap; simp [hl]
        rw [e1, e2, hp n.a (by simp), hp n.b (by simp)]
        rfl
      · by_cases h3 : n.op = 18
        · rw [mk_three (n := remap l n) (by exact h3), mk_three h3]
          have hl := parts_three h3
          rw [hl] at hp
          have e1 : (remap l n).a = plc l n.a := by unfold remap; simp [hl]
          have e2 : (remap l n).b = plc l n.b := by unfold remap; simp [hl]
          have e3 : (remap l n).c = plc l n.c := by unfold remap; simp [hl]
          rw [e1, e2, e3, hp n.a (by simp), hp n.b (by simp), hp n.c (by simp)]
          rfl
        · rw [mk_leaf (n := remap l n) (by exact h1) (by exact h2) (by exact h3), mk_leaf h1 h2 h3]
          rfl
theorem root_prune {l : List Nd} (hT : termOk l = true) : root (pruneL l) = root l := by
  unfold root
  rw [← (prune_root hT).1]
  exact tr_prune hT _ (by have := term_len hT; omega) (reach_root (by have := term_len hT; omega))
theorem value_prune {l : List Nd} (hT : termOk l = true) (e : List Int) : valueL (pruneL l) e = valueL l e := by
  unfold valueL
  have hb : bitsTo (pruneL l) (pruneL l).length = bitsTo l l.length := by
    rw [prune_len hT]; exact bits_pl hT l.length (Nat.le_refl _)
  rw [prune_term hT, hT, hb, root_prune hT]

end Go.Proofs.YtejgcchkhljnjaaGreat.Vl1

/- What a right tree is worth is a word of its width. -/
namespace Go.Proofs.YtejgcchkhljnjaaGreat.Vl2
open Nd0 Pl1 Pl2 Tm0 Tm1 Tm3 Tm5 Tm8 Tm11 Tm13 Tm14 Tr0 Vl1
set_option linter.unusedVariables false

theorem in_iff {x a b : Int} : inR x a b = true ↔ a ≤ x ∧ x ≤ b := by unfold inR; simp
theorem app_in {op W k w a b c : Int} (h1 : 1 ≤ W ∧ W ≤ 8) (h2 : 1 ≤ w ∧ w ≤ 8) (ha : 0 ≤ a ∧ a ≤ 255) (hb : 0 ≤ b ∧ b ≤ 255) (hc : 0 ≤ c ∧ c ≤ 255) : applyL op W k w a b c = opL op W k w a b c := by
  unfold applyL
  rw [in_iff.2 h1, in_iff.2 h2, in_iff.2 ha, in_iff.2 hb, in_iff.2 hc]
  rfl
theorem wok_div {m a b : Int} (ha : wok m a = true) (hb : wok m b = true) : wok m (vDiv m a b) = true := by
  unfold vDiv
  rw [ha, hb]
  obtain ⟨h1, h2, h3, h4⟩ := wok_iff.1 ha
  have h5 := wok_iff.1 hb
  simp only [Bool.and_self, if_true]
  have hp := p2_pos m.toNat
  split
  · exact wok_iff.2 ⟨h1, h2, by omega, by omega⟩
  · have := Int.ediv_nonneg h3 h5.2.2.1
    have := Int.ediv_le_self b h3
    exact wok_iff.2 ⟨h1, h2, by omega, by omega⟩
theorem wok_rem {m a b : Int} (ha : wok m a = true) (hb : wok m b = true) : wok m (vRem m a b) = true := by
  unfold vRem
  rw [ha, hb]
  obtain ⟨h1, h2, h3, h4⟩ := wok_iff.1 ha
  have h5 := wok_iff.1 hb
  simp only [Bool.and_self, if_true]
  split
  · exact ha
  · rename_i hz
    have := Int.emod_nonneg a hz
    have := Int.emod_lt_of_pos a (show 0 < b by omega)
    exact wok_iff.2 ⟨h1, h2, by omega, by omega⟩
theorem wok_shl {m a b : Int} (ha : wok m a = true) (hb : wok m b = true) : wok m (vShl m a b) = true := by
  unfold vShl
  rw [ha, hb]
  obtain ⟨h1, h2, h3, h4⟩ := wok_iff.1 ha
  simp only [Bool.and_self, if_true]
  split
  · exact wok_zero h1 h2
  · exact wok_mod _ h1 h2
theorem wok_shr {m a b : Int} (ha : wok m a = true) (hb : wok m b = true) : wok m (vShr m a b) = true := by
  unfold vShr
  rw [ha, hb]
  obtain ⟨h1, h2, h3, h4⟩ := wok_iff.1 ha
  simp only [Bool.and_self, if_true]
  split
  · exact wok_zero h1 h2
  · have hp := p2_pos b.toNat
    have := Int.ediv_nonneg h3 (show 0 ≤ p2 b.toNat by omega)
    have := Int.ediv_le_self (p2 b.toNat) h3
    exact wok_iff.2 ⟨h1, h2, by omega, by omega⟩
theorem wok_slice {w a k n : Int} (h1 : 1 ≤ n) (h2 : n ≤ 8) : wok n (vSlice w a k n) = true := by
  unfold vSlice
  split
  · exact wok_mod _ h1 h2
  · exact wok_zero h1 h2
theorem wok_bit (p : Prop) [Decidable p] : wok 1 (if p then 1 else 0) = true := by
  split <;> rfl
theorem p2_nat (w : Int) : p2 w.toNat = ((2 ^ w.toNat : Nat) : Int) := by unfold p2; simp
theorem wok_nat {w a : Int} (h : wok w a = true) : a.toNat < 2 ^ w.toNat := by
  obtain ⟨h1, h2, h3, h4⟩ := wok_iff.1 h
  rw [p2_nat] at h4
  omega
theorem wok_of_nat {w : Int} {n : Nat} (h1 : 1 ≤ w) (h2 : w ≤ 8) (h : n < 2 ^ w.toNat) : wok w (n : Int) = true := wok_iff.2 ⟨h1, h2, by omega, by rw [p2_nat]; omega⟩
theorem wok_and {w a b : Int} (ha : wok w a = true) (hb : wok w b = true) : wok w (nAnd a b) = true := by
  obtain ⟨h1, h2, _, _⟩ := wok_iff.1 ha
  exact wok_of_nat h1 h2 (Nat.and_lt_two_pow _ (wok_nat hb))
theorem wok_or {w a b : Int} (ha : wok w a = true) (hb : wok w b = true) : wok w (nOr a b) = true := by
  obtain ⟨h1, h2, _, _⟩ := wok_iff.1 ha
  exact wok_of_nat h1 h2 (Nat.or_lt_two_pow (wok_nat ha) (wok_nat hb))
theorem wok_xor {w a b : Int} (ha : wok w a = true) (hb : wok w b = true) : wok w (nXor a b) = true := by
  obtain ⟨h1, h2, _, _⟩ := wok_iff.1 ha
  exact wok_of_nat h1 h2 (Nat.xor_lt_two_pow (wok_nat ha) (wok_nat hb))
theorem wok_join {W x y a b : Int} (h8 : W ≤ 8) (hw : x + y = W) (ha : wok x a = true) (hb : wok y b = true) : wok W (a * p2 (W - x).toNat + b) = true := by
  obtain ⟨a1, a2, a3, a4⟩ := wok_iff.1 ha
  obtain ⟨b1, b2, b3, b4⟩ := wok_iff.1 hb
  have e : W - x = y := by omega
  rw [e]
  have hp : p2 W.toNat = p2 x.toNat * p2 y.toNat := by
    unfold p2
    rw [← Int.pow_add]
    congr 1; omega
  have hy := p2_pos y.toNat
  refine wok_iff.2 ⟨by omega, h8, ?_, ?_⟩
  · have := Int.mul_nonneg a3 (show 0 ≤ p2 y.toNat by omega)
    omega
  · rw [hp]
    have h1 : (a + 1) * p2 y.toNat ≤ p2 x.toNat * p2 y.toNat := Int.mul_le_mul_of_nonneg_right (by omega) (by omega)
    rw [Int.add_mul] at h1
    omega

def Fits (r : List Nat) (e : List Int) : Prop := ∀ v, v < 8 → ∀ j, 1 ≤ j → j ≤ 8 → (r.getD v 0).testBit j = true → wok (j : Int) (e.getD v 0) = true
theorem fit_iff {r : List Nat} {e : List Int} : fitR r e = true ↔ Fits r e := by
  unfold fitR Fits
  simp only [List.all_eq_true, List.mem_range, Bool.or_eq_true, Bool.not_eq_true']
  constructor
  · intro h v hv j h1 h8 hb
    rcases h v hv (j - 1) (by omega) with e1 | e1
    · rw [show j - 1 + 1 = j by omega, hb] at e1; cases e1
    · have e2 : ((j - 1 : Nat) : Int) + 1 = (j : Int) := by omega
      rw [e2] at e1
      exact e1
  · intro h v hv j hj
    cases hb : (r.getD v 0).testBit (j + 1)
    · exact .inl rfl
    · have := h v hv (j + 1) (by omega) (by omega) hb
      refine .inr ?_
      have e2 : ((j + 1 : Nat) : Int) = (j : Int) + 1 := by omega
      rw [e2] at this
      exact this
theorem or_at (r s : List Nat) {v : Nat} (hv : v < 8) : (orL r s).getD v 0 = (r.getD v 0 ||| s.getD v 0) := by
  unfold orL
  rw [List.getD_eq_getElem?_getD, List.getElem?_map, List.getElem?_range hv]
  rfl
theorem Fits.left {r s : List Nat} {e : List Int} (h : Fits (orL r s) e) : Fits r e := fun v hv j h1 h8 hb => h v hv j h1 h8 (by rw [or_at r s hv, Nat.testBit_or, hb]; rfl)
theorem Fits.right {r s : List Nat} {e : List Int} (h : Fits (orL r s) e) : Fits s e := fun v hv j h1 h8 hb => h v hv j h1 h8 (by rw [or_at r s hv, Nat.testBit_or, hb, Bool.or_true])
theorem need_len : ∀ (x : Tr) (r : List Nat), needT x = some r → r.length = 8 := by
  intro x
  induction x with
  | leaf op w k => intro r h; simp only [needT] at h; cases h; simp
  | one op w k b x ih =>
    intro r h
    simp only [needT] at h
    obtain ⟨s, h1, h⟩ := Option.bind_eq_some_iff.1 h
    split at h
    · split at h
      · cases h
      · cases h; rw [List.length_set]; exact ih s h1
    · cases h; exact ih _ h1
  | two op w x y ih1 ih2 =>
    intro r h
    simp only [needT] at h
    obtain ⟨s, h1, h⟩ := Option.bind_eq_some_iff.1 h
    obtain ⟨u, h2, h⟩ := Option.bind_eq_some_iff.1 h
    cases h
    simp [orL]
  | three op w x y z ih1 ih2 ih3 =>
    intro r h
    simp only [needT] at h
    obtain ⟨s, h1, h⟩ := Option.bind_eq_some_iff.1 h
    obtain ⟨u, h2, h⟩ := Option.bind_eq_some_iff.1 h
    obtain ⟨u', h3, h⟩ := Option.bind_eq_some_iff.1 h
    cases h
    simp [orL]
theorem Fits.below {s : List Nat} {e : List Int} {k b : Int} {i : Nat} (hs : s.length = 8) (he : e.length = 8) (hk : 0 ≤ k ∧ k ≤ 7) (hb : 1 ≤ b ∧ b ≤ 8) (hi : i < 2 ^ b.toNat) (hq : ¬ (s.getD k.toNat 0 ≠ 0 ∧ s.getD k.toNat 0 ≠ 2 ^ b.toNat)) (h : Fits (s.set k.toNat 0) e) : Fits s (e.set k.toNat (i : Int)) := by
  intro v hv j h1 h8 hbt
  by_cases hvk : v = k.toNat
  · subst hvk
    have hget : (e.set k.toNat (i : Int)).getD k.toNat 0 = (i : Int) := by
      rw [List.getD_eq_getElem?_getD, List.getElem?_set_self (by omega)]; rfl
    rw [hget]
    have hs2 : s.getD k.toNat 0 = 2 ^ b.toNat := by
      apply Classical.byContradiction
      intro hn
      refine hq ⟨fun e0 => ?_, hn⟩
      rw [e0] at hbt
      simp at hbt
    rw [hs2, Nat.testBit_two_pow] at hbt
    have hj : b.toNat = j := of_decide_eq_true hbt
    exact wok_of_nat (by omega) (by omega) (by rw [show ((j : Nat) : Int).toNat = b.toNat by omega]; exact hi)
  · have hget : (e.set k.toNat (i : Int)).getD v 0 = e.getD v 0 := by
      rw [List.getD_eq_getElem?_getD, List.getD_eq_getElem?_getD, List.getElem?_set_ne (fun e => hvk e.symm)]
    rw [hget]
    refine h v hv j h1 h8 ?_
    rw [List.getD_eq_getElem?_getD, List.getElem?_set_ne (fun e => hvk e.symm), ← List.getD_eq_getElem?_getD]
    exact hbt
theorem value_word : ∀ (x : Tr) (r : List Nat) (e : List Int), Rt x → needT x = some r → e.length = 8 → Fits r e → wok x.wid (vT x e) = true := by
  intro x
  induction x with
  | leaf op w k =>
    intro r e hr hn he hf
    obtain ⟨h1, h8, h⟩ := hr
    simp only [needT] at hn
    cases hn
    simp only [vT]
    show wok w _ = true
    rcases h with ⟨rfl, hk⟩ | ⟨rfl, hk0, hk7⟩
    · rw [if_neg (by decide), app_in ⟨h1, h8⟩ (by decide) (by decide) (by decide) (by decide)]
      exact hk
    · rw [if_pos rfl]
      have := hf k.toNat (by omega) w.toNat (by omega) (by omega) (by
        rw [List.getD_eq_getElem?_getD, List.getElem?_map, List.getElem?_range (by omega)]
        simp only [Option.map_some, Option.getD_some]
        rw [if_pos ⟨trivial, by omega⟩, Nat.testBit_two_pow]
        simp)
      rw [show ((w.toNat : Nat) : Int) = w by omega] at this
      exact this
  | one op w k b x ih =>
    intro r e hr hn he hf
    obtain ⟨h1, h8, hx, h⟩ := hr
    have hxw := hx.wid
    simp only [needT] at hn
    obtain ⟨s, h2, hn⟩ := Option.bind_eq_some_iff.1 hn
    simp only [vT]
    show wok w _ = true
    rcases h with ⟨rfl, hw⟩ | ⟨rfl, hk⟩ | ⟨ho, hx1, rfl, hk0, hk7, hb1, hb8⟩
    · rw [if_neg (by decide), if_neg (by decide)]
      rw [show quant 2 = false from rfl] at hn
      simp only [Bool.false_eq_true, if_false] at hn
      have hsr : s = r := Option.some.inj hn
      subst hsr
      have hv := ih s e hx h2 he hf
      rw [app_in ⟨h1, h8⟩ hxw (wok_lt hv) (by decide) (by decide)]
      rw [hw] at hv
      exact wok_flip hv
    · rw [if_neg (by decide), if_neg (by decide)]
      rw [show quant 17 = false from rfl] at hn
      simp only [Bool.false_eq_true, if_false] at hn
      have hsr : s = r := Option.some.inj hn
      subst hsr
      have hv := ih s e hx h2 he hf
      rw [app_in ⟨h1, h8⟩ hxw (wok_lt hv) (by decide) (by decide)]
      exact wok_slice h1 h8
    · rcases ho with rfl | rfl
      · rw [if_pos rfl]; exact wok_bit _
      · rw [if_neg (by decide), if_pos rfl]; exact wok_bit _
  | two op w x y ih1 ih2 =>
    intro r e hr hn he hf
    obtain ⟨h1, h8, hx, hy, h⟩ := hr
    have hxw := hx.wid
    simp only [needT] at hn
    obtain ⟨s, h2, hn⟩ := Option.bind_eq_some_iff.1 hn
    obtain ⟨u, h3, hn⟩ := Option.bind_eq_some_iff.1 hn
    cases hn
    have hv := ih1 s e hx h2 he hf.left
    have hu := ih2 u e hy h3 he hf.right
    simp only [vT]
    show wok w _ = true
    rw [app_in ⟨h1, h8⟩ hxw (wok_lt hv) (wok_lt hu) (by decide)]
    rcases h with ⟨ho1, ho2, hwx, hwy⟩ | ⟨ho1, ho2, hxy, rfl⟩ | ⟨rfl, hw⟩
    · rw [hwx] at hv ⊢
      rw [hwy] at hu
      have hc : op = 3 ∨ op = 4 ∨ op = 5 ∨ op = 6 ∨ op = 7 ∨ op = 8 ∨ op = 9 ∨ op = 10 ∨ op = 11 ∨ op = 12 := by omega
      rcases hc with rfl | rfl | rfl | rfl | rfl | rfl | rfl | rfl | rfl | rfl
      · exact wok_and hv hu
      · exact wok_or hv hu
      · exact wok_xor hv hu
      · exact wok_add hv hu
      · exact wok_sub hv hu
      · exact wok_mul hv hu
      · exact wok_div hv hu
      · exact wok_rem hv hu
      · exact wok_shl hv hu
      · exact wok_shr hv hu
    · have hc : op = 13 ∨ op = 14 ∨ op = 15 := by omega
      rcases hc with rfl | rfl | rfl
      · exact wok_bit _
      · exact wok_bit _
      · exact wok_bit _
    · have hyw := hy.wid
      show wok w (if w < x.wid then vT y e else vT x e * p2 (w - x.wid).toNat + vT y e) = true
      rw [if_neg (by omega)]
      exact wok_join h8 hw hv hu
  | three op w x y z ih1 ih2 ih3 =>
    intro r e hr hn he hf
    obtain ⟨h1, h8, hx, hy, hz, rfl, hx1, hyw, hzw⟩ := hr
    simp only [needT] at hn
    obtain ⟨s, h2, hn⟩ := Option.bind_eq_some_iff.1 hn
    obtain ⟨u, h3, hn⟩ := Option.bind_eq_some_iff.1 hn
    obtain ⟨u', h4, hn⟩ := Option.bind_eq_some_iff.1 hn
    cases hn
    have hv := ih1 s e hx h2 he hf.left.left
    have hu := ih2 u e hy h3 he hf.left.right
    have ht := ih3 u' e hz h4 he hf.right
    simp only [vT]
    show wok w _ = true
    rw [app_in ⟨h1, h8⟩ hx.wid (wok_lt hv) (wok_lt hu) (wok_lt ht)]
    show wok w (if vT x e = 1 then vT y e else vT z e) = true
    rw [hyw] at hu
    rw [hzw] at ht
    split
    · exact hu
    · exact ht
end Go.Proofs.YtejgcchkhljnjaaGreat.Vl2

/- A term's text is read as a list with a node of that text; what a text that is cut off is read as. -/
namespace Go.Proofs.YtejgcchkhljnjaaGreat.Tx4
open Nd0 Pl1 Tm0 Tm1 Tm3 Tm8 Tx0 Tx1 Tx2 Tx3 Tr0

end Go.Proofs.YtejgcchkhljnjaaGreat.Tx4

/- A term's canonical form is worth what it is worth. -/
namespace Go.Proofs.YtejgcchkhljnjaaGreat.Vl3
open Nd0 Pl1 Pl2 Tm0 Tm1 Tm3 Tm5 Tm8 Tm11 Tm13 Tm14 Tx0 Tx2 Tx3 Tx4 Tr0 Vl1 Vl2
set_option linter.unusedVariables false

theorem value_parts {l : List Nd} {e : List Int} {x : Int} : valueL l e = some x ↔ termOk l = true ∧ e.length = 8 ∧ bitsTo l l.length ≤ 12 ∧ fitT (root l) e = true ∧ vT (root l) e = x := by
  unfold valueL
  split
  · rename_i hc
    simp only [Bool.and_eq_true, decide_eq_true_eq] at hc
    constructor
    · intro h; cases h; exact ⟨hc.1.1.1, hc.1.1.2, hc.1.2, hc.2, rfl⟩
    · intro h; rw [h.2.2.2.2]
  · rename_i hc
    simp only [Bool.and_eq_true, decide_eq_true_eq] at hc
    constructor
    · intro h; cases h
    · intro h; exact absurd ⟨⟨⟨h.1, h.2.1⟩, h.2.2.1⟩, h.2.2.2.1⟩ hc
end Go.Proofs.YtejgcchkhljnjaaGreat.Vl3

/- A node put on a term; a variable told by a number: what that is worth. -/
namespace Go.Proofs.YtejgcchkhljnjaaGreat.Vl4
open Nd0 Pl1 Pl2 Tm0 Tm1 Tm3 Tm5 Tm8 Tm11 Tm12 Tm13 Tm14 Tx2 Tr0 Vl1 Vl2 Vl3
set_option linter.unusedVariables false

section
variable {t : List Nd} {q : Nd} (hT : termOk t = true) (hQ : termOk (t ++ [q]) = true) (hp : parts q = [(t.length : Int) - 1])
include hT hQ hp

end

def badR (v k : Int) (n : Nd) : Bool := (quant n.op && n.k == v) || (n.op == 1 && n.k == v && !wok n.w k)
def replN (v k : Int) (n : Nd) : Nd := if n.op = 1 ∧ n.k = v then ⟨0, n.w, k, n.a, n.b, n.c⟩ else n
def replL (t : List Nd) (v k : Int) : Option (List Nd) := if termOk t && !t.any (badR v k) then some (t.map (replN v k)) else none
end Go.Proofs.YtejgcchkhljnjaaGreat.Vl4

/- A sentence that is denied: it is a sentence, of the same bits, and worth the other one. -/
namespace Go.Proofs.YtejgcchkhljnjaaGreat.Vl5
open Nd0 Pl1 Pl2 Tm0 Tm1 Tm2 Tm3 Tm4 Tm5 Tm6 Tm7 Tm8 Tm9 Tm10 Tm11 Tm12 Tm13 Tm14 Tr0 Vl1 Vl2 Vl3 Vl4
set_option linter.unusedVariables false

section
variable {t : List Nd} {q : Nd} (hT : termOk t = true) (hQ : termOk (t ++ [q]) = true) (hp : parts q = [(t.length : Int) - 1])
include hT hQ hp
end
end Go.Proofs.YtejgcchkhljnjaaGreat.Vl5

/- What the program's functions of chapter 4 are to do. -/
namespace Go.Proofs.YtejgcchkhljnjaaGreat.Ic4
open Go.RowKit
open Nd0 Nd3 Tm0 Vl1 Vl4 Vl5
def replO (l : List Nd) (v k : Int) : List Nd := (replL l v k).getD []
def IApply : Prop := ∀ (n : Nd) (W a b c : Int) (w : World), (Lit.int .i64 n.k).wf = true →
    Calls Tryz.prog 98 #[.agg #[.int .i64 n.op, .int .i64 n.w, .int .i64 n.k, .int .i64 n.a, .int .i64 n.b, .int .i64 n.c], .int .i64 W, .int .i64 a, .int .i64 b, .int .i64 c] w fun e w' => e = .returned (.int .i64 (applyL n.op n.w n.k W a b c)) ∧ Below w.heap.size w w'
def IValue : Prop := ∀ (w : World) (a ae : Option Addr) (l : List Nd) (e : List Int) (c ce : Nat), Nodes w a l → l.length ≤ c → l.length ≤ 1048576 → Ints w ae e → e.length ≤ ce →
    Calls Tryz.prog 16 #[.slice a l.length c, .slice ae e.length ce] w fun x w' => x = .returned (.tuple #[.int .i64 ((valueL l e).getD 0), .bool (valueL l e).isSome]) ∧ Below w.heap.size w w'
end Go.Proofs.YtejgcchkhljnjaaGreat.Ic4
