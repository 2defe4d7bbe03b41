/- Small texts of mine, one behind the other. -/
import Derived.Test.YtdmogjhabladcaaGreatRows
import Derived.Test.YtdmogjhabladcaaGreatPkA
import Derived.Test.YtdmogjhabladcaaGreatPkE
import Derived.Test.YtdmogjhabladcaaGreatPkC
import Derived.Test.YtdmogjhabladcaaGreatPkB
/- Plain laws of words: what the laws of chapter 1 ask of the numbers. -/
namespace Go.Proofs.YtdmogjhabladcaaGreat.Pl2
open Go.RowKit
open Pl1

theorem wok_mod {m : Int} (x : Int) (h1 : 1 ≤ m) (h2 : m ≤ 8) : wok m (x % p2 m.toNat) = true :=
  wok_iff.2 ⟨h1, h2, emod_le _⟩
theorem add_eq {m a b : Int} (ha : wok m a = true) (hb : wok m b = true) : vAdd m a b = (a + b) % p2 m.toNat := by simp [vAdd, ha, hb]
theorem sub_eq {m a b : Int} (ha : wok m a = true) (hb : wok m b = true) : vSub m a b = (a - b) % p2 m.toNat := by simp [vSub, ha, hb]
theorem mul_eq {m a b : Int} (ha : wok m a = true) (hb : wok m b = true) : vMul m a b = a * b % p2 m.toNat := by simp [vMul, ha, hb]
theorem flip_eq {m a : Int} (ha : wok m a = true) : vFlip m a = p2 m.toNat - 1 - a := by simp [vFlip, ha]
theorem wok_add {m a b : Int} (ha : wok m a = true) (hb : wok m b = true) : wok m (vAdd m a b) = true := by
  obtain ⟨h1, h2, _⟩ := wok_iff.1 ha
  rw [add_eq ha hb]; exact wok_mod _ h1 h2
theorem wok_sub {m a b : Int} (ha : wok m a = true) (hb : wok m b = true) : wok m (vSub m a b) = true := by
  obtain ⟨h1, h2, _⟩ := wok_iff.1 ha
  rw [sub_eq ha hb]; exact wok_mod _ h1 h2
theorem wok_mul {m a b : Int} (ha : wok m a = true) (hb : wok m b = true) : wok m (vMul m a b) = true := by
  obtain ⟨h1, h2, _⟩ := wok_iff.1 ha
  rw [mul_eq ha hb]; exact wok_mod _ h1 h2
theorem wok_flip {m a : Int} (ha : wok m a = true) : wok m (vFlip m a) = true := by
  obtain ⟨h1, h2, h3, h4⟩ := wok_iff.1 ha
  rw [flip_eq ha]; exact wok_iff.2 ⟨h1, h2, by omega, by omega⟩

theorem sub_add {m a b : Int} (ha : wok m a = true) (hb : wok m b = true) : vSub m (vAdd m a b) b = a := by
  obtain ⟨h1, h2, h3, h4⟩ := wok_iff.1 ha
  rw [sub_eq (wok_add ha hb) hb, add_eq ha hb, Int.emod_sub_emod, show a + b - b = a by omega, Int.emod_eq_of_lt h3 h4]
theorem mul_add {m a b c : Int} (ha : wok m a = true) (hb : wok m b = true) (hc : wok m c = true) : vMul m a (vAdd m b c) = vAdd m (vMul m a b) (vMul m a c) := by
  rw [mul_eq ha (wok_add hb hc), add_eq hb hc, add_eq (wok_mul ha hb) (wok_mul ha hc), mul_eq ha hb, mul_eq ha hc, ← Int.add_emod, Int.mul_emod, Int.emod_emod, ← Int.mul_emod, Int.mul_add]
theorem add_comm {m a b : Int} : vAdd m a b = vAdd m b a := by
  unfold vAdd; rw [Bool.and_comm, Int.add_comm]
theorem wok_zero {m : Int} (h1 : 1 ≤ m) (h2 : m ≤ 8) : wok m 0 = true := wok_iff.2 ⟨h1, h2, by omega, by have := p2_pos m.toNat; omega⟩
theorem p2_two {m : Int} (h1 : 1 ≤ m) : 2 ≤ p2 m.toNat := by
  have := p2_mono (show 1 ≤ m.toNat by omega); have e : p2 1 = 2 := rfl; omega
theorem wok_one {m : Int} (h1 : 1 ≤ m) (h2 : m ≤ 8) : wok m 1 = true := wok_iff.2 ⟨h1, h2, by omega, by have := p2_two h1; omega⟩
theorem flip_sub {m a : Int} (ha : wok m a = true) : vFlip m a = vSub m (vSub m 0 a) 1 := by
  obtain ⟨h1, h2, h3, h4⟩ := wok_iff.1 ha
  have h0 := wok_zero h1 h2
  rw [flip_eq ha, sub_eq (wok_sub h0 ha) (wok_one h1 h2), sub_eq h0 ha, Int.emod_sub_emod, ← Int.add_emod_right, Int.emod_eq_of_lt (by omega) (by omega)]
  omega
theorem flip_flip {m a : Int} (ha : wok m a = true) : vFlip m (vFlip m a) = a := by
  rw [flip_eq (wok_flip ha), flip_eq ha]; omega
theorem div_zero {m a b : Int} (ha : wok m a = true) (hb : wok m b = true) (hz : b = 0) : vDiv m a b = p2 m.toNat - 1 ∧ vRem m a b = a := by
  subst hz; simp [vDiv, vRem, ha, hb]
theorem div_rem {m a b : Int} (ha : wok m a = true) (hb : wok m b = true) (hz : b ≠ 0) : vDiv m a b * b + vRem m a b = a ∧ vRem m a b < b ∧ 0 ≤ vDiv m a b ∧ vDiv m a b ≤ 255 ∧ 0 ≤ vRem m a b := by
  obtain ⟨h1, h2, h3, h4⟩ := wok_iff.1 ha
  obtain ⟨_, _, h5, h6⟩ := wok_iff.1 hb
  have e1 : vDiv m a b = a / b := by simp [vDiv, ha, hb, hz]
  have e2 : vRem m a b = a % b := by simp [vRem, ha, hb, hz]
  have hl := p2_le m.toNat (by omega)
  rw [e1, e2]
  refine ⟨by rw [Int.mul_comm]; exact Int.mul_ediv_add_emod a b, Int.emod_lt_of_pos _ (by omega), Int.ediv_nonneg h3 h5, ?_, Int.emod_nonneg _ hz⟩
  have := Int.ediv_le_self b h3
  omega
theorem none_two {m a b : Int} (h : (wok m a && wok m b) = false) : vAdd m a b = 0 ∧ vSub m a b = 0 ∧ vMul m a b = 0 ∧ vDiv m a b = 0 ∧ vLess m a b = 0 ∧ vLessSigned m a b = 0 := by
  simp [vAdd, vSub, vMul, vDiv, vLess, vLessSigned, h]

end Go.Proofs.YtdmogjhabladcaaGreat.Pl2

/- What terms are worth, as plain data: over trees. -/
namespace Go.Proofs.YtdmogjhabladcaaGreat.Vl1
open Nd0 Pl1 Pl2 Tm0 Tm1 Tm3 Tm5 Tm8 Tm11 Tm13 Tm14 Tr0
set_option linter.unusedVariables false

def nAnd (a b : Int) : Int := ((a.toNat &&& b.toNat : Nat) : Int)
def nOr (a b : Int) : Int := ((a.toNat ||| b.toNat : Nat) : Int)
def nXor (a b : Int) : Int := ((a.toNat ^^^ b.toNat : Nat) : Int)
/-- The operator of a node of width W over the values of its parts, the first of which has width w. -/
def opL (op W k w a b c : Int) : Int :=
  if op = 0 then k
  else if op = 2 then vFlip W a
  else if op = 3 then nAnd a b
  else if op = 4 then nOr a b
  else if op = 5 then nXor a b
  else if op = 6 then vAdd W a b
  else if op = 7 then vSub W a b
  else if op = 8 then vMul W a b
  else if op = 9 then vDiv W a b
  else if op = 10 then vRem W a b
  else if op = 11 then vShl W a b
  else if op = 12 then vShr W a b
  else if op = 13 then (if a = b then 1 else 0)
  else if op = 14 then vLess w a b
  else if op = 15 then vLessSigned w a b
  else if op = 16 then (if W < w then b else a * p2 (W - w).toNat + b)
  else if op = 17 then vSlice w a k W
  else if op = 18 then (if a = 1 then b else c)
  else 0
def inR (x a b : Int) : Bool := decide (a ≤ x ∧ x ≤ b)
def applyL (op W k w a b c : Int) : Int :=
  if inR W 1 8 && inR w 1 8 && inR a 0 255 && inR b 0 255 && inR c 0 255 then opL op W k w a b c else 0
/-- What a tree is worth where the variables have the values e. -/
def vT : Tr → List Int → Int
  | .leaf op w k, e => if op = 1 then e.getD k.toNat 0 else applyL op w k 1 0 0 0
  | .one op w k b x, e =>
    if op = 19 then (if (List.range (2 ^ b.toNat)).all (fun i => vT x (e.set k.toNat (i : Int)) == 1) then 1 else 0)
    else if op = 20 then (if (List.range (2 ^ b.toNat)).any (fun i => vT x (e.set k.toNat (i : Int)) == 1) then 1 else 0)
    else applyL op w k x.wid (vT x e) 0 0
  | .two op w x y, e => applyL op w 0 x.wid (vT x e) (vT y e) 0
  | .three op w x y z, e => applyL op w 0 x.wid (vT x e) (vT y e) (vT z e)
/-- Of each variable the widths with which a tree wants it, as bits; none where one has another width than its quantifier. -/
def orL (r s : List Nat) : List Nat := (List.range 8).map fun v => r.getD v 0 ||| s.getD v 0
def needT : Tr → Option (List Nat)
  | .leaf op w k => some ((List.range 8).map fun (v : Nat) => if op = 1 ∧ k = (v : Int) then 2 ^ w.toNat else 0)
  | .one op w k b x => (needT x).bind fun r =>
    if quant op then (if r.getD k.toNat 0 ≠ 0 ∧ r.getD k.toNat 0 ≠ 2 ^ b.toNat then none else some (r.set k.toNat 0)) else some r
  | .two _ _ x y => (needT x).bind fun r => (needT y).bind fun s => some (orL r s)
  | .three _ _ x y z => (needT x).bind fun r => (needT y).bind fun s => (needT z).bind fun u => some (orL (orL r s) u)
/-- Each variable that is wanted has a word of each width with which it is. -/
def fitR (r : List Nat) (e : List Int) : Bool := (List.range 8).all fun (v : Nat) => (List.range 8).all fun (j : Nat) => !(r.getD v 0).testBit (j + 1) || wok ((j : Int) + 1) (e.getD v 0)
def fitT (x : Tr) (e : List Int) : Bool := match needT x with
  | none => false
  | some r => fitR r e
/-- A right tree. -/
def Rt : Tr → Prop
  | .leaf op w k => 1 ≤ w ∧ w ≤ 8 ∧ ((op = 0 ∧ wok w k = true) ∨ (op = 1 ∧ 0 ≤ k ∧ k ≤ 7))
  | .one op w k b x => 1 ≤ w ∧ w ≤ 8 ∧ Rt x ∧ ((op = 2 ∧ x.wid = w) ∨ (op = 17 ∧ 0 ≤ k ∧ k ≤ x.wid - w) ∨ ((op = 19 ∨ op = 20) ∧ x.wid = 1 ∧ w = 1 ∧ 0 ≤ k ∧ k ≤ 7 ∧ 1 ≤ b ∧ b ≤ 8))
  | .two op w x y => 1 ≤ w ∧ w ≤ 8 ∧ Rt x ∧ Rt y ∧ ((3 ≤ op ∧ op ≤ 12 ∧ x.wid = w ∧ y.wid = w) ∨ (13 ≤ op ∧ op ≤ 15 ∧ x.wid = y.wid ∧ w = 1) ∨ (op = 16 ∧ x.wid + y.wid = w))
  | .three op w x y z => 1 ≤ w ∧ w ≤ 8 ∧ Rt x ∧ Rt y ∧ Rt z ∧ op = 18 ∧ x.wid = 1 ∧ y.wid = w ∧ z.wid = w
theorem Rt.wid {x : Tr} (h : Rt x) : 1 ≤ x.wid ∧ x.wid ≤ 8 := by
  cases x <;> exact ⟨h.1, h.2.1⟩
theorem rt_all {l : List Nd} (hD : Down l) (hN : ∀ k, k < l.length → nodeOk l k = true) : ∀ i, i < l.length → Rt (tr l i) ∧ (tr l i).wid = (nth l i).w := by
  intro i
  induction i using Nat.strongRecOn with
  | ind i ih =>
    intro hi
    rw [tr_at hD hi, mk_wid]
    refine ⟨?_, rfl⟩
    have hok := hN i hi
    have hw := node_width hok
    have hd := hD i hi
    have hp : ∀ p ∈ parts (nth l i), Rt (tr l p.toNat) ∧ (tr l p.toNat).wid = width l p := fun p hp => by
      have := hd p hp
      exact ih p.toNat (by omega) (by omega)
    simp only [nodeOk, Bool.and_eq_true] at hok
    have hs := hok.2
    generalize nth l i = n at hw hp hs
    by_cases h1 : n.op = 2 ∨ n.op = 17 ∨ n.op = 19 ∨ n.op = 20
    · rw [parts_one h1] at hp hs
      rw [mk_one h1]
      obtain ⟨r1, r2⟩ := hp n.a (by simp)
      refine ⟨hw.1, hw.2, r1, ?_⟩
      rw [r2]
      unfold shapeOk at hs
      simp only [List.map_cons, List.map_nil, List.getD_cons_zero] at hs
      rcases h1 with h | h | h | h
      · rw [if_neg (by omega), if_neg (by omega), if_pos h] at hs
        have := of_decide_eq_true hs
        exact .inl ⟨h, this.1⟩
      · rw [if_neg (by omega), if_neg (by omega), if_neg (by omega), if_neg (by omega), if_neg (by omega), if_neg (by omega), if_pos h] at hs
        have := of_decide_eq_true hs
        exact .inr (.inl ⟨h, this.1, this.2.1⟩)
      · rw [if_neg (by omega), if_neg (by omega), if_neg (by omega), if_neg (by omega), if_neg (by omega), if_neg (by omega), if_neg (by omega), if_neg (by omega), if_pos (.inl h)] at hs
        have := of_decide_eq_true hs
        exact .inr (.inr ⟨.inl h, this.2.2.2.2.1, this.2.2.2.2.2.1, this.1, this.2.1, this.2.2.1, this.2.2.2.1⟩)
      · rw [if_neg (by omega), if_neg (by omega), if_neg (by omega), if_neg (by omega), if_neg (by omega), if_neg (by omega), if_neg (by omega), if_neg (by omega), if_pos (.inr h)] at hs
        have := of_decide_eq_true hs
        exact .inr (.inr ⟨.inr h, this.2.2.2.2.1, this.2.2.2.2.2.1, this.1, this.2.1, this.2.2.1, this.2.2.2.1⟩)
    · by_cases h2 : 3 ≤ n.op ∧ n.op ≤ 16
      · rw [parts_two h2] at hp hs
        rw [mk_two h2]
        obtain ⟨r1, r2⟩ := hp n.a (by simp)
        obtain ⟨s1, s2⟩ := hp n.b (by simp)
        refine ⟨hw.1, hw.2, r1, s1, ?_⟩
        rw [r2, s2]
        unfold shapeOk at hs
        simp only [List.map_cons, List.map_nil, List.getD_cons_zero, List.getD_cons_succ] at hs
        rw [if_neg (by omega), if_neg (by omega), if_neg (by omega)] at hs
        by_cases h12 : n.op ≤ 12
        · rw [if_pos (by omega)] at hs
          have := of_decide_eq_true hs
          exact .inl ⟨h2.1, h12, this.1, this.2.1⟩
        · rw [if_neg (by omega)] at hs
          by_cases h15 : n.op ≤ 15
          · rw [if_pos (by omega)] at hs
            have := of_decide_eq_true hs
            exact .inr (.inl ⟨by omega, h15, this.1, this.2.1⟩)
          · rw [if_neg (by omega), if_pos (by omega)] at hs
            have := of_decide_eq_true hs
            exact .inr (.inr ⟨by omega, this.1⟩)
      · by_cases h3 : n.op = 18
        · rw [parts_three h3] at hp hs
          rw [mk_three h3]
          obtain ⟨r1, r2⟩ := hp n.a (by simp)
          obtain ⟨s1, s2⟩ := hp n.b (by simp)
          obtain ⟨u1, u2⟩ := hp n.c (by simp)
          refine ⟨hw.1, hw.2, r1, s1, u1, h3, ?_⟩
          rw [r2, s2, u2]
          unfold shapeOk at hs
          simp only [List.map_cons, List.map_nil, List.getD_cons_zero, List.getD_cons_succ] at hs
          rw [if_neg (by omega), if_neg (by omega), if_neg (by omega), if_neg (by omega), if_neg (by omega), if_neg (by omega), if_neg (by omega), if_pos h3] at hs
          have := of_decide_eq_true hs
          exact ⟨this.1, this.2.1, this.2.2.1⟩
        · rw [parts_none h1 h2 h3] at hs
          rw [mk_leaf h1 h2 h3]
          refine ⟨hw.1, hw.2, ?_⟩
          unfold shapeOk at hs
          by_cases h0 : n.op = 0
          · rw [if_pos h0] at hs
            simp only [Bool.and_eq_true] at hs
            exact .inl ⟨h0, hs.1⟩
          · rw [if_neg h0] at hs
            by_cases hv : n.op = 1
            · rw [if_pos hv] at hs
              have := of_decide_eq_true hs
              exact .inr ⟨hv, this.1, this.2.1⟩
            · rw [if_neg hv, if_neg (by omega), if_neg (by omega), if_neg (by omega), if_neg (by omega), if_neg (by omega), if_neg (by omega), if_neg (by omega)] at hs
              cases hs

/-- The root's tree. -/
def root (l : List Nd) : Tr := tr l (l.length - 1)
/-- What a term is worth; none where it has no value. -/
def valueL (l : List Nd) (e : List Int) : Option Int :=
  if termOk l && decide (e.length = 8) && decide (bitsTo l l.length ≤ 12) && fitT (root l) e then some (vT (root l) e) else none
theorem tr_prune {l : List Nd} (hT : termOk l = true) : ∀ x, x < l.length → flag (reachL l) x = true → tr (pruneL l) (pl l x) = tr l x := by
  intro x
  induction x using Nat.strongRecOn with
  | ind x ih =>
    intro hx hf
    have hD := down_of hT
    have hDp := down_of (prune_term hT)
    rw [tr_at hDp (pl_lt hT hx hf), tr_at hD hx, prune_nth hT hx hf]
    have hp : ∀ p ∈ parts (nth l x), tr (pruneL l) (plc l p).toNat = tr l p.toNat := fun p hp => by
      have h1 := hD x hx p hp
      have h2 := reach_closed hD hx hf hp
      have h3 := ih p.toNat (by omega) (by omega) h2
      have h4 := plc_pl l p.toNat
      rw [Int.toNat_of_nonneg h1.1] at h4
      rw [h4, Int.toNat_natCast]
      exact h3
    generalize nth l x = n at hp
    by_cases h1 : n.op = 2 ∨ n.op = 17 ∨ n.op = 19 ∨ n.op = 20
    · rw [mk_one (n := remap l n) (by exact h1), mk_one h1]
      have hl := parts_one h1
      rw [hl] at hp
      have e1 : (remap l n).a = plc l n.a := by unfold remap; simp [hl]
      have e2 : (remap l n).b = n.b := by unfold remap; simp [hl]
      rw [e1, e2, hp n.a (by simp)]
      rfl
    · by_cases h2 : 3 ≤ n.op ∧ n.op ≤ 16
      · rw [mk_two (n := remap l n) (by exact h2), mk_two h2]
        have hl := parts_two h2
        rw [hl] at hp
        have e1 : (remap l n).a = plc l n.a := by unfold remap; simp [hl]
        have e2 : (remap l n).b = plc l n.b := by unfold remap; simp [hl]
        rw [e1, e2, hp n.a (by simp), hp n.b (by simp)]
        rfl
      · by_cases h3 : n.op = 18
        · rw [mk_three (n := remap l n) (by exact h3), mk_three h3]
          have hl := parts_three h3
          rw [hl] at hp
          have e1 : (remap l n).a = plc l n.a := by unfold remap; simp [hl]
          have e2 : (remap l n).b = plc l n.b := by unfold remap; simp [hl]
          have e3 : (remap l n).c = plc l n.c := by unfold remap; simp [hl]
          rw [e1, e2, e3, hp n.a (by simp), hp n.b (by simp), hp n.c (by simp)]
          rfl
        · rw [mk_leaf (n := remap l n) (by exact h1) (by exact h2) (by exact h3), mk_leaf h1 h2 h3]
          rfl
theorem root_prune {l : List Nd} (hT : termOk l = true) : root (pruneL l) = root l := by
  unfold root
  rw [← (prune_root hT).1]
  exact tr_prune hT _ (by have := term_len hT; omega) (reach_root (by have := term_len hT; omega))
/-- Without what its root does not reach a term is worth the same. -/
theorem value_prune {l : List Nd} (hT : termOk l = true) (e : List Int) : valueL (pruneL l) e = valueL l e := by
  unfold valueL
  have hb : bitsTo (pruneL l) (pruneL l).length = bitsTo l l.length := by
    rw [prune_len hT]; exact bits_pl hT l.length (Nat.le_refl _)
  rw [prune_term hT, hT, hb, root_prune hT]

end Go.Proofs.YtdmogjhabladcaaGreat.Vl1

/- What a right tree is worth is a word of its width. -/
namespace Go.Proofs.YtdmogjhabladcaaGreat.Vl2
open Nd0 Pl1 Pl2 Tm0 Tm1 Tm3 Tm5 Tm8 Tm11 Tm13 Tm14 Tr0 Vl1
set_option linter.unusedVariables false

theorem in_iff {x a b : Int} : inR x a b = true ↔ a ≤ x ∧ x ≤ b := by unfold inR; simp
theorem app_in {op W k w a b c : Int} (h1 : 1 ≤ W ∧ W ≤ 8) (h2 : 1 ≤ w ∧ w ≤ 8) (ha : 0 ≤ a ∧ a ≤ 255) (hb : 0 ≤ b ∧ b ≤ 255) (hc : 0 ≤ c ∧ c ≤ 255) : applyL op W k w a b c = opL op W k w a b c := by
  unfold applyL
  rw [in_iff.2 h1, in_iff.2 h2, in_iff.2 ha, in_iff.2 hb, in_iff.2 hc]
  rfl
theorem wok_div {m a b : Int} (ha : wok m a = true) (hb : wok m b = true) : wok m (vDiv m a b) = true := by
  unfold vDiv
  rw [ha, hb]
  obtain ⟨h1, h2, h3, h4⟩ := wok_iff.1 ha
  have h5 := wok_iff.1 hb
  simp only [Bool.and_self, if_true]
  have hp := p2_pos m.toNat
  split
  · exact wok_iff.2 ⟨h1, h2, by omega, by omega⟩
  · have := Int.ediv_nonneg h3 h5.2.2.1
    have := Int.ediv_le_self b h3
    exact wok_iff.2 ⟨h1, h2, by omega, by omega⟩
theorem wok_rem {m a b : Int} (ha : wok m a = true) (hb : wok m b = true) : wok m (vRem m a b) = true := by
  unfold vRem
  rw [ha, hb]
  obtain ⟨h1, h2, h3, h4⟩ := wok_iff.1 ha
  have h5 := wok_iff.1 hb
  simp only [Bool.and_self, if_true]
  split
  · exact ha
  · rename_i hz
    have := Int.emod_nonneg a hz
    have := Int.emod_lt_of_pos a (show 0 < b by omega)
    exact wok_iff.2 ⟨h1, h2, by omega, by omega⟩
theorem wok_shl {m a b : Int} (ha : wok m a = true) (hb : wok m b = true) : wok m (vShl m a b) = true := by
  unfold vShl
  rw [ha, hb]
  obtain ⟨h1, h2, h3, h4⟩ := wok_iff.1 ha
  simp only [Bool.and_self, if_true]
  split
  · exact wok_zero h1 h2
  · exact wok_mod _ h1 h2
theorem wok_shr {m a b : Int} (ha : wok m a = true) (hb : wok m b = true) : wok m (vShr m a b) = true := by
  unfold vShr
  rw [ha, hb]
  obtain ⟨h1, h2, h3, h4⟩ := wok_iff.1 ha
  simp only [Bool.and_self, if_true]
  split
  · exact wok_zero h1 h2
  · have hp := p2_pos b.toNat
    have := Int.ediv_nonneg h3 (show 0 ≤ p2 b.toNat by omega)
    have := Int.ediv_le_self (p2 b.toNat) h3
    exact wok_iff.2 ⟨h1, h2, by omega, by omega⟩
theorem wok_slice {w a k n : Int} (h1 : 1 ≤ n) (h2 : n ≤ 8) : wok n (vSlice w a k n) = true := by
  unfold vSlice
  split
  · exact wok_mod _ h1 h2
  · exact wok_zero h1 h2
theorem wok_bit (p : Prop) [Decidable p] : wok 1 (if p then 1 else 0) = true := by
  split <;> rfl
theorem p2_nat (w : Int) : p2 w.toNat = ((2 ^ w.toNat : Nat) : Int) := by unfold p2; simp
theorem wok_nat {w a : Int} (h : wok w a = true) : a.toNat < 2 ^ w.toNat := by
  obtain ⟨h1, h2, h3, h4⟩ := wok_iff.1 h
  rw [p2_nat] at h4
  omega
theorem wok_of_nat {w : Int} {n : Nat} (h1 : 1 ≤ w) (h2 : w ≤ 8) (h : n < 2 ^ w.toNat) : wok w (n : Int) = true := wok_iff.2 ⟨h1, h2, by omega, by rw [p2_nat]; omega⟩
theorem wok_and {w a b : Int} (ha : wok w a = true) (hb : wok w b = true) : wok w (nAnd a b) = true := by
  obtain ⟨h1, h2, _, _⟩ := wok_iff.1 ha
  exact wok_of_nat h1 h2 (Nat.and_lt_two_pow _ (wok_nat hb))
theorem wok_or {w a b : Int} (ha : wok w a = true) (hb : wok w b = true) : wok w (nOr a b) = true := by
  obtain ⟨h1, h2, _, _⟩ := wok_iff.1 ha
  exact wok_of_nat h1 h2 (Nat.or_lt_two_pow (wok_nat ha) (wok_nat hb))
theorem wok_xor {w a b : Int} (ha : wok w a = true) (hb : wok w b = true) : wok w (nXor a b) = true := by
  obtain ⟨h1, h2, _, _⟩ := wok_iff.1 ha
  exact wok_of_nat h1 h2 (Nat.xor_lt_two_pow (wok_nat ha) (wok_nat hb))
theorem wok_join {W x y a b : Int} (h8 : W ≤ 8) (hw : x + y = W) (ha : wok x a = true) (hb : wok y b = true) : wok W (a * p2 (W - x).toNat + b) = true := by
  obtain ⟨a1, a2, a3, a4⟩ := wok_iff.1 ha
  obtain ⟨b1, b2, b3, b4⟩ := wok_iff.1 hb
  have e : W - x = y := by omega
  rw [e]
  have hp : p2 W.toNat = p2 x.toNat * p2 y.toNat := by
    unfold p2
    rw [← Int.pow_add]
    congr 1; omega
  have hy := p2_pos y.toNat
  refine wok_iff.2 ⟨by omega, h8, ?_, ?_⟩
  · have := Int.mul_nonneg a3 (show 0 ≤ p2 y.toNat by omega)
    omega
  · rw [hp]
    have h1 : (a + 1) * p2 y.toNat ≤ p2 x.toNat * p2 y.toNat := Int.mul_le_mul_of_nonneg_right (by omega) (by omega)
    rw [Int.add_mul] at h1
    omega

/-- Each variable that is wanted has a word of each width with which it is. -/
def Fits (r : List Nat) (e : List Int) : Prop := ∀ v, v < 8 → ∀ j, 1 ≤ j → j ≤ 8 → (r.getD v 0).testBit j = true → wok (j : Int) (e.getD v 0) = true
theorem fit_iff {r : List Nat} {e : List Int} : fitR r e = true ↔ Fits r e := by
  unfold fitR Fits
  simp only [List.all_eq_true, List.mem_range, Bool.or_eq_true, Bool.not_eq_true']
  constructor
  · intro h v hv j h1 h8 hb
    rcases h v hv (j - 1) (by omega) with e1 | e1
    · rw [show j - 1 + 1 = j by omega, hb] at e1; cases e1
    · have e2 : ((j - 1 : Nat) : Int) + 1 = (j : Int) := by omega
      rw [e2] at e1
      exact e1
  · intro h v hv j hj
    cases hb : (r.getD v 0).testBit (j + 1)
    · exact .inl rfl
    · have := h v hv (j + 1) (by omega) (by omega) hb
      refine .inr ?_
      have e2 : ((j + 1 : Nat) : Int) = (j : Int) + 1 := by omega
      rw [e2] at this
      exact this
theorem or_at (r s : List Nat) {v : Nat} (hv : v < 8) : (orL r s).getD v 0 = (r.getD v 0 ||| s.getD v 0) := by
  unfold orL
  rw [List.getD_eq_getElem?_getD, List.getElem?_map, List.getElem?_range hv]
  rfl
theorem Fits.left {r s : List Nat} {e : List Int} (h : Fits (orL r s) e) : Fits r e := fun v hv j h1 h8 hb => h v hv j h1 h8 (by rw [or_at r s hv, Nat.testBit_or, hb]; rfl)
theorem Fits.right {r s : List Nat} {e : List Int} (h : Fits (orL r s) e) : Fits s e := fun v hv j h1 h8 hb => h v hv j h1 h8 (by rw [or_at r s hv, Nat.testBit_or, hb, Bool.or_true])
theorem need_len : ∀ (x : Tr) (r : List Nat), needT x = some r → r.length = 8 := by
  intro x
  induction x with
  | leaf op w k => intro r h; simp only [needT] at h; cases h; simp
  | one op w k b x ih =>
    intro r h
    simp only [needT] at h
    obtain ⟨s, h1, h⟩ := Option.bind_eq_some_iff.1 h
    split at h
    · split at h
      · cases h
      · cases h; rw [List.length_set]; exact ih s h1
    · cases h; exact ih _ h1
  | two op w x y ih1 ih2 =>
    intro r h
    simp only [needT] at h
    obtain ⟨s, h1, h⟩ := Option.bind_eq_some_iff.1 h
    obtain ⟨u, h2, h⟩ := Option.bind_eq_some_iff.1 h
    cases h
    simp [orL]
  | three op w x y z ih1 ih2 ih3 =>
    intro r h
    simp only [needT] at h
    obtain ⟨s, h1, h⟩ := Option.bind_eq_some_iff.1 h
    obtain ⟨u, h2, h⟩ := Option.bind_eq_some_iff.1 h
    obtain ⟨u', h3, h⟩ := Option.bind_eq_some_iff.1 h
    cases h
    simp [orL]
/-- Below a quantifier its variable may have each of its values. -/
theorem Fits.below {s : List Nat} {e : List Int} {k b : Int} {i : Nat} (hs : s.length = 8) (he : e.length = 8) (hk : 0 ≤ k ∧ k ≤ 7) (hb : 1 ≤ b ∧ b ≤ 8) (hi : i < 2 ^ b.toNat) (hq : ¬ (s.getD k.toNat 0 ≠ 0 ∧ s.getD k.toNat 0 ≠ 2 ^ b.toNat)) (h : Fits (s.set k.toNat 0) e) : Fits s (e.set k.toNat (i : Int)) := by
  intro v hv j h1 h8 hbt
  by_cases hvk : v = k.toNat
  · subst hvk
    have hget : (e.set k.toNat (i : Int)).getD k.toNat 0 = (i : Int) := by
      rw [List.getD_eq_getElem?_getD, List.getElem?_set_self (by omega)]; rfl
    rw [hget]
    have hs2 : s.getD k.toNat 0 = 2 ^ b.toNat := by
      apply Classical.byContradiction
      intro hn
      refine hq ⟨fun e0 => ?_, hn⟩
      rw [e0] at hbt
      simp at hbt
    rw [hs2, Nat.testBit_two_pow] at hbt
    have hj : b.toNat = j := of_decide_eq_true hbt
    exact wok_of_nat (by omega) (by omega) (by rw [show ((j : Nat) : Int).toNat = b.toNat by omega]; exact hi)
  · have hget : (e.set k.toNat (i : Int)).getD v 0 = e.getD v 0 := by
      rw [List.getD_eq_getElem?_getD, List.getD_eq_getElem?_getD, List.getElem?_set_ne (fun e => hvk e.symm)]
    rw [hget]
    refine h v hv j h1 h8 ?_
    rw [List.getD_eq_getElem?_getD, List.getElem?_set_ne (fun e => hvk e.symm), ← List.getD_eq_getElem?_getD]
    exact hbt
theorem value_word : ∀ (x : Tr) (r : List Nat) (e : List Int), Rt x → needT x = some r → e.length = 8 → Fits r e → wok x.wid (vT x e) = true := by
  intro x
  induction x with
  | leaf op w k =>
    intro r e hr hn he hf
    obtain ⟨h1, h8, h⟩ := hr
    simp only [needT] at hn
    cases hn
    simp only [vT]
    show wok w _ = true
    rcases h with ⟨rfl, hk⟩ | ⟨rfl, hk0, hk7⟩
    · rw [if_neg (by decide), app_in ⟨h1, h8⟩ (by decide) (by decide) (by decide) (by decide)]
      exact hk
    · rw [if_pos rfl]
      have := hf k.toNat (by omega) w.toNat (by omega) (by omega) (by
        rw [List.getD_eq_getElem?_getD, List.getElem?_map, List.getElem?_range (by omega)]
        simp only [Option.map_some, Option.getD_some]
        rw [if_pos ⟨trivial, by omega⟩, Nat.testBit_two_pow]
        simp)
      rw [show ((w.toNat : Nat) : Int) = w by omega] at this
      exact this
  | one op w k b x ih =>
    intro r e hr hn he hf
    obtain ⟨h1, h8, hx, h⟩ := hr
    have hxw := hx.wid
    simp only [needT] at hn
    obtain ⟨s, h2, hn⟩ := Option.bind_eq_some_iff.1 hn
    simp only [vT]
    show wok w _ = true
    rcases h with ⟨rfl, hw⟩ | ⟨rfl, hk⟩ | ⟨ho, hx1, rfl, hk0, hk7, hb1, hb8⟩
    · rw [if_neg (by decide), if_neg (by decide)]
      rw [show quant 2 = false from rfl] at hn
      simp only [Bool.false_eq_true, if_false] at hn
      have hsr : s = r := Option.some.inj hn
      subst hsr
      have hv := ih s e hx h2 he hf
      rw [app_in ⟨h1, h8⟩ hxw (wok_lt hv) (by decide) (by decide)]
      rw [hw] at hv
      exact wok_flip hv
    · rw [if_neg (by decide), if_neg (by decide)]
      rw [show quant 17 = false from rfl] at hn
      simp only [Bool.false_eq_true, if_false] at hn
      have hsr : s = r := Option.some.inj hn
      subst hsr
      have hv := ih s e hx h2 he hf
      rw [app_in ⟨h1, h8⟩ hxw (wok_lt hv) (by decide) (by decide)]
      exact wok_slice h1 h8
    · rcases ho with rfl | rfl
      · rw [if_pos rfl]; exact wok_bit _
      · rw [if_neg (by decide), if_pos rfl]; exact wok_bit _
  | two op w x y ih1 ih2 =>
    intro r e hr hn he hf
    obtain ⟨h1, h8, hx, hy, h⟩ := hr
    have hxw := hx.wid
    simp only [needT] at hn
    obtain ⟨s, h2, hn⟩ := Option.bind_eq_some_iff.1 hn
    obtain ⟨u, h3, hn⟩ := Option.bind_eq_some_iff.1 hn
    cases hn
    have hv := ih1 s e hx h2 he hf.left
    have hu := ih2 u e hy h3 he hf.right
    simp only [vT]
    show wok w _ = true
    rw [app_in ⟨h1, h8⟩ hxw (wok_lt hv) (wok_lt hu) (by decide)]
    rcases h with ⟨ho1, ho2, hwx, hwy⟩ | ⟨ho1, ho2, hxy, rfl⟩ | ⟨rfl, hw⟩
    · rw [hwx] at hv ⊢
      rw [hwy] at hu
      have hc : op = 3 ∨ op = 4 ∨ op = 5 ∨ op = 6 ∨ op = 7 ∨ op = 8 ∨ op = 9 ∨ op = 10 ∨ op = 11 ∨ op = 12 := by omega
      rcases hc with rfl | rfl | rfl | rfl | rfl | rfl | rfl | rfl | rfl | rfl
      · exact wok_and hv hu
      · exact wok_or hv hu
      · exact wok_xor hv hu
      · exact wok_add hv hu
      · exact wok_sub hv hu
      · exact wok_mul hv hu
      · exact wok_div hv hu
      · exact wok_rem hv hu
      · exact wok_shl hv hu
      · exact wok_shr hv hu
    · have hc : op = 13 ∨ op = 14 ∨ op = 15 := by omega
      rcases hc with rfl | rfl | rfl
      · exact wok_bit _
      · exact wok_bit _
      · exact wok_bit _
    · have hyw := hy.wid
      show wok w (if w < x.wid then vT y e else vT x e * p2 (w - x.wid).toNat + vT y e) = true
      rw [if_neg (by omega)]
      exact wok_join h8 hw hv hu
  | three op w x y z ih1 ih2 ih3 =>
    intro r e hr hn he hf
    obtain ⟨h1, h8, hx, hy, hz, rfl, hx1, hyw, hzw⟩ := hr
    simp only [needT] at hn
    obtain ⟨s, h2, hn⟩ := Option.bind_eq_some_iff.1 hn
    obtain ⟨u, h3, hn⟩ := Option.bind_eq_some_iff.1 hn
    obtain ⟨u', h4, hn⟩ := Option.bind_eq_some_iff.1 hn
    cases hn
    have hv := ih1 s e hx h2 he hf.left.left
    have hu := ih2 u e hy h3 he hf.left.right
    have ht := ih3 u' e hz h4 he hf.right
    simp only [vT]
    show wok w _ = true
    rw [app_in ⟨h1, h8⟩ hx.wid (wok_lt hv) (wok_lt hu) (wok_lt ht)]
    show wok w (if vT x e = 1 then vT y e else vT z e) = true
    rw [hyw] at hu
    rw [hzw] at ht
    split
    · exact hu
    · exact ht
/-- What a term is worth is a word of its root's width. -/
theorem value_wok {l : List Nd} {e : List Int} {x : Int} (h : valueL l e = some x) : wok (nth l (l.length - 1)).w x = true := by
  unfold valueL at h
  split at h
  · rename_i hc
    simp only [Bool.and_eq_true, decide_eq_true_eq] at hc
    obtain ⟨⟨⟨hT, he⟩, hb⟩, hf⟩ := hc
    cases h
    have hl := term_len hT
    have hr := rt_all (down_of hT) (fun k hk => term_node hT hk) (l.length - 1) (by omega)
    unfold fitT at hf
    cases hn : needT (root l) with
    | none => rw [hn] at hf; cases hf
    | some r =>
      rw [hn] at hf
      have := value_word (root l) r e hr.1 hn he (fit_iff.1 hf)
      unfold root at this ⊢
      rw [hr.2] at this
      exact this
  · cases h

end Go.Proofs.YtdmogjhabladcaaGreat.Vl2

/- What a node of a term is worth, out of what its parts are worth: as plain data. -/
namespace Go.Proofs.YtdmogjhabladcaaGreat.Vm0
open Nd0 Pl1 Pl2 Tm0 Tm1 Tm3 Tm5 Tm6 Tm8 Tm11 Tm13 Tm14 Tr0 Vl1 Vl2
set_option linter.unusedVariables false

theorem applyL_k {op : Int} (h : (3 ≤ op ∧ op ≤ 16) ∨ op = 18) (W k k' w a b c : Int) : applyL op W k w a b c = applyL op W k' w a b c := by
  have h0 : ¬ op = 0 := by omega
  have h17 : ¬ op = 17 := by omega
  unfold applyL opL
  simp only [h0, h17, if_false]
/-- What the parts of a node are worth. -/
def pvs (l : List Nd) (e : List Int) (n : Nd) : List Int := (parts n).map fun p => vT (tr l p.toNat) e
/-- The width of its first part. -/
def pw (l : List Nd) (n : Nd) : Int := match parts n with
  | [] => 1
  | p :: _ => (nth l p.toNat).w
section
variable {l : List Nd} (hD : Down l) (hN : ∀ k, k < l.length → nodeOk l k = true) {k : Nat} (hk : k < l.length) (e : List Int)
include hD hN hk
theorem vT_other (h1 : ¬ (nth l k).op = 1) (hq : quant (nth l k).op = false) :
    vT (tr l k) e = applyL (nth l k).op (nth l k).w (nth l k).k (pw l (nth l k)) ((pvs l e (nth l k)).getD 0 0) ((pvs l e (nth l k)).getD 1 0) ((pvs l e (nth l k)).getD 2 0) := by
  rw [tr_at hD hk]
  have hd := hD k hk
  have hp : ∀ p ∈ parts (nth l k), (tr l p.toNat).wid = (nth l p.toNat).w := fun p h => (rt_all hD hN p.toNat (by have := hd p h; omega)).2
  generalize nth l k = n at h1 hq hp hd
  have hq2 : ¬ n.op = 19 ∧ ¬ n.op = 20 := by simpa [quant] using hq
  by_cases g1 : n.op = 2 ∨ n.op = 17 ∨ n.op = 19 ∨ n.op = 20
  · rw [mk_one g1]
    unfold pvs pw
    rw [parts_one g1] at hp ⊢
    simp only [vT, List.map_cons, List.map_nil]
    rw [if_neg hq2.1, if_neg hq2.2, hp n.a (by simp)]
    rfl
  · by_cases g2 : 3 ≤ n.op ∧ n.op ≤ 16
    · rw [mk_two g2]
      unfold pvs pw
      rw [parts_two g2] at hp ⊢
      simp only [vT, List.map_cons, List.map_nil]
      rw [hp n.a (by simp), applyL_k (.inl g2) _ 0 n.k]
      rfl
    · by_cases g3 : n.op = 18
      · rw [mk_three g3]
        unfold pvs pw
        rw [parts_three g3] at hp ⊢
        simp only [vT, List.map_cons, List.map_nil]
        rw [hp n.a (by simp), applyL_k (.inr g3) _ 0 n.k]
        rfl
      · rw [mk_leaf g1 g2 g3]
        unfold pvs pw
        rw [parts_none g1 g2 g3]
        simp only [vT]
        rw [if_neg h1]
        rfl
end
theorem vT_var {l : List Nd} (hD : Down l) {k : Nat} (hk : k < l.length) (e : List Int) (h1 : (nth l k).op = 1) : vT (tr l k) e = wd e (nth l k).k := by
  rw [tr_at hD hk, mk_leaf (by omega) (by omega) (by omega)]
  simp only [vT]
  rw [if_pos h1]
  rfl
def allN (f : Nat → Int) (m : Nat) : Int := if (List.range m).all (fun i => f i == 1) then 1 else 0
def anyN (f : Nat → Int) (m : Nat) : Int := if (List.range m).any (fun i => f i == 1) then 1 else 0
theorem allN_zero (f : Nat → Int) : allN f 0 = 1 := rfl
theorem anyN_zero (f : Nat → Int) : anyN f 0 = 0 := rfl
theorem allN_yes {f : Nat → Int} {m : Nat} (h : f m = 1) : allN f (m + 1) = allN f m := by
  unfold allN; rw [List.range_succ, List.all_append]; simp [h]
theorem allN_no {f : Nat → Int} {m : Nat} (h : ¬ f m = 1) : allN f (m + 1) = 0 := by
  unfold allN; rw [List.range_succ, List.all_append]; simp [h]
theorem anyN_yes {f : Nat → Int} {m : Nat} (h : f m = 1) : anyN f (m + 1) = 1 := by
  unfold anyN; rw [List.range_succ, List.any_append]; simp [h]
theorem anyN_no {f : Nat → Int} {m : Nat} (h : ¬ f m = 1) : anyN f (m + 1) = anyN f m := by
  unfold anyN; rw [List.range_succ, List.any_append]; simp [h]
theorem anyN_bit (f : Nat → Int) (m : Nat) : anyN f m = 0 ∨ anyN f m = 1 := by unfold anyN; split <;> simp
theorem anyN_one {f : Nat → Int} {m : Nat} : anyN f m = 1 ↔ ∃ i, i < m ∧ f i = 1 := by
  unfold anyN
  constructor
  · intro h
    split at h
    · rename_i h2
      obtain ⟨i, h3, h4⟩ := List.any_eq_true.1 h2
      exact ⟨i, List.mem_range.1 h3, by simpa using h4⟩
    · cases h
  · rintro ⟨i, h1, h2⟩
    rw [if_pos (List.any_eq_true.2 ⟨i, List.mem_range.2 h1, by simpa using h2⟩)]
theorem allN_one {f : Nat → Int} {m : Nat} : allN f m = 1 ↔ ∀ i, i < m → f i = 1 := by
  unfold allN
  constructor
  · intro h i hi
    split at h
    · rename_i h2
      simpa using List.all_eq_true.1 h2 i (List.mem_range.2 hi)
    · cases h
  · intro h
    rw [if_pos (List.all_eq_true.2 fun i hi => by simpa using h i (List.mem_range.1 hi))]
theorem allN_bit (f : Nat → Int) (m : Nat) : allN f m = 0 ∨ allN f m = 1 := by unfold allN; split <;> simp
theorem vT_quant {l : List Nd} (hD : Down l) {k : Nat} (hk : k < l.length) (e : List Int) (hq : quant (nth l k).op = true) :
    vT (tr l k) e = if (nth l k).op = 19 then allN (fun i => vT (tr l (nth l k).a.toNat) (e.set (nth l k).k.toNat (i : Int))) (2 ^ (nth l k).b.toNat) else anyN (fun i => vT (tr l (nth l k).a.toNat) (e.set (nth l k).k.toNat (i : Int))) (2 ^ (nth l k).b.toNat) := by
  have hq2 : (nth l k).op = 19 ∨ (nth l k).op = 20 := by simpa [quant] using hq
  rw [tr_at hD hk, mk_one (by omega)]
  simp only [vT]
  rcases hq2 with h | h
  · rw [if_pos h, if_pos h]; rfl
  · have h19 : ¬ (nth l k).op = 19 := by omega
    rw [if_neg h19, if_pos h, if_neg h19]; rfl
theorem set_self (e : List Int) {i : Nat} (h : i < e.length) : e.set i (wd e (i : Int)) = e := by
  have : wd e (i : Int) = e[i] := (wd_get h).symm
  rw [this]; exact List.set_getElem_self h

/-- The number of a right node is small. -/
theorem node_k {l : List Nd} (hD : Down l) (hN : ∀ k, k < l.length → nodeOk l k = true) {k : Nat} (hk : k < l.length) : 0 ≤ (nth l k).k ∧ (nth l k).k ≤ 255 := by
  have hok := hN k hk
  have hd := hD k hk
  simp only [nodeOk, Bool.and_eq_true] at hok
  have hs := hok.2
  have hw : ∀ p ∈ parts (nth l k), width l p ≤ 8 := fun p hp => by
    have h1 := hd p hp
    exact (node_width (hN p.toNat (by omega))).2
  have hw1 := of_decide_eq_true hok.1.2
  generalize nth l k = n at hs hw hw1
  unfold shapeOk at hs
  by_cases h0 : n.op = 0
  · rw [if_pos h0] at hs
    simp only [Bool.and_eq_true] at hs
    have := wok_iff.1 hs.1
    have h2 := p2_mono (show n.w.toNat ≤ 8 by omega)
    have h3 : p2 8 = 256 := rfl
    omega
  rw [if_neg h0] at hs
  by_cases h1 : n.op = 1
  · rw [if_pos h1] at hs
    have := of_decide_eq_true hs
    omega
  rw [if_neg h1] at hs
  by_cases h2 : n.op = 2
  · rw [if_pos h2] at hs
    have := of_decide_eq_true hs
    omega
  rw [if_neg h2] at hs
  by_cases h3 : 3 ≤ n.op ∧ n.op ≤ 12
  · rw [if_pos h3] at hs
    have := of_decide_eq_true hs
    omega
  rw [if_neg h3] at hs
  by_cases h4 : 13 ≤ n.op ∧ n.op ≤ 15
  · rw [if_pos h4] at hs
    have := of_decide_eq_true hs
    omega
  rw [if_neg h4] at hs
  by_cases h5 : n.op = 16
  · rw [if_pos h5] at hs
    have := of_decide_eq_true hs
    omega
  rw [if_neg h5] at hs
  by_cases h6 : n.op = 17
  · rw [if_pos h6] at hs
    have := of_decide_eq_true hs
    rw [parts_one (.inr (.inl h6))] at hw this
    have h8 := hw n.a (by simp)
    simp only [List.map_cons, List.map_nil, List.getD_cons_zero] at this
    omega
  rw [if_neg h6] at hs
  by_cases h7 : n.op = 18
  · rw [if_pos h7] at hs
    have := of_decide_eq_true hs
    omega
  rw [if_neg h7] at hs
  by_cases h8 : n.op = 19 ∨ n.op = 20
  · rw [if_pos h8] at hs
    have := of_decide_eq_true hs
    omega
  rw [if_neg h8] at hs
  cases hs
theorem wf_small {k : Int} (h : 0 ≤ k ∧ k ≤ 255) : (Go.Lit.int .i64 k).wf = true := by
  simp [Go.Lit.wf, Go.IntKind.min, Go.IntKind.max, Go.IntKind.signed, Go.IntKind.bits]; omega

end Go.Proofs.YtdmogjhabladcaaGreat.Vm0

/- Which widths each variable wants, node by node: as plain data. -/
namespace Go.Proofs.YtdmogjhabladcaaGreat.Vm1
open Nd0 Pl1 Pl2 Tm0 Tm1 Tm3 Tm5 Tm6 Tm8 Tm11 Tm13 Tm14 Tr0 Vl1 Vl2 Vm0
set_option linter.unusedVariables false

/-- The row of place j. -/
def rowN (l : List Nd) (j : Nat) : List Nat := (needT (tr l j)).getD []
/-- What variable v wants in a node, its first d parts looked at. -/
def preN (l : List Nd) (n : Nd) (v : Nat) : Nat → Nat
  | 0 => if n.op = 1 ∧ n.k = (v : Int) then 2 ^ n.w.toNat else 0
  | d + 1 => preN l n v d ||| (rowN l ((parts n).getD d 0).toNat).getD v 0
def preA (l : List Nd) (n : Nd) (v : Nat) : Nat := preN l n v (parts n).length
/-- Where a quantifier's variable has another width. -/
def badQ (l : List Nd) (n : Nd) : Bool := quant n.op && decide (preA l n n.k.toNat ≠ 0 ∧ preA l n n.k.toNat ≠ 2 ^ n.b.toNat)

theorem getD_map8 (f : Nat → Nat) {v : Nat} (hv : v < 8) : ((List.range 8).map f).getD v 0 = f v := by
  rw [List.getD_eq_getElem?_getD, List.getElem?_map, List.getElem?_range hv]; rfl

theorem need_row {l : List Nd} {i : Nat} (hp : ∀ p ∈ parts (nth l i), (needT (tr l p.toNat)).isSome = true) : ∀ p ∈ parts (nth l i), needT (tr l p.toNat) = some (rowN l p.toNat) := fun p h => by
  obtain ⟨r, hr⟩ := Option.isSome_iff_exists.1 (hp p h)
  unfold rowN; rw [hr]; rfl
section
variable {l : List Nd} (hD : Down l) {i : Nat} (hi : i < l.length) (hp : ∀ p ∈ parts (nth l i), (needT (tr l p.toNat)).isSome = true)
include hD hi hp
theorem need_none (hb : badQ l (nth l i) = true) : needT (tr l i) = none := by
  have hr := need_row hp
  unfold badQ at hb
  simp only [Bool.and_eq_true] at hb
  obtain ⟨hq, hb⟩ := hb
  have hb := of_decide_eq_true hb
  rw [tr_at hD hi]
  generalize nth l i = n at hr hq hb
  have hq2 : n.op = 19 ∨ n.op = 20 := by simpa [quant] using hq
  have h1 : n.op = 2 ∨ n.op = 17 ∨ n.op = 19 ∨ n.op = 20 := by omega
  rw [mk_one h1]
  have hpp := parts_one h1
  simp only [needT]
  rw [hr n.a (by rw [hpp]; simp)]
  simp only [Option.bind_some, hq, if_true]
  have e : preA l n n.k.toNat = (rowN l n.a.toNat).getD n.k.toNat 0 := by
    unfold preA
    rw [hpp]
    show preN l n n.k.toNat (0 + 1) = _
    unfold preN
    rw [hpp]
    have : ¬ (n.op = 1 ∧ n.k = (n.k.toNat : Int)) := fun h => by omega
    simp only [preN]
    rw [if_neg this]
    simp
  rw [e] at hb
  rw [if_pos hb]
theorem need_some (hb : badQ l (nth l i) = false) (hk : quant (nth l i).op = true → 0 ≤ (nth l i).k) : ∃ r, needT (tr l i) = some r ∧ ∀ v, v < 8 → r.getD v 0 = if quant (nth l i).op ∧ (nth l i).k = (v : Int) then 0 else preA l (nth l i) v := by
  have hr := need_row hp
  unfold badQ at hb
  rw [tr_at hD hi]
  generalize nth l i = n at hr hb hk
  by_cases h1 : n.op = 2 ∨ n.op = 17 ∨ n.op = 19 ∨ n.op = 20
  · rw [mk_one h1]
    have hpp := parts_one h1
    simp only [needT]
    have hra := hr n.a (by rw [hpp]; simp)
    have hrl := need_len _ _ hra
    have e : ∀ v, preA l n v = (rowN l n.a.toNat).getD v 0 := fun v => by
      unfold preA
      rw [hpp]
      show preN l n v (0 + 1) = _
      unfold preN
      rw [hpp]
      have : ¬ (n.op = 1 ∧ n.k = (v : Int)) := fun h => by omega
      simp only [preN]
      rw [if_neg this]
      simp
    rw [hra]
    simp only [Option.bind_some]
    cases hq : quant n.op
    · simp only [Bool.false_eq_true, if_false]
      exact ⟨_, rfl, fun v hv => by rw [if_neg (by simp), e v]⟩
    · simp only [if_true]
      rw [hq] at hb
      simp only [Bool.true_and] at hb
      have hb := of_decide_eq_false hb
      rw [e] at hb
      rw [if_neg hb]
      refine ⟨_, rfl, fun v hv => ?_⟩
      have h0 := hk hq
      by_cases ev : n.k = (v : Int)
      · rw [if_pos ⟨by simp, ev⟩]
        have : n.k.toNat = v := by omega
        rw [this, List.getD_eq_getElem?_getD, List.getElem?_set_self (by rw [hrl]; exact hv)]; rfl
      · rw [if_neg (fun h => ev h.2), e v, List.getD_eq_getElem?_getD, List.getElem?_set_ne (by omega), ← List.getD_eq_getElem?_getD]
  · have hq : quant n.op = false := by
      have : ¬ n.op = 19 ∧ ¬ n.op = 20 := by omega
      simp [quant, this]
    by_cases h2 : 3 ≤ n.op ∧ n.op ≤ 16
    · rw [mk_two h2]
      have hpp := parts_two h2
      simp only [needT]
      rw [hr n.a (by rw [hpp]; simp), hr n.b (by rw [hpp]; simp)]
      simp only [Option.bind_some]
      refine ⟨_, rfl, fun v hv => ?_⟩
      rw [hq, if_neg (by simp), or_at _ _ hv]
      unfold preA
      rw [hpp]
      show _ = preN l n v (0 + 1 + 1)
      have : ¬ (n.op = 1 ∧ n.k = (v : Int)) := fun h => by omega
      simp only [preN, hpp]
      rw [if_neg this]
      simp
    · by_cases h3 : n.op = 18
      · rw [mk_three h3]
        have hpp := parts_three h3
        simp only [needT]
        rw [hr n.a (by rw [hpp]; simp), hr n.b (by rw [hpp]; simp), hr n.c (by rw [hpp]; simp)]
        simp only [Option.bind_some]
        refine ⟨_, rfl, fun v hv => ?_⟩
        rw [hq, if_neg (by simp), or_at _ _ hv, or_at _ _ hv]
        unfold preA
        rw [hpp]
        show _ = preN l n v (0 + 1 + 1 + 1)
        have : ¬ (n.op = 1 ∧ n.k = (v : Int)) := fun h => by omega
        simp only [preN, hpp]
        rw [if_neg this]
        simp
      · rw [mk_leaf h1 h2 h3]
        have hpp := parts_none h1 h2 h3
        simp only [needT]
        refine ⟨_, rfl, fun v hv => ?_⟩
        rw [hq, if_neg (by simp), getD_map8 _ hv]
        unfold preA
        rw [hpp]
        rfl
end
theorem part_none {l : List Nd} (hD : Down l) {i : Nat} (hi : i < l.length) {p : Int} (hp : p ∈ parts (nth l i)) (h : needT (tr l p.toNat) = none) : needT (tr l i) = none := by
  rw [tr_at hD hi]
  generalize nth l i = n at hp
  by_cases h1 : n.op = 2 ∨ n.op = 17 ∨ n.op = 19 ∨ n.op = 20
  · rw [mk_one h1]
    rw [parts_one h1] at hp
    simp only [List.mem_cons, List.not_mem_nil, or_false] at hp
    subst hp
    simp only [needT]
    rw [h]; rfl
  · by_cases h2 : 3 ≤ n.op ∧ n.op ≤ 16
    · rw [mk_two h2]
      rw [parts_two h2] at hp
      simp only [List.mem_cons, List.not_mem_nil, or_false] at hp
      simp only [needT]
      rcases hp with rfl | rfl
      · rw [h]; rfl
      · rw [h]; cases needT (tr l n.a.toNat) <;> rfl
    · by_cases h3 : n.op = 18
      · rw [mk_three h3]
        rw [parts_three h3] at hp
        simp only [List.mem_cons, List.not_mem_nil, or_false] at hp
        simp only [needT]
        rcases hp with rfl | rfl | rfl
        · rw [h]; rfl
        · rw [h]; cases needT (tr l n.a.toNat) <;> rfl
        · rw [h]; cases needT (tr l n.a.toNat) <;> cases needT (tr l n.b.toNat) <;> rfl
      · rw [parts_none h1 h2 h3] at hp
        cases hp
/-- A reached node without a row leaves the root without. -/
theorem root_none {l : List Nd} (hD : Down l) : ∀ d i, l.length = i + 1 + d → flag (reachL l) i = true → needT (tr l i) = none → needT (root l) = none := by
  intro d
  induction d using Nat.strongRecOn with
  | ind d ih =>
    intro i hi hf hn
    rcases reach_why hD (i := i) (by omega) hf with e | ⟨j, h1, h2, h3, h4⟩
    · unfold root; rw [← e]; exact hn
    · refine ih (l.length - (j + 1)) (by omega) j (by omega) h3 (part_none hD (by omega) h4 ?_)
      rw [Int.toNat_natCast]; exact hn
/-- The widths are small. -/
theorem need_bd : ∀ (x : Tr) (r : List Nat), Rt x → needT x = some r → ∀ v, r.getD v 0 < 2 ^ 9 := by
  have hor : ∀ (r s : List Nat) (v : Nat), (∀ v, r.getD v 0 < 2 ^ 9) → (∀ v, s.getD v 0 < 2 ^ 9) → (orL r s).getD v 0 < 2 ^ 9 := by
    intro r s v hr hs
    by_cases hv : v < 8
    · rw [or_at r s hv]; exact Nat.or_lt_two_pow (hr v) (hs v)
    · rw [List.getD_eq_getElem?_getD, List.getElem?_eq_none (by unfold orL; simp; omega)]; decide
  intro x
  induction x with
  | leaf op w k =>
    intro r hR h v
    simp only [needT] at h
    cases h
    by_cases hv : v < 8
    · rw [getD_map8 _ hv]
      split
      · have h8 : w.toNat ≤ 8 := by have := hR.2.1; omega
        exact Nat.lt_of_le_of_lt (Nat.pow_le_pow_right (by omega) h8) (by decide)
      · decide
    · rw [List.getD_eq_getElem?_getD, List.getElem?_eq_none (by simp; omega)]; decide
  | one op w k b x ih =>
    intro r hR h v
    simp only [needT] at h
    cases hn : needT x with
    | none => rw [hn] at h; cases h
    | some s =>
      rw [hn] at h
      simp only [Option.bind_some] at h
      have hs := ih s hR.2.2.1 hn
      split at h
      · split at h
        · cases h
        · cases h
          rw [List.getD_eq_getElem?_getD]
          by_cases e : k.toNat = v
          · subst e
            by_cases hl : k.toNat < s.length
            · rw [List.getElem?_set_self hl]; decide
            · rw [List.getElem?_eq_none (by rw [List.length_set]; omega)]; decide
          · rw [List.getElem?_set_ne e, ← List.getD_eq_getElem?_getD]; exact hs v
      · cases h; exact hs v
  | two op w x y ihx ihy =>
    intro r hR h v
    simp only [needT] at h
    cases hx : needT x with
    | none => rw [hx] at h; cases h
    | some s =>
      cases hy : needT y with
      | none => rw [hx, hy] at h; cases h
      | some t =>
        rw [hx, hy] at h
        simp only [Option.bind_some] at h
        cases h
        exact hor s t v (ihx s hR.2.2.1 hx) (ihy t hR.2.2.2.1 hy)
  | three op w x y z ihx ihy ihz =>
    intro r hR h v
    simp only [needT] at h
    cases hx : needT x with
    | none => rw [hx] at h; cases h
    | some s =>
      cases hy : needT y with
      | none => rw [hx, hy] at h; cases h
      | some t =>
        cases hz : needT z with
        | none => rw [hx, hy, hz] at h; cases h
        | some u =>
          rw [hx, hy, hz] at h
          simp only [Option.bind_some] at h
          cases h
          exact hor _ u v (fun v => hor s t v (ihx s hR.2.2.1 hx) (ihy t hR.2.2.2.1 hy)) (ihz u hR.2.2.2.2.1 hz)

end Go.Proofs.YtdmogjhabladcaaGreat.Vm1

/- Values that fit, from a node to its parts: as plain data. -/
namespace Go.Proofs.YtdmogjhabladcaaGreat.Vm2
open Nd0 Pl1 Pl2 Tm0 Tm1 Tm3 Tm5 Tm6 Tm8 Tm11 Tm13 Tm14 Tr0 Vl1 Vl2 Vm0 Vm1
set_option linter.unusedVariables false

/-- The variables' values e are words of the widths that place i wants. -/
def FitN (l : List Nd) (i : Nat) (e : List Int) : Prop := ∃ r, needT (tr l i) = some r ∧ Fits r e
theorem FitN.part {l : List Nd} (hD : Down l) {i : Nat} (hi : i < l.length) {e : List Int} (h : FitN l i e) (hq : quant (nth l i).op = false) {p : Int} (hp : p ∈ parts (nth l i)) : FitN l p.toNat e := by
  obtain ⟨r, hr, hF⟩ := h
  rw [tr_at hD hi] at hr
  generalize nth l i = n at hp hq hr
  have hq2 : ¬ n.op = 19 ∧ ¬ n.op = 20 := by simpa [quant] using hq
  by_cases h1 : n.op = 2 ∨ n.op = 17 ∨ n.op = 19 ∨ n.op = 20
  · rw [mk_one h1] at hr
    rw [parts_one h1] at hp
    simp only [List.mem_cons, List.not_mem_nil, or_false] at hp
    subst hp
    simp only [needT] at hr
    cases hn : needT (tr l n.a.toNat) with
    | none => rw [hn] at hr; cases hr
    | some s =>
      rw [hn] at hr
      simp only [Option.bind_some, hq, Bool.false_eq_true, if_false] at hr
      cases hr
      exact ⟨_, hn, hF⟩
  · by_cases h2 : 3 ≤ n.op ∧ n.op ≤ 16
    · rw [mk_two h2] at hr
      rw [parts_two h2] at hp
      simp only [List.mem_cons, List.not_mem_nil, or_false] at hp
      simp only [needT] at hr
      cases hx : needT (tr l n.a.toNat) with
      | none => rw [hx] at hr; cases hr
      | some s =>
        cases hy : needT (tr l n.b.toNat) with
        | none => rw [hx, hy] at hr; cases hr
        | some t =>
          rw [hx, hy] at hr
          simp only [Option.bind_some] at hr
          cases hr
          rcases hp with rfl | rfl
          · exact ⟨s, hx, hF.left⟩
          · exact ⟨t, hy, hF.right⟩
    · by_cases h3 : n.op = 18
      · rw [mk_three h3] at hr
        rw [parts_three h3] at hp
        simp only [List.mem_cons, List.not_mem_nil, or_false] at hp
        simp only [needT] at hr
        cases hx : needT (tr l n.a.toNat) with
        | none => rw [hx] at hr; cases hr
        | some s =>
          cases hy : needT (tr l n.b.toNat) with
          | none => rw [hx, hy] at hr; cases hr
          | some t =>
            cases hz : needT (tr l n.c.toNat) with
            | none => rw [hx, hy, hz] at hr; cases hr
            | some u =>
              rw [hx, hy, hz] at hr
              simp only [Option.bind_some] at hr
              cases hr
              rcases hp with rfl | rfl | rfl
              · exact ⟨s, hx, hF.left.left⟩
              · exact ⟨t, hy, hF.left.right⟩
              · exact ⟨u, hz, hF.right⟩
      · rw [parts_none h1 h2 h3] at hp
        cases hp
theorem FitN.below {l : List Nd} (hD : Down l) {i : Nat} (hi : i < l.length) (hN : nodeOk l i = true) {e : List Int} (he : e.length = 8) (h : FitN l i e) (hq : quant (nth l i).op = true) {k : Nat} (hk : k < 2 ^ (nth l i).b.toNat) : FitN l (nth l i).a.toNat (e.set (nth l i).k.toNat (k : Int)) := by
  obtain ⟨r, hr, hF⟩ := h
  have hkk := shape_var hN (.inr hq)
  have hbb := quant_b hN hq
  rw [tr_at hD hi] at hr
  generalize nth l i = n at hq hr hkk hbb hk
  have hq2 : n.op = 19 ∨ n.op = 20 := by simpa [quant] using hq
  rw [mk_one (by omega)] at hr
  simp only [needT] at hr
  cases hn : needT (tr l n.a.toNat) with
  | none => rw [hn] at hr; cases hr
  | some s =>
    rw [hn] at hr
    simp only [Option.bind_some, hq, if_true] at hr
    by_cases hc : s.getD n.k.toNat 0 ≠ 0 ∧ s.getD n.k.toNat 0 ≠ 2 ^ n.b.toNat
    · rw [if_pos hc] at hr; cases hr
    · rw [if_neg hc] at hr
      cases hr
      exact ⟨s, hn, Fits.below (need_len _ _ hn) he hkk hbb hk hc hF⟩
theorem FitN.word {l : List Nd} (hT : termOk l = true) {i : Nat} (hi : i < l.length) {e : List Int} (he : e.length = 8) (h : FitN l i e) : wok (nth l i).w (vT (tr l i) e) = true := by
  obtain ⟨r, hr, hF⟩ := h
  have h2 := rt_all (down_of hT) (fun k hk => term_node hT hk) i hi
  have := value_word _ r e h2.1 hr he hF
  rw [h2.2] at this
  exact this
/-- Whether a quantifier's part is worth x at one word at least. -/
def hitB (l : List Nd) (e : List Int) (n : Nd) (x : Int) : Bool := (List.range (2 ^ n.b.toNat)).any fun (k : Nat) => vT (tr l n.a.toNat) (e.set n.k.toNat (k : Int)) == x
theorem hit_iff {l : List Nd} {e : List Int} {n : Nd} {x : Int} : hitB l e n x = true ↔ ∃ k : Nat, k < 2 ^ n.b.toNat ∧ vT (tr l n.a.toNat) (e.set n.k.toNat (k : Int)) = x := by
  unfold hitB
  rw [List.any_eq_true]
  constructor
  · rintro ⟨k, h1, h2⟩; exact ⟨k, List.mem_range.1 h1, by simpa using h2⟩
  · rintro ⟨k, h1, h2⟩; exact ⟨k, List.mem_range.2 h1, by simpa using h2⟩
/-- A quantifier is worth what its part comes to. -/
theorem vT_hit {l : List Nd} (hT : termOk l = true) {i : Nat} (hi : i < l.length) {e : List Int} (he : e.length = 8) (h : FitN l i e) (hq : quant (nth l i).op = true) :
    vT (tr l i) e = if (nth l i).op = 19 then (if (!hitB l e (nth l i) 0) then 1 else 0) else (if hitB l e (nth l i) 1 then 1 else 0) := by
  have hD := down_of hT
  have hq2 : (nth l i).op = 19 ∨ (nth l i).op = 20 := by simpa [quant] using hq
  have haa := hD i hi (nth l i).a (by rw [parts_one (by omega)]; simp)
  have hw1 : (nth l (nth l i).a.toNat).w = 1 := by
    have h2 := (rt_all hD (fun k hk => term_node hT hk) i hi).1
    rw [tr_at hD hi, mk_one (by omega)] at h2
    have h3 := h2.2.2.2
    have h4 := (rt_all hD (fun k hk => term_node hT hk) (nth l i).a.toNat (by omega)).2
    rcases h3 with h5 | h5 | h5
    · omega
    · omega
    · rw [← h4]; exact h5.2.1
  have hbit : ∀ k : Nat, k < 2 ^ (nth l i).b.toNat → vT (tr l (nth l i).a.toNat) (e.set (nth l i).k.toNat (k : Int)) = 0 ∨ vT (tr l (nth l i).a.toNat) (e.set (nth l i).k.toNat (k : Int)) = 1 := fun k hk => by
    have h2 := FitN.word hT (by omega) (by rw [List.length_set]; exact he) (h.below hD hi (term_node hT hi) he hq hk)
    rw [hw1] at h2
    have h3 := wok_iff.1 h2
    have h4 : p2 (1 : Int).toNat = 2 := rfl
    rw [h4] at h3
    omega
  rw [vT_quant hD hi e hq]
  by_cases h19 : (nth l i).op = 19
  · rw [if_pos h19, if_pos h19]
    cases hh : hitB l e (nth l i) 0
    · simp only [Bool.not_false, if_true]
      refine allN_one.2 (fun k hk => ?_)
      rcases hbit k hk with h5 | h5
      · rw [hit_iff.2 ⟨k, hk, h5⟩] at hh; cases hh
      · exact h5
    · obtain ⟨k, hk, h5⟩ := hit_iff.1 hh
      simp only [Bool.not_true, Bool.false_eq_true, if_false]
      rcases allN_bit (fun i_1 => vT (tr l (nth l i).a.toNat) (e.set (nth l i).k.toNat (i_1 : Int))) (2 ^ (nth l i).b.toNat) with h6 | h6
      · exact h6
      · have h7 := allN_one.1 h6 k hk
        rw [h5] at h7; cases h7
  · rw [if_neg h19, if_neg h19]
    cases hh : hitB l e (nth l i) 1
    · simp only [Bool.false_eq_true, if_false]
      rcases anyN_bit (fun i_1 => vT (tr l (nth l i).a.toNat) (e.set (nth l i).k.toNat (i_1 : Int))) (2 ^ (nth l i).b.toNat) with h6 | h6
      · exact h6
      · rw [hit_iff.2 (anyN_one.1 h6)] at hh; cases hh
    · simp only [if_true]
      exact anyN_one.2 (hit_iff.1 hh)

end Go.Proofs.YtdmogjhabladcaaGreat.Vm2

/- Bits of small numbers. -/
namespace Go.Proofs.YtdmogjhabladcaaGreat.Bt0
open Go.RowKit
open Pl1 Vl1 Vl2
set_option linter.unusedVariables false

theorem nat8 {a : Int} (h : 0 ≤ a ∧ a ≤ 255) : ∃ m : Nat, a = (m : Int) ∧ m < 2 ^ 8 := ⟨a.toNat, by omega, by omega⟩
theorem wrap8 {m : Nat} (h : m < 2 ^ 8) : IntKind.i64.wrap (m : Int) = (m : Int) := by rw [IntKind.wrap_i64]; omega
theorem mod64 {m : Nat} (h : m < 2 ^ 8) : m % 2 ^ 64 = m := Nat.mod_eq_of_lt (by omega)
theorem band {a b : Int} (ha : 0 ≤ a ∧ a ≤ 255) (hb : 0 ≤ b ∧ b ≤ 255) : bits .and .i64 a b = nAnd a b := by
  obtain ⟨m, rfl, hm⟩ := nat8 ha
  obtain ⟨n, rfl, hn⟩ := nat8 hb
  have e : bits .and .i64 (m : Int) (n : Int) = IntKind.i64.wrap ((BitVec.ofInt 64 (m : Int) &&& BitVec.ofInt 64 (n : Int)).toNat : Int) := rfl
  rw [e, BitVec.toNat_and, BitVec.ofInt_natCast, BitVec.ofInt_natCast, BitVec.toNat_ofNat, BitVec.toNat_ofNat, mod64 hm, mod64 hn, wrap8 (Nat.and_lt_two_pow _ hn)]
  rfl
theorem bor {a b : Int} (ha : 0 ≤ a ∧ a ≤ 255) (hb : 0 ≤ b ∧ b ≤ 255) : bits .or .i64 a b = nOr a b := by
  obtain ⟨m, rfl, hm⟩ := nat8 ha
  obtain ⟨n, rfl, hn⟩ := nat8 hb
  have e : bits .or .i64 (m : Int) (n : Int) = IntKind.i64.wrap ((BitVec.ofInt 64 (m : Int) ||| BitVec.ofInt 64 (n : Int)).toNat : Int) := rfl
  rw [e, BitVec.toNat_or, BitVec.ofInt_natCast, BitVec.ofInt_natCast, BitVec.toNat_ofNat, BitVec.toNat_ofNat, mod64 hm, mod64 hn, wrap8 (Nat.or_lt_two_pow hm hn)]
  rfl
theorem bxor {a b : Int} (ha : 0 ≤ a ∧ a ≤ 255) (hb : 0 ≤ b ∧ b ≤ 255) : bits .xor .i64 a b = nXor a b := by
  obtain ⟨m, rfl, hm⟩ := nat8 ha
  obtain ⟨n, rfl, hn⟩ := nat8 hb
  have e : bits .xor .i64 (m : Int) (n : Int) = IntKind.i64.wrap ((BitVec.ofInt 64 (m : Int) ^^^ BitVec.ofInt 64 (n : Int)).toNat : Int) := rfl
  rw [e, BitVec.toNat_xor, BitVec.ofInt_natCast, BitVec.ofInt_natCast, BitVec.toNat_ofNat, BitVec.toNat_ofNat, mod64 hm, mod64 hn, wrap8 (Nat.xor_lt_two_pow hm hn)]
  rfl
theorem bor16 {m n : Nat} (hm : m < 2 ^ 9) (hn : n < 2 ^ 9) : bits .or .i64 (m : Int) (n : Int) = ((m ||| n : Nat) : Int) := by
  have e : bits .or .i64 (m : Int) (n : Int) = IntKind.i64.wrap ((BitVec.ofInt 64 (m : Int) ||| BitVec.ofInt 64 (n : Int)).toNat : Int) := rfl
  have h := Nat.or_lt_two_pow hm hn
  rw [e, BitVec.toNat_or, BitVec.ofInt_natCast, BitVec.ofInt_natCast, BitVec.toNat_ofNat, BitVec.toNat_ofNat, Nat.mod_eq_of_lt (by omega), Nat.mod_eq_of_lt (by omega), IntKind.wrap_i64]
  omega

end Go.Proofs.YtdmogjhabladcaaGreat.Bt0

/- A term's canonical form is worth what it is worth. -/
namespace Go.Proofs.YtdmogjhabladcaaGreat.Vl3
open Nd0 Pl1 Pl2 Tm0 Tm1 Tm3 Tm5 Tm8 Tm11 Tm13 Tm14 Tx0 Tx2 Tx3 Tx4 Tr0 Vl1 Vl2
set_option linter.unusedVariables false

theorem remap_reparts (l : List Nd) (n : Nd) : remap l n = reparts n ((parts n).map fun q => (plc l q).toNat) := by
  have hp : ∀ q, ((plc l q).toNat : Int) = plc l q := fun q => by unfold plc; omega
  by_cases h1 : n.op = 2 ∨ n.op = 17 ∨ n.op = 19 ∨ n.op = 20
  · unfold remap reparts; rw [parts_one h1]; simp [hp]
  · by_cases h2 : 3 ≤ n.op ∧ n.op ≤ 16
    · unfold remap reparts; rw [parts_two h2]; simp [hp]
    · by_cases h3 : n.op = 18
      · unfold remap reparts; rw [parts_three h3]; simp [hp]
      · unfold remap reparts; rw [parts_none h1 h2 h3]; simp
theorem X_prune {l : List Nd} (hT : termOk l = true) : ∀ x, x < l.length → flag (reachL l) x = true → X (pruneL l) (pl l x) = X l x := by
  intro x
  induction x using Nat.strongRecOn with
  | ind x ih =>
    intro hx hf
    have hD := down_of hT
    have hDp := down_of (prune_term hT)
    refine X_same hD hDp hx (pl_lt hT hx hf) (is := (parts (nth l x)).map fun q => (plc l q).toNat) (by simp) (by rw [prune_nth hT hx hf]; exact remap_reparts l _) ?_
    rw [List.map_map]
    apply List.map_congr_left
    intro p hp
    have h1 := hD x hx p hp
    have h2 := reach_closed hD hx hf hp
    have h3 := ih p.toNat (by omega) (by omega) h2
    have h4 := plc_pl l p.toNat
    rw [Int.toNat_of_nonneg h1.1] at h4
    simp only [Function.comp]
    rw [h4, Int.toNat_natCast]
    exact h3
theorem show_prune {l : List Nd} (hT : termOk l = true) : showL (pruneL l) = showL l := by
  rw [show_X (prune_term hT), show_X hT, ← (prune_root hT).1]
  exact X_prune hT _ (by have := term_len hT; omega) (reach_root (by have := term_len hT; omega))

theorem sum_erase {α : Type} [DecidableEq α] (f : α → Int) {x : α} : ∀ (b : List α), x ∈ b → (b.map f).sum = f x + ((b.erase x).map f).sum := by
  intro b
  induction b with
  | nil => intro h; cases h
  | cons y b ih =>
    intro h
    by_cases e : y = x
    · subst e
      rw [List.erase_cons_head]
      simp
    · have hx : x ∈ b := by
        rcases List.mem_cons.1 h with e' | e'
        · exact absurd e'.symm e
        · exact e'
      rw [List.erase_cons_tail (by simpa using e)]
      simp only [List.map_cons, List.sum_cons]
      rw [ih hx]
      omega
theorem sum_le_of_inj {α : Type} [DecidableEq α] (f : α → Int) : ∀ (a b : List α), a.Nodup → (∀ x ∈ a, x ∈ b) → (∀ x ∈ b, 0 ≤ f x) → (a.map f).sum ≤ (b.map f).sum := by
  intro a
  induction a with
  | nil =>
    intro b _ _ h0
    induction b with
    | nil => exact Int.le_refl _
    | cons y b ihb =>
      have h1 := h0 y (by simp)
      have h2 := ihb (by simp) (fun x hx => h0 x (by simp [hx]))
      simp only [List.map_nil, List.sum_nil, List.map_cons, List.sum_cons] at h2 ⊢
      omega
  | cons x a ih =>
    intro b hn hs h0
    have hx : x ∈ b := hs x (by simp)
    have hn' := List.nodup_cons.1 hn
    have h1 := ih (b.erase x) hn'.2 (fun y hy => by
      have hne : y ≠ x := by intro e; subst e; exact hn'.1 hy
      exact (List.mem_erase_of_ne hne).2 (hs y (by simp [hy]))) (fun y hy => h0 y (List.mem_of_mem_erase hy))
    have h2 := sum_erase f b hx
    rw [h2]
    simp only [List.map_cons, List.sum_cons]
    omega
/-- The bits of a tree's own quantifier. -/
def bT : Tr → Int
  | .one op _ _ b _ => if quant op then b else 0
  | _ => 0
theorem bT_at {l : List Nd} (hD : Down l) {i : Nat} (hi : i < l.length) : bT (tr l i) = if quant (nth l i).op then (nth l i).b else 0 := by
  rw [tr_at hD hi]
  generalize nth l i = n
  by_cases h1 : n.op = 2 ∨ n.op = 17 ∨ n.op = 19 ∨ n.op = 20
  · rw [mk_one h1]; rfl
  · have hq : quant n.op = false := by
      unfold quant
      simp only [Bool.or_eq_false_iff, beq_eq_false_iff_ne]
      exact ⟨fun e => h1 (by omega), fun e => h1 (by omega)⟩
    rw [hq]
    by_cases h2 : 3 ≤ n.op ∧ n.op ≤ 16
    · rw [mk_two h2]; rfl
    · by_cases h3 : n.op = 18
      · rw [mk_three h3]; rfl
      · rw [mk_leaf h1 h2 h3]; rfl
theorem bT_pos {x : Tr} (h : Rt x) : 0 ≤ bT x := by
  cases x with
  | one op w k b x =>
    obtain ⟨_, _, _, h⟩ := h
    show 0 ≤ if quant op then b else 0
    split
    · rename_i hq
      rcases h with ⟨rfl, _⟩ | ⟨rfl, _⟩ | ⟨_, _, _, _, _, h, _⟩
      · cases hq
      · cases hq
      · omega
    · exact Int.le_refl _
  | leaf _ _ _ => exact Int.le_refl _
  | two _ _ _ _ => exact Int.le_refl _
  | three _ _ _ _ _ => exact Int.le_refl _
theorem bits_le {l : List Nd} (hT : termOk l = true) : ∀ k, k ≤ l.length → bitsTo l k ≤ ((List.range k).map fun i => bT (tr l i)).sum := by
  intro k
  induction k with
  | zero => intro _; exact Int.le_refl _
  | succ k ih =>
    intro hk
    have h1 := ih (by omega)
    have h2 := bT_pos (rt_all (down_of hT) (fun k hk => term_node hT hk) k (by omega)).1
    have h3 := bT_at (down_of hT) (i := k) (by omega)
    rw [List.range_succ, List.map_append, List.sum_append]
    simp only [bitsTo, List.map_cons, List.map_nil, List.sum_cons, List.sum_nil]
    cases hf : flag (reachL l) k
    · simp only [Bool.false_and, Bool.false_eq_true, if_false]; omega
    · simp only [Bool.true_and]
      rw [h3] at h2 ⊢
      split
      · omega
      · omega
theorem bits_all {l : List Nd} (hT : termOk l = true) (hR : ∀ j, j < l.length → flag (reachL l) j = true) : ∀ k, k ≤ l.length → bitsTo l k = ((List.range k).map fun i => bT (tr l i)).sum := by
  intro k
  induction k with
  | zero => intro _; rfl
  | succ k ih =>
    intro hk
    have h1 := ih (by omega)
    have h3 := bT_at (down_of hT) (i := k) (by omega)
    rw [List.range_succ, List.map_append, List.sum_append]
    simp only [bitsTo, List.map_cons, List.map_nil, List.sum_cons, List.sum_nil]
    rw [hR k (by omega), h3, ← h1]
    simp only [Bool.true_and]
    split <;> omega
/-- A list read of a term's text has no more bits. -/
theorem bits_emb {p u : List Nd} (hP : termOk p = true) (hR : ∀ j, j < p.length → flag (reachL p) j = true) (hU : termOk u = true) (hG : Neat u) (hE : Emb p u) : bitsTo u u.length ≤ bitsTo p p.length := by
  classical
  rw [bits_all hP hR p.length (Nat.le_refl _)]
  refine Int.le_trans (bits_le hU u.length (Nat.le_refl _)) ?_
  have h := sum_le_of_inj (α := List UInt8 × Tr) (fun x => bT x.2) ((List.range u.length).map fun j => (X u j, tr u j)) ((List.range p.length).map fun i => (X p i, tr p i)) (by
    rw [List.nodup_iff_pairwise_ne, List.pairwise_map]
    refine List.Pairwise.imp_of_mem ?_ (List.nodup_range (n := u.length))
    intro a b ha hb hab e
    exact hab (text_inj hG (List.mem_range.1 ha) (List.mem_range.1 hb) (hE a (List.mem_range.1 ha)).1 (congrArg Prod.fst e))) (by
    intro x hx
    obtain ⟨j, hj, rfl⟩ := List.mem_map.1 hx
    obtain ⟨i, hi, e1, e2⟩ := (hE j (List.mem_range.1 hj)).2
    exact List.mem_map.2 ⟨i, List.mem_range.2 hi, by rw [e1, e2]⟩) (by
    intro x hx
    obtain ⟨i, hi, rfl⟩ := List.mem_map.1 hx
    exact bT_pos (rt_all (down_of hP) (fun k hk => term_node hP hk) i (List.mem_range.1 hi)).1)
  rw [List.map_map, List.map_map] at h
  exact h
theorem value_parts {l : List Nd} {e : List Int} {x : Int} : valueL l e = some x ↔ termOk l = true ∧ e.length = 8 ∧ bitsTo l l.length ≤ 12 ∧ fitT (root l) e = true ∧ vT (root l) e = x := by
  unfold valueL
  split
  · rename_i hc
    simp only [Bool.and_eq_true, decide_eq_true_eq] at hc
    constructor
    · intro h; cases h; exact ⟨hc.1.1.1, hc.1.1.2, hc.1.2, hc.2, rfl⟩
    · intro h; rw [h.2.2.2.2]
  · rename_i hc
    simp only [Bool.and_eq_true, decide_eq_true_eq] at hc
    constructor
    · intro h; cases h
    · intro h; exact absurd ⟨⟨⟨h.1, h.2.1⟩, h.2.2.1⟩, h.2.2.2.1⟩ hc
/-- A term's canonical form is worth what it is worth. -/
theorem value_canon {l : List Nd} {e : List Int} {x : Int} (h : valueL l e = some x) (hc : canonL l ≠ []) : valueL (canonL l) e = some x := by
  obtain ⟨hT, he, hb, hf, hv⟩ := value_parts.1 h
  have hS : showL l ≠ [] := by
    intro e0
    refine hc ?_
    unfold canonL
    rw [if_pos (by rw [e0]; rfl)]
  have hP := prune_term hT
  have hSp : showL (pruneL l) ≠ [] := by rw [show_prune hT]; exact hS
  obtain ⟨u, h1, h2, h3, hG, hE, hr⟩ := canon_tree hP hSp
  have hu : canonL l = u := by
    unfold canonL
    rw [if_neg (fun e0 => hS (List.eq_nil_of_length_eq_zero e0)), ← show_prune hT, h1]
  have hroot : root u = root l := by
    rw [← root_prune hT]; exact hr
  rw [hu]
  refine value_parts.2 ⟨h2, he, ?_, by rw [hroot]; exact hf, by rw [hroot]; exact hv⟩
  have hb1 := bits_emb hP (fun j hj => prune_reach hT hj) h2 hG hE
  have hb2 : bitsTo (pruneL l) (pruneL l).length = bitsTo l l.length := by
    rw [prune_len hT]; exact bits_pl hT l.length (Nat.le_refl _)
  omega

end Go.Proofs.YtdmogjhabladcaaGreat.Vl3

/- A node put on a term; a variable told by a number: what that is worth. -/
namespace Go.Proofs.YtdmogjhabladcaaGreat.Vl4
open Nd0 Pl1 Pl2 Tm0 Tm1 Tm3 Tm5 Tm8 Tm11 Tm12 Tm13 Tm14 Tx2 Tr0 Vl1 Vl2 Vl3
set_option linter.unusedVariables false

section
variable {t : List Nd} {q : Nd} (hT : termOk t = true) (hQ : termOk (t ++ [q]) = true) (hp : parts q = [(t.length : Int) - 1])
include hT hQ hp

theorem flag_more : ∀ d i, t.length = i + 1 + d → flag (reachL t) i = true → flag (reachL (t ++ [q])) i = true := by
  intro d
  induction d using Nat.strongRecOn with
  | ind d ih =>
    intro i hi hf
    have hl := term_len hT
    have hDq := down_of hQ
    rcases reach_why (down_of hT) (i := i) (by omega) hf with e | ⟨j, h1, h2, h3, h4⟩
    · have hr : flag (reachL (t ++ [q])) t.length = true := by
        have := reach_root (l := t ++ [q]) (by simp)
        simpa using this
      have := reach_closed hDq (i := t.length) (by simp) hr (p := (t.length : Int) - 1) (by rw [nth_app_last, hp]; simp)
      rw [show ((t.length : Int) - 1).toNat = i by omega] at this
      exact this
    · have := reach_closed hDq (i := j) (by simp; omega) (ih (t.length - (j + 1)) (by omega) j (by omega) h3) (p := (i : Int)) (by rw [nth_app_left h2]; exact h4)
      rw [Int.toNat_natCast] at this
      exact this
theorem flag_less : ∀ d i, t.length = i + 1 + d → flag (reachL (t ++ [q])) i = true → flag (reachL t) i = true := by
  intro d
  induction d using Nat.strongRecOn with
  | ind d ih =>
    intro i hi hf
    have hl := term_len hT
    rcases reach_why (down_of hQ) (i := i) (by simp; omega) hf with e | ⟨j, h1, h2, h3, h4⟩
    · simp at e; omega
    · simp only [List.length_append, List.length_cons, List.length_nil] at h2
      by_cases hj : j < t.length
      · rw [nth_app_left hj] at h4
        have := reach_closed (down_of hT) (i := j) hj (ih (t.length - (j + 1)) (by omega) j (by omega) h3) (p := (i : Int)) h4
        rw [Int.toNat_natCast] at this
        exact this
      · have e : j = t.length := by omega
        subst e
        rw [nth_app_last, hp] at h4
        have e2 : (i : Int) = (t.length : Int) - 1 := by simpa using h4
        have e3 : i = t.length - 1 := by omega
        rw [e3]
        exact reach_root (by omega)
theorem flag_snoc {i : Nat} (hi : i < t.length) : flag (reachL (t ++ [q])) i = flag (reachL t) i := by
  cases h : flag (reachL t) i
  · cases h2 : flag (reachL (t ++ [q])) i
    · rfl
    · rw [flag_less hT hQ hp (t.length - (i + 1)) i (by omega) h2] at h; cases h
  · exact flag_more hT hQ hp (t.length - (i + 1)) i (by omega) h
theorem bits_to : ∀ k, k ≤ t.length → bitsTo (t ++ [q]) k = bitsTo t k := by
  intro k
  induction k with
  | zero => intro _; rfl
  | succ k ih =>
    intro hk
    simp only [bitsTo]
    rw [ih (by omega), flag_snoc hT hQ hp (by omega), nth_app_left (by omega)]
theorem bits_snoc : bitsTo (t ++ [q]) (t ++ [q]).length = bitsTo t t.length + (if quant q.op then q.b else 0) := by
  have hr : flag (reachL (t ++ [q])) t.length = true := by
    have := reach_root (l := t ++ [q]) (by simp)
    simpa using this
  rw [List.length_append]
  show bitsTo (t ++ [q]) (t.length + 1) = _
  simp only [bitsTo]
  rw [hr, nth_app_last, bits_to hT hQ hp t.length (Nat.le_refl _)]
  simp only [Bool.true_and]
  split <;> omega
theorem root_snoc (h1 : q.op = 2 ∨ q.op = 17 ∨ q.op = 19 ∨ q.op = 20) : root (t ++ [q]) = .one q.op q.w q.k q.b (root t) := by
  have hl := term_len hT
  have ha : q.a = (t.length : Int) - 1 := by
    rw [parts_one h1] at hp
    simpa using hp
  unfold root
  have e : (t ++ [q]).length - 1 = t.length := by simp
  rw [e, tr_at (down_of hQ) (by simp), nth_app_last, mk_one h1, ha, show ((t.length : Int) - 1).toNat = t.length - 1 by omega, tr_app t [q] (by omega)]
end

theorem fit_one {op w k b : Int} {x : Tr} {e : List Int} (hq : quant op = true) : fitT (.one op w k b x) e = true ↔ ∃ r, needT x = some r ∧ ¬ (r.getD k.toNat 0 ≠ 0 ∧ r.getD k.toNat 0 ≠ 2 ^ b.toNat) ∧ Fits (r.set k.toNat 0) e := by
  unfold fitT
  simp only [needT]
  cases hn : needT x with
  | none => simp
  | some r =>
    simp only [Option.bind_some, hq, if_true]
    by_cases hc : r.getD k.toNat 0 ≠ 0 ∧ r.getD k.toNat 0 ≠ 2 ^ b.toNat
    · rw [if_pos hc]
      constructor
      · intro h; cases h
      · rintro ⟨r', h1, h2, _⟩; cases h1; exact absurd hc h2
    · rw [if_neg hc]
      constructor
      · intro h; exact ⟨r, rfl, hc, fit_iff.1 h⟩
      · rintro ⟨r', h1, _, h3⟩; cases h1; exact fit_iff.2 h3
/-- A quantifier put on a formula: each value put in has a value, and the whole is worth 1 just when all are, or one is. -/
theorem value_quant {t : List Nd} {e : List Int} {op v w x : Int} (hT : termOk t = true) (hw : (nth t (t.length - 1)).w = 1) (hl : t.length < 80) (hop : op = 19 ∨ op = 20) (hv : 0 ≤ v ∧ v ≤ 7) (hb : 1 ≤ w ∧ w ≤ 8)
    (h : valueL (t ++ [⟨op, 1, v, (t.length : Int) - 1, w, 0⟩]) e = some x) :
    (∀ k : Nat, k < 2 ^ w.toNat → valueL t (e.set v.toNat (k : Int)) = some (vT (root t) (e.set v.toNat (k : Int)))) ∧ vT (.one op 1 v w (root t)) e = x := by
  have hQ := termOk_quant hT hw hl hop hv hb
  have hp : parts (⟨op, 1, v, (t.length : Int) - 1, w, 0⟩ : Nd) = [(t.length : Int) - 1] := parts_one (by rcases hop with e | e <;> simp [e])
  have hq : quant op = true := by rcases hop with rfl | rfl <;> rfl
  obtain ⟨_, he, hbt, hf, hx⟩ := value_parts.1 h
  rw [root_snoc hT hQ hp (by rcases hop with e | e <;> simp [e])] at hf hx
  rw [bits_snoc hT hQ hp] at hbt
  simp only [hq, if_true] at hbt
  obtain ⟨r, hr, hc, hF⟩ := (fit_one hq).1 hf
  refine ⟨fun k hk => value_parts.2 ⟨hT, by rw [List.length_set]; exact he, by omega, ?_, rfl⟩, hx⟩
  unfold fitT
  rw [hr]
  exact fit_iff.2 (Fits.below (need_len _ _ hr) he hv hb hk hc hF)
theorem quant_can {t : List Nd} {e : List Int} {v w : Int} (hT : termOk t = true) (hw : (nth t (t.length - 1)).w = 1) (hl : t.length < 80) (hv : 0 ≤ v ∧ v ≤ 7) (hb : 1 ≤ w ∧ w ≤ 8) {op op' : Int} (ho : op = 19 ∨ op = 20) (ho' : op' = 19 ∨ op' = 20)
    (h : (valueL (t ++ [⟨op, 1, v, (t.length : Int) - 1, w, 0⟩]) e).isSome = true) : (valueL (t ++ [⟨op', 1, v, (t.length : Int) - 1, w, 0⟩]) e).isSome = true := by
  obtain ⟨x, h⟩ := Option.isSome_iff_exists.1 h
  have hQ := termOk_quant hT hw hl ho hv hb
  have hQ' := termOk_quant hT hw hl ho' hv hb
  have hp : parts (⟨op, 1, v, (t.length : Int) - 1, w, 0⟩ : Nd) = [(t.length : Int) - 1] := parts_one (by rcases ho with e | e <;> simp [e])
  have hp' : parts (⟨op', 1, v, (t.length : Int) - 1, w, 0⟩ : Nd) = [(t.length : Int) - 1] := parts_one (by rcases ho' with e | e <;> simp [e])
  have hq : quant op = true := by rcases ho with rfl | rfl <;> rfl
  have hq' : quant op' = true := by rcases ho' with rfl | rfl <;> rfl
  obtain ⟨_, he, hbt, hf, hx⟩ := value_parts.1 h
  rw [root_snoc hT hQ hp (by rcases ho with e | e <;> simp [e])] at hf
  rw [bits_snoc hT hQ hp] at hbt
  simp only [hq, if_true] at hbt
  refine Option.isSome_iff_exists.2 ⟨_, value_parts.2 ⟨hQ', he, ?_, ?_, rfl⟩⟩
  · rw [bits_snoc hT hQ' hp']
    simp only [hq', if_true]
    exact hbt
  · rw [root_snoc hT hQ' hp' (by rcases ho' with e | e <;> simp [e])]
    exact (fit_one hq').2 ((fit_one hq).1 hf)

/-- A variable told by a number. -/
def badR (v k : Int) (n : Nd) : Bool := (quant n.op && n.k == v) || (n.op == 1 && n.k == v && !wok n.w k)
def replN (v k : Int) (n : Nd) : Nd := if n.op = 1 ∧ n.k = v then ⟨0, n.w, k, n.a, n.b, n.c⟩ else n
def replL (t : List Nd) (v k : Int) : Option (List Nd) := if termOk t && !t.any (badR v k) then some (t.map (replN v k)) else none
def subT (v k : Int) : Tr → Tr
  | .leaf op w x => if op = 1 ∧ x = v then .leaf 0 w k else .leaf op w x
  | .one op w x b y => .one op w x b (subT v k y)
  | .two op w x y => .two op w (subT v k x) (subT v k y)
  | .three op w x y z => .three op w (subT v k x) (subT v k y) (subT v k z)
theorem sub_wid (v k : Int) (x : Tr) : (subT v k x).wid = x.wid := by
  cases x with
  | leaf op w y => unfold subT; split <;> rfl
  | one => rfl
  | two => rfl
  | three => rfl
/-- No quantifier of v is in it. -/
def NoQ (v : Int) : Tr → Prop
  | .leaf _ _ _ => True
  | .one op _ x _ y => ¬ (quant op = true ∧ x = v) ∧ NoQ v y
  | .two _ _ x y => NoQ v x ∧ NoQ v y
  | .three _ _ x y z => NoQ v x ∧ NoQ v y ∧ NoQ v z
theorem sub_value {v k : Int} (hv : 0 ≤ v ∧ v ≤ 7) : ∀ (x : Tr) (e : List Int), e.length = 8 → Rt x → NoQ v x → vT (subT v k x) e = vT x (e.set v.toNat k) := by
  intro x
  induction x with
  | leaf op w y =>
    intro e he hr _
    obtain ⟨h1, h8, h⟩ := hr
    by_cases hc : op = 1 ∧ y = v
    · obtain ⟨rfl, rfl⟩ := hc
      have e1 : subT y k (.leaf 1 w y) = .leaf 0 w k := if_pos ⟨rfl, rfl⟩
      rw [e1]
      simp only [vT]
      rw [if_neg (by decide), app_in ⟨h1, h8⟩ (by decide) (by decide) (by decide) (by decide)]
      simp only [if_true]
      rw [List.getD_eq_getElem?_getD, List.getElem?_set_self (by omega)]
      rfl
    · have e1 : subT v k (.leaf op w y) = .leaf op w y := if_neg hc
      rw [e1]
      simp only [vT]
      by_cases h1 : op = 1
      · rw [if_pos h1, if_pos h1, List.getD_eq_getElem?_getD, List.getD_eq_getElem?_getD, List.getElem?_set_ne]
        intro e2
        refine hc ⟨h1, ?_⟩
        rcases h with ⟨rfl, _⟩ | ⟨_, a, b⟩
        · cases h1
        · omega
      · rw [if_neg h1, if_neg h1]
  | one op w y b x ih =>
    intro e he hr hn
    obtain ⟨hn1, hn2⟩ := hn
    obtain ⟨_, _, hx, h⟩ := hr
    have hstep : quant op = true → ∀ i : Nat, vT (subT v k x) (e.set y.toNat (i : Int)) = vT x ((e.set v.toNat k).set y.toNat (i : Int)) := fun hq i => by
      rw [ih _ (by rw [List.length_set]; exact he) hx hn2, List.set_comm]
      intro e2
      have hyv : ¬ y = v := fun e3 => hn1 ⟨hq, e3⟩
      rcases h with ⟨rfl, _⟩ | ⟨rfl, _⟩ | ⟨_, _, _, a, b, _⟩
      · cases hq
      · cases hq
      · omega
    show vT (.one op w y b (subT v k x)) e = _
    simp only [vT]
    by_cases h19 : op = 19
    · have hq : quant op = true := by rw [h19]; rfl
      rw [if_pos h19, if_pos h19]
      simp only [hstep hq]
    · rw [if_neg h19, if_neg h19]
      by_cases h20 : op = 20
      · have hq : quant op = true := by rw [h20]; rfl
        rw [if_pos h20, if_pos h20]
        simp only [hstep hq]
      · rw [if_neg h20, if_neg h20, sub_wid, ih e he hx hn2]
  | two op w x y ih1 ih2 =>
    intro e he hr hn
    obtain ⟨_, _, hx, hy, _⟩ := hr
    show vT (.two op w (subT v k x) (subT v k y)) e = _
    simp only [vT]
    rw [sub_wid, ih1 e he hx hn.1, ih2 e he hy hn.2]
  | three op w x y z ih1 ih2 ih3 =>
    intro e he hr hn
    obtain ⟨_, _, hx, hy, hz, _⟩ := hr
    show vT (.three op w (subT v k x) (subT v k y) (subT v k z)) e = _
    simp only [vT]
    rw [sub_wid, ih1 e he hx hn.1, ih2 e he hy hn.2.1, ih3 e he hz hn.2.2]
theorem repl_parts (v k : Int) (n : Nd) : parts (replN v k n) = parts n := by
  unfold replN
  split
  · rename_i h
    rw [parts_none (n := n) (by omega) (by omega) (by omega)]
    exact parts_none (by simp only; omega) (by simp only; omega) (by simp only; omega)
  · rfl
theorem repl_nth (t : List Nd) (v k : Int) {i : Nat} (hi : i < t.length) : nth (t.map (replN v k)) i = replN v k (nth t i) := by
  rw [← nth_get (l := t.map (replN v k)) (by simpa using hi), List.getElem_map, nth_get hi]
theorem repl_down {t : List Nd} (hD : Down t) (v k : Int) : Down (t.map (replN v k)) := by
  intro i hi p hp
  rw [List.length_map] at hi
  rw [repl_nth t v k hi, repl_parts] at hp
  exact hD i hi p hp
theorem tr_repl {t : List Nd} (hD : Down t) (v k : Int) : ∀ i, i < t.length → tr (t.map (replN v k)) i = subT v k (tr t i) := by
  intro i
  induction i using Nat.strongRecOn with
  | ind i ih =>
    intro hi
    rw [tr_at (repl_down hD v k) (by simpa using hi), tr_at hD hi, repl_nth t v k hi]
    have hp : ∀ p ∈ parts (nth t i), tr (t.map (replN v k)) p.toNat = subT v k (tr t p.toNat) := fun p hp => by
      have := hD i hi p hp
      exact ih p.toNat (by omega) (by omega)
    generalize nth t i = n at hp
    by_cases h1 : n.op = 2 ∨ n.op = 17 ∨ n.op = 19 ∨ n.op = 20
    · have e : replN v k n = n := if_neg (by omega)
      rw [parts_one h1] at hp
      rw [e, mk_one h1, mk_one h1, hp n.a (by simp)]
      rfl
    · by_cases h2 : 3 ≤ n.op ∧ n.op ≤ 16
      · have e : replN v k n = n := if_neg (by omega)
        rw [parts_two h2] at hp
        rw [e, mk_two h2, mk_two h2, hp n.a (by simp), hp n.b (by simp)]
        rfl
      · by_cases h3 : n.op = 18
        · have e : replN v k n = n := if_neg (by omega)
          rw [parts_three h3] at hp
          rw [e, mk_three h3, mk_three h3, hp n.a (by simp), hp n.b (by simp), hp n.c (by simp)]
          rfl
        · rw [mk_leaf (n := n) h1 h2 h3]
          by_cases hc : n.op = 1 ∧ n.k = v
          · have e : replN v k n = ⟨0, n.w, k, n.a, n.b, n.c⟩ := if_pos hc
            rw [e, mk_leaf (by simp only; omega) (by simp only; omega) (by simp only; omega)]
            exact (if_pos hc).symm
          · have e : replN v k n = n := if_neg hc
            rw [e, mk_leaf (n := n) h1 h2 h3]
            exact (if_neg hc).symm
theorem noQ_all {t : List Nd} (hD : Down t) {v k : Int} (h : t.any (badR v k) = false) : ∀ i, i < t.length → NoQ v (tr t i) := by
  intro i
  induction i using Nat.strongRecOn with
  | ind i ih =>
    intro hi
    have hb : badR v k (nth t i) = false := by
      rw [List.any_eq_false] at h
      have := h (nth t i) (by rw [← nth_get hi]; exact List.getElem_mem _)
      simpa using this
    rw [tr_at hD hi]
    have hp : ∀ p ∈ parts (nth t i), NoQ v (tr t p.toNat) := fun p hp => by
      have := hD i hi p hp
      exact ih p.toNat (by omega) (by omega)
    generalize nth t i = n at hp hb
    by_cases h1 : n.op = 2 ∨ n.op = 17 ∨ n.op = 19 ∨ n.op = 20
    · rw [parts_one h1] at hp
      rw [mk_one h1]
      refine ⟨fun hc => ?_, hp n.a (by simp)⟩
      unfold badR at hb
      rw [hc.1, hc.2] at hb
      simp at hb
    · by_cases h2 : 3 ≤ n.op ∧ n.op ≤ 16
      · rw [parts_two h2] at hp
        rw [mk_two h2]
        exact ⟨hp n.a (by simp), hp n.b (by simp)⟩
      · by_cases h3 : n.op = 18
        · rw [parts_three h3] at hp
          rw [mk_three h3]
          exact ⟨hp n.a (by simp), hp n.b (by simp), hp n.c (by simp)⟩
        · rw [mk_leaf h1 h2 h3]; trivial
/-- A variable told by a number is worth what it is worth where it has that value. -/
theorem value_repl {t u : List Nd} {v k : Int} {e : List Int} {a b : Int} (hv : 0 ≤ v ∧ v ≤ 7) (hu : replL t v k = some u) (ha : valueL t (e.set v.toNat k) = some a) (hb : valueL u e = some b) : a = b := by
  obtain ⟨hT, he, _, _, h1⟩ := value_parts.1 ha
  obtain ⟨_, he2, _, _, h2⟩ := value_parts.1 hb
  unfold replL at hu
  split at hu
  · rename_i hc
    simp only [Bool.and_eq_true, Bool.not_eq_true'] at hc
    cases hu
    have hl := term_len hT
    have hD := down_of hT
    unfold root at h1 h2
    rw [List.length_map, tr_repl hD v k _ (by omega)] at h2
    rw [sub_value hv _ e he2 (rt_all hD (fun k hk => term_node hT hk) _ (by omega)).1 (noQ_all hD hc.2 _ (by omega)), h1] at h2
    exact h2
  · cases hu

end Go.Proofs.YtdmogjhabladcaaGreat.Vl4

/- A sentence that is denied: it is a sentence, of the same bits, and worth the other one. -/
namespace Go.Proofs.YtdmogjhabladcaaGreat.Vl5
open Nd0 Pl1 Pl2 Tm0 Tm1 Tm2 Tm3 Tm4 Tm5 Tm6 Tm7 Tm8 Tm9 Tm10 Tm11 Tm12 Tm13 Tm14 Tr0 Vl1 Vl2 Vl3 Vl4
set_option linter.unusedVariables false

/-- The node that denies the root of t. -/
def notN (t : List Nd) : Nd := ⟨2, 1, 0, (t.length : Int) - 1, 0, 0⟩
theorem not_parts (t : List Nd) : parts (notN t) = [(t.length : Int) - 1] := parts_one (.inl rfl)
theorem termOk_not {l : List Nd} (hT : termOk l = true) (hw : (nth l (l.length - 1)).w = 1) (hl : l.length < 80) : termOk (l ++ [notN l]) = true := by
  obtain ⟨hl1, hl2⟩ := term_len hT
  refine term_good (by simp; omega) (fun i hi => ?_)
  simp at hi
  by_cases e : i < l.length
  · exact nodeOk_app e (term_node hT e)
  · have e2 : i = l.length := by omega
    subst e2
    have hp : parts (nth (l ++ [notN l]) l.length) = [(l.length : Int) - 1] := by
      rw [nth_app_last]; exact not_parts l
    refine (node_kind (fun j hj => ?_) ?_).trans ?_
    · simp only [hp] at hj ⊢
      simp at hj
      subst hj
      simp; omega
    · rw [nth_app_last]; simp [notN]
    · rw [hp]
      have ew : width (l ++ [notN l]) ((l.length : Int) - 1) = 1 := by
        unfold width
        have : ((l.length : Int) - 1).toNat = l.length - 1 := by omega
        rw [this, nth_app_left (by omega)]; exact hw
      rw [nth_app_last]
      simp only [List.map_cons, List.map_nil, ew]
      unfold shapeOk notN
      simp
theorem free_not {l : List Nd} (hT : termOk l = true) (hw : (nth l (l.length - 1)).w = 1) (hl : l.length < 80) : freeL (l ++ [notN l]) = freeL l := by
  obtain ⟨hl1, hl2⟩ := term_len hT
  have hT2 := termOk_not hT hw hl
  have et : freeTop (l ++ [notN l]) = freeRow (freeRows l l.length) (notN l) := by
    unfold freeTop
    have e1 : ((l ++ [notN l]).length : Int) - 1 = (l.length : Int) := by simp
    have e2 : (l ++ [notN l]).length = l.length + 1 := by simp
    rw [e1, e2, row_new, nth_app_last, freeRows_app l _ _ (Nat.le_refl _)]
  have ef : ∀ v, v < 8 → flag (freeTop (l ++ [notN l])) v = flag (freeTop l) v := by
    intro v hv
    rw [et, flag_freeRow _ _ _ hv]
    unfold freeAt
    rw [not_parts]
    have hin : inParts (freeRows l l.length) [(l.length : Int) - 1] v = flag (freeTop l) v := by simp [inParts, freeTop]
    rw [hin]
    simp [notN]
  unfold freeL
  rw [hT, hT2]
  simp only [if_true]
  unfold freeTo
  congr 1
  apply List.filter_congr
  intro v hv
  rw [ef v (List.mem_range.1 hv)]

section
variable {t : List Nd} {q : Nd} (hT : termOk t = true) (hQ : termOk (t ++ [q]) = true) (hp : parts q = [(t.length : Int) - 1])
include hT hQ hp
theorem quants_to : ∀ k, k ≤ t.length → quantsTo (t ++ [q]) k = quantsTo t k := by
  intro k
  induction k with
  | zero => intro _; rfl
  | succ k ih =>
    intro hk
    show (quantsTo (t ++ [q]) k).bind _ = (quantsTo t k).bind _
    rw [ih (by omega)]
    congr 1
    funext ws
    unfold qStep
    rw [flag_snoc hT hQ hp (by omega), nth_app_left (by omega)]
theorem uses_to : ∀ k, k ≤ t.length → ∀ i, i < t.length → wd (usesF (t ++ [q]) k) (i : Int) = wd (usesF t k) (i : Int) := by
  intro k
  induction k with
  | zero => intro _ i _; show wd (List.replicate _ 0) _ = wd (List.replicate _ 0) _; rw [wd_zeros, wd_zeros]
  | succ k ih =>
    intro hk i hi
    simp only [usesF]
    rw [flag_snoc hT hQ hp (by omega), nth_app_left (by omega)]
    have hd := down_of hT k (by omega)
    cases flag (reachL t) k
    · exact ih (by omega) i hi
    · simp only [if_true]
      rw [addUses_wd _ _ _ (fun p h => by rw [usesF_length]; have := hd p h; simp; omega), addUses_wd _ _ _ (fun p h => by rw [usesF_length]; have := hd p h; omega), ih (by omega) i hi]
end
theorem times_zero {ps : List Int} {q : Nat} (h : ∀ p ∈ ps, p.toNat ≠ q) : times ps q = 0 := by
  unfold times
  rw [List.length_eq_zero_iff, List.filter_eq_nil_iff]
  intro p hp
  simpa using h p hp
theorem uses_above {l : List Nd} (hD : Down l) : ∀ k, k ≤ l.length → ∀ i, k ≤ i + 1 → wd (usesF l k) (i : Int) = 0 := by
  intro k
  induction k with
  | zero => intro _ i _; exact wd_zeros _ _
  | succ k ih =>
    intro hk i hi
    simp only [usesF]
    have hd := hD k (by omega)
    cases flag (reachL l) k
    · exact ih (by omega) i (by omega)
    · simp only [if_true]
      rw [addUses_wd _ _ _ (fun p h => by rw [usesF_length]; have := hd p h; omega), ih (by omega) i (by omega), times_zero (fun p h => by have := hd p h; omega)]
      rfl
theorem hold_to (t : List Nd) (q : Nd) : ∀ k, k ≤ t.length → holdTo (t ++ [q]) k = holdTo t k := by
  intro k
  induction k with
  | zero => intro _; rfl
  | succ k ih =>
    intro hk
    show holdTo (t ++ [q]) k ++ [_] = holdTo t k ++ [_]
    rw [ih (by omega), nth_app_left (by omega)]
theorem hold_snoc (t : List Nd) (q : Nd) {i : Nat} (hi : i < t.length) : flag (holdTo (t ++ [q]) (t ++ [q]).length) i = flag (holdTo t t.length) i := by
  have e : (t ++ [q]).length = t.length + 1 := by simp
  rw [e]
  show flag (holdTo (t ++ [q]) t.length ++ [_]) i = _
  rw [hold_to t q _ (Nat.le_refl _)]
  unfold flag
  rw [List.getD_eq_getElem?_getD, List.getElem?_append_left (by rw [holdTo_length]; exact hi), ← List.getD_eq_getElem?_getD]
/-- A sentence that is denied is a sentence. -/
theorem sent_not {t : List Nd} (hS : sentB t = true) (hl : t.length < 80) : sentB (t ++ [notN t]) = true := by
  obtain ⟨hT, hw, hf, ws, hq, hW, hM⟩ := (sent_iff t).1 hS
  have hQ := termOk_not hT hw hl
  have hp := not_parts t
  have hlen := term_len hT
  have hL : (t ++ [notN t]).length = t.length + 1 := by simp
  have hr : flag (reachL (t ++ [notN t])) t.length = true := by
    have := reach_root (l := t ++ [notN t]) (by simp)
    simpa using this
  refine (sent_iff _).2 ⟨hQ, ?_, by rw [free_not hT hw hl]; exact hf, ws, ?_, ?_, ?_, ?_⟩
  · rw [hL, Nat.add_sub_cancel, nth_app_last]; rfl
  · rw [hL]
    show (quantsTo (t ++ [notN t]) t.length).bind _ = _
    rw [quants_to hT hQ hp _ (Nat.le_refl _), hq]
    show qStep (t ++ [notN t]) ws t.length = _
    unfold qStep
    rw [nth_app_last]
    simp [notN, quant]
  · intro i hi hfl ho
    rw [hL] at hi
    by_cases e : i < t.length
    · rw [nth_app_left e] at ho ⊢
      rw [flag_snoc hT hQ hp e] at hfl
      exact hW i e hfl ho
    · have e2 : i = t.length := by omega
      subst e2
      rw [nth_app_last] at ho
      cases ho
  · intro i hi hfl hh
    rw [hL] at hi
    by_cases e : i < t.length
    · rw [nth_app_left e]
      rw [flag_snoc hT hQ hp e] at hfl
      rw [hold_snoc t _ e] at hh
      exact hM.1 i e hfl hh
    · have e2 : i = t.length := by omega
      subst e2
      rw [nth_app_last]; rfl
  · intro i hi hfl hh
    have hu : wd (usesF (t ++ [notN t]) (t ++ [notN t]).length) (i : Int) = wd (usesF (t ++ [notN t]) t.length) (i : Int) + (times [(t.length : Int) - 1] i : Int) := by
      rw [hL]
      simp only [usesF]
      rw [hr, if_pos rfl, nth_app_last, hp, addUses_wd _ _ _ (fun p h => by
        rw [usesF_length]
        have : p = (t.length : Int) - 1 := by simpa using h
        simp; omega)]
    rw [hL] at hi
    rw [hu]
    by_cases e : i < t.length
    · rw [uses_to hT hQ hp _ (Nat.le_refl _) i e]
      rw [flag_snoc hT hQ hp e] at hfl
      rw [hold_snoc t _ e] at hh
      by_cases e3 : i = t.length - 1
      · rw [uses_above (down_of hT) t.length (Nat.le_refl _) i (by omega)]
        have : times [(t.length : Int) - 1] i ≤ 1 := List.length_filter_le _ _
        omega
      · rw [times_zero (fun p h => by
          have : p = (t.length : Int) - 1 := by simpa using h
          omega)]
        have := hM.2 i e hfl hh
        omega
    · have e2 : i = t.length := by omega
      rw [uses_above (down_of hQ) t.length (by simp) i (by omega), times_zero (fun p h => by
          have : p = (t.length : Int) - 1 := by simpa using h
          omega)]
      simp
/-- Of the same bits. -/
theorem bits_not {t : List Nd} (hS : sentB t = true) (hl : t.length < 80) : bitsL (t ++ [notN t]) = bitsL t := by
  obtain ⟨hT, hw, _⟩ := (sent_iff t).1 hS
  unfold bitsL
  rw [sent_not hS hl, hS]
  simp only [if_true]
  rw [bits_snoc hT (termOk_not hT hw hl) (not_parts t)]
  simp [notN, quant]
theorem flip_one {x : Int} (h : x = 0 ∨ x = 1) : vFlip 1 x = 1 - x := by
  rcases h with rfl | rfl <;> decide
/-- And worth the other one. -/
theorem value_not {t : List Nd} {e : List Int} {x : Int} (hT : termOk t = true) (hw : (nth t (t.length - 1)).w = 1) (hl : t.length < 80) (h : valueL t e = some x) : valueL (t ++ [notN t]) e = some (1 - x) := by
  have hQ := termOk_not hT hw hl
  have hp := not_parts t
  have hx := value_wok h
  rw [hw] at hx
  obtain ⟨_, he, hb, hf, hv⟩ := value_parts.1 h
  have hr := root_snoc hT hQ hp (.inl rfl)
  refine value_parts.2 ⟨hQ, he, ?_, ?_, ?_⟩
  · rw [bits_snoc hT hQ hp]; simp [notN, quant]; exact hb
  · rw [hr]
    unfold fitT at hf ⊢
    simp only [needT]
    cases hn : needT (root t) with
    | none => rw [hn] at hf; cases hf
    | some r =>
      rw [hn] at hf
      exact hf
  · rw [hr]
    have hxx : x = 0 ∨ x = 1 := by
      have := wok_iff.1 hx
      have e : p2 (1 : Int).toNat = 2 := rfl
      rw [e] at this
      omega
    have hwid : (root t).wid = 1 := by
      have := (rt_all (down_of hT) (fun k hk => term_node hT hk) (t.length - 1) (by have := term_len hT; omega)).2
      rw [hw] at this
      exact this
    show (if (2 : Int) = 19 then _ else if (2 : Int) = 20 then _ else applyL 2 1 0 (root t).wid (vT (root t) e) 0 0) = _
    rw [if_neg (by decide), if_neg (by decide), hwid, hv, app_in ⟨by decide, by decide⟩ ⟨by decide, by decide⟩ (by omega) ⟨by decide, by decide⟩ ⟨by decide, by decide⟩]
    show vFlip 1 x = _
    exact flip_one hxx

/-- What a sentence is worth; none where it is no sentence or has too many bits. -/
def holdsL (l : List Nd) : Option Int := if sentB l then valueL l (List.replicate 8 0) else none

end Go.Proofs.YtdmogjhabladcaaGreat.Vl5

/- What the program's functions of chapter 2 are to do. -/
namespace Go.Proofs.YtdmogjhabladcaaGreat.Lx1
open Go.RowKit
open Nd0 Nd3 Tm0 Tm1 Tm2 Tm3 Tm4 Tm5 Tm6 Tm11
/-- What the program's TermOk is to do. -/
def ITermOk : Prop := ∀ (w : World) (a : Option Addr) (l : List Nd) (c : Nat), Nodes w a l → l.length ≤ c → l.length ≤ 1048576 →
    Calls Tryz.prog 46 #[.slice a l.length c] w fun e w' => e = .returned (.bool (termOk l)) ∧ Below w.heap.size w w'
end Go.Proofs.YtdmogjhabladcaaGreat.Lx1
namespace Go.Proofs.YtdmogjhabladcaaGreat.Lx2
open Go.RowKit
open Nd0 Nd3 Tm0 Tm1 Tm2 Tm3 Tm4 Tm5 Tm6 Tm11
/-- What the program's Reached is to do. -/
def IReached : Prop := ∀ (w : World) (a : Option Addr) (l : List Nd) (c : Nat), Nodes w a l → l.length ≤ c → l.length ≤ 1048576 →
    Calls Tryz.prog 28 #[.slice a l.length c] w fun e w' => (∃ a' c', e = .returned (.slice a' (reachedL l).length c') ∧ WInts w' w.heap.size a' (reachedL l)) ∧ Below w.heap.size w w'
end Go.Proofs.YtdmogjhabladcaaGreat.Lx2
namespace Go.Proofs.YtdmogjhabladcaaGreat.Lx3
open Go.RowKit
open Nd0 Nd3 Tm0 Tm1 Tm2 Tm3 Tm4 Tm5 Tm6 Tm11
end Go.Proofs.YtdmogjhabladcaaGreat.Lx3
namespace Go.Proofs.YtdmogjhabladcaaGreat.Lx4
open Go.RowKit
open Nd0 Nd3 Tm0 Tm1 Tm2 Tm3 Tm4 Tm5 Tm6 Tm11
/-- What the program's Prune is to do. -/
def IPrune : Prop := ∀ (w : World) (a : Option Addr) (l : List Nd) (c : Nat), Nodes w a l → l.length ≤ c → l.length ≤ 1048576 →
    Calls Tryz.prog 105 #[.slice a l.length c] w fun e w' => (∃ a' c', e = .returned (.slice a' (pruneL l).length c') ∧ WNodes w' w.heap.size a' (pruneL l) ∧ (pruneL l).length ≤ c') ∧ Below w.heap.size w w'
end Go.Proofs.YtdmogjhabladcaaGreat.Lx4
namespace Go.Proofs.YtdmogjhabladcaaGreat.Lx6
open Go.RowKit
open Nd0 Nd3 Tm0 Tm1 Tm2 Tm3 Tm4 Tm5 Tm6 Tm11
/-- What the program's Sentence is to do. -/
def ISentence : Prop := ∀ (w : World) (a : Option Addr) (l : List Nd) (c : Nat), Nodes w a l → l.length ≤ c → l.length ≤ 1048576 →
    Calls Tryz.prog 56 #[.slice a l.length c] w fun e w' => e = .returned (.bool (sentB l)) ∧ Below w.heap.size w w'
/-- What the program's Bits is to do. -/
def IBits : Prop := ∀ (w : World) (a : Option Addr) (l : List Nd) (c : Nat), Nodes w a l → l.length ≤ c → l.length ≤ 1048576 →
    Calls Tryz.prog 21 #[.slice a l.length c] w fun e w' => e = .returned (.int .i64 (bitsL l)) ∧ Below w.heap.size w w'
end Go.Proofs.YtdmogjhabladcaaGreat.Lx6

/- What the program's functions of chapter 4 are to do. -/
namespace Go.Proofs.YtdmogjhabladcaaGreat.Ic4
open Go.RowKit
open Nd0 Nd3 Tm0 Vl1 Vl4 Vl5
/-- What is left where a variable is told by a number: nothing where it can't be. -/
def replO (l : List Nd) (v k : Int) : List Nd := (replL l v k).getD []
theorem replO_le (l : List Nd) (v k : Int) : (replO l v k).length ≤ l.length := by
  unfold replO replL
  split
  · simp
  · exact Nat.zero_le _
/-- What the program's Replace is to do. -/
def IReplace : Prop := ∀ (w : World) (a : Option Addr) (l : List Nd) (c : Nat) (v k : Int), Nodes w a l → l.length ≤ c → l.length ≤ 1048576 →
    Calls Tryz.prog 17 #[.slice a l.length c, .int .i64 v, .int .i64 k] w fun e w' => (∃ a' c', e = .returned (.tuple #[.slice a' (replO l v k).length c', .bool (replL l v k).isSome]) ∧ WNodes w' w.heap.size a' (replO l v k) ∧ (replO l v k).length ≤ c') ∧ Below w.heap.size w w'
/-- What the program's Apply is to do. -/
def IApply : Prop := ∀ (n : Nd) (W a b c : Int) (w : World), (Lit.int .i64 n.k).wf = true →
    Calls Tryz.prog 117 #[.agg #[.int .i64 n.op, .int .i64 n.w, .int .i64 n.k, .int .i64 n.a, .int .i64 n.b, .int .i64 n.c], .int .i64 W, .int .i64 a, .int .i64 b, .int .i64 c] w fun e w' => e = .returned (.int .i64 (applyL n.op n.w n.k W a b c)) ∧ Below w.heap.size w w'
/-- What the program's Value is to do. -/
def IValue : Prop := ∀ (w : World) (a ae : Option Addr) (l : List Nd) (e : List Int) (c ce : Nat), Nodes w a l → l.length ≤ c → l.length ≤ 1048576 → Ints w ae e → e.length ≤ ce →
    Calls Tryz.prog 14 #[.slice a l.length c, .slice ae e.length ce] w fun x w' => x = .returned (.tuple #[.int .i64 ((valueL l e).getD 0), .bool (valueL l e).isSome]) ∧ Below w.heap.size w w'
/-- What the program's Holds is to do. -/
def IHolds : Prop := ∀ (w : World) (a : Option Addr) (l : List Nd) (c : Nat), Nodes w a l → l.length ≤ c → l.length ≤ 1048576 →
    Calls Tryz.prog 19 #[.slice a l.length c] w fun x w' => x = .returned (.tuple #[.int .i64 ((holdsL l).getD 0), .bool (holdsL l).isSome]) ∧ Below w.heap.size w w'
end Go.Proofs.YtdmogjhabladcaaGreat.Ic4
