/- What a node of a term is worth, out of what its parts are worth: as plain data. -/
import Derived.Test.YtebejleeadofcaaVl2
namespace Go.Proofs.Ytebejleeadofcaa.Vm0
open Nd0 Pl1 Pl2 Tm0 Tm1 Tm3 Tm5 Tm6 Tm8 Tm11 Tm13 Tm14 Tr0 Vl1 Vl2
set_option linter.unusedVariables false

theorem applyL_k {op : Int} (h : (3 ≤ op ∧ op ≤ 16) ∨ op = 18) (W k k' w a b c : Int) : applyL op W k w a b c = applyL op W k' w a b c := by
  have h0 : ¬ op = 0 := by omega
  have h17 : ¬ op = 17 := by omega
  unfold applyL opL
  simp only [h0, h17, if_false]
/-- What the parts of a node are worth. -/
def pvs (l : List Nd) (e : List Int) (n : Nd) : List Int := (parts n).map fun p => vT (tr l p.toNat) e
/-- The width of its first part. -/
def pw (l : List Nd) (n : Nd) : Int := match parts n with
  | [] => 1
  | p :: _ => (nth l p.toNat).w
section
variable {l : List Nd} (hD : Down l) (hN : ∀ k, k < l.length → nodeOk l k = true) {k : Nat} (hk : k < l.length) (e : List Int)
include hD hN hk
theorem vT_other (h1 : ¬ (nth l k).op = 1) (hq : quant (nth l k).op = false) :
    vT (tr l k) e = applyL (nth l k).op (nth l k).w (nth l k).k (pw l (nth l k)) ((pvs l e (nth l k)).getD 0 0) ((pvs l e (nth l k)).getD 1 0) ((pvs l e (nth l k)).getD 2 0) := by
  rw [tr_at hD hk]
  have hd := hD k hk
  have hp : ∀ p ∈ parts (nth l k), (tr l p.toNat).wid = (nth l p.toNat).w := fun p h => (rt_all hD hN p.toNat (by have := hd p h; omega)).2
  generalize nth l k = n at h1 hq hp hd
  have hq2 : ¬ n.op = 19 ∧ ¬ n.op = 20 := by simpa [quant] using hq
  by_cases g1 : n.op = 2 ∨ n.op = 17 ∨ n.op = 19 ∨ n.op = 20
  · rw [mk_one g1]
    unfold pvs pw
    rw [parts_one g1] at hp ⊢
    simp only [vT, List.map_cons, List.map_nil]
    rw [if_neg hq2.1, if_neg hq2.2, hp n.a (by simp)]
    rfl
  · by_cases g2 : 3 ≤ n.op ∧ n.op ≤ 16
    · rw [mk_two g2]
      unfold pvs pw
      rw [parts_two g2] at hp ⊢
      simp only [vT, List.map_cons, List.map_nil]
      rw [hp n.a (by simp), applyL_k (.inl g2) _ 0 n.k]
      rfl
    · by_cases g3 : n.op = 18
      · rw [mk_three g3]
        unfold pvs pw
        rw [parts_three g3] at hp ⊢
        simp only [vT, List.map_cons, List.map_nil]
        rw [hp n.a (by simp), applyL_k (.inr g3) _ 0 n.k]
        rfl
      · rw [mk_leaf g1 g2 g3]
        unfold pvs pw
        rw [parts_none g1 g2 g3]
        simp only [vT]
        rw [if_neg h1]
        rfl
end
theorem vT_var {l : List Nd} (hD : Down l) {k : Nat} (hk : k < l.length) (e : List Int) (h1 : (nth l k).op = 1) : vT (tr l k) e = wd e (nth l k).k := by
  rw [tr_at hD hk, mk_leaf (by omega) (by omega) (by omega)]
  simp only [vT]
  rw [if_pos h1]
  rfl
def allN (f : Nat → Int) (m : Nat) : Int := if (List.range m).all (fun i => f i == 1) then 1 else 0
def anyN (f : Nat → Int) (m : Nat) : Int := if (List.range m).any (fun i => f i == 1) then 1 else 0
theorem allN_zero (f : Nat → Int) : allN f 0 = 1 := rfl
theorem anyN_zero (f : Nat → Int) : anyN f 0 = 0 := rfl
theorem allN_yes {f : Nat → Int} {m : Nat} (h : f m = 1) : allN f (m + 1) = allN f m := by
  unfold allN; rw [List.range_succ, List.all_append]; simp [h]
theorem allN_no {f : Nat → Int} {m : Nat} (h : ¬ f m = 1) : allN f (m + 1) = 0 := by
  unfold allN; rw [List.range_succ, List.all_append]; simp [h]
theorem anyN_yes {f : Nat → Int} {m : Nat} (h : f m = 1) : anyN f (m + 1) = 1 := by
  unfold anyN; rw [List.range_succ, List.any_append]; simp [h]
theorem anyN_no {f : Nat → Int} {m : Nat} (h : ¬ f m = 1) : anyN f (m + 1) = anyN f m := by
  unfold anyN; rw [List.range_succ, List.any_append]; simp [h]
theorem anyN_bit (f : Nat → Int) (m : Nat) : anyN f m = 0 ∨ anyN f m = 1 := by unfold anyN; split <;> simp
theorem anyN_one {f : Nat → Int} {m : Nat} : anyN f m = 1 ↔ ∃ i, i < m ∧ f i = 1 := by
  unfold anyN
  constructor
  · intro h
    split at h
    · rename_i h2
      obtain ⟨i, h3, h4⟩ := List.any_eq_true.1 h2
      exact ⟨i, List.mem_range.1 h3, by simpa using h4⟩
    · cases h
  · rintro ⟨i, h1, h2⟩
    rw [if_pos (List.any_eq_true.2 ⟨i, List.mem_range.2 h1, by simpa using h2⟩)]
theorem allN_one {f : Nat → Int} {m : Nat} : allN f m = 1 ↔ ∀ i, i < m → f i = 1 := by
  unfold allN
  constructor
  · intro h i hi
    split at h
    · rename_i h2
      simpa using List.all_eq_true.1 h2 i (List.mem_range.2 hi)
    · cases h
  · intro h
    rw [if_pos (List.all_eq_true.2 fun i hi => by simpa using h i (List.mem_range.1 hi))]
theorem allN_bit (f : Nat → Int) (m : Nat) : allN f m = 0 ∨ allN f m = 1 := by unfold allN; split <;> simp
theorem vT_quant {l : List Nd} (hD : Down l) {k : Nat} (hk : k < l.length) (e : List Int) (hq : quant (nth l k).op = true) :
    vT (tr l k) e = if (nth l k).op = 19 then allN (fun i => vT (tr l (nth l k).a.toNat) (e.set (nth l k).k.toNat (i : Int))) (2 ^ (nth l k).b.toNat) else anyN (fun i => vT (tr l (nth l k).a.toNat) (e.set (nth l k).k.toNat (i : Int))) (2 ^ (nth l k).b.toNat) := by
  have hq2 : (nth l k).op = 19 ∨ (nth l k).op = 20 := by simpa [quant] using hq
  rw [tr_at hD hk, mk_one (by omega)]
  simp only [vT]
  rcases hq2 with h | h
  · rw [if_pos h, if_pos h]; rfl
  · have h19 : ¬ (nth l k).op = 19 := by omega
    rw [if_neg h19, if_pos h, if_neg h19]; rfl
theorem set_self (e : List Int) {i : Nat} (h : i < e.length) : e.set i (wd e (i : Int)) = e := by
  have : wd e (i : Int) = e[i] := (wd_get h).symm
  rw [this]; exact List.set_getElem_self h

/-- The number of a right node is small. -/
theorem node_k {l : List Nd} (hD : Down l) (hN : ∀ k, k < l.length → nodeOk l k = true) {k : Nat} (hk : k < l.length) : 0 ≤ (nth l k).k ∧ (nth l k).k ≤ 255 := by
  have hok := hN k hk
  have hd := hD k hk
  simp only [nodeOk, Bool.and_eq_true] at hok
  have hs := hok.2
  have hw : ∀ p ∈ parts (nth l k), width l p ≤ 8 := fun p hp => by
    have h1 := hd p hp
    exact (node_width (hN p.toNat (by omega))).2
  have hw1 := of_decide_eq_true hok.1.2
  generalize nth l k = n at hs hw hw1
  unfold shapeOk at hs
  by_cases h0 : n.op = 0
  · rw [if_pos h0] at hs
    simp only [Bool.and_eq_true] at hs
    have := wok_iff.1 hs.1
    have h2 := p2_mono (show n.w.toNat ≤ 8 by omega)
    have h3 : p2 8 = 256 := rfl
    omega
  rw [if_neg h0] at hs
  by_cases h1 : n.op = 1
  · rw [if_pos h1] at hs
    have := of_decide_eq_true hs
    omega
  rw [if_neg h1] at hs
  by_cases h2 : n.op = 2
  · rw [if_pos h2] at hs
    have := of_decide_eq_true hs
    omega
  rw [if_neg h2] at hs
  by_cases h3 : 3 ≤ n.op ∧ n.op ≤ 12
  · rw [if_pos h3] at hs
    have := of_decide_eq_true hs
    omega
  rw [if_neg h3] at hs
  by_cases h4 : 13 ≤ n.op ∧ n.op ≤ 15
  · rw [if_pos h4] at hs
    have := of_decide_eq_true hs
    omega
  rw [if_neg h4] at hs
  by_cases h5 : n.op = 16
  · rw [if_pos h5] at hs
    have := of_decide_eq_true hs
    omega
  rw [if_neg h5] at hs
  by_cases h6 : n.op = 17
  · rw [if_pos h6] at hs
    have := of_decide_eq_true hs
    rw [parts_one (.inr (.inl h6))] at hw this
    have h8 := hw n.a (by simp)
    simp only [List.map_cons, List.map_nil, List.getD_cons_zero] at this
    omega
  rw [if_neg h6] at hs
  by_cases h7 : n.op = 18
  · rw [if_pos h7] at hs
    have := of_decide_eq_true hs
    omega
  rw [if_neg h7] at hs
  by_cases h8 : n.op = 19 ∨ n.op = 20
  · rw [if_pos h8] at hs
    have := of_decide_eq_true hs
    omega
  rw [if_neg h8] at hs
  cases hs
theorem wf_small {k : Int} (h : 0 ≤ k ∧ k ≤ 255) : (Go.Lit.int .i64 k).wf = true := by
  simp [Go.Lit.wf, Go.IntKind.min, Go.IntKind.max, Go.IntKind.signed, Go.IntKind.bits]; omega

end Go.Proofs.Ytebejleeadofcaa.Vm0
