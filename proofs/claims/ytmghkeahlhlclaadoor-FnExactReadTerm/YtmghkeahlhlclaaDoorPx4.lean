/- Plain facts on what the program's reader reads: small numbers, places in the list. -/
import Derived.Test.YtmghkeahlhlclaaDoorPx1
import Derived.Test.YtmghkeahlhlclaaDoorMp0
namespace Go.Proofs.YtmghkeahlhlclaaDoor.Px4
open Nd0 Tm0 Tx0 Tx1 Tx5 Px0 Px1
open Mp0 (WfN wf_small)
set_option linter.unusedVariables false

theorem put_grow {st p : Nat} {t : List Nd} {n : Nd} {y : Nat × St} (h : pPut st p t n = .ok y) : y.1 < y.2.2.length ∧ ∃ m, y.2.2 = t ++ m := by
  unfold pPut at h
  obtain ⟨z, hz, h⟩ := bind_ok h
  cases h
  exact put_ok hz
theorem many_grow {s : List UInt8} {rd : St → Except Er (Nat × St)} {st : Nat} (hr : ∀ x y, rd x = .ok y → y.1 < y.2.2.length ∧ ∃ m, y.2.2 = x.2 ++ m) : ∀ {k : Nat} {x : St} {y : List Nat × St}, pMany s rd st k x = .ok y → (∀ i ∈ y.1, i < y.2.2.length) ∧ ∃ m, y.2.2 = x.2 ++ m := by
  intro k
  induction k with
  | zero => intro x y h; simp only [pMany] at h; cases h; exact ⟨by simp, [], by simp⟩
  | succ k ih =>
    intro x y h
    simp only [pMany] at h
    obtain ⟨p1, h1, h⟩ := bind_ok h
    obtain ⟨u, h2, h⟩ := bind_ok h
    obtain ⟨z, h3, h⟩ := bind_ok h
    cases h
    obtain ⟨a1, m1, a2⟩ := hr _ _ h2
    obtain ⟨b1, m2, b2⟩ := ih h3
    simp only at a2
    refine ⟨?_, m1 ++ m2, by rw [b2, a2]; simp⟩
    intro i hi
    rcases List.mem_cons.1 hi with e | e
    · subst e; simp only; rw [b2, List.length_append]; omega
    · exact b1 i e
theorem node_grow (s : List UInt8) : ∀ (f : Nat) (x : St) (y : Nat × St), pNode s f x = .ok y → y.1 < y.2.2.length ∧ ∃ m, y.2.2 = x.2 ++ m := by
  intro f
  induction f with
  | zero => intro x y h; cases h
  | succ f ih =>
    intro x y h
    simp only [pNode] at h
    split at h
    · obtain ⟨z, h1, h⟩ := bind_ok h
      exact put_grow h
    · split at h
      · obtain ⟨z, h1, h⟩ := bind_ok h
        exact put_grow h
      · obtain ⟨o, h1, h⟩ := bind_ok h
        obtain ⟨z, h2, h⟩ := bind_ok h
        obtain ⟨u, h3, h⟩ := bind_ok h
        unfold pParts at h3
        obtain ⟨m, h5, h3⟩ := bind_ok h3
        obtain ⟨q, h6, h3⟩ := bind_ok h3
        cases h3
        obtain ⟨_, m1, a2⟩ := many_grow (fun x y h => ih x y h) h5
        obtain ⟨b1, m2, b2⟩ := put_grow h
        exact ⟨b1, m1 ++ m2, by rw [b2]; simp only at a2 ⊢; rw [a2]; simp⟩
theorem num_small {s : List UInt8} {st p : Nat} {y : Nat × Nat} (h : pNum s st p = .ok y) : y.1 < 1000000000 := by
  unfold pNum at h
  split at h
  · rename_i k hk
    cases h
    exact (num_some hk).2.1
  · cases h
theorem pair_small {s : List UInt8} {c : UInt8} {st p : Nat} {y : (Nat × Nat) × Nat} (h : pPair s c st p = .ok y) : y.1.1 < 1000000000 ∧ y.1.2 < 1000000000 := by
  unfold pPair at h
  obtain ⟨p1, h1, h⟩ := bind_ok h
  obtain ⟨x, h2, h⟩ := bind_ok h
  obtain ⟨p3, h3, h⟩ := bind_ok h
  obtain ⟨z, h4, h⟩ := bind_ok h
  obtain ⟨q, h5, h⟩ := bind_ok h
  cases h
  have a1 := num_small h2
  have a2 := num_small h4
  exact ⟨a1, a2⟩
/-- A node of small numbers. -/
structure Sm (n : Nd) : Prop where
  w0 : 0 ≤ n.w
  w1 : n.w ≤ 1000000000
  k0 : 0 ≤ n.k
  k1 : n.k ≤ 1000000000
  b0 : 0 ≤ n.b
  b1 : n.b ≤ 1000000000
theorem op_le {s : List UInt8} {st p : Nat} {y : Nat × Nat} (h : pOp s st p = .ok y) : 2 ≤ y.1 ∧ y.1 ≤ 20 := by
  unfold pOp at h
  obtain ⟨p1, h1, h⟩ := bind_ok h
  split at h
  · rename_i o ho
    cases h
    unfold opP at ho
    obtain ⟨i, hi, rfl⟩ := Option.map_eq_some_iff.1 ho
    have := List.mem_range.1 (List.mem_of_find?_eq_some hi)
    simp only
    omega
  · cases h
theorem nums_small {s : List UInt8} {o st p : Nat} {y : Nd × Nat} (h : pNums s o st p = .ok y) : y.1.op = (o : Int) ∧ Sm y.1 := by
  unfold pNums at h
  split at h
  · obtain ⟨p1, h1, h⟩ := bind_ok h
    obtain ⟨x, h2, h⟩ := bind_ok h
    obtain ⟨p3, h3, h⟩ := bind_ok h
    obtain ⟨z, h4, h⟩ := bind_ok h
    cases h
    have := num_small h2
    have := num_small h4
    refine ⟨rfl, ?_⟩
    constructor <;> simp only <;> omega
  · split at h
    · obtain ⟨p1, h1, h⟩ := bind_ok h
      obtain ⟨x, h2, h⟩ := bind_ok h
      cases h
      have := pair_small h2
      refine ⟨rfl, ?_⟩
      constructor <;> simp only <;> omega
    · cases h
      refine ⟨rfl, ?_⟩
      constructor <;> simp
theorem getD_small {is : List Nat} {L : Nat} (h : ∀ i ∈ is, i < L) (j : Nat) : is.getD j 0 = 0 ∨ is.getD j 0 < L := by
  by_cases hj : j < is.length
  · rw [List.getD_eq_getElem?_getD, List.getElem?_eq_getElem hj, Option.getD_some]
    exact .inr (h _ (List.getElem_mem _))
  · rw [List.getD_eq_getElem?_getD, List.getElem?_eq_none (by omega)]
    exact .inl rfl
theorem getD_in {is : List Nat} {L : Nat} (h : ∀ i ∈ is, i < L) {j : Nat} (hj : j < is.length) : is.getD j 0 < L := by
  rw [List.getD_eq_getElem?_getD, List.getElem?_eq_getElem hj, Option.getD_some]
  exact h _ (List.getElem_mem _)
/-- What a node is whose parts were read. -/
structure Pn (n m : Nd) (L : Nat) : Prop where
  op : m.op = n.op
  w : m.w = n.w
  k : m.k = n.k
  a0 : 0 ≤ m.a
  a1 : m.a ≤ L
  b0 : 0 ≤ m.b
  b1 : m.b ≤ 1000000000
  c0 : 0 ≤ m.c
  c1 : m.c ≤ L
  ha : 2 ≤ m.op ∧ m.op ≤ 12 ∨ m.op = 16 → 0 ≤ m.a ∧ m.a < L
  hb : m.op = 16 ∨ m.op = 18 → 0 ≤ m.b ∧ m.b < L
theorem parts_read {s : List UInt8} {f : Nat} {n : Nd} {st : Nat} {x : St} {z : Nd × St} (h : pParts s (pNode s f) n st x = .ok z) (hop : 2 ≤ n.op ∧ n.op ≤ 20) (hs : Sm n) (hL : z.2.2.length ≤ 80) : Pn n z.1 z.2.2.length := by
  unfold pParts at h
  obtain ⟨m, h5, h⟩ := bind_ok h
  obtain ⟨q, h6, h⟩ := bind_ok h
  cases h
  have hl := many_len h5
  obtain ⟨hi, _⟩ := many_grow (fun x y h => node_grow s f x y h) h5
  simp only at hL
  have g0 := getD_small hi 0
  have g1 := getD_small hi 1
  have g2 := getD_small hi 2
  unfold setParts
  refine ⟨rfl, rfl, rfl, ?_, ?_, ?_, ?_, ?_, ?_, ?_, ?_⟩
  · simp only; omega
  · simp only; omega
  · simp only; split
    · omega
    · exact hs.b0
  · simp only; split
    · omega
    · exact hs.b1
  · simp only; omega
  · simp only; omega
  · intro hc
    simp only at hc ⊢
    have : 1 ≤ m.1.length := by
      rw [hl]
      by_cases e2 : n.op = 2
      · rw [parts_one (.inl e2)]; simp
      · rw [parts_two (by omega)]; simp
    have := getD_in hi (j := 0) (by omega)
    omega
  · intro hc
    simp only at hc ⊢
    have h2 : 1 < m.1.length := by
      rw [hl]
      rcases hc with e | e
      · rw [parts_two (by omega)]; simp
      · rw [parts_three e]; simp
    have := getD_in hi (j := 1) h2
    rw [if_pos h2]
    omega
theorem wid_small {t : List Nd} {n m : Nd} (hw : ∀ j, j < t.length → 1 ≤ (nth t j).w ∧ (nth t j).w ≤ 8) (hm : Pn n m t.length) (hs : Sm n) : 0 ≤ pWid t m ∧ pWid t m ≤ 1000000000 := by
  unfold pWid
  split
  · rename_i h
    have := hm.ha (.inl h)
    have := hw m.a.toNat (by omega)
    omega
  · split
    · rename_i h
      have := hm.ha (.inr h)
      have := hm.hb (.inl h)
      have := hw m.a.toNat (by omega)
      have := hw m.b.toNat (by omega)
      omega
    · split
      · rw [hm.w]; exact ⟨hs.w0, hs.w1⟩
      · split
        · rename_i h
          have := hm.hb (.inr h)
          have := hw m.b.toNat (by omega)
          omega
        · omega
theorem wf_node {t : List Nd} {n m : Nd} (hw : ∀ j, j < t.length → 1 ≤ (nth t j).w ∧ (nth t j).w ≤ 8) (hL : t.length ≤ 80) (hop : 2 ≤ n.op ∧ n.op ≤ 20) (hm : Pn n m t.length) (hs : Sm n) : WfN { m with w := pWid t m } := by
  have h := wid_small hw hm hs
  have ho := hm.op
  have hk := hm.k
  have := hs.k0
  have := hs.k1
  refine ⟨wf_small ?_ ?_, wf_small h.1 h.2, wf_small ?_ ?_, wf_small hm.a0 ?_, wf_small hm.b0 hm.b1, wf_small hm.c0 ?_⟩
  · simp only; omega
  · simp only; omega
  · simp only; omega
  · simp only; omega
  · have := hm.a1; simp only; omega
  · have := hm.c1; simp only; omega
theorem wf_leaf (o : Int) (a b : Nat) (ho : o = 0 ∨ o = 1) (ha : a < 1000000000) (hb : b < 1000000000) : WfN ⟨o, a, b, 0, 0, 0⟩ := by
  refine ⟨wf_small ?_ ?_, wf_small ?_ ?_, wf_small ?_ ?_, wf_small ?_ ?_, wf_small ?_ ?_, wf_small ?_ ?_⟩ <;> simp only <;> omega

end Go.Proofs.YtmghkeahlhlclaaDoor.Px4
