/- Plain facts on some parts read one behind the other. -/
import Derived.Test.YtmghkeahlhlclaaDoorPx0
namespace Go.Proofs.YtmghkeahlhlclaaDoor.Px1
open Nd0 Tm0 Tx0 Tx1 Tx5 Px0

theorem many_snoc (s : List UInt8) (rd : St → Except Er (Nat × St)) (st : Nat) : ∀ (k : Nat) (x : St), pMany s rd st (k + 1) x =
    (pMany s rd st k x).bind fun y => (pNeed s 32 st y.2.1).bind fun p1 => (rd (p1, y.2.2)).bind fun z => .ok (y.1 ++ [z.1], z.2) := by
  intro k
  induction k with
  | zero =>
    intro x
    simp only [pMany, Except.bind]
    cases pNeed s 32 st x.1 with
    | error e => rfl
    | ok p1 =>
      simp only
      cases rd (p1, x.2) with
      | error e => rfl
      | ok y => rfl
  | succ k ih =>
    intro x
    have e : ∀ j y, pMany s rd st (j + 1) y = (pNeed s 32 st y.1).bind fun p1 => (rd (p1, y.2)).bind fun u => (pMany s rd st j u.2).bind fun z => .ok (u.1 :: z.1, z.2) := fun _ _ => rfl
    rw [e (k + 1) x, e k x]
    simp only [ih, Except.bind]
    cases pNeed s 32 st x.1 with
    | error e => rfl
    | ok p1 =>
      simp only
      cases rd (p1, x.2) with
      | error e => rfl
      | ok y =>
        simp only
        cases pMany s rd st k y.2 with
        | error e => rfl
        | ok z =>
          simp only
          cases pNeed s 32 st z.2.1 with
          | error e => rfl
          | ok p2 =>
            simp only
            cases rd (p2, z.2.2) with
            | error e => rfl
            | ok u => rfl
theorem many_err {s : List UInt8} {rd : St → Except Er (Nat × St)} {st k c : Nat} {x : St} {e : Er} (hk : k ≤ c) (h : pMany s rd st k x = .error e) : pMany s rd st c x = .error e := by
  obtain ⟨d, rfl⟩ : ∃ d, c = k + d := ⟨c - k, by omega⟩
  clear hk
  induction d with
  | zero => exact h
  | succ d ih => rw [← Nat.add_assoc, many_snoc, ih]; rfl
theorem many_len {s : List UInt8} {rd : St → Except Er (Nat × St)} {st : Nat} : ∀ {k : Nat} {x : St} {y : List Nat × St}, pMany s rd st k x = .ok y → y.1.length = k := by
  intro k
  induction k with
  | zero => intro x y h; simp only [pMany] at h; cases h; rfl
  | succ k ih =>
    intro x y h
    rw [many_snoc] at h
    cases h1 : pMany s rd st k x with
    | error e => rw [h1] at h; cases h
    | ok z =>
      rw [h1] at h
      simp only [Except.bind] at h
      split at h
      · cases h
      · split at h
        · cases h
        · cases h
          simp [ih h1]

theorem need_mono {s : List UInt8} {c : UInt8} {st p q : Nat} (h : pNeed s c st p = .ok q) : q = p + 1 := by
  unfold pNeed at h
  split at h
  · cases h; rfl
  · cases h
theorem end_same {s : List UInt8} {st p q : Nat} (h : pEnd s st p = .ok q) : q = p := by
  unfold pEnd at h
  split at h
  · cases h; rfl
  · cases h
theorem num_mono {s : List UInt8} {st p : Nat} {y : Nat × Nat} (h : pNum s st p = .ok y) : p ≤ y.2 := by
  unfold pNum at h
  split at h
  · cases h; simp
  · cases h
theorem bind_ok {α β : Type} {r : Except Er α} {g : α → Except Er β} {y : β} (h : r.bind g = .ok y) : ∃ x, r = .ok x ∧ g x = .ok y := by
  cases r with
  | error e => cases h
  | ok x => exact ⟨x, rfl, h⟩
theorem pair_mono {s : List UInt8} {c : UInt8} {st p : Nat} {y : (Nat × Nat) × Nat} (h : pPair s c st p = .ok y) : p < y.2 := by
  unfold pPair at h
  obtain ⟨p1, h1, h⟩ := bind_ok h
  obtain ⟨x, h2, h⟩ := bind_ok h
  obtain ⟨p3, h3, h⟩ := bind_ok h
  obtain ⟨z, h4, h⟩ := bind_ok h
  obtain ⟨q, h5, h⟩ := bind_ok h
  cases h
  have := need_mono h1
  have := num_mono h2
  have := need_mono h3
  have := num_mono h4
  have := end_same h5
  simp only
  omega
theorem op_mono {s : List UInt8} {st p : Nat} {y : Nat × Nat} (h : pOp s st p = .ok y) : p < y.2 := by
  unfold pOp at h
  obtain ⟨p1, h1, h⟩ := bind_ok h
  have := need_mono h1
  split at h
  · cases h; simp only; omega
  · cases h
theorem nums_mono {s : List UInt8} {o st p : Nat} {y : Nd × Nat} (h : pNums s o st p = .ok y) : p ≤ y.2 := by
  unfold pNums at h
  split at h
  · obtain ⟨p1, h1, h⟩ := bind_ok h
    obtain ⟨x, h2, h⟩ := bind_ok h
    obtain ⟨p3, h3, h⟩ := bind_ok h
    obtain ⟨z, h4, h⟩ := bind_ok h
    cases h
    have := need_mono h1
    have := num_mono h2
    have := need_mono h3
    have := num_mono h4
    simp only
    omega
  · split at h
    · obtain ⟨p1, h1, h⟩ := bind_ok h
      obtain ⟨x, h2, h⟩ := bind_ok h
      cases h
      have := need_mono h1
      have := pair_mono h2
      simp only
      omega
    · cases h; exact Nat.le_refl _
theorem put_mono {st p : Nat} {t : List Nd} {n : Nd} {y : Nat × St} (h : pPut st p t n = .ok y) : y.2.1 = p := by
  unfold pPut at h
  obtain ⟨x, h1, h⟩ := bind_ok h
  cases h; rfl
theorem many_mono {s : List UInt8} {rd : St → Except Er (Nat × St)} {st : Nat} (hr : ∀ x y, rd x = .ok y → x.1 ≤ y.2.1) : ∀ {k : Nat} {x : St} {y : List Nat × St}, pMany s rd st k x = .ok y → x.1 + k ≤ y.2.1 := by
  intro k
  induction k with
  | zero => intro x y h; simp only [pMany] at h; cases h; simp
  | succ k ih =>
    intro x y h
    rw [many_snoc] at h
    obtain ⟨z, h1, h⟩ := bind_ok h
    obtain ⟨p1, h2, h⟩ := bind_ok h
    obtain ⟨u, h3, h⟩ := bind_ok h
    cases h
    have := ih h1
    have := need_mono h2
    have := hr _ _ h3
    simp only at this ⊢
    omega
theorem node_mono (s : List UInt8) : ∀ (f : Nat) (x : St) (y : Nat × St), pNode s f x = .ok y → x.1 ≤ y.2.1 := by
  intro f
  induction f with
  | zero => intro x y h; cases h
  | succ f ih =>
    intro x y h
    simp only [pNode] at h
    split at h
    · obtain ⟨z, h1, h⟩ := bind_ok h
      have := pair_mono h1
      have := put_mono h
      omega
    · split at h
      · obtain ⟨z, h1, h⟩ := bind_ok h
        have := pair_mono h1
        have := put_mono h
        omega
      · obtain ⟨o, h1, h⟩ := bind_ok h
        obtain ⟨z, h2, h⟩ := bind_ok h
        obtain ⟨u, h3, h⟩ := bind_ok h
        have a1 := op_mono h1
        have a2 := nums_mono h2
        have a4 := put_mono h
        unfold pParts at h3
        obtain ⟨m, h5, h3⟩ := bind_ok h3
        obtain ⟨q, h6, h3⟩ := bind_ok h3
        cases h3
        have a5 := many_mono (fun x y h => ih x y h) h5
        have a6 := need_mono h6
        simp only at a4 a5 a6
        omega

theorem find_range {p : Nat → Bool} : ∀ (n i : Nat), i < n → p i = true → (∀ j, j < i → p j = false) → (List.range n).find? p = some i := by
  intro n i hi hp hj
  rw [List.find?_range_eq_some]
  exact ⟨hp, by simpa using hi, fun j hji => by simp [hj j hji]⟩
theorem opP_at {x : List UInt8} {k : Nat} (h2 : 2 ≤ k) (h20 : k ≤ 20) (he : opTab.getD k [] = x) (hn : ∀ j, 2 ≤ j → j < k → opTab.getD j [] ≠ x) : opP x = some k := by
  unfold opP
  rw [find_range 19 (k - 2) (by omega) (by simp only [decide_eq_true_eq]; rw [show k - 2 + 2 = k by omega]; exact he) (fun j hj => by simp only [decide_eq_false_iff_not]; exact hn (j + 2) (by omega) (by omega))]
  simp only [Option.map_some]
  congr 1; omega
theorem opP_none {x : List UInt8} (hn : ∀ j, 2 ≤ j → j < 21 → opTab.getD j [] ≠ x) : opP x = none := by
  unfold opP
  rw [List.find?_eq_none.2 (fun i hi => by
    simp only [decide_eq_true_eq]
    have := List.mem_range.1 hi
    exact hn (i + 2) (by omega) (by omega))]
  rfl

end Go.Proofs.YtmghkeahlhlclaaDoor.Px1
