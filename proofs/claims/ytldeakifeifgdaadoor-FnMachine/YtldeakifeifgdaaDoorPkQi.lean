/- Small texts of mine, one behind the other. -/
import Derived.Test.YtldeakifeifgdaaDoorPkQf
import Derived.Test.YtldeakifeifgdaaDoorPkQh
/- Plain facts of a table and its two halves. -/
namespace Go.Proofs.YtldeakifeifgdaaDoor.Ta3
open Go.RowKit
open Ta0 Ta1 Ta2 Td1
open Ss0 (bs bs_size bs_app)
set_option linter.unusedVariables false

/-- A half's bits. -/
def hb (n b : Nat) (F : Nat → Bool) (p : Nat) : Bool := F (b * 2 ^ n + p)
theorem hb0 (n : Nat) (F : Nat → Bool) (p : Nat) : hb n 0 F p = F p := by unfold hb; rw [Nat.zero_mul, Nat.zero_add]
theorem hb1 (n : Nat) (F : Nat → Bool) (p : Nat) : hb n 1 F p = F (2 ^ n + p) := by unfold hb; rw [Nat.one_mul]
theorem p1 (n : Nat) : 2 ^ (n + 1) = 2 ^ n + 2 ^ n := by rw [Nat.pow_succ]; omega
theorem half_count (n : Nat) (F : Nat → Bool) : cnt (hb n 0 F) (2 ^ n) + cnt (hb n 1 F) (2 ^ n) = cnt F (2 ^ (n + 1)) := by
  rw [p1, cnt_add, cnt_congr (2 ^ n) (fun j _ => hb0 n F j), cnt_congr (2 ^ n) (fun j _ => hb1 n F j)]
theorem half_join (n : Nat) (F : Nat → Bool) : bs (tab n (hb n 0 F)) ++ bs (tab n (hb n 1 F)) = bs (tab (n + 1) F) := by
  rw [bs_app]
  congr 1
  refine list_tab (by rw [List.length_append, tab_length, tab_length, p1]) fun i hi => ?_
  rw [List.length_append, tab_length, tab_length] at hi
  by_cases h : i < 2 ^ n
  · rw [List.getElem_append_left (by rw [tab_length]; exact h), tab_get, hb0]
  · rw [List.getElem_append_right (by rw [tab_length]; omega), tab_get, hb1, tab_length, show 2 ^ n + (i - 2 ^ n) = i by omega]
/-- All values are one. -/
def Con (n : Nat) (F : Nat → Bool) : Prop := ∀ j, j < 2 ^ n → F j = F 0
theorem knw_con {n : Nat} {F : Nat → Bool} (h : Con n F) : knw n F = ((F 0).toNat : Int) := knw_same h
theorem knw_not {n : Nat} {F : Nat → Bool} (h : ¬ Con n F) : knw n F = -1 := by
  obtain ⟨j, hj⟩ := Classical.not_forall.1 h
  obtain ⟨h1, h2⟩ := Classical.not_imp.1 hj
  exact knw_diff h1 h2
theorem con_halves (n : Nat) (F : Nat → Bool) : Con (n + 1) F ↔ Con n (hb n 0 F) ∧ Con n (hb n 1 F) ∧ hb n 0 F 0 = hb n 1 F 0 := by
  have hp := Nat.two_pow_pos n
  constructor
  · intro h
    refine ⟨fun j hj => ?_, fun j hj => ?_, ?_⟩
    · rw [hb0, hb0]; exact h j (by rw [p1]; omega)
    · rw [hb1, hb1, h _ (by rw [p1]; omega), h (2 ^ n + 0) (by rw [p1]; omega)]
    · rw [hb0, hb1, h (2 ^ n + 0) (by rw [p1]; omega)]
  · rintro ⟨h1, h2, h3⟩ j hj
    rw [p1] at hj
    by_cases h : j < 2 ^ n
    · have := h1 j h
      rwa [hb0, hb0] at this
    · have := h2 (j - 2 ^ n) (by omega)
      rw [← h3, hb0, hb1, show 2 ^ n + (j - 2 ^ n) = j by omega] at this
      exact this
/-- Known just when both halves are, and alike. -/
theorem knw_halves (n : Nat) (F : Nat → Bool) : (0 ≤ knw (n + 1) F ↔ 0 ≤ knw n (hb n 0 F) ∧ knw n (hb n 0 F) = knw n (hb n 1 F)) ∧ (0 ≤ knw (n + 1) F → knw (n + 1) F = knw n (hb n 0 F)) := by
  by_cases h : Con (n + 1) F
  · obtain ⟨h1, h2, h3⟩ := (con_halves n F).1 h
    rw [knw_con h, knw_con h1, knw_con h2, ← h3, hb0]
    exact ⟨⟨fun _ => ⟨by omega, rfl⟩, fun _ => by omega⟩, fun _ => rfl⟩
  · rw [knw_not h]
    refine ⟨⟨fun h0 => by omega, fun ⟨h0, h1⟩ => ?_⟩, fun h0 => by omega⟩
    exfalso
    by_cases c0 : Con n (hb n 0 F)
    · by_cases c1 : Con n (hb n 1 F)
      · rw [knw_con c0, knw_con c1] at h1
        refine h ((con_halves n F).2 ⟨c0, c1, ?_⟩)
        cases e0 : hb n 0 F 0 <;> cases e1 : hb n 1 F 0 <;> first | rfl | (rw [e0, e1] at h1; simp at h1)
      · rw [knw_con c0, knw_not c1] at h1; omega
    · rw [knw_not c0] at h0; omega
theorem knw_range (n : Nat) (F : Nat → Bool) : -1 ≤ knw n F ∧ knw n F ≤ 1 := by
  by_cases h : Con n F
  · rw [knw_con h]; have := (F 0).toNat_le; omega
  · rw [knw_not h]; omega
/-- The first bit is needed just when the halves differ. -/
theorem nd_first (n : Nat) (F : Nat → Bool) : ndB (n + 1) F 0 = true ↔ tab n (hb n 0 F) ≠ tab n (hb n 1 F) := by
  have hp := Nat.two_pow_pos n
  constructor
  · intro h e
    have h2 := tab_inj e
    have h3 : ndB (n + 1) F 0 = false := nd_no (by omega) fun i hi h0 => by
      rw [show n + 1 - 1 - 0 = n by omega] at h0 ⊢
      by_cases hin : i < 2 ^ n
      · have := h2 i hin
        rw [hb0, hb1, Nat.add_comm] at this
        exact this
      · rw [p1] at hi
        have : i / 2 ^ n = 1 := by
          rw [show i = (i - 2 ^ n) + 2 ^ n by omega, Nat.add_div_right _ hp, Nat.div_eq_of_lt (by omega)]
        rw [this] at h0; omega
    rw [h] at h3; cases h3
  · intro h
    cases hN : ndB (n + 1) F 0
    · exfalso
      refine h (tab_ext fun i hi => ?_)
      rw [hb0, hb1]
      by_cases e : F i = F (2 ^ n + i)
      · exact e
      · have := nd_yes (n := n + 1) (b := 0) (i := i) (F := F) (by rw [p1]; omega) (by rw [show n + 1 - 1 - 0 = n by omega, Nat.div_eq_of_lt hi]) (by rw [show n + 1 - 1 - 0 = n by omega, Nat.add_comm]; exact e)
        rw [hN] at this; cases this
    · rfl
/-- It needs none just when it is known. -/
theorem nd_none (n : Nat) (F : Nat → Bool) : (∀ b, b < n → ndB n F b = false) ↔ 0 ≤ knw n F := by
  have hp := Nat.two_pow_pos n
  constructor
  · intro h
    have hc : Con n F := by
      intro j
      induction j using Nat.strongRecOn with
      | ind j ih =>
        intro hj
        by_cases h0 : j = 0
        · rw [h0]
        · have hs1 : 2 ^ j.log2 ≤ j := Nat.log2_self_le h0
          have hs2 : j < 2 ^ (j.log2 + 1) := Nat.lt_log2_self
          have hsn : j.log2 < n := by
            rcases Nat.lt_or_ge j.log2 n with h1 | h1
            · exact h1
            · have := Nat.pow_le_pow_right (n := 2) (by omega) h1; omega
          have hd : j / 2 ^ j.log2 % 2 = 1 := by
            have : j / 2 ^ j.log2 = 1 := by
              have h9 := Nat.add_div_right (j - 2 ^ j.log2) (Nat.two_pow_pos j.log2)
              rw [show j - 2 ^ j.log2 + 2 ^ j.log2 = j by omega, Nat.div_eq_of_lt (a := j - 2 ^ j.log2) (by rw [p1] at hs2; omega)] at h9
              exact h9
            rw [this]
          obtain ⟨_, _, h3⟩ := xor_sub hd
          have hb := h (n - 1 - j.log2) (by omega)
          unfold ndB at hb
          rw [List.any_eq_false] at hb
          have hj2 := hb j (List.mem_range.2 hj)
          rw [show n - 1 - (n - 1 - j.log2) = j.log2 by omega, h3] at hj2
          have e : F j = F (j - 2 ^ j.log2) := by simpa using hj2
          rw [e]
          exact ih _ (by have := Nat.two_pow_pos j.log2; omega) (by omega)
    rw [knw_con hc]; omega
  · intro h b hb
    have hc : Con n F := by
      by_cases c : Con n F
      · exact c
      · rw [knw_not c] at h; omega
    refine nd_no hb fun i hi h0 => ?_
    rw [hc i hi, hc _ (nd_in hb hi h0)]
/-- The list of needs: empty, or its head. -/
theorem nd_head (n : Nat) (F : Nat → Bool) : ndTo (n + 1) F (n + 1) = [] ∨ ∃ x l, ndTo (n + 1) F (n + 1) = x :: l ∧ 0 ≤ x ∧ (x = 0 ↔ ndB (n + 1) F 0 = true) := by
  unfold ndTo
  rw [List.range_succ_eq_map, List.filter_cons]
  cases h : ndB (n + 1) F 0
  · simp only [Bool.false_eq_true, if_false]
    cases h2 : (List.map Nat.succ (List.range n)).filter (ndB (n + 1) F) with
    | nil => exact .inl rfl
    | cons x l =>
      refine .inr ⟨(x : Int), _, rfl, by omega, ?_⟩
      have hm : x ∈ (List.map Nat.succ (List.range n)).filter (ndB (n + 1) F) := by rw [h2]; exact List.mem_cons_self
      obtain ⟨y, _, hy⟩ := List.mem_map.1 (List.mem_filter.1 hm).1
      constructor
      · intro e; omega
      · intro e; cases e
  · simp only [if_true]
    exact .inr ⟨0, _, rfl, by omega, by simp⟩
theorem nd_empty (n : Nat) (F : Nat → Bool) : ndTo n F n = [] ↔ 0 ≤ knw n F := by
  rw [← nd_none]
  unfold ndTo
  rw [List.map_eq_nil_iff, List.filter_eq_nil_iff]
  constructor
  · intro h b hb
    have := h b (List.mem_range.2 hb)
    simpa using this
  · intro h b hb
    rw [h b (List.mem_range.1 hb)]; simp
end Go.Proofs.YtldeakifeifgdaaDoor.Ta3

/- The verdict of a row and a table: plain facts. -/
namespace Go.Proofs.YtldeakifeifgdaaDoor.De0
open Go.RowKit
open Ta1 Ta3
set_option linter.unusedVariables false

/-- The verdict. -/
def dc : List Bool → (Nat → Bool) → Bool
  | [], F => F 0
  | q :: r, F => if q = true then dc r (hb r.length 0 F) && dc r (hb r.length 1 F) else dc r (hb r.length 0 F) || dc r (hb r.length 1 F)
theorem half_lt {n b p : Nat} (hb : b ≤ 1) (hp : p < 2 ^ n) : b * 2 ^ n + p < 2 ^ (n + 1) := by
  rw [p1]
  have : b * 2 ^ n ≤ 1 * 2 ^ n := Nat.mul_le_mul_right _ hb
  omega
theorem dc_ext (r : List Bool) : ∀ {F G : Nat → Bool}, (∀ p, p < 2 ^ r.length → F p = G p) → dc r F = dc r G := by
  induction r with
  | nil => exact fun h => h 0 (by simp)
  | cons q r ih =>
    intro F G h
    have e : ∀ b, b ≤ 1 → dc r (hb r.length b F) = dc r (hb r.length b G) := fun b hb1 => ih fun p hp => h _ (half_lt hb1 hp)
    rw [dc, dc, e 0 (by omega), e 1 (by omega)]
/-- With every flag and every place turned the verdict is the other one. -/
theorem dc_not (r : List Bool) : ∀ F : Nat → Bool, dc (r.map not) (fun p => !F p) = !dc r F := by
  induction r with
  | nil => exact fun F => rfl
  | cons q r ih =>
    intro F
    have e : ∀ b, dc (r.map not) (hb (r.map not).length b (fun p => !F p)) = !dc r (hb r.length b F) := fun b => by
      rw [List.length_map]
      exact ih (hb r.length b F)
    rw [List.map_cons, dc, dc, e 0, e 1]
    cases q <;> cases dc r (hb r.length 0 F) <;> cases dc r (hb r.length 1 F) <;> rfl
/-- More places never lower it. -/
theorem dc_mono (r : List Bool) : ∀ {F G : Nat → Bool}, (∀ p, p < 2 ^ r.length → F p = true → G p = true) → dc r F = true → dc r G = true := by
  induction r with
  | nil => exact fun h => h 0 (by simp)
  | cons q r ih =>
    intro F G h
    have e : ∀ b, b ≤ 1 → dc r (hb r.length b F) = true → dc r (hb r.length b G) = true := fun b hb1 => ih fun p hp => h _ (half_lt hb1 hp)
    have e0 := e 0 (by omega)
    have e1 := e 1 (by omega)
    rw [dc, dc]
    revert e0 e1
    cases q <;> cases dc r (hb r.length 0 F) <;> cases dc r (hb r.length 1 F) <;> cases dc r (hb r.length 0 G) <;> cases dc r (hb r.length 1 G) <;> simp

/-- Place p with a bit put in, s bits behind it. -/
def put1 (s c p : Nat) : Nat := p / 2 ^ s * 2 ^ (s + 1) + c * 2 ^ s + p % 2 ^ s
/-- A bit taken out. -/
def mg (s : Nat) (q : Bool) (F : Nat → Bool) (p : Nat) : Bool := if q = true then F (put1 s 0 p) && F (put1 s 1 p) else F (put1 s 0 p) || F (put1 s 1 p)
theorem put_half (s k b c p : Nat) : put1 s c (b * 2 ^ (k + s) + p) = b * 2 ^ (k + s + 1) + put1 s c p := by
  unfold put1
  have hs := Nat.two_pow_pos s
  have e : b * 2 ^ (k + s) + p = p + 2 ^ s * (b * 2 ^ k) := by rw [Nat.pow_add, Nat.add_comm]; congr 1; rw [← Nat.mul_assoc, Nat.mul_comm]
  rw [e, Nat.add_mul_div_left _ _ hs, Nat.add_mul_mod_self_left, Nat.add_mul]
  have e2 : b * 2 ^ k * 2 ^ (s + 1) = b * 2 ^ (k + s + 1) := by rw [Nat.mul_assoc, ← Nat.pow_add]; rfl
  rw [e2]
  omega
theorem mg_half (s k b : Nat) (q : Bool) (F : Nat → Bool) (p : Nat) : hb (k + s) b (mg s q F) p = mg s q (hb (k + s + 1) b F) p := by
  show mg s q F (b * 2 ^ (k + s) + p) = _
  unfold mg hb
  rw [put_half, put_half]
theorem put_0 {s p : Nat} (c : Nat) (h : p < 2 ^ s) : put1 s c p = c * 2 ^ s + p := by
  unfold put1
  rw [Nat.div_eq_of_lt h, Nat.mod_eq_of_lt h, Nat.zero_mul, Nat.zero_add]
theorem put_lt {s k c p : Nat} (hc : c ≤ 1) (h : p < 2 ^ (k + s)) : put1 s c p < 2 ^ (k + s + 1) := by
  have hs := Nat.two_pow_pos s
  have h1 : p / 2 ^ s < 2 ^ k := by
    rw [Nat.div_lt_iff_lt_mul hs, ← Nat.pow_add]
    exact h
  have h2 := Nat.mod_lt p hs
  have h3 : c * 2 ^ s ≤ 1 * 2 ^ s := Nat.mul_le_mul_right _ hc
  have h4 : p / 2 ^ s * 2 ^ (s + 1) ≤ (2 ^ k - 1) * 2 ^ (s + 1) := Nat.mul_le_mul_right _ (by omega)
  have e : 2 ^ (k + s + 1) = 2 ^ k * 2 ^ (s + 1) := by rw [Nat.add_assoc, Nat.pow_add]
  have e2 := p1 s
  have e3 : (2 ^ k - 1) * 2 ^ (s + 1) = 2 ^ k * 2 ^ (s + 1) - 2 ^ (s + 1) := by rw [Nat.sub_mul, Nat.one_mul]
  have e4 : 2 ^ (s + 1) ≤ 2 ^ k * 2 ^ (s + 1) := Nat.le_mul_of_pos_left _ (Nat.two_pow_pos k)
  unfold put1
  omega
/-- The last bit may be taken out. -/
theorem dc_last (r : List Bool) (q : Bool) : ∀ F : Nat → Bool, dc (r ++ [q]) F = dc r (mg 0 q F) := by
  induction r with
  | nil =>
    intro F
    show dc [q] F = mg 0 q F 0
    unfold mg
    rw [put_0 0 (by simp), put_0 1 (by simp)]
    rfl
  | cons x r ih =>
    intro F
    have e : ∀ b, dc (r ++ [q]) (hb (r ++ [q]).length b F) = dc r (hb r.length b (mg 0 q F)) := fun b => by
      rw [ih, List.length_append]
      refine dc_ext r fun p hp => ?_
      exact (mg_half 0 r.length b q F p).symm
    rw [List.cons_append, dc, dc, e 0, e 1]
/-- .. and one that the table doesn't depend on. -/
theorem dc_idle (r r2 : List Bool) (q : Bool) : ∀ F : Nat → Bool, (∀ p, p < 2 ^ (r.length + r2.length) → F (put1 r2.length 0 p) = F (put1 r2.length 1 p)) → dc (r ++ q :: r2) F = dc (r ++ r2) (mg r2.length q F) := by
  induction r with
  | nil =>
    intro F h
    have h0 : ∀ p, p < 2 ^ r2.length → hb r2.length 0 F p = hb r2.length 1 F p := fun p hp => by
      have := h p (by simpa using hp)
      rw [put_0 0 hp, put_0 1 hp] at this
      exact this
    have e1 : dc r2 (hb r2.length 1 F) = dc r2 (hb r2.length 0 F) := dc_ext r2 fun p hp => (h0 p hp).symm
    have e2 : dc r2 (mg r2.length q F) = dc r2 (hb r2.length 0 F) := dc_ext r2 fun p hp => by
      have := h0 p hp
      unfold hb at this
      unfold mg hb
      rw [put_0 0 hp, put_0 1 hp, ← this]
      cases q <;> cases F (0 * 2 ^ r2.length + p) <;> rfl
    rw [List.nil_append, List.nil_append, dc, e1, e2]
    cases q <;> cases dc r2 (hb r2.length 0 F) <;> rfl
  | cons x r ih =>
    intro F h
    have e : ∀ b, b ≤ 1 → dc (r ++ q :: r2) (hb (r ++ q :: r2).length b F) = dc (r ++ r2) (hb (r ++ r2).length b (mg r2.length q F)) := fun b hb1 => by
      have el : (r ++ q :: r2).length = r.length + r2.length + 1 := by rw [List.length_append, List.length_cons]; omega
      have el2 : (r ++ r2).length = r.length + r2.length := List.length_append
      rw [el, el2, ih]
      · refine dc_ext _ fun p hp => ?_
        exact (mg_half r2.length r.length b q F p).symm
      · intro p hp
        have := h (b * 2 ^ (r.length + r2.length) + p) (by
          have := half_lt hb1 hp
          rw [List.length_cons, show r.length + 1 + r2.length = r.length + r2.length + 1 by omega]
          exact this)
        rw [put_half, put_half] at this
        exact this
    rw [List.cons_append, List.cons_append, dc, dc, e 0 (by omega), e 1 (by omega)]

/-- The choice that is told keeps the verdict. -/
theorem dc_choose (q : Bool) (r : List Bool) (F : Nat → Bool) (h : dc r (hb r.length 0 F) ≠ dc (q :: r) F) : dc r (hb r.length 1 F) = dc (q :: r) F := by
  rw [dc] at h ⊢
  revert h
  cases q <;> cases dc r (hb r.length 0 F) <;> cases dc r (hb r.length 1 F) <;> simp

end Go.Proofs.YtldeakifeifgdaaDoor.De0

/- Idle bits, and a bit taken out place by place: plain facts. -/
namespace Go.Proofs.YtldeakifeifgdaaDoor.De1
open Go.RowKit
open Ta1 Ta2 Ta3 De0
set_option linter.unusedVariables false

/-- The bits that a table doesn't need, of the first k. -/
def idTo (n : Nat) (F : Nat → Bool) (k : Nat) : List Int := ((List.range k).filter fun b => !ndB n F b).map fun (b : Nat) => (b : Int)
theorem idTo_yes {n k : Nat} {F : Nat → Bool} (h : ndB n F k = false) : idTo n F (k + 1) = idTo n F k ++ [(k : Int)] := by
  unfold idTo; rw [List.range_succ, List.filter_append]; simp [h]
theorem idTo_no {n k : Nat} {F : Nat → Bool} (h : ndB n F k = true) : idTo n F (k + 1) = idTo n F k := by
  unfold idTo; rw [List.range_succ, List.filter_append]; simp [h]
theorem id_nd (n k : Nat) (F : Nat → Bool) : (idTo n F k).length + (ndTo n F k).length = k := by
  induction k with
  | zero => rfl
  | succ k ih =>
    cases h : ndB n F k
    · rw [idTo_yes h, ndTo_no h, List.length_append, List.length_singleton]; omega
    · rw [idTo_no h, ndTo_yes h, List.length_append, List.length_singleton]; omega
theorem put_low (s p : Nat) : put1 s 0 p / 2 ^ s % 2 = 0 := by
  have hs := Nat.two_pow_pos s
  unfold put1
  have e : p / 2 ^ s * 2 ^ (s + 1) + 0 * 2 ^ s + p % 2 ^ s = p % 2 ^ s + 2 ^ s * (p / 2 ^ s * 2) := by rw [Nat.pow_succ, Nat.zero_mul, Nat.add_zero, Nat.add_comm]; congr 1; rw [← Nat.mul_assoc, ← Nat.mul_assoc, Nat.mul_comm (p / 2 ^ s)]
  rw [e, Nat.add_mul_div_left _ _ hs, Nat.div_eq_of_lt (Nat.mod_lt p hs)]
  omega
theorem put_high (s p : Nat) : put1 s 1 p = put1 s 0 p + 2 ^ s := by
  unfold put1
  omega
/-- A bit that isn't needed changes nothing. -/
theorem idle_put {n k p : Nat} {F : Nat → Bool} (hk : k < n) (h : ndB n F k = false) (hp : p < 2 ^ (n - 1)) : F (put1 (n - 1 - k) 0 p) = F (put1 (n - 1 - k) 1 p) := by
  apply Classical.byContradiction
  intro e
  rw [put_high] at e
  have hl : put1 (n - 1 - k) 0 p < 2 ^ n := by
    have := put_lt (s := n - 1 - k) (k := k) (c := 0) (p := p) (by omega) (by rw [show k + (n - 1 - k) = n - 1 by omega]; exact hp)
    rwa [show k + (n - 1 - k) + 1 = n by omega] at this
  have := nd_yes hl (put_low _ _) e
  rw [h] at this
  cases this

/-- How many places below i have the bit at 0. -/
def rank (s i : Nat) : Nat := i / 2 ^ (s + 1) * 2 ^ s + min (i % 2 ^ (s + 1)) (2 ^ s)
/-- A place as its parts. -/
theorem parts (s i : Nat) : ∃ a b c, i = a * 2 ^ (s + 1) + b * 2 ^ s + c ∧ b ≤ 1 ∧ c < 2 ^ s ∧ i / 2 ^ s % 2 = b ∧ i / 2 ^ (s + 1) = a ∧ i % 2 ^ (s + 1) = b * 2 ^ s + c := by
  have hs := Nat.two_pow_pos s
  have h1 := Nat.div_add_mod i (2 ^ s)
  have h2 := Nat.div_add_mod (i / 2 ^ s) 2
  have e1 : i / 2 ^ (s + 1) = i / 2 ^ s / 2 := by rw [Nat.pow_succ, Nat.div_div_eq_div_mul]
  have e2 : i = i / 2 ^ s / 2 * 2 ^ (s + 1) + i / 2 ^ s % 2 * 2 ^ s + i % 2 ^ s := by
    have : i / 2 ^ s / 2 * 2 ^ (s + 1) + i / 2 ^ s % 2 * 2 ^ s = 2 ^ s * (i / 2 ^ s) := by
      rw [Nat.pow_succ, Nat.mul_comm (2 ^ s) 2, ← Nat.mul_assoc, ← Nat.add_mul, Nat.mul_comm (i / 2 ^ s / 2) 2, h2, Nat.mul_comm]
    omega
  refine ⟨i / 2 ^ s / 2, i / 2 ^ s % 2, i % 2 ^ s, e2, by omega, Nat.mod_lt _ hs, rfl, e1, ?_⟩
  have h3 := Nat.div_add_mod i (2 ^ (s + 1))
  rw [e1, Nat.mul_comm] at h3
  omega
theorem rank_of {s a b c : Nat} (hb : b ≤ 1) (hc : c < 2 ^ s) : rank s (a * 2 ^ (s + 1) + b * 2 ^ s + c) = a * 2 ^ s + min (b * 2 ^ s + c) (2 ^ s) := by
  have hp := Nat.two_pow_pos (s + 1)
  have e2 := p1 s
  have hl : b * 2 ^ s + c < 2 ^ (s + 1) := half_lt hb hc
  unfold rank
  have e : a * 2 ^ (s + 1) + b * 2 ^ s + c = (b * 2 ^ s + c) + 2 ^ (s + 1) * a := by rw [Nat.mul_comm a]; omega
  rw [e, Nat.add_mul_div_left _ _ hp, Nat.add_mul_mod_self_left, Nat.div_eq_of_lt hl, Nat.mod_eq_of_lt hl, Nat.zero_add]
theorem rank_put {s i : Nat} (h : i / 2 ^ s % 2 = 0) : put1 s 0 (rank s i) = i := by
  have hs := Nat.two_pow_pos s
  obtain ⟨a, b, c, e, hb, hc, h1, h2, h3⟩ := parts s i
  have hb0 : b = 0 := by omega
  subst hb0
  have hr : rank s i = a * 2 ^ s + c := by
    rw [e, rank_of hb hc, Nat.zero_mul, Nat.zero_add, Nat.min_eq_left (by omega)]
  unfold put1
  have e3 : a * 2 ^ s + c = c + 2 ^ s * a := by rw [Nat.mul_comm]; omega
  rw [hr, e3, Nat.add_mul_div_left _ _ hs, Nat.add_mul_mod_self_left, Nat.div_eq_of_lt hc, Nat.mod_eq_of_lt hc, Nat.zero_add]
  omega
theorem rank_next (s i : Nat) : rank s (i + 1) = rank s i + if i / 2 ^ s % 2 = 0 then 1 else 0 := by
  have hs := Nat.two_pow_pos s
  have e2 := p1 s
  obtain ⟨a, b, c, e, hb, hc, h1, h2, h3⟩ := parts s i
  rw [h1]
  have hr : rank s i = a * 2 ^ s + min (b * 2 ^ s + c) (2 ^ s) := by conv => lhs; rw [e]
                                                                     exact rank_of hb hc
  by_cases hc1 : c + 1 < 2 ^ s
  · have e4 : i + 1 = a * 2 ^ (s + 1) + b * 2 ^ s + (c + 1) := by omega
    rw [hr, e4, rank_of hb hc1]
    rcases (by omega : b = 0 ∨ b = 1) with rfl | rfl
    · rw [if_pos rfl, Nat.zero_mul, Nat.zero_add, Nat.zero_add, Nat.min_eq_left (by omega), Nat.min_eq_left (by omega)]; omega
    · rw [if_neg (by omega), Nat.one_mul, Nat.min_eq_right (by omega), Nat.min_eq_right (by omega)]; rfl
  · rcases (by omega : b = 0 ∨ b = 1) with rfl | rfl
    · have e4 : i + 1 = a * 2 ^ (s + 1) + 1 * 2 ^ s + 0 := by omega
      rw [hr, e4, rank_of (by omega) hs, if_pos rfl, Nat.one_mul, Nat.zero_mul, Nat.zero_add, Nat.min_eq_right (by omega), Nat.min_eq_left (by omega)]; omega
    · have e4 : i + 1 = (a + 1) * 2 ^ (s + 1) + 0 * 2 ^ s + 0 := by rw [Nat.add_mul]; omega
      rw [hr, e4, rank_of (by omega) hs, if_neg (by omega), Nat.one_mul, Nat.zero_mul, Nat.zero_add, Nat.min_eq_left (by omega), Nat.min_eq_right (by omega), Nat.add_mul]; omega
theorem rank_0 (s : Nat) : rank s 0 = 0 := by
  unfold rank
  rw [Nat.zero_div, Nat.zero_mod, Nat.zero_mul, Nat.zero_add]
  exact Nat.zero_min _
/-- All places of n + 1 bits: as many as n bits have. -/
theorem rank_all (n s : Nat) (hs : s ≤ n) : rank s (2 ^ (n + 1)) = 2 ^ n := by
  unfold rank
  have e : 2 ^ (n + 1) = 2 ^ (s + 1) * 2 ^ (n - s) := by rw [← Nat.pow_add]; congr 1; omega
  rw [e, Nat.mul_div_cancel_left _ (Nat.two_pow_pos _), Nat.mul_mod_right, Nat.zero_min, Nat.add_zero, ← Nat.pow_add]
  congr 1
  omega

end Go.Proofs.YtldeakifeifgdaaDoor.De1

/- The verdict of a part of a table: plain facts. -/
namespace Go.Proofs.YtldeakifeifgdaaDoor.Dv0
open Go.RowKit
open Ta1 Ta3 De0
set_option linter.unusedVariables false

/-- The verdict where the first k bits have the values that p tells. -/
def dcAt (row : List Bool) (F : Nat → Bool) (k p : Nat) : Bool := dc (row.drop k) fun q => F (p * 2 ^ (row.length - k) + q)
theorem dcAt_0 (row : List Bool) (F : Nat → Bool) : dcAt row F 0 0 = dc row F := by
  unfold dcAt
  rw [List.drop_zero]
  refine dc_ext row fun q _ => ?_
  rw [Nat.zero_mul, Nat.zero_add]
theorem dcAt_end (row : List Bool) (F : Nat → Bool) (p : Nat) : dcAt row F row.length p = F p := by
  unfold dcAt
  rw [List.drop_length, Nat.sub_self]
  show F (p * 2 ^ 0 + 0) = F p
  rw [Nat.pow_zero, Nat.mul_one, Nat.add_zero]
theorem dcAt_half {row : List Bool} {k : Nat} (h : k < row.length) (F : Nat → Bool) (p b : Nat) :
    dc (row.drop (k + 1)) (hb (row.drop (k + 1)).length b fun q => F (p * 2 ^ (row.length - k) + q)) = dcAt row F (k + 1) (2 * p + b) := by
  unfold dcAt
  refine dc_ext _ fun q _ => ?_
  show F (p * 2 ^ (row.length - k) + (b * 2 ^ (row.drop (k + 1)).length + q)) = F ((2 * p + b) * 2 ^ (row.length - (k + 1)) + q)
  have e : row.length - k = (row.length - (k + 1)) + 1 := by omega
  rw [List.length_drop, e, Nat.pow_succ, Nat.add_mul, Nat.mul_comm 2 p, Nat.mul_assoc p 2, Nat.mul_comm 2, Nat.add_assoc]
theorem dcAt_step {row : List Bool} {k : Nat} (h : k < row.length) (F : Nat → Bool) (p : Nat) :
    dcAt row F k p = if row[k] = true then dcAt row F (k + 1) (2 * p) && dcAt row F (k + 1) (2 * p + 1) else dcAt row F (k + 1) (2 * p) || dcAt row F (k + 1) (2 * p + 1) := by
  have h0 : _ = dcAt row F (k + 1) (2 * p) := dcAt_half h F p 0
  have h1 := dcAt_half h F p 1
  rw [← h0, ← h1]
  conv => lhs; unfold dcAt
  rw [List.drop_eq_getElem_cons h]
  rfl
theorem dcAt_ext (row : List Bool) {F G : Nat → Bool} (h : ∀ p, p < 2 ^ row.length → F p = G p) {k p : Nat} (hk : k ≤ row.length) (hp : p < 2 ^ k) : dcAt row F k p = dcAt row G k p := by
  unfold dcAt
  refine dc_ext _ fun q hq => h _ ?_
  rw [List.length_drop] at hq
  have e : 2 ^ row.length = 2 ^ k * 2 ^ (row.length - k) := by rw [← Nat.pow_add]; congr 1; omega
  rw [e]
  have h1 : p * 2 ^ (row.length - k) ≤ (2 ^ k - 1) * 2 ^ (row.length - k) := Nat.mul_le_mul_right _ (by omega)
  have h2 : (2 ^ k - 1) * 2 ^ (row.length - k) = 2 ^ k * 2 ^ (row.length - k) - 2 ^ (row.length - k) := by rw [Nat.sub_mul, Nat.one_mul]
  have h3 : 2 ^ (row.length - k) ≤ 2 ^ k * 2 ^ (row.length - k) := Nat.le_mul_of_pos_left _ (Nat.two_pow_pos k)
  omega
theorem or_bit (p b : Nat) (hb : b ≤ 1) : 2 * p ||| b = 2 * p + b := by
  have := Nat.two_pow_add_eq_or_of_lt (b := b) (i := 1) (by omega) p
  rw [Nat.pow_one] at this
  exact this.symm

/-- The least value of a bit whose half is worth v. -/
def fst (x y : Bool) (v : Int) : Int := if (x.toNat : Int) = v then 0 else if (y.toNat : Int) = v then 1 else -1

end Go.Proofs.YtldeakifeifgdaaDoor.Dv0

/- The machine as plain data: it comes to its end, with the verdict. -/
namespace Go.Proofs.YtldeakifeifgdaaDoor.Mc0
open Go.RowKit
open Ta0 Ta1 Ta3 Td1 De0 Dv0
set_option linter.unusedVariables false

/-- A row of values as a number. -/
def pl (vs : List Bool) : Nat := vs.foldl (fun a b => 2 * a + b.toNat) 0
theorem pl_nil : pl [] = 0 := rfl
theorem pl_snoc (vs : List Bool) (b : Bool) : pl (vs ++ [b]) = 2 * pl vs + b.toNat := by unfold pl; rw [List.foldl_append]; rfl
/-- What is left of the table. -/
def lft (n : Nat) (F : Nat → Bool) (vs : List Bool) (q : Nat) : Bool := F (pl vs * 2 ^ (n - vs.length) + q)
theorem dcAt_lft (row : List Bool) (F : Nat → Bool) (vs : List Bool) : dcAt row F vs.length (pl vs) = dc (row.drop vs.length) (lft row.length F vs) := rfl
theorem dc_con (r : List Bool) : ∀ {G : Nat → Bool} {b : Bool}, (∀ q, q < 2 ^ r.length → G q = b) → dc r G = b := by
  induction r with
  | nil => exact fun h => h 0 (by simp)
  | cons x r ih =>
    intro G b h
    have e : ∀ c, c ≤ 1 → dc r (hb r.length c G) = b := fun c hc => ih fun q hq => h _ (half_lt hc hq)
    rw [dc, e 0 (by omega), e 1 (by omega)]
    cases x <;> cases b <;> rfl

/-- The machine. -/
structure St where
  vals : List Bool
  ret : Option Bool
  over : Bool
  steps : Nat
  looks : Nat
  hits : Nat
  memo : List (List UInt8 × Bool)
/-- What a memo says of a key. -/
def find : List (List UInt8 × Bool) → List UInt8 → Option Bool
  | [], _ => none
  | (k, v) :: r, x => if k = x then some v else find r x
theorem find_mem {m : List (List UInt8 × Bool)} {x : List UInt8} {v : Bool} (h : find m x = some v) : (x, v) ∈ m := by
  induction m with
  | nil => cases h
  | cons a r ih =>
    obtain ⟨k, u⟩ := a
    unfold find at h
    by_cases e : k = x
    · rw [if_pos e] at h
      cases h
      rw [e]
      exact List.mem_cons_self
    · rw [if_neg e] at h
      exact List.mem_cons_of_mem _ (ih h)
/-- One more, the oldest going where there would be more than room. -/
def keep (room : Nat) (m : List (List UInt8 × Bool)) (x : List UInt8) (v : Bool) : List (List UInt8 × Bool) :=
  if 0 < room ∧ find m x = none then (if room < (m ++ [(x, v)]).length then (m ++ [(x, v)]).drop 1 else m ++ [(x, v)]) else m
theorem keep_len {room : Nat} {m : List (List UInt8 × Bool)} (x : List UInt8) (v : Bool) (h : m.length ≤ room) : (keep room m x v).length ≤ room := by
  unfold keep
  split
  · split
    · rw [List.length_drop, List.length_append]; simp; omega
    · omega
  · exact h
theorem keep_mem {room : Nat} {m : List (List UInt8 × Bool)} {x : List UInt8} {v : Bool} {y : List UInt8 × Bool} (h : y ∈ keep room m x v) : y ∈ m ∨ y = (x, v) := by
  unfold keep at h
  split at h
  · have : y ∈ m ++ [(x, v)] := by
      split at h
      · exact List.mem_of_mem_drop h
      · exact h
    rcases List.mem_append.1 this with h1 | h1
    · exact .inl h1
    · exact .inr (List.mem_singleton.1 h1)
  · exact .inl h
/-- The way down. -/
def down (n : Nat) (F : Nat → Bool) (key : Nat → List UInt8 → List UInt8) (s : St) : St :=
  let e := n - s.vals.length
  let G := lft n F s.vals
  if 0 ≤ knw e G then { s with ret := some (G 0), looks := s.looks + 1 }
  else match find s.memo (key e (tab e G)) with
    | some v => { s with ret := some v, hits := s.hits + 1 }
    | none => { s with vals := s.vals ++ [false] }
/-- The way up, with a verdict r. -/
def up (row : List Bool) (F : Nat → Bool) (key : Nat → List UInt8 → List UInt8) (room : Nat) (s : St) (r : Bool) : St :=
  if s.vals = [] then { s with over := true }
  else
    let d := s.vals.length - 1
    let vs := s.vals.take d
    if (row.getD d false != (r == false)) && (s.vals.getD d false == false) then { s with vals := vs ++ [true], ret := none }
    else { s with vals := vs, memo := keep room s.memo (key (row.length - vs.length) (tab (row.length - vs.length) (lft row.length F vs))) r }
/-- A step of a machine that is not over. -/
def step (row : List Bool) (F : Nat → Bool) (key : Nat → List UInt8 → List UInt8) (room : Nat) (s : St) : St :=
  if s.over = true then s
  else match s.ret with
    | none => down row.length F key { s with steps := s.steps + 1 }
    | some r => up row F key room { s with steps := s.steps + 1 } r
def runN (row : List Bool) (F : Nat → Bool) (key : Nat → List UInt8 → List UInt8) (room : Nat) : Nat → St → St
  | 0, s => s
  | k + 1, s => runN row F key room k (step row F key room s)
theorem runN_add (row : List Bool) (F : Nat → Bool) (key : Nat → List UInt8 → List UInt8) (room : Nat) (a b : Nat) : ∀ s, runN row F key room (a + b) s = runN row F key room b (runN row F key room a s) := by
  induction a with
  | zero => intro s; rw [Nat.zero_add]; rfl
  | succ a ih =>
    intro s
    rw [show a + 1 + b = (a + b) + 1 by omega]
    exact ih _
/-- What is remembered is true. -/
def Good (row : List Bool) (key : Nat → List UInt8 → List UInt8) (m : List (List UInt8 × Bool)) : Prop := ∀ y ∈ m, ∀ (e : Nat) (G : Nat → Bool), e ≤ row.length → y.1 = key e (tab e G) → y.2 = dc (row.drop (row.length - e)) G
/-- From one state to one behind it at the same node, its verdict told. -/
structure Node (row : List Bool) (F : Nat → Bool) (key : Nat → List UInt8 → List UInt8) (room : Nat) (s s' : St) (k : Nat) : Prop where
  run : runN row F key room k s = s'
  vals : s'.vals = s.vals
  ret : s'.ret = some (dcAt row F s.vals.length (pl s.vals))
  over : s'.over = false
  good : Good row key s'.memo
  len : s'.memo.length ≤ room
  steps : s'.steps = s.steps + k
  looks : s'.looks ≤ s.looks + k
  hits : s'.hits ≤ s.hits + k
  none : room = 0 → s'.hits = s.hits

theorem con_of {e : Nat} {G : Nat → Bool} (h : 0 ≤ knw e G) : ∀ j, j < 2 ^ e → G j = G 0 := by
  apply Classical.byContradiction
  intro hc
  have := knw_not (n := e) (F := G) hc
  omega
section
variable {row : List Bool} {F : Nat → Bool} {key : Nat → List UInt8 → List UInt8} {room : Nat}
theorem Good.add {m : List (List UInt8 × Bool)} (hinj : ∀ e t e' t', key e t = key e' t' → e = e' ∧ t = t') (h : Good row key m) {e : Nat} {G : Nat → Bool} {v : Bool} (he : e ≤ row.length) (hv : v = dc (row.drop (row.length - e)) G) : Good row key (keep room m (key e (tab e G)) v) := by
  intro y hy e2 G2 he2 hk
  rcases keep_mem hy with h1 | h1
  · exact h y h1 e2 G2 he2 hk
  · rw [h1] at hk ⊢
    obtain ⟨rfl, ht⟩ := hinj _ _ _ _ hk
    show v = _
    rw [hv]
    refine dc_ext _ fun q hq => ?_
    rw [List.length_drop] at hq
    exact tab_inj ht q (by rw [show row.length - (row.length - e) = e by omega] at hq; exact hq)
theorem step_known {s : St} (hr : s.ret = none) (ho : s.over = false) (hk : 0 ≤ knw (row.length - s.vals.length) (lft row.length F s.vals)) : step row F key room s = { s with ret := some (lft row.length F s.vals 0), looks := s.looks + 1, steps := s.steps + 1 } := by
  unfold step
  rw [if_neg (by rw [ho]; simp), hr]
  show down _ _ _ _ = _
  unfold down
  exact if_pos hk
theorem step_hit {s : St} {v : Bool} (hr : s.ret = none) (ho : s.over = false) (hk : ¬ 0 ≤ knw (row.length - s.vals.length) (lft row.length F s.vals)) (hf : find s.memo (key (row.length - s.vals.length) (tab (row.length - s.vals.length) (lft row.length F s.vals))) = some v) : step row F key room s = { s with ret := some v, hits := s.hits + 1, steps := s.steps + 1 } := by
  unfold step
  rw [if_neg (by rw [ho]; simp), hr]
  show down _ _ _ _ = _
  unfold down
  refine (if_neg hk).trans ?_
  show (match find s.memo (key (row.length - s.vals.length) (tab (row.length - s.vals.length) (lft row.length F s.vals))) with | some v => _ | none => _) = _
  rw [hf]
theorem step_on {s : St} (hr : s.ret = none) (ho : s.over = false) (hk : ¬ 0 ≤ knw (row.length - s.vals.length) (lft row.length F s.vals)) (hf : find s.memo (key (row.length - s.vals.length) (tab (row.length - s.vals.length) (lft row.length F s.vals))) = none) : step row F key room s = { s with vals := s.vals ++ [false], steps := s.steps + 1 } := by
  unfold step
  rw [if_neg (by rw [ho]; simp), hr]
  show down _ _ _ _ = _
  unfold down
  refine (if_neg hk).trans ?_
  show (match find s.memo (key (row.length - s.vals.length) (tab (row.length - s.vals.length) (lft row.length F s.vals))) with | some v => _ | none => _) = _
  rw [hf]
theorem step_turn {s : St} {r v : Bool} {vs : List Bool} (hr : s.ret = some r) (ho : s.over = false) (hv : s.vals = vs ++ [v]) (hc : ((row.getD vs.length false != (r == false)) && (v == false)) = true) : step row F key room s = { s with vals := vs ++ [true], ret := none, steps := s.steps + 1 } := by
  unfold step
  rw [if_neg (by rw [ho]; simp), hr]
  show up _ _ _ _ _ _ = _
  unfold up
  have hne : ¬ s.vals = [] := by rw [hv]; simp
  have hd : s.vals.length - 1 = vs.length := by rw [hv, List.length_append]; simp
  have hg : s.vals.getD vs.length false = v := by rw [hv]; simp [List.getD]
  have ht : s.vals.take vs.length = vs := by rw [hv]; simp
  refine (if_neg hne).trans ?_
  show (if (row.getD (s.vals.length - 1) false != (r == false)) && (s.vals.getD (s.vals.length - 1) false == false) then _ else _) = _
  rw [hd, hg, if_pos hc, ht]
theorem step_pop {s : St} {r v : Bool} {vs : List Bool} (hr : s.ret = some r) (ho : s.over = false) (hv : s.vals = vs ++ [v]) (hc : ((row.getD vs.length false != (r == false)) && (v == false)) = false) : step row F key room s = { s with vals := vs, memo := keep room s.memo (key (row.length - vs.length) (tab (row.length - vs.length) (lft row.length F vs))) r, steps := s.steps + 1 } := by
  unfold step
  rw [if_neg (by rw [ho]; simp), hr]
  show up _ _ _ _ _ _ = _
  unfold up
  have hne : ¬ s.vals = [] := by rw [hv]; simp
  have hd : s.vals.length - 1 = vs.length := by rw [hv, List.length_append]; simp
  have hg : s.vals.getD vs.length false = v := by rw [hv]; simp [List.getD]
  have ht : s.vals.take vs.length = vs := by rw [hv]; simp
  refine (if_neg hne).trans ?_
  show (if (row.getD (s.vals.length - 1) false != (r == false)) && (s.vals.getD (s.vals.length - 1) false == false) then _ else _) = _
  rw [hd, hg, if_neg (by rw [hc]; simp), ht]
theorem run1 (s : St) : runN row F key room 1 s = step row F key room s := rfl

theorem node_known {s : St} {e : Nat} (hl : s.vals.length + e = row.length) (hr : s.ret = none) (ho : s.over = false) (hg : Good row key s.memo) (hm : s.memo.length ≤ room) (hk : 0 ≤ knw (row.length - s.vals.length) (lft row.length F s.vals)) : ∃ s', Node row F key room s s' 1 := by
  refine ⟨_, (run1 s).trans (step_known hr ho hk), rfl, ?_, ho, hg, hm, rfl, Nat.le_refl _, Nat.le_succ _, fun _ => rfl⟩
  show some _ = some _
  rw [dcAt_lft, dc_con _ (b := lft row.length F s.vals 0)]
  intro q hq
  rw [List.length_drop] at hq
  exact con_of hk q hq

theorem node (hinj : ∀ e t e' t', key e t = key e' t' → e = e' ∧ t = t') (e : Nat) : ∀ s : St, s.vals.length + e = row.length → s.ret = none → s.over = false → Good row key s.memo → s.memo.length ≤ room → ∃ k s', 1 ≤ k ∧ k + 3 ≤ 4 * 2 ^ e ∧ Node row F key room s s' k := by
  induction e with
  | zero =>
    intro s hl hr ho hg hm
    have hk : 0 ≤ knw (row.length - s.vals.length) (lft row.length F s.vals) := by
      rw [show row.length - s.vals.length = 0 by omega, knw_same (fun j hj => by have : j = 0 := (by simpa using hj); rw [this])]; omega
    obtain ⟨s', h⟩ := node_known hl hr ho hg hm hk
    exact ⟨1, s', by omega, by simp, h⟩
  | succ e ih =>
    intro s hl hr ho hg hm
    have hp := Nat.one_le_two_pow (n := e)
    have hpe : 4 * 2 ^ (e + 1) = 4 * 2 ^ e + 4 * 2 ^ e := by rw [Nat.pow_succ]; omega
    have hne : row.length - s.vals.length = e + 1 := by omega
    by_cases hk : 0 ≤ knw (row.length - s.vals.length) (lft row.length F s.vals)
    · obtain ⟨s', h⟩ := node_known hl hr ho hg hm hk
      exact ⟨1, s', by omega, by omega, h⟩
    cases hf : find s.memo (key (row.length - s.vals.length) (tab (row.length - s.vals.length) (lft row.length F s.vals))) with
    | some v =>
      refine ⟨1, _, by omega, by omega, (run1 s).trans (step_hit hr ho hk hf), rfl, ?_, ho, hg, hm, rfl, Nat.le_succ _, Nat.le_refl _, fun h0 => ?_⟩
      · show some v = some _
        rw [dcAt_lft]
        have := hg _ (find_mem hf) _ _ (by omega) rfl
        rw [show row.length - (row.length - s.vals.length) = s.vals.length by omega] at this
        exact congrArg some this
      · have : s.memo = [] := List.eq_nil_of_length_eq_zero (by omega)
        rw [this] at hf
        cases hf
    | none =>
      have hs1 := step_on (key := key) (room := room) hr ho hk hf
      have hlt : s.vals.length < row.length := by omega
      have hstep := dcAt_step hlt F (pl s.vals)
      have hgd : row.getD s.vals.length false = row[s.vals.length] := by simp [List.getD, hlt]
      obtain ⟨k1, s1, hk1, hb1, h1⟩ := ih { s with vals := s.vals ++ [false], steps := s.steps + 1 } (by rw [List.length_append]; simp; omega) hr ho hg hm
      have hv1 : s1.vals = s.vals ++ [false] := h1.vals
      have hr1 : s1.ret = some (dcAt row F (s.vals.length + 1) (2 * pl s.vals)) := by
        have := h1.ret
        rw [pl_snoc, List.length_append] at this
        exact this
      have hrun1 : runN row F key room (1 + k1) s = s1 := by rw [runN_add, run1, hs1]; exact h1.run
      have hst1 : s1.steps = s.steps + 1 + k1 := h1.steps
      have hlk1 : s1.looks ≤ s.looks + k1 := h1.looks
      have hht1 : s1.hits ≤ s.hits + k1 := h1.hits
      have hno1 : room = 0 → s1.hits = s.hits := h1.none
      generalize dcAt row F (s.vals.length + 1) (2 * pl s.vals) = r0 at *
      cases hc : ((row.getD s.vals.length false != (r0 == false)) && (false == false))
      · have hs2 := step_pop (F := F) (key := key) (room := room) hr1 h1.over hv1 hc
        have hver : r0 = dcAt row F s.vals.length (pl s.vals) := by
          rw [hstep]
          rw [hgd] at hc
          revert hc
          cases row[s.vals.length] <;> cases r0 <;> simp
        refine ⟨1 + k1 + 1, { s1 with vals := s.vals, memo := keep room s1.memo (key (row.length - s.vals.length) (tab (row.length - s.vals.length) (lft row.length F s.vals))) r0, steps := s1.steps + 1 }, by omega, by omega, (by rw [runN_add, hrun1, run1, hs2]), rfl, ?_, h1.over, ?_, keep_len _ _ h1.len, ?_, ?_, ?_, ?_⟩
        · exact hr1.trans (congrArg some hver)
        · exact h1.good.add hinj (by omega) (by rw [hver, dcAt_lft, show row.length - (row.length - s.vals.length) = s.vals.length by omega])
        · show s1.steps + 1 = _; omega
        · show s1.looks ≤ _; omega
        · show s1.hits ≤ _; omega
        · exact hno1
      · have hs2 := step_turn (F := F) (key := key) (room := room) hr1 h1.over hv1 hc
        obtain ⟨k2, s2, hk2, hb2, h2⟩ := ih { s1 with vals := s.vals ++ [true], ret := none, steps := s1.steps + 1 } (by rw [List.length_append]; simp; omega) rfl h1.over h1.good h1.len
        have hv2 : s2.vals = s.vals ++ [true] := h2.vals
        have hr2 : s2.ret = some (dcAt row F (s.vals.length + 1) (2 * pl s.vals + 1)) := by
          have := h2.ret
          rw [pl_snoc, List.length_append] at this
          exact this
        have hst2 : s2.steps = s1.steps + 1 + k2 := h2.steps
        have hlk2 : s2.looks ≤ s1.looks + k2 := h2.looks
        have hht2 : s2.hits ≤ s1.hits + k2 := h2.hits
        have hno2 : room = 0 → s2.hits = s1.hits := h2.none
        generalize dcAt row F (s.vals.length + 1) (2 * pl s.vals + 1) = r1 at *
        have hs3 := step_pop (row := row) (F := F) (key := key) (room := room) hr2 h2.over hv2 (by simp)
        have hver : r1 = dcAt row F s.vals.length (pl s.vals) := by
          rw [hstep]
          rw [hgd] at hc
          revert hc
          cases row[s.vals.length] <;> cases r0 <;> simp
        refine ⟨1 + k1 + 1 + k2 + 1, { s2 with vals := s.vals, memo := keep room s2.memo (key (row.length - s.vals.length) (tab (row.length - s.vals.length) (lft row.length F s.vals))) r1, steps := s2.steps + 1 }, by omega, by omega, (by rw [runN_add, runN_add, runN_add, hrun1, run1, run1, hs2, h2.run, hs3]), rfl, ?_, h2.over, ?_, keep_len _ _ h2.len, ?_, ?_, ?_, ?_⟩
        · exact hr2.trans (congrArg some hver)
        · exact h2.good.add hinj (by omega) (by rw [hver, dcAt_lft, show row.length - (row.length - s.vals.length) = s.vals.length by omega])
        · show s2.steps + 1 = _; omega
        · show s2.looks ≤ _; omega
        · show s2.hits ≤ _; omega
        · exact fun h0 => (hno2 h0).trans (hno1 h0)
/-- A machine at its start. -/
def st0 : St := ⟨[], none, false, 0, 0, 0, []⟩
/-- It comes to its end, with the verdict. -/
theorem ends (hinj : ∀ e t e' t', key e t = key e' t' → e = e' ∧ t = t') : ∃ k s', k + 2 ≤ 4 * 2 ^ row.length ∧ runN row F key room k st0 = s' ∧ s'.over = true ∧ s'.vals = [] ∧ s'.ret = some (dc row F) ∧ Good row key s'.memo ∧ s'.memo.length ≤ room ∧ s'.steps = k ∧ s'.looks ≤ k ∧ s'.hits ≤ k ∧ (room = 0 → s'.hits = 0) := by
  obtain ⟨k, s', h1, h2, h⟩ := node (row := row) (F := F) (room := room) hinj row.length st0 (by simp [st0]) rfl rfl (fun y hy => by cases hy) (Nat.zero_le _)
  have hr : s'.ret = some (dc row F) := by
    have := h.ret
    rw [show st0.vals = [] from rfl, pl_nil, List.length_nil, dcAt_0] at this
    exact this
  have hv : s'.vals = [] := h.vals
  have hs : step row F key room s' = { s' with over := true, steps := s'.steps + 1 } := by
    unfold step
    rw [if_neg (by rw [h.over]; simp), hr]
    show up _ _ _ _ _ _ = _
    unfold up
    exact if_pos hv
  have h3 : s'.steps = 0 + k := h.steps
  have h4 : s'.looks ≤ 0 + k := h.looks
  have h5 : s'.hits ≤ 0 + k := h.hits
  refine ⟨k + 1, { s' with over := true, steps := s'.steps + 1 }, by omega, by rw [runN_add, h.run, run1, hs], rfl, hv, hr, h.good, h.len, ?_, ?_, ?_, h.none⟩
  · show s'.steps + 1 = _; omega
  · show s'.looks ≤ _; omega
  · show s'.hits ≤ _; omega
/-- Behind its end it does nothing more. -/
theorem run_over {s : St} (h : s.over = true) (k : Nat) : runN row F key room k s = s := by
  induction k with
  | zero => rfl
  | succ k ih =>
    show runN row F key room k (step row F key room s) = s
    rw [show step row F key room s = s from by unfold step; rw [if_pos h]]
    exact ih
end

end Go.Proofs.YtldeakifeifgdaaDoor.Mc0
