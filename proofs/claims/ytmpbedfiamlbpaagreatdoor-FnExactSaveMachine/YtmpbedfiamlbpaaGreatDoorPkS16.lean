/- Small texts of mine, one behind the other. -/
import Derived.Lib.AtoiAll
import Derived.Lib.SmallJoins
import Derived.Test.YtmpbedfiamlbpaaGreatDoorPkS5
import Derived.Test.YtmpbedfiamlbpaaGreatDoorPkS4
import Derived.Test.YtmpbedfiamlbpaaGreatDoorPkS6
import Derived.Test.YtmpbedfiamlbpaaGreatDoorPkS15
import Derived.Test.YtmpbedfiamlbpaaGreatDoorPkS14
import Derived.Test.YtmpbedfiamlbpaaGreatDoorPkS10
/- Texts cut at a byte, numbers read, keys read: plain. -/
namespace Go.Proofs.YtmpbedfiamlbpaaGreatDoor.Zk0
open Tx0 Ta1
open Ss1 (numI)
open Tk0 (keyL)
set_option linter.unusedVariables false

/-- What stands ahead of the first c, and behind it. -/
def cutF (c : UInt8) (s : List UInt8) : List UInt8 := s.takeWhile (fun x => x != c)
def cutS (c : UInt8) (s : List UInt8) : List UInt8 := (s.dropWhile (fun x => x != c)).drop 1
theorem cut_at (d : UInt8) (s : List UInt8) : (if 0 ≤ Lib.index s [d] then s.take (Lib.index s [d]).toNat else s) = cutF d s ∧ (if 0 ≤ Lib.index s [d] then s.drop ((Lib.index s [d]).toNat + 1) else []) = cutS d s := by
  unfold cutF cutS
  induction s with
  | nil => simp [Lib.index]
  | cons c l ih =>
    by_cases h : c = d
    · subst h
      have e : Lib.index (c :: l) [c] = 0 := by unfold Lib.index; rw [if_pos (by simp [List.isPrefixOf])]
      rw [e]
      constructor
      · simp
      · simp
    · have hc : (c != d) = true := by simp [h]
      rw [List.takeWhile_cons_of_pos (p := fun c => c != d) hc, List.dropWhile_cons_of_pos (p := fun c => c != d) hc, ← ih.1, ← ih.2]
      have e : Lib.index (c :: l) [d] = if Lib.index l [d] == -1 then -1 else Lib.index l [d] + 1 := by
        conv => lhs; unfold Lib.index
        rw [if_neg (by simp [List.isPrefixOf]; exact fun z => h z.symm)]
      have hg := Lib.index_ge l [d]
      by_cases e1 : Lib.index l [d] = -1
      · rw [e, e1]; simp
      · have h0 : 0 ≤ Lib.index l [d] := by omega
        have e2 : Lib.index (c :: l) [d] = Lib.index l [d] + 1 := by rw [e, if_neg (by simpa using e1)]
        rw [e2, if_pos (by omega), if_pos h0, if_pos (by omega), if_pos h0, show (Lib.index l [d] + 1).toNat = (Lib.index l [d]).toNat + 1 by omega, List.take_succ_cons, List.drop_succ_cons]
        exact ⟨rfl, rfl⟩
theorem cut_one (d : UInt8) (s : List UInt8) : (Lib.cut s [d]).1 = cutF d s := by
  rw [← (cut_at d s).1]
  unfold Lib.cut
  split <;> rfl
theorem cut_two (d : UInt8) (s : List UInt8) : (Lib.cut s [d]).2.1 = cutS d s := by
  rw [← (cut_at d s).2]
  unfold Lib.cut
  split <;> rfl
theorem cutF_le (c : UInt8) (s : List UInt8) : (cutF c s).length ≤ s.length := (List.takeWhile_sublist _).length_le
theorem cutS_le (c : UInt8) (s : List UInt8) : (cutS c s).length ≤ s.length := by
  unfold cutS
  rw [List.length_drop]
  have := (List.dropWhile_sublist (l := s) (fun x => x != c)).length_le
  omega
theorem cut_app (c : UInt8) (x y : List UInt8) (h : ∀ d ∈ x, d ≠ c) : cutF c (x ++ c :: y) = x ∧ cutS c (x ++ c :: y) = y := by
  unfold cutF cutS
  have hx : ∀ d ∈ x, (d != c) = true := fun d hd => bne_iff_ne.2 (h d hd)
  rw [List.takeWhile_append_of_pos hx, List.dropWhile_append_of_pos hx]
  constructor
  · rw [List.takeWhile_cons_of_neg (by simp), List.append_nil]
  · rw [List.dropWhile_cons_of_neg (by simp)]; rfl
theorem cut_lt (c : UInt8) {s : List UInt8} (h : s ≠ []) : (cutS c s).length < s.length := by
  unfold cutS
  rw [List.length_drop]
  have := (List.dropWhile_sublist (l := s) (fun x => x != c)).length_le
  have := List.length_pos_iff.2 h
  omega

/-- A number as it is read: its value, and whether it is one. -/
def rnP (s : List UInt8) : Int × Bool := match Lib.atoiAll s with
  | .ok v => (v, true)
  | .«syntax» => (0, false)
  | .range => (Lib.atoiSat s, false)
def valF (acc : Nat) (d : List UInt8) : Nat := d.foldl (fun n c => 10 * n + (c.toNat - 48)) acc
theorem valF_zero (d : List UInt8) : valF 0 d = valL d := rfl
theorem parse_digits : ∀ (d : List UInt8) (acc : Nat), (∀ c ∈ d, isDig c = true) → (acc + 1) * 10 ^ d.length ≤ 10 ^ 18 → Lib.parseUint10 acc d = .ok (valF acc d) := by
  intro d
  induction d with
  | nil => intro acc _ _; rfl
  | cons c r ih =>
    intro acc hd hb
    have hc := of_decide_eq_true (hd c (by simp))
    have hp : 0 < 10 ^ r.length := Nat.pow_pos (by omega)
    rw [List.length_cons, Nat.pow_succ] at hb
    have h1 : (acc + 1) * 10 * 10 ^ r.length ≤ 10 ^ 18 := by
      rw [Nat.mul_assoc, Nat.mul_comm 10]; exact hb
    have h2 : (acc + 1) * 10 ≤ 10 ^ 18 := Nat.le_trans (Nat.le_mul_of_pos_right _ hp) h1
    simp only [Lib.parseUint10]
    rw [if_pos hc, if_neg (by omega), if_neg (by omega), ih _ (fun x hx => hd x (by simp [hx]))]
    · unfold valF
      rw [List.foldl_cons, Nat.mul_comm acc]
    · refine Nat.le_trans (Nat.mul_le_mul_right _ ?_) h1
      omega
theorem atoi_digits {d : List UInt8} (hd : ∀ c ∈ d, isDig c = true) (h1 : 1 ≤ d.length) (h9 : d.length ≤ 17) : Lib.atoiAll d = .ok (valL d : Int) := by
  cases d with
  | nil => simp at h1
  | cons c r =>
    have hc := of_decide_eq_true (hd c (by simp))
    have hpw : 10 ^ (c :: r).length ≤ 10 ^ 17 := Nat.pow_le_pow_right (by omega) h9
    have hp := parse_digits (c :: r) 0 hd (by omega)
    have hv : valL (c :: r) < 10 ^ (c :: r).length := val_lt _ hd
    unfold Lib.atoiAll
    simp only
    rw [if_neg (by omega)]
    unfold Lib.parseMag
    rw [if_neg (by simp), hp, valF_zero]
    simp only
    rw [if_neg (by omega), if_neg (by omega), if_neg (by omega)]
theorem dec_len' {n k : Nat} (hk : 1 ≤ k) (h : n < 10 ^ k) : 1 ≤ (dec n).length ∧ (dec n).length ≤ k := by
  unfold dec
  split
  · exact ⟨Nat.le_refl _, hk⟩
  · exact ⟨digs_one (by omega), digs_len k n h⟩
theorem rn_dec {n : Nat} (h : n < 10 ^ 17) : rnP (dec n) = ((n : Int), true) := by
  unfold rnP
  rw [atoi_digits (dec_all n) (dec_len' (by omega) h).1 (dec_len' (by omega) h).2, val_dec]
theorem rn_minus : rnP [45, 49] = (-1, true) := by decide +kernel

theorem dig_not {c d : UInt8} (h : isDig c = true) (hd : isDig d = false) : c ≠ d := fun e => by rw [e, hd] at h; cases h
/-- A key, read. -/
def rkN (s : List UInt8) : Int := (rnP (cutF 58 s)).1
def rkB (s : List UInt8) : Bool := (rnP (cutF 58 s)).2 && (tokB (rkN s) (cutS 58 s) && decide (keyL (rkN s).toNat (cutS 58 s) = s))
theorem key_cut (n : Nat) (l : List UInt8) : cutF 58 (keyL n l) = dec n ∧ cutS 58 (keyL n l) = l := cut_app 58 (dec n) l (fun d hd => dig_not (dec_all n d hd) (by decide))
theorem rk_key {n : Nat} (F : Nat → Bool) (hn : n ≤ 12) : rkB (keyL n (tab n F)) = true ∧ rkN (keyL n (tab n F)) = (n : Int) ∧ cutS 58 (keyL n (tab n F)) = tab n F := by
  obtain ⟨h1, h2⟩ := key_cut n (tab n F)
  have h3 : rkN (keyL n (tab n F)) = (n : Int) := by unfold rkN; rw [h1, rn_dec (by omega)]
  refine ⟨?_, h3, h2⟩
  unfold rkB
  rw [h3, h2, h1, rn_dec (by omega), tab_tok F hn, Int.toNat_natCast]
  simp
theorem rk_of {s : List UInt8} (h : rkB s = true) : ∃ (n : Nat) (F : Nat → Bool), n ≤ 12 ∧ s = keyL n (tab n F) := by
  unfold rkB at h
  obtain ⟨_, h⟩ := Bool.and_eq_true_iff.1 h
  obtain ⟨h1, h2⟩ := Bool.and_eq_true_iff.1 h
  obtain ⟨n, F, hn, hN, hl⟩ := tok_tab h1
  have h3 := of_decide_eq_true h2
  rw [hN, hl, Int.toNat_natCast] at h3
  exact ⟨n, F, hn, h3.symm⟩
/-- A key, as the model reads it. -/
def mkB (s : List UInt8) : Bool := decide ((cutF 58 s).length ≤ 2 ∧ (cutF 58 s).length ≠ s.length) && (tokB (numI (cutF 58 s)) (cutS 58 s) && decide (keyL (numI (cutF 58 s)).toNat (cutS 58 s) = s))
theorem numI_dec {n : Nat} (h : n < 10 ^ 9) : numI (dec n) = (n : Int) := by unfold numI; rw [num_dec h]
theorem dec_two {n : Nat} (h : n ≤ 12) : (dec n).length ≤ 2 := (dec_len' (k := 2) (by omega) (by omega)).2
theorem mk_key {n : Nat} (F : Nat → Bool) (hn : n ≤ 12) : mkB (keyL n (tab n F)) = true ∧ numI (cutF 58 (keyL n (tab n F))) = (n : Int) := by
  obtain ⟨h1, h2⟩ := key_cut n (tab n F)
  have h3 : numI (cutF 58 (keyL n (tab n F))) = (n : Int) := by rw [h1, numI_dec (by omega)]
  refine ⟨?_, h3⟩
  unfold mkB
  rw [h3, h2, h1, tab_tok F hn, Int.toNat_natCast]
  have hl : (dec n).length ≠ (keyL n (tab n F)).length := by unfold keyL; rw [List.length_append, List.length_cons]; omega
  rw [decide_eq_true ⟨dec_two hn, hl⟩]
  simp
theorem mk_of {s : List UInt8} (h : mkB s = true) : ∃ (n : Nat) (F : Nat → Bool), n ≤ 12 ∧ s = keyL n (tab n F) := by
  unfold mkB at h
  obtain ⟨_, h⟩ := Bool.and_eq_true_iff.1 h
  obtain ⟨h1, h2⟩ := Bool.and_eq_true_iff.1 h
  obtain ⟨n, F, hn, hN, hl⟩ := tok_tab h1
  have h3 := of_decide_eq_true h2
  rw [hN, hl, Int.toNat_natCast] at h3
  exact ⟨n, F, hn, h3.symm⟩
theorem mk_rk (s : List UInt8) : mkB s = rkB s := by
  rw [Bool.eq_iff_iff]
  constructor
  · intro h
    obtain ⟨n, F, hn, rfl⟩ := mk_of h
    exact (rk_key F hn).1
  · intro h
    obtain ⟨n, F, hn, rfl⟩ := rk_of h
    exact (mk_key F hn).1
end Go.Proofs.YtmpbedfiamlbpaaGreatDoor.Zk0

/- Plain facts of a table and its two halves. -/
namespace Go.Proofs.YtmpbedfiamlbpaaGreatDoor.Ta3
open Go.RowKit
open Ta0 Ta1 Ta2 Td1
open Ss0 (bs bs_size bs_app)
set_option linter.unusedVariables false

/-- A half's bits. -/
def hb (n b : Nat) (F : Nat → Bool) (p : Nat) : Bool := F (b * 2 ^ n + p)
theorem hb0 (n : Nat) (F : Nat → Bool) (p : Nat) : hb n 0 F p = F p := by unfold hb; rw [Nat.zero_mul, Nat.zero_add]
theorem hb1 (n : Nat) (F : Nat → Bool) (p : Nat) : hb n 1 F p = F (2 ^ n + p) := by unfold hb; rw [Nat.one_mul]
theorem p1 (n : Nat) : 2 ^ (n + 1) = 2 ^ n + 2 ^ n := by rw [Nat.pow_succ]; omega
theorem half_count (n : Nat) (F : Nat → Bool) : cnt (hb n 0 F) (2 ^ n) + cnt (hb n 1 F) (2 ^ n) = cnt F (2 ^ (n + 1)) := by
  rw [p1, cnt_add, cnt_congr (2 ^ n) (fun j _ => hb0 n F j), cnt_congr (2 ^ n) (fun j _ => hb1 n F j)]
theorem half_join (n : Nat) (F : Nat → Bool) : bs (tab n (hb n 0 F)) ++ bs (tab n (hb n 1 F)) = bs (tab (n + 1) F) := by
  rw [bs_app]
  congr 1
  refine list_tab (by rw [List.length_append, tab_length, tab_length, p1]) fun i hi => ?_
  rw [List.length_append, tab_length, tab_length] at hi
  by_cases h : i < 2 ^ n
  · rw [List.getElem_append_left (by rw [tab_length]; exact h), tab_get, hb0]
  · rw [List.getElem_append_right (by rw [tab_length]; omega), tab_get, hb1, tab_length, show 2 ^ n + (i - 2 ^ n) = i by omega]
/-- All values are one. -/
def Con (n : Nat) (F : Nat → Bool) : Prop := ∀ j, j < 2 ^ n → F j = F 0
theorem knw_con {n : Nat} {F : Nat → Bool} (h : Con n F) : knw n F = ((F 0).toNat : Int) := knw_same h
theorem knw_not {n : Nat} {F : Nat → Bool} (h : ¬ Con n F) : knw n F = -1 := by
  obtain ⟨j, hj⟩ := Classical.not_forall.1 h
  obtain ⟨h1, h2⟩ := Classical.not_imp.1 hj
  exact knw_diff h1 h2
theorem con_halves (n : Nat) (F : Nat → Bool) : Con (n + 1) F ↔ Con n (hb n 0 F) ∧ Con n (hb n 1 F) ∧ hb n 0 F 0 = hb n 1 F 0 := by
  have hp := Nat.two_pow_pos n
  constructor
  · intro h
    refine ⟨fun j hj => ?_, fun j hj => ?_, ?_⟩
    · rw [hb0, hb0]; exact h j (by rw [p1]; omega)
    · rw [hb1, hb1, h _ (by rw [p1]; omega), h (2 ^ n + 0) (by rw [p1]; omega)]
    · rw [hb0, hb1, h (2 ^ n + 0) (by rw [p1]; omega)]
  · rintro ⟨h1, h2, h3⟩ j hj
    rw [p1] at hj
    by_cases h : j < 2 ^ n
    · have := h1 j h
      rwa [hb0, hb0] at this
    · have := h2 (j - 2 ^ n) (by omega)
      rw [← h3, hb0, hb1, show 2 ^ n + (j - 2 ^ n) = j by omega] at this
      exact this
/-- Known just when both halves are, and alike. -/
theorem knw_halves (n : Nat) (F : Nat → Bool) : (0 ≤ knw (n + 1) F ↔ 0 ≤ knw n (hb n 0 F) ∧ knw n (hb n 0 F) = knw n (hb n 1 F)) ∧ (0 ≤ knw (n + 1) F → knw (n + 1) F = knw n (hb n 0 F)) := by
  by_cases h : Con (n + 1) F
  · obtain ⟨h1, h2, h3⟩ := (con_halves n F).1 h
    rw [knw_con h, knw_con h1, knw_con h2, ← h3, hb0]
    exact ⟨⟨fun _ => ⟨by omega, rfl⟩, fun _ => by omega⟩, fun _ => rfl⟩
  · rw [knw_not h]
    refine ⟨⟨fun h0 => by omega, fun ⟨h0, h1⟩ => ?_⟩, fun h0 => by omega⟩
    exfalso
    by_cases c0 : Con n (hb n 0 F)
    · by_cases c1 : Con n (hb n 1 F)
      · rw [knw_con c0, knw_con c1] at h1
        refine h ((con_halves n F).2 ⟨c0, c1, ?_⟩)
        cases e0 : hb n 0 F 0 <;> cases e1 : hb n 1 F 0 <;> first | rfl | (rw [e0, e1] at h1; simp at h1)
      · rw [knw_con c0, knw_not c1] at h1; omega
    · rw [knw_not c0] at h0; omega
theorem knw_range (n : Nat) (F : Nat → Bool) : -1 ≤ knw n F ∧ knw n F ≤ 1 := by
  by_cases h : Con n F
  · rw [knw_con h]; have := (F 0).toNat_le; omega
  · rw [knw_not h]; omega
/-- The first bit is needed just when the halves differ. -/
theorem nd_first (n : Nat) (F : Nat → Bool) : ndB (n + 1) F 0 = true ↔ tab n (hb n 0 F) ≠ tab n (hb n 1 F) := by
  have hp := Nat.two_pow_pos n
  constructor
  · intro h e
    have h2 := tab_inj e
    have h3 : ndB (n + 1) F 0 = false := nd_no (by omega) fun i hi h0 => by
      rw [show n + 1 - 1 - 0 = n by omega] at h0 ⊢
      by_cases hin : i < 2 ^ n
      · have := h2 i hin
        rw [hb0, hb1, Nat.add_comm] at this
        exact this
      · rw [p1] at hi
        have : i / 2 ^ n = 1 := by
          rw [show i = (i - 2 ^ n) + 2 ^ n by omega, Nat.add_div_right _ hp, Nat.div_eq_of_lt (by omega)]
        rw [this] at h0; omega
    rw [h] at h3; cases h3
  · intro h
    cases hN : ndB (n + 1) F 0
    · exfalso
      refine h (tab_ext fun i hi => ?_)
      rw [hb0, hb1]
      by_cases e : F i = F (2 ^ n + i)
      · exact e
      · have := nd_yes (n := n + 1) (b := 0) (i := i) (F := F) (by rw [p1]; omega) (by rw [show n + 1 - 1 - 0 = n by omega, Nat.div_eq_of_lt hi]) (by rw [show n + 1 - 1 - 0 = n by omega, Nat.add_comm]; exact e)
        rw [hN] at this; cases this
    · rfl
/-- It needs none just when it is known. -/
theorem nd_none (n : Nat) (F : Nat → Bool) : (∀ b, b < n → ndB n F b = false) ↔ 0 ≤ knw n F := by
  have hp := Nat.two_pow_pos n
  constructor
  · intro h
    have hc : Con n F := by
      intro j
      induction j using Nat.strongRecOn with
      | ind j ih =>
        intro hj
        by_cases h0 : j = 0
        · rw [h0]
        · have hs1 : 2 ^ j.log2 ≤ j := Nat.log2_self_le h0
          have hs2 : j < 2 ^ (j.log2 + 1) := Nat.lt_log2_self
          have hsn : j.log2 < n := by
            rcases Nat.lt_or_ge j.log2 n with h1 | h1
            · exact h1
            · have := Nat.pow_le_pow_right (n := 2) (by omega) h1; omega
          have hd : j / 2 ^ j.log2 % 2 = 1 := by
            have : j / 2 ^ j.log2 = 1 := by
              have h9 := Nat.add_div_right (j - 2 ^ j.log2) (Nat.two_pow_pos j.log2)
              rw [show j - 2 ^ j.log2 + 2 ^ j.log2 = j by omega, Nat.div_eq_of_lt (a := j - 2 ^ j.log2) (by rw [p1] at hs2; omega)] at h9
              exact h9
            rw [this]
          obtain ⟨_, _, h3⟩ := xor_sub hd
          have hb := h (n - 1 - j.log2) (by omega)
          unfold ndB at hb
          rw [List.any_eq_false] at hb
          have hj2 := hb j (List.mem_range.2 hj)
          rw [show n - 1 - (n - 1 - j.log2) = j.log2 by omega, h3] at hj2
          have e : F j = F (j - 2 ^ j.log2) := by simpa using hj2
          rw [e]
          exact ih _ (by have := Nat.two_pow_pos j.log2; omega) (by omega)
    rw [knw_con hc]; omega
  · intro h b hb
    have hc : Con n F := by
      by_cases c : Con n F
      · exact c
      · rw [knw_not c] at h; omega
    refine nd_no hb fun i hi h0 => ?_
    rw [hc i hi, hc _ (nd_in hb hi h0)]
/-- The list of needs: empty, or its head. -/
theorem nd_head (n : Nat) (F : Nat → Bool) : ndTo (n + 1) F (n + 1) = [] ∨ ∃ x l, ndTo (n + 1) F (n + 1) = x :: l ∧ 0 ≤ x ∧ (x = 0 ↔ ndB (n + 1) F 0 = true) := by
  unfold ndTo
  rw [List.range_succ_eq_map, List.filter_cons]
  cases h : ndB (n + 1) F 0
  · simp only [Bool.false_eq_true, if_false]
    cases h2 : (List.map Nat.succ (List.range n)).filter (ndB (n + 1) F) with
    | nil => exact .inl rfl
    | cons x l =>
      refine .inr ⟨(x : Int), _, rfl, by omega, ?_⟩
      have hm : x ∈ (List.map Nat.succ (List.range n)).filter (ndB (n + 1) F) := by rw [h2]; exact List.mem_cons_self
      obtain ⟨y, _, hy⟩ := List.mem_map.1 (List.mem_filter.1 hm).1
      constructor
      · intro e; omega
      · intro e; cases e
  · simp only [if_true]
    exact .inr ⟨0, _, rfl, by omega, by simp⟩
theorem nd_empty (n : Nat) (F : Nat → Bool) : ndTo n F n = [] ↔ 0 ≤ knw n F := by
  rw [← nd_none]
  unfold ndTo
  rw [List.map_eq_nil_iff, List.filter_eq_nil_iff]
  constructor
  · intro h b hb
    have := h b (List.mem_range.2 hb)
    simpa using this
  · intro h b hb
    rw [h b (List.mem_range.1 hb)]; simp
end Go.Proofs.YtmpbedfiamlbpaaGreatDoor.Ta3
