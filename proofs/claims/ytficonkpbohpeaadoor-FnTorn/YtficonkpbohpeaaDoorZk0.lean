/- Texts cut at a byte, numbers read, keys read: plain. -/
import Derived.Lib.AtoiAll
import Derived.Lib.SmallJoins
import Derived.Test.YtficonkpbohpeaaDoorTx0
import Derived.Test.YtficonkpbohpeaaDoorTa1
import Derived.Test.YtficonkpbohpeaaDoorSs1
import Derived.Test.YtficonkpbohpeaaDoorTk0
namespace Go.Proofs.YtficonkpbohpeaaDoor.Zk0
open Tx0 Ta1
open Ss1 (numI)
open Tk0 (keyL)
set_option linter.unusedVariables false

/-- What stands ahead of the first c, and behind it. -/
def cutF (c : UInt8) (s : List UInt8) : List UInt8 := s.takeWhile (fun x => x != c)
def cutS (c : UInt8) (s : List UInt8) : List UInt8 := (s.dropWhile (fun x => x != c)).drop 1
theorem cut_at (d : UInt8) (s : List UInt8) : (if 0 ≤ Lib.index s [d] then s.take (Lib.index s [d]).toNat else s) = cutF d s ∧ (if 0 ≤ Lib.index s [d] then s.drop ((Lib.index s [d]).toNat + 1) else []) = cutS d s := by
  unfold cutF cutS
  induction s with
  | nil => simp [Lib.index]
  | cons c l ih =>
    by_cases h : c = d
    · subst h
      have e : Lib.index (c :: l) [c] = 0 := by unfold Lib.index; rw [if_pos (by simp [List.isPrefixOf])]
      rw [e]
      constructor
      · simp
      · simp
    · have hc : (c != d) = true := by simp [h]
      rw [List.takeWhile_cons_of_pos (p := fun c => c != d) hc, List.dropWhile_cons_of_pos (p := fun c => c != d) hc, ← ih.1, ← ih.2]
      have e : Lib.index (c :: l) [d] = if Lib.index l [d] == -1 then -1 else Lib.index l [d] + 1 := by
        conv => lhs; unfold Lib.index
        rw [if_neg (by simp [List.isPrefixOf]; exact fun z => h z.symm)]
      have hg := Lib.index_ge l [d]
      by_cases e1 : Lib.index l [d] = -1
      · rw [e, e1]; simp
      · have h0 : 0 ≤ Lib.index l [d] := by omega
        have e2 : Lib.index (c :: l) [d] = Lib.index l [d] + 1 := by rw [e, if_neg (by simpa using e1)]
        rw [e2, if_pos (by omega), if_pos h0, if_pos (by omega), if_pos h0, show (Lib.index l [d] + 1).toNat = (Lib.index l [d]).toNat + 1 by omega, List.take_succ_cons, List.drop_succ_cons]
        exact ⟨rfl, rfl⟩
theorem cut_one (d : UInt8) (s : List UInt8) : (Lib.cut s [d]).1 = cutF d s := by
  rw [← (cut_at d s).1]
  unfold Lib.cut
  split <;> rfl
theorem cut_two (d : UInt8) (s : List UInt8) : (Lib.cut s [d]).2.1 = cutS d s := by
  rw [← (cut_at d s).2]
  unfold Lib.cut
  split <;> rfl
theorem cutF_le (c : UInt8) (s : List UInt8) : (cutF c s).length ≤ s.length := (List.takeWhile_sublist _).length_le
theorem cutS_le (c : UInt8) (s : List UInt8) : (cutS c s).length ≤ s.length := by
  unfold cutS
  rw [List.length_drop]
  have := (List.dropWhile_sublist (l := s) (fun x => x != c)).length_le
  omega
theorem cut_app (c : UInt8) (x y : List UInt8) (h : ∀ d ∈ x, d ≠ c) : cutF c (x ++ c :: y) = x ∧ cutS c (x ++ c :: y) = y := by
  unfold cutF cutS
  have hx : ∀ d ∈ x, (d != c) = true := fun d hd => bne_iff_ne.2 (h d hd)
  rw [List.takeWhile_append_of_pos hx, List.dropWhile_append_of_pos hx]
  constructor
  · rw [List.takeWhile_cons_of_neg (by simp), List.append_nil]
  · rw [List.dropWhile_cons_of_neg (by simp)]; rfl
theorem cut_lt (c : UInt8) {s : List UInt8} (h : s ≠ []) : (cutS c s).length < s.length := by
  unfold cutS
  rw [List.length_drop]
  have := (List.dropWhile_sublist (l := s) (fun x => x != c)).length_le
  have := List.length_pos_iff.2 h
  omega

/-- A number as it is read: its value, and whether it is one. -/
def rnP (s : List UInt8) : Int × Bool := match Lib.atoiAll s with
  | .ok v => (v, true)
  | .«syntax» => (0, false)
  | .range => (Lib.atoiSat s, false)
def valF (acc : Nat) (d : List UInt8) : Nat := d.foldl (fun n c => 10 * n + (c.toNat - 48)) acc
theorem valF_zero (d : List UInt8) : valF 0 d = valL d := rfl
theorem parse_digits : ∀ (d : List UInt8) (acc : Nat), (∀ c ∈ d, isDig c = true) → (acc + 1) * 10 ^ d.length ≤ 10 ^ 18 → Lib.parseUint10 acc d = .ok (valF acc d) := by
  intro d
  induction d with
  | nil => intro acc _ _; rfl
  | cons c r ih =>
    intro acc hd hb
    have hc := of_decide_eq_true (hd c (by simp))
    have hp : 0 < 10 ^ r.length := Nat.pow_pos (by omega)
    rw [List.length_cons, Nat.pow_succ] at hb
    have h1 : (acc + 1) * 10 * 10 ^ r.length ≤ 10 ^ 18 := by
      rw [Nat.mul_assoc, Nat.mul_comm 10]; exact hb
    have h2 : (acc + 1) * 10 ≤ 10 ^ 18 := Nat.le_trans (Nat.le_mul_of_pos_right _ hp) h1
    simp only [Lib.parseUint10]
    rw [if_pos hc, if_neg (by omega), if_neg (by omega), ih _ (fun x hx => hd x (by simp [hx]))]
    · unfold valF
      rw [List.foldl_cons, Nat.mul_comm acc]
    · refine Nat.le_trans (Nat.mul_le_mul_right _ ?_) h1
      omega
theorem atoi_digits {d : List UInt8} (hd : ∀ c ∈ d, isDig c = true) (h1 : 1 ≤ d.length) (h9 : d.length ≤ 17) : Lib.atoiAll d = .ok (valL d : Int) := by
  cases d with
  | nil => simp at h1
  | cons c r =>
    have hc := of_decide_eq_true (hd c (by simp))
    have hpw : 10 ^ (c :: r).length ≤ 10 ^ 17 := Nat.pow_le_pow_right (by omega) h9
    have hp := parse_digits (c :: r) 0 hd (by omega)
    have hv : valL (c :: r) < 10 ^ (c :: r).length := val_lt _ hd
    unfold Lib.atoiAll
    simp only
    rw [if_neg (by omega)]
    unfold Lib.parseMag
    rw [if_neg (by simp), hp, valF_zero]
    simp only
    rw [if_neg (by omega), if_neg (by omega), if_neg (by omega)]
theorem dec_len' {n k : Nat} (hk : 1 ≤ k) (h : n < 10 ^ k) : 1 ≤ (dec n).length ∧ (dec n).length ≤ k := by
  unfold dec
  split
  · exact ⟨Nat.le_refl _, hk⟩
  · exact ⟨digs_one (by omega), digs_len k n h⟩
theorem rn_dec {n : Nat} (h : n < 10 ^ 17) : rnP (dec n) = ((n : Int), true) := by
  unfold rnP
  rw [atoi_digits (dec_all n) (dec_len' (by omega) h).1 (dec_len' (by omega) h).2, val_dec]
theorem rn_minus : rnP [45, 49] = (-1, true) := by decide +kernel

theorem dig_not {c d : UInt8} (h : isDig c = true) (hd : isDig d = false) : c ≠ d := fun e => by rw [e, hd] at h; cases h
/-- A key, read. -/
def rkN (s : List UInt8) : Int := (rnP (cutF 58 s)).1
def rkB (s : List UInt8) : Bool := (rnP (cutF 58 s)).2 && (tokB (rkN s) (cutS 58 s) && decide (keyL (rkN s).toNat (cutS 58 s) = s))
theorem key_cut (n : Nat) (l : List UInt8) : cutF 58 (keyL n l) = dec n ∧ cutS 58 (keyL n l) = l := cut_app 58 (dec n) l (fun d hd => dig_not (dec_all n d hd) (by decide))
theorem rk_key {n : Nat} (F : Nat → Bool) (hn : n ≤ 12) : rkB (keyL n (tab n F)) = true ∧ rkN (keyL n (tab n F)) = (n : Int) ∧ cutS 58 (keyL n (tab n F)) = tab n F := by
  obtain ⟨h1, h2⟩ := key_cut n (tab n F)
  have h3 : rkN (keyL n (tab n F)) = (n : Int) := by unfold rkN; rw [h1, rn_dec (by omega)]
  refine ⟨?_, h3, h2⟩
  unfold rkB
  rw [h3, h2, h1, rn_dec (by omega), tab_tok F hn, Int.toNat_natCast]
  simp
theorem rk_of {s : List UInt8} (h : rkB s = true) : ∃ (n : Nat) (F : Nat → Bool), n ≤ 12 ∧ s = keyL n (tab n F) := by
  unfold rkB at h
  obtain ⟨_, h⟩ := Bool.and_eq_true_iff.1 h
  obtain ⟨h1, h2⟩ := Bool.and_eq_true_iff.1 h
  obtain ⟨n, F, hn, hN, hl⟩ := tok_tab h1
  have h3 := of_decide_eq_true h2
  rw [hN, hl, Int.toNat_natCast] at h3
  exact ⟨n, F, hn, h3.symm⟩
/-- A key, as the model reads it. -/
def mkB (s : List UInt8) : Bool := decide ((cutF 58 s).length ≤ 2 ∧ (cutF 58 s).length ≠ s.length) && (tokB (numI (cutF 58 s)) (cutS 58 s) && decide (keyL (numI (cutF 58 s)).toNat (cutS 58 s) = s))
theorem numI_dec {n : Nat} (h : n < 10 ^ 9) : numI (dec n) = (n : Int) := by unfold numI; rw [num_dec h]
theorem dec_two {n : Nat} (h : n ≤ 12) : (dec n).length ≤ 2 := (dec_len' (k := 2) (by omega) (by omega)).2
theorem mk_key {n : Nat} (F : Nat → Bool) (hn : n ≤ 12) : mkB (keyL n (tab n F)) = true ∧ numI (cutF 58 (keyL n (tab n F))) = (n : Int) := by
  obtain ⟨h1, h2⟩ := key_cut n (tab n F)
  have h3 : numI (cutF 58 (keyL n (tab n F))) = (n : Int) := by rw [h1, numI_dec (by omega)]
  refine ⟨?_, h3⟩
  unfold mkB
  rw [h3, h2, h1, tab_tok F hn, Int.toNat_natCast]
  have hl : (dec n).length ≠ (keyL n (tab n F)).length := by unfold keyL; rw [List.length_append, List.length_cons]; omega
  rw [decide_eq_true ⟨dec_two hn, hl⟩]
  simp
theorem mk_of {s : List UInt8} (h : mkB s = true) : ∃ (n : Nat) (F : Nat → Bool), n ≤ 12 ∧ s = keyL n (tab n F) := by
  unfold mkB at h
  obtain ⟨_, h⟩ := Bool.and_eq_true_iff.1 h
  obtain ⟨h1, h2⟩ := Bool.and_eq_true_iff.1 h
  obtain ⟨n, F, hn, hN, hl⟩ := tok_tab h1
  have h3 := of_decide_eq_true h2
  rw [hN, hl, Int.toNat_natCast] at h3
  exact ⟨n, F, hn, h3.symm⟩
theorem mk_rk (s : List UInt8) : mkB s = rkB s := by
  rw [Bool.eq_iff_iff]
  constructor
  · intro h
    obtain ⟨n, F, hn, rfl⟩ := mk_of h
    exact (rk_key F hn).1
  · intro h
    obtain ⟨n, F, hn, rfl⟩ := rk_of h
    exact (mk_key F hn).1
end Go.Proofs.YtficonkpbohpeaaDoor.Zk0
