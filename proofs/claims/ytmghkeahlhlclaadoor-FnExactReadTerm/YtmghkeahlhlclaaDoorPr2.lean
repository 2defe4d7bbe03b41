/- The walks of the program's reader: numbers. -/
import Derived.Lib.AtoiAll
import Derived.Lib.SmallJoins
import Derived.LaidEql
import Derived.Test.YtmghkeahlhlclaaDoorPr1
import Derived.Test.YtmghkeahlhlclaaDoorPt1
import Derived.Test.YtmghkeahlhlclaaDoorShelf2
namespace Go.Proofs.YtmghkeahlhlclaaDoor.Pr2
open Go.RowKit
open Nd0 Nd3 Tm0 Tx0 Tx1 Ss0 Ss1 Tb0 Tb1 Px0 Pr1
open Pt1 (iItoa)
open Ss5 (Kb)
set_option linter.unusedVariables false

/-- What digits are worth behind others. -/
def valF (acc : Nat) (d : List UInt8) : Nat := d.foldl (fun n c => 10 * n + (c.toNat - 48)) acc
theorem valF_zero (d : List UInt8) : valF 0 d = valL d := rfl
theorem parse_digits : ∀ (d : List UInt8) (acc : Nat), (∀ c ∈ d, isDig c = true) → (acc + 1) * 10 ^ d.length ≤ 10 ^ 18 → Lib.parseUint10 acc d = .ok (valF acc d) := by
  intro d
  induction d with
  | nil => intro acc _ _; rfl
  | cons c r ih =>
    intro acc hd hb
    have hc := of_decide_eq_true (hd c (by simp))
    have hp : 0 < 10 ^ r.length := Nat.pow_pos (by omega)
    rw [List.length_cons, Nat.pow_succ] at hb
    have h1 : (acc + 1) * 10 * 10 ^ r.length ≤ 10 ^ 18 := by
      rw [Nat.mul_assoc, Nat.mul_comm 10]; exact hb
    have h2 : (acc + 1) * 10 ≤ 10 ^ 18 := Nat.le_trans (Nat.le_mul_of_pos_right _ hp) h1
    simp only [Lib.parseUint10]
    rw [if_pos hc, if_neg (by omega), if_neg (by omega), ih _ (fun x hx => hd x (by simp [hx]))]
    · unfold valF
      rw [List.foldl_cons, Nat.mul_comm acc]
    · refine Nat.le_trans (Nat.mul_le_mul_right _ ?_) h1
      omega
theorem atoi_digits {d : List UInt8} (hd : ∀ c ∈ d, isDig c = true) (h1 : 1 ≤ d.length) (h9 : d.length ≤ 9) : Lib.atoiAll d = .ok (valL d : Int) := by
  cases d with
  | nil => simp at h1
  | cons c r =>
    have hc := of_decide_eq_true (hd c (by simp))
    have hpw : 10 ^ (c :: r).length ≤ 10 ^ 9 := Nat.pow_le_pow_right (by omega) h9
    have hp := parse_digits (c :: r) 0 hd (by omega)
    have hv : valL (c :: r) < 10 ^ (c :: r).length := val_lt _ hd
    unfold Lib.atoiAll
    simp only
    rw [if_neg (by omega)]
    unfold Lib.parseMag
    rw [if_neg (by simp), hp, valF_zero]
    simp only
    rw [if_neg (by omega), if_neg (by omega), if_neg (by omega)]

theorem iAtoi {d : List UInt8} (w : World) (hd : ∀ c ∈ d, isDig c = true) (h1 : 1 ≤ d.length) (h9 : d.length ≤ 9) :
    Calls Tryd.prog 86 #[.string (bs d)] w fun e w' => e = .returned (.tuple #[.int .i64 (valL d : Int), .nilIface]) ∧ Below w.heap.size w w' := by
  refine (Tryd.strconv_Atoi_ok (bs d) (by rw [bs_size]; omega) _ (atoi_digits hd h1 h9) w).mono ?_
  rintro e w' ⟨rfl, h⟩
  refine ⟨rfl, ?_⟩
  rcases h with rfl | ⟨t, rfl⟩
  · exact Below.refl _ _
  · exact Go.Joins.below_bytesWorld _ _ _ _ (Nat.le_refl _)
theorem iAtoiNone (w : World) (hT : TabR w) :
    Calls Tryd.prog 86 #[.string (bs [])] w fun e w' => (∃ N, e = .returned (.tuple #[.int .i64 0, .iface 128 (.pointer (some ⟨N, 0, none⟩))])) ∧ Below w.heap.size w w' := by
  obtain ⟨te, pe, hc⟩ := hT.err
  refine (Tryd.strconv_Atoi_syntax (bs []) (by decide) rfl _ w hc (.inr ⟨te, pe, rfl⟩)).mono ?_
  rintro e w' ⟨N, rfl, _, _, hb⟩
  exact ⟨⟨N, rfl⟩, hb⟩

set_option maxHeartbeats 1000000 in
theorem iShort (d : List UInt8) (w : World) (hT : TabR w) (hd : ∀ c ∈ d, isDig c = true) :
    Calls Tryd.prog 78 #[.string (bs d)] w fun e w' => (∃ x : Int, e = .returned (.tuple #[.int .i64 x, .bool (numL d).isSome]) ∧ ∀ k, numL d = some k → x = (k : Int)) ∧ Below w.heap.size w w' := by
  have HT : Hid (TabR w) := hT
  have HD : Hid (∀ c ∈ d, isDig c = true) := hd
  clear hT hd
  have hz : (bs d).size = d.length := bs_size d
  by_cases h9 : 9 < d.length
  · have HN : Hid (numL d = none) := by show _ = _; unfold numL; rw [if_pos (.inr h9)]
    have h9z : (9 : Int) < ((bs d).size : Int) := by rw [hz]; omega
    clear hz
    go_enter Tryd.func78, Tryd.ntmps78
    go_wp2
    go_ret2
    rw [HN.out]
    exact ⟨⟨0, rfl, fun k hk => by cases hk⟩, Below.refl _ _⟩
  have h9z : ¬ (9 : Int) < ((bs d).size : Int) := by rw [hz]; omega
  by_cases h0 : d.length = 0
  · obtain rfl : d = [] := List.eq_nil_of_length_eq_zero h0
    clear hz h0
    go_enter Tryd.func78, Tryd.ntmps78
    go_wp2_with fail
    refine (iAtoiNone _ HT.out).mono ?_
    rintro e w1 ⟨⟨N, rfl⟩, hb1⟩
    go_wp2
    go_ret2
    exact ⟨⟨0, rfl, fun k hk => by cases hk⟩, hb1⟩
  · clear hz
    obtain ⟨k, hk⟩ : ∃ k, valL d = k := ⟨_, rfl⟩
    have HN : Hid (numL d = if dec k = d then some k else none) := by
      show _ = _
      unfold numL
      rw [if_neg (by omega), if_pos (List.all_eq_true.2 HD.out), hk]
    have hk9 : k < 1000000000 := by
      have := val_lt d HD.out
      have h2 : 10 ^ d.length ≤ 10 ^ 9 := Nat.pow_le_pow_right (by omega) (by omega)
      omega
    have HK : Hid (valL d = k) := hk
    have hk0 : (0 : Int) ≤ (k : Int) := by omega
    have HQ : Hid (((bs (dec k)).toList == (bs d).toList) = decide (dec k = d)) := by show _ = _; rw [eqb, tl_bs, tl_bs]
    clear hk
    go_enter Tryd.func78, Tryd.ntmps78
    go_wp2_with fail
    refine (iAtoi _ HD.out (by omega) (by omega)).mono ?_
    rw [HK.out]
    rintro e w1 ⟨rfl, hb1⟩
    have HB1 : Hid (Below w.heap.size w w1) := hb1
    clear hb1
    go_wp2_with fail
    refine (iItoa k hk9 _ (HT.out.below HB1.out).tabs).mono ?_
    rintro e w2 ⟨rfl, hb2⟩
    have HB2 : Hid (Below w.heap.size w w2) := HB1.out.trans (hb2.mono HB1.out.size)
    clear hb2
    go_wp2
    go_ret2
    refine ⟨⟨k, ?_, ?_⟩, HB2.out⟩
    · rw [HN.out]
      by_cases e : dec k = d
      · rw [if_pos e]; simp [e]
      · rw [if_neg e, HQ.out]; simp [e]
    · intro k' hk'
      rw [HN.out] at hk'
      split at hk'
      · cases hk'; rfl
      · cases hk'

theorem kb_of_below {b : Nat} {w w' : World} (h : Below w.heap.size w w') : Kb b w w' := ⟨h.os, h.tape, h.output, h.size, fun i hi _ => h.block i hi⟩
theorem drop_take_more {S : ByteArray} {p k : Nat} (hp : p ≤ k) (h : k < S.size) : ((tl S).take (k + 1)).drop p = ((tl S).take k).drop p ++ [S[k]] := Ss3.take_more hp h
theorem dig_ends {S : ByteArray} {p k : Nat} (hp : p ≤ k) (hk : k ≤ S.size) (ha : ∀ c ∈ ((tl S).take k).drop p, isDig c = true) (he : isDig (nx (tl S) k) = false) : pDig (tl S) p = ((tl S).take k).drop p := by
  unfold pDig
  have hsp := Ss3.left_split (S := S) hp
  unfold Ss3.left at hsp
  rw [hsp, List.takeWhile_append_of_pos ha]
  have : (List.drop k (tl S)).takeWhile isDig = [] := by
    by_cases h : k < S.size
    · have e := Ss3.left_cons h
      unfold Ss3.left at e
      rw [e, List.takeWhile_cons, if_neg]
      rw [← nx_in h, he]; simp
    · have e := Ss3.left_nil (S := S) (p := k) (by omega)
      unfold Ss3.left at e
      rw [e]; rfl
  rw [this, List.append_nil]

set_option maxRecDepth 100000 in
set_option maxHeartbeats 4000000 in
theorem iNumber (w : World) (b : Nat) (S : ByteArray) (p : Nat) (v : Value) (bm st : Nat) (hT : TabR w) (hg : ∀ w', Kb b w w' → TabR w') (h : RB w b S p v bm) (hs : S.size ≤ 100000) (hp : p ≤ S.size) :
    Calls Tryd.prog 65 #[.pointer (some ⟨b, 0, none⟩), .int .i64 st] w fun e w' => Out (pNum (tl S) st p) (fun y => e = .returned (.int .i64 (y.1 : Int)) ∧ RB w' b S y.2 v bm ∧ y.2 ≤ S.size) (fun x => e = .panicked [fl x]) ∧ Kb b w w' := by
  have H : Hid (RB w b S p v bm) := h
  have HG : Hid (∀ w', Kb b w w' → TabR w') := hg
  have c1 := h.c1
  clear h hT hg
  go_enter Tryd.func65, Tryd.ntmps65
  go_wp2
  clear c1
  go_loopw [12] (fun _ wr => ∃ k : Nat, p ≤ k ∧ k ≤ S.size ∧ RB wr b S k v bm ∧ Kb b w wr ∧ ∀ c ∈ ((tl S).take k).drop p, isDig c = true) (fun _ wr => S.size - (intOf ((wr.cell? ⟨b, 1, none⟩).getD undef)).toNat)
  case atStart => exact ⟨p, Nat.le_refl _, hp, H.out, Kept.refl _ _, fun c hc => by
    rw [List.drop_eq_nil_of_le (by rw [List.length_take]; omega)] at hc; cases hc⟩
  case round =>
    clear H
    obtain ⟨k, hpk, hk, hrc, hkept, ha⟩ := hrel
    have H : Hid (RB wr b S k v bm) := hrc
    have HK : Hid (Kb b w wr) := hkept
    have HA : Hid (∀ c ∈ ((tl S).take k).drop p, isDig c = true) := ha
    have c1 := hrc.c1
    clear hrc hkept ha
    go_wp2_with fail
    refine (iNext _ b S k v bm H.out hs hk).mono ?_
    rintro e w1 ⟨rfl, hb1⟩
    have H1 : Hid (RB w1 b S k v bm) := H.out.below hb1
    have HK1 : Hid (Kb b w w1) := HK.out.trans (kb_of_below hb1)
    clear hb1
    go_wp2_with fail
    refine (iDig _ _).mono ?_
    rintro e w2 ⟨rfl, rfl⟩
    cases hd : isDig (nx (tl S) k)
    · obtain ⟨d, hdd⟩ : ∃ d, ((tl S).take k).drop p = d := ⟨_, rfl⟩
      have HDE : Hid (pDig (tl S) p = d) := by show _ = _; rw [← hdd]; exact dig_ends hpk hk HA.out hd
      have HX : Hid (S.extract p k = bs d) := by show _ = _; apply tl_inj; rw [tl_ext, tl_bs]; exact hdd
      have HDL : Hid (p + d.length = k) := by show _ = _; rw [← hdd, List.length_drop, List.length_take, tl_length]; omega
      rw [hdd] at HA
      have hpz : (p : Int) ≤ (k : Int) := by omega
      have hkz : (k : Int) ≤ (S.size : Int) := by omega
      clear hdd
      go_wp2_with fail
      have HRD : Hid (RB w2.drew b S k v bm) := H1.out.drewN 1
      have HKD : Hid (Kb b w w2.drew) := HK1.out.drewN 1
      have HTD : Hid (TabR w2.drew) := HG.out _ HKD.out
      cases hn : numL d with
      | none =>
        have HNS : Hid ((numL d).isSome = false) := by show _ = _; rw [hn]; rfl
        have HP : Hid (pNum (tl S) st p = .error (2, st)) := by show _ = _; unfold pNum; rw [HDE.out, hn]
        clear hn
        refine wp_region_held_drew (S := fun w' => RB w' b S k v bm) (by kernel_rfl) (HRD.out) (fun hHeld => ?_)
        refine wpAnyH_take (i := 0) (v := ?_) rfl (by kernel_rfl) (by kernel_rfl) (by kernel_rfl) (fun _ _ _ h => h) (Or.inl ⟨by rfl, ?_⟩) hHeld ?_
        rotate_left
        · (intro v9 hS9; go_simp; try with_reducible rfl)
        try simp only [Act.put, List.setIfInBounds_toArray, List.set_cons_zero, List.set_cons_succ, List.getElem_toArray, List.getElem_cons_zero]
        refine wpAnyH_take (i := 1) (v := ?_) rfl (by kernel_rfl) (by kernel_rfl) (by kernel_rfl) (fun _ _ _ h => h) (Or.inl ⟨by rfl, ?_⟩) hHeld ?_
        rotate_left
        · (intro v9 hS9; go_simp; try with_reducible rfl)
        try simp only [Act.put, List.setIfInBounds_toArray, List.set_cons_zero, List.set_cons_succ, List.getElem_toArray, List.getElem_cons_zero, List.getElem_cons_succ]
        refine wpAnyH_take (i := 2) (v := ?_) rfl (by kernel_rfl) (by kernel_rfl) (by kernel_rfl) (fun _ _ _ h => h) (Or.inl ⟨by rfl, ?_⟩) hHeld ?_
        rotate_left
        · (intro v9 hS9; go_simp; try with_reducible rfl)
        try simp only [Act.put, List.setIfInBounds_toArray, List.set_cons_zero, List.set_cons_succ, List.getElem_toArray, List.getElem_cons_zero, List.getElem_cons_succ]
        refine wpAnyH_take (i := 3) (v := ?_) rfl (by kernel_rfl) (by kernel_rfl) (by kernel_rfl) (fun _ _ _ h => h) (Or.inl ⟨by rfl, ?_⟩) hHeld ?_
        rotate_left
        · (intro v9 hS9; obtain ⟨c0, c1, c2, c3, f1, f2⟩ := hS9; go_simp; try with_reducible rfl)
        try simp only [Act.put, List.setIfInBounds_toArray, List.set_cons_zero, List.set_cons_succ, List.getElem_toArray, List.getElem_cons_zero, List.getElem_cons_succ]
        refine wpAnyH_take (i := 4) (v := ?_) rfl (by kernel_rfl) (by kernel_rfl) (by kernel_rfl) (fun _ _ _ h => h) (Or.inl ⟨by rfl, ?_⟩) hHeld ?_
        rotate_left
        · (intro v9 hS9; go_simp; try with_reducible rfl)
        try simp only [Act.put, List.setIfInBounds_toArray, List.set_cons_zero, List.set_cons_succ, List.getElem_toArray, List.getElem_cons_zero, List.getElem_cons_succ]
        refine wpAnyH_take (i := 5) (v := ?_) rfl (by kernel_rfl) (by kernel_rfl) (by kernel_rfl) (fun _ _ _ h => h) (Or.inl ⟨by rfl, ?_⟩) hHeld ?_
        rotate_left
        · (intro v9 hS9; go_simp; try with_reducible rfl)
        try simp only [Act.put, List.setIfInBounds_toArray, List.set_cons_zero, List.set_cons_succ, List.getElem_toArray, List.getElem_cons_zero, List.getElem_cons_succ]
        refine wpAnyH_take (i := 6) (v := ?_) rfl (by kernel_rfl) (by kernel_rfl) (by kernel_rfl) (fun _ _ _ h => h) (Or.inl ⟨by rfl, ?_⟩) hHeld ?_
        rotate_left
        · (intro v9 hS9; go_simp; try with_reducible rfl)
        try simp only [Act.put, List.setIfInBounds_toArray, List.set_cons_zero, List.set_cons_succ, List.getElem_toArray, List.getElem_cons_zero, List.getElem_cons_succ]
        refine wpAnyH_take (i := 7) (v := ?_) rfl (by kernel_rfl) (by kernel_rfl) (by kernel_rfl) (fun _ _ _ h => h) (Or.inl ⟨by rfl, ?_⟩) hHeld ?_
        rotate_left
        · (intro v9 hS9; go_simp; try with_reducible rfl)
        try simp only [Act.put, List.setIfInBounds_toArray, List.set_cons_zero, List.set_cons_succ, List.getElem_toArray, List.getElem_cons_zero, List.getElem_cons_succ]
        refine wpAnyH_take (i := 8) (v := ?_) rfl (by kernel_rfl) (by kernel_rfl) (by kernel_rfl) (fun _ _ _ h => h) (Or.inl ⟨by rfl, ?_⟩) hHeld ?_
        rotate_left
        · (intro v9 hS9; obtain ⟨c0, c1, c2, c3, f1, f2⟩ := hS9; go_simp; try with_reducible rfl)
        try simp only [Act.put, List.setIfInBounds_toArray, List.set_cons_zero, List.set_cons_succ, List.getElem_toArray, List.getElem_cons_zero, List.getElem_cons_succ]
        refine wpAnyH_take (i := 9) (v := ?_) rfl (by kernel_rfl) (by kernel_rfl) (by kernel_rfl) (fun _ _ _ h => h) (Or.inl ⟨by rfl, ?_⟩) hHeld ?_
        rotate_left
        · (intro v9 hS9; go_simp; try with_reducible rfl)
        try simp only [Act.put, List.setIfInBounds_toArray, List.set_cons_zero, List.set_cons_succ, List.getElem_toArray, List.getElem_cons_zero, List.getElem_cons_succ]
        refine wpAnyH_ready (rs := [10]) (by kernel_rfl) (by simp) ?_
        refine AllReadyH.cons rfl (fun K hK => ?_) AllReadyH.nil
        go_simp
        go_wp2_with (go_at_call 78; rw [HX.out]; refine (iShort d _ HTD.out HA.out).mono ?_; rintro e wx ⟨⟨x, rfl, hxk⟩, hbx⟩; have HRX : Hid (RB wx b S k v bm) := RB.below hHeld hbx; have HKX : Hid (Kb b w wx) := HKD.out.trans (kb_of_below hbx); have HXK : Hid (∀ k', numL d = some k' → x = (k' : Int)) := hxk; clear hbx hxk; rw [HNS.out])
        refine hK.out _ _ HRX.out (fun hNext => ?_)
        clear hK K hHeld
        have hHeld := hNext
        clear hNext
        refine wpAnyH_take (i := 11) (v := ?_) rfl (by kernel_rfl) (by kernel_rfl) (by kernel_rfl) (fun _ _ _ h => h) (Or.inl ⟨by rfl, ?_⟩) hHeld ?_
        rotate_left
        · (intro v9 hS9; go_simp; try with_reducible rfl)
        try simp only [Act.put, List.setIfInBounds_toArray, List.set_cons_zero, List.set_cons_succ, List.getElem_toArray, List.getElem_cons_zero, List.getElem_cons_succ]
        refine wpAnyH_take (i := 12) (v := ?_) rfl (by kernel_rfl) (by kernel_rfl) (by kernel_rfl) (fun _ _ _ h => h) (Or.inl ⟨by rfl, ?_⟩) hHeld ?_
        rotate_left
        · (intro v9 hS9; go_simp; try with_reducible rfl)
        try simp only [Act.put, List.setIfInBounds_toArray, List.set_cons_zero, List.set_cons_succ, List.getElem_toArray, List.getElem_cons_zero, List.getElem_cons_succ]
        refine wpAnyH_take (i := 13) (v := ?_) rfl (by kernel_rfl) (by kernel_rfl) (by kernel_rfl) (fun _ _ _ h => h) (Or.inl ⟨by rfl, ?_⟩) hHeld ?_
        rotate_left
        · (intro v9 hS9; go_simp; try with_reducible rfl)
        try simp only [Act.put, List.setIfInBounds_toArray, List.set_cons_zero, List.set_cons_succ, List.getElem_toArray, List.getElem_cons_zero, List.getElem_cons_succ]
        refine wpAnyH_take (i := 14) (v := ?_) rfl (by kernel_rfl) (by kernel_rfl) (by kernel_rfl) (fun _ _ _ h => h) (Or.inl ⟨by rfl, ?_⟩) hHeld ?_
        rotate_left
        · (intro v9 hS9; go_simp; try with_reducible rfl)
        try simp only [Act.put, List.setIfInBounds_toArray, List.set_cons_zero, List.set_cons_succ, List.getElem_toArray, List.getElem_cons_zero, List.getElem_cons_succ]
        refine wpAnyH_take (i := 15) (v := ?_) rfl (by kernel_rfl) (by kernel_rfl) (by kernel_rfl) (fun _ _ _ h => h) (Or.inl ⟨by rfl, ?_⟩) hHeld ?_
        rotate_left
        · (intro v9 hS9; go_simp; try with_reducible rfl)
        try simp only [Act.put, List.setIfInBounds_toArray, List.set_cons_zero, List.set_cons_succ, List.getElem_toArray, List.getElem_cons_zero, List.getElem_cons_succ]
        refine wpAnyH_done (by kernel_rfl) ?_ _
        all_goals
          go_wp2_with fail
          refine (iFail _ _ _).mono ?_
          rintro e w' ⟨rfl, rfl⟩
          go_wp2
          exact ⟨rfl, Out.error HP.out rfl, HKX.out⟩
      | some y =>
        have HNS : Hid ((numL d).isSome = true) := by show _ = _; rw [hn]; rfl
        have HP : Hid (pNum (tl S) st p = .ok (y, k)) := by show _ = _; unfold pNum; rw [HDE.out, hn]; simp only; rw [HDL.out]
        have HNY : Hid (numL d = some y) := hn
        clear hn
        refine wp_region_held_drew (S := fun w' => RB w' b S k v bm) (by kernel_rfl) (HRD.out) (fun hHeld => ?_)
        refine wpAnyH_take (i := 0) (v := ?_) rfl (by kernel_rfl) (by kernel_rfl) (by kernel_rfl) (fun _ _ _ h => h) (Or.inl ⟨by rfl, ?_⟩) hHeld ?_
        rotate_left
        · (intro v9 hS9; go_simp; try with_reducible rfl)
        try simp only [Act.put, List.setIfInBounds_toArray, List.set_cons_zero, List.set_cons_succ, List.getElem_toArray, List.getElem_cons_zero]
        refine wpAnyH_take (i := 1) (v := ?_) rfl (by kernel_rfl) (by kernel_rfl) (by kernel_rfl) (fun _ _ _ h => h) (Or.inl ⟨by rfl, ?_⟩) hHeld ?_
        rotate_left
        · (intro v9 hS9; go_simp; try with_reducible rfl)
        try simp only [Act.put, List.setIfInBounds_toArray, List.set_cons_zero, List.set_cons_succ, List.getElem_toArray, List.getElem_cons_zero, List.getElem_cons_succ]
        refine wpAnyH_take (i := 2) (v := ?_) rfl (by kernel_rfl) (by kernel_rfl) (by kernel_rfl) (fun _ _ _ h => h) (Or.inl ⟨by rfl, ?_⟩) hHeld ?_
        rotate_left
        · (intro v9 hS9; go_simp; try with_reducible rfl)
        try simp only [Act.put, List.setIfInBounds_toArray, List.set_cons_zero, List.set_cons_succ, List.getElem_toArray, List.getElem_cons_zero, List.getElem_cons_succ]
        refine wpAnyH_take (i := 3) (v := ?_) rfl (by kernel_rfl) (by kernel_rfl) (by kernel_rfl) (fun _ _ _ h => h) (Or.inl ⟨by rfl, ?_⟩) hHeld ?_
        rotate_left
        · (intro v9 hS9; obtain ⟨c0, c1, c2, c3, f1, f2⟩ := hS9; go_simp; try with_reducible rfl)
        try simp only [Act.put, List.setIfInBounds_toArray, List.set_cons_zero, List.set_cons_succ, List.getElem_toArray, List.getElem_cons_zero, List.getElem_cons_succ]
        refine wpAnyH_take (i := 4) (v := ?_) rfl (by kernel_rfl) (by kernel_rfl) (by kernel_rfl) (fun _ _ _ h => h) (Or.inl ⟨by rfl, ?_⟩) hHeld ?_
        rotate_left
        · (intro v9 hS9; go_simp; try with_reducible rfl)
        try simp only [Act.put, List.setIfInBounds_toArray, List.set_cons_zero, List.set_cons_succ, List.getElem_toArray, List.getElem_cons_zero, List.getElem_cons_succ]
        refine wpAnyH_take (i := 5) (v := ?_) rfl (by kernel_rfl) (by kernel_rfl) (by kernel_rfl) (fun _ _ _ h => h) (Or.inl ⟨by rfl, ?_⟩) hHeld ?_
        rotate_left
        · (intro v9 hS9; go_simp; try with_reducible rfl)
        try simp only [Act.put, List.setIfInBounds_toArray, List.set_cons_zero, List.set_cons_succ, List.getElem_toArray, List.getElem_cons_zero, List.getElem_cons_succ]
        refine wpAnyH_take (i := 6) (v := ?_) rfl (by kernel_rfl) (by kernel_rfl) (by kernel_rfl) (fun _ _ _ h => h) (Or.inl ⟨by rfl, ?_⟩) hHeld ?_
        rotate_left
        · (intro v9 hS9; go_simp; try with_reducible rfl)
        try simp only [Act.put, List.setIfInBounds_toArray, List.set_cons_zero, List.set_cons_succ, List.getElem_toArray, List.getElem_cons_zero, List.getElem_cons_succ]
        refine wpAnyH_take (i := 7) (v := ?_) rfl (by kernel_rfl) (by kernel_rfl) (by kernel_rfl) (fun _ _ _ h => h) (Or.inl ⟨by rfl, ?_⟩) hHeld ?_
        rotate_left
        · (intro v9 hS9; go_simp; try with_reducible rfl)
        try simp only [Act.put, List.setIfInBounds_toArray, List.set_cons_zero, List.set_cons_succ, List.getElem_toArray, List.getElem_cons_zero, List.getElem_cons_succ]
        refine wpAnyH_take (i := 8) (v := ?_) rfl (by kernel_rfl) (by kernel_rfl) (by kernel_rfl) (fun _ _ _ h => h) (Or.inl ⟨by rfl, ?_⟩) hHeld ?_
        rotate_left
        · (intro v9 hS9; obtain ⟨c0, c1, c2, c3, f1, f2⟩ := hS9; go_simp; try with_reducible rfl)
        try simp only [Act.put, List.setIfInBounds_toArray, List.set_cons_zero, List.set_cons_succ, List.getElem_toArray, List.getElem_cons_zero, List.getElem_cons_succ]
        refine wpAnyH_take (i := 9) (v := ?_) rfl (by kernel_rfl) (by kernel_rfl) (by kernel_rfl) (fun _ _ _ h => h) (Or.inl ⟨by rfl, ?_⟩) hHeld ?_
        rotate_left
        · (intro v9 hS9; go_simp; try with_reducible rfl)
        try simp only [Act.put, List.setIfInBounds_toArray, List.set_cons_zero, List.set_cons_succ, List.getElem_toArray, List.getElem_cons_zero, List.getElem_cons_succ]
        refine wpAnyH_ready (rs := [10]) (by kernel_rfl) (by simp) ?_
        refine AllReadyH.cons rfl (fun K hK => ?_) AllReadyH.nil
        go_simp
        go_wp2_with (go_at_call 78; rw [HX.out]; refine (iShort d _ HTD.out HA.out).mono ?_; rintro e wx ⟨⟨x, rfl, hxk⟩, hbx⟩; have HRX : Hid (RB wx b S k v bm) := RB.below hHeld hbx; have HKX : Hid (Kb b w wx) := HKD.out.trans (kb_of_below hbx); have HXK : Hid (∀ k', numL d = some k' → x = (k' : Int)) := hxk; clear hbx hxk; rw [HNS.out])
        refine hK.out _ _ HRX.out (fun hNext => ?_)
        clear hK K hHeld
        have hHeld := hNext
        clear hNext
        refine wpAnyH_take (i := 11) (v := ?_) rfl (by kernel_rfl) (by kernel_rfl) (by kernel_rfl) (fun _ _ _ h => h) (Or.inl ⟨by rfl, ?_⟩) hHeld ?_
        rotate_left
        · (intro v9 hS9; go_simp; try with_reducible rfl)
        try simp only [Act.put, List.setIfInBounds_toArray, List.set_cons_zero, List.set_cons_succ, List.getElem_toArray, List.getElem_cons_zero, List.getElem_cons_succ]
        refine wpAnyH_take (i := 12) (v := ?_) rfl (by kernel_rfl) (by kernel_rfl) (by kernel_rfl) (fun _ _ _ h => h) (Or.inl ⟨by rfl, ?_⟩) hHeld ?_
        rotate_left
        · (intro v9 hS9; go_simp; try with_reducible rfl)
        try simp only [Act.put, List.setIfInBounds_toArray, List.set_cons_zero, List.set_cons_succ, List.getElem_toArray, List.getElem_cons_zero, List.getElem_cons_succ]
        refine wpAnyH_take (i := 13) (v := ?_) rfl (by kernel_rfl) (by kernel_rfl) (by kernel_rfl) (fun _ _ _ h => h) (Or.inl ⟨by rfl, ?_⟩) hHeld ?_
        rotate_left
        · (intro v9 hS9; go_simp; try with_reducible rfl)
        try simp only [Act.put, List.setIfInBounds_toArray, List.set_cons_zero, List.set_cons_succ, List.getElem_toArray, List.getElem_cons_zero, List.getElem_cons_succ]
        refine wpAnyH_take (i := 14) (v := ?_) rfl (by kernel_rfl) (by kernel_rfl) (by kernel_rfl) (fun _ _ _ h => h) (Or.inl ⟨by rfl, ?_⟩) hHeld ?_
        rotate_left
        · (intro v9 hS9; go_simp; try with_reducible rfl)
        try simp only [Act.put, List.setIfInBounds_toArray, List.set_cons_zero, List.set_cons_succ, List.getElem_toArray, List.getElem_cons_zero, List.getElem_cons_succ]
        refine wpAnyH_take (i := 15) (v := ?_) rfl (by kernel_rfl) (by kernel_rfl) (by kernel_rfl) (fun _ _ _ h => h) (Or.inl ⟨by rfl, ?_⟩) hHeld ?_
        rotate_left
        · (intro v9 hS9; go_simp; try with_reducible rfl)
        try simp only [Act.put, List.setIfInBounds_toArray, List.set_cons_zero, List.set_cons_succ, List.getElem_toArray, List.getElem_cons_zero, List.getElem_cons_succ]
        refine wpAnyH_done (by kernel_rfl) ?_ _
        all_goals
          go_wp2
          go_ret
          exact ⟨Out.ok HP.out ⟨by rw [HXK.out y HNY.out]; rfl, HRX.out, hk⟩, HKX.out⟩
    · have hlt : k < S.size := by
        rcases Nat.lt_or_ge k S.size with e | e
        · exact e
        · rw [nx_off e] at hd; cases hd
      have HD : Hid (isDig S[k] = true) := by show _ = _; rw [← nx_in hlt]; exact hd
      have d1 := H1.out.c1
      have g1 := H1.out.f1
      have hkw : IntKind.i64.wrap ((k : Int) + 1) = (k : Int) + 1 := by rw [IntKind.wrap_i64]; omega
      go_wp2
      go_roundw
      case rel =>
        refine ⟨k + 1, by omega, by omega, H1.out.move _ _ (by simp), Ss3.kept_set HK1.out _, ?_⟩
        rw [drop_take_more hpk hlt]
        intro c hc
        rcases List.mem_append.1 hc with e | e
        · exact HA.out c e
        · have : c = S[k] := by simpa using e
          rw [this]; exact HD.out
      case measure => rw [set_same (w := w2) (u := .int .i64 k) d1, c1]; simp [intOf]; omega

end Go.Proofs.YtmghkeahlhlclaaDoor.Pr2
