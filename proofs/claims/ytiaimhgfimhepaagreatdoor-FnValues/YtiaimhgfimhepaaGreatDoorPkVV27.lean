import Derived.Lib.AtoiAll
import Derived.Lib.SmallJoins
import Derived.LaidEql
import Derived.Test.YtiaimhgfimhepaaGreatDoorPkVV24
import Derived.Test.YtiaimhgfimhepaaGreatDoorPt1
import Derived.Test.YtiaimhgfimhepaaGreatDoorShelf2
namespace Go.Proofs.YtiaimhgfimhepaaGreatDoor
set_option maxRecDepth 100000
set_option maxHeartbeats 8000000
set_option linter.unusedVariables false
namespace Pr2
open Go.RowKit
open Nd0 Nd3 Tm0 Tx0 Tx1 Ss0 Ss1 Tb0 Tb1 Px0 Pr1
open Pt1 (iItoa)
open Ss5 (Kb)
def valF (acc : Nat) (d : List UInt8) : Nat := d.foldl (fun n c => 10 * n + (c.toNat - 48)) acc
theorem valF_zero (d : List UInt8) : valF 0 d = valL d := rfl
theorem parse_digits : ∀ (d : List UInt8) (acc : Nat), (∀ c ∈ d, isDig c = true) -> (acc + 1) * 10 ^ d.length <= 10 ^ 18 -> Lib.parseUint10 acc d = .ok (valF acc d) := by
 intro d
 induction d with
 | nil => intro acc _ _; rfl
 | cons c r ih =>
   intro acc hd hb
   have hc := of_decide_eq_true (hd c (by simp))
   have hp : 0 < 10 ^ r.length := Nat.pow_pos (by omega)
   rw [List.length_cons, Nat.pow_succ] at hb
   have h1 : (acc + 1) * 10 * 10 ^ r.length <= 10 ^ 18 := by
    rw [Nat.mul_assoc, Nat.mul_comm 10]; exact hb
   have h2 : (acc + 1) * 10 <= 10 ^ 18 := Nat.le_trans (Nat.le_mul_of_pos_right _ hp) h1
   simp only [Lib.parseUint10]
   rw [if_pos hc, if_neg (by omega), if_neg (by omega), ih _ (fun x hx => hd x (by simp [hx]))]
   ·unfold valF
    rw [List.foldl_cons, Nat.mul_comm acc]
   ·refine Nat.le_trans (Nat.mul_le_mul_right _ ?_) h1
    omega
theorem atoi_digits {d : List UInt8} (hd : ∀ c ∈ d, isDig c = true) (h1 : 1 <= d.length) (h9 : d.length <= 9) : Lib.atoiAll d = .ok (valL d : Int) := by
 cases d with
 | nil => simp at h1
 | cons c r =>
   have hc := of_decide_eq_true (hd c (by simp))
   have hpw : 10 ^ (c :: r).length <= 10 ^ 9 := Nat.pow_le_pow_right (by omega) h9
   have hp := parse_digits (c :: r) 0 hd (by omega)
   have hv : valL (c :: r) < 10 ^ (c :: r).length := val_lt _ hd
   unfold Lib.atoiAll
   simp only
   rw [if_neg (by omega)]
   unfold Lib.parseMag
   rw [if_neg (by simp), hp, valF_zero]
   simp only
   rw [if_neg (by omega), if_neg (by omega), if_neg (by omega)]
theorem iAtoi {d : List UInt8} (w : World) (hd : ∀ c ∈ d, isDig c = true) (h1 : 1 <= d.length) (h9 : d.length <= 9) :
 Calls Tryz.prog 160 #[.string (bs d)] w fun e w' => e = .returned (.tuple #[.int .i64 (valL d : Int), .nilIface]) /\ Below w.heap.size w w' := by
 refine (Tryz.strconv_Atoi_ok (bs d) (by rw [bs_size]; omega) _ (atoi_digits hd h1 h9) w).mono ?_
 rintro e w' ⟨rfl, h⟩
 refine ⟨rfl, ?_⟩
 rcases h with rfl | ⟨t, rfl⟩
 ·exact Below.refl _ _
 ·exact Go.Joins.below_bytesWorld _ _ _ _ (Nat.le_refl _)
theorem iAtoiNone (w : World) (hT : TabR w) :
 Calls Tryz.prog 160 #[.string (bs [])] w fun e w' => (∃ N, e = .returned (.tuple #[.int .i64 0, .iface 161 (.pointer (some ⟨N, 0, none⟩))])) /\ Below w.heap.size w w' := by
 obtain ⟨te, pe, hc⟩ := hT.err
 refine (Tryz.strconv_Atoi_syntax (bs []) (by decide) rfl _ w hc (.inr ⟨te, pe, rfl⟩)).mono ?_
 rintro e w' ⟨N, rfl, _, _, hb⟩
 exact ⟨⟨N, rfl⟩, hb⟩
theorem iShort (d : List UInt8) (w : World) (hT : TabR w) (hd : ∀ c ∈ d, isDig c = true) :
 Calls Tryz.prog 140 #[.string (bs d)] w fun e w' => (∃ x : Int, e = .returned (.tuple #[.int .i64 x, .bool (numL d).isSome]) /\ ∀ k, numL d = some k -> x = (k : Int)) /\ Below w.heap.size w w' := by
 have HT : Hid (TabR w) := hT
 have HD : Hid (∀ c ∈ d, isDig c = true) := hd
 clear hT hd
 have hz : (bs d).size = d.length := bs_size d
 by_cases h9 : 9 < d.length
 ·have HN : Hid (numL d = none) := by show _ = _; unfold numL; rw [if_pos (.inr h9)]
  have h9z : (9 : Int) < ((bs d).size : Int) := by rw [hz]; omega
  clear hz
  go_enter Tryz.func140, Tryz.ntmps140
  go_wp2
  go_ret2
  rw [HN.out]
  exact ⟨⟨0, rfl, fun k hk => by cases hk⟩, Below.refl _ _⟩
 have h9z : ¬ (9 : Int) < ((bs d).size : Int) := by rw [hz]; omega
 by_cases h0 : d.length = 0
 ·obtain rfl : d = [] := List.eq_nil_of_length_eq_zero h0
  clear hz h0
  go_enter Tryz.func140, Tryz.ntmps140
  go_wp2_with fail
  refine (iAtoiNone _ HT.out).mono ?_
  rintro e w1 ⟨⟨N, rfl⟩, hb1⟩
  go_wp2
  go_ret2
  exact ⟨⟨0, rfl, fun k hk => by cases hk⟩, hb1⟩
 ·clear hz
  obtain ⟨k, hk⟩ : ∃ k, valL d = k := ⟨_, rfl⟩
  have HN : Hid (numL d = if dec k = d then some k else none) := by
   show _ = _
   unfold numL
   rw [if_neg (by omega), if_pos (List.all_eq_true.2 HD.out), hk]
  have hk9 : k < 1000000000 := by
   have := val_lt d HD.out
   have h2 : 10 ^ d.length <= 10 ^ 9 := Nat.pow_le_pow_right (by omega) (by omega)
   omega
  have HK : Hid (valL d = k) := hk
  have hk0 : (0 : Int) <= (k : Int) := by omega
  have HQ : Hid (((bs (dec k)).toList == (bs d).toList) = decide (dec k = d)) := by show _ = _; rw [eqb, tl_bs, tl_bs]
  clear hk
  go_enter Tryz.func140, Tryz.ntmps140
  go_wp2_with fail
  refine (iAtoi _ HD.out (by omega) (by omega)).mono ?_
  rw [HK.out]
  rintro e w1 ⟨rfl, hb1⟩
  have HB1 : Hid (Below w.heap.size w w1) := hb1
  clear hb1
  go_wp2_with fail
  refine (iItoa k hk9 _ (HT.out.below HB1.out).tabs).mono ?_
  rintro e w2 ⟨rfl, hb2⟩
  have HB2 : Hid (Below w.heap.size w w2) := HB1.out.trans (hb2.mono HB1.out.size)
  clear hb2
  go_wp2
  go_ret2
  refine ⟨⟨k, ?_, ?_⟩, HB2.out⟩
  ·rw [HN.out]
   by_cases e : dec k = d
   ·rw [if_pos e]; simp [e]
   ·rw [if_neg e, HQ.out]; simp [e]
  ·intro k' hk'
   rw [HN.out] at hk'
   split at hk'
   ·cases hk'; rfl
   ·cases hk'
theorem kb_of_below {b : Nat} {w w' : World} (h : Below w.heap.size w w') : Kb b w w' := ⟨h.os, h.tape, h.output, h.size, fun i hi _ => h.block i hi⟩
theorem drop_take_more {S : ByteArray} {p k : Nat} (hp : p <= k) (h : k < S.size) : ((tl S).take (k + 1)).drop p = ((tl S).take k).drop p ++ [S[k]] := Ss3.take_more hp h
theorem dig_ends {S : ByteArray} {p k : Nat} (hp : p <= k) (hk : k <= S.size) (ha : ∀ c ∈ ((tl S).take k).drop p, isDig c = true) (he : isDig (nx (tl S) k) = false) : pDig (tl S) p = ((tl S).take k).drop p := by
 unfold pDig
 have hsp := Ss3.left_split (S := S) hp
 unfold Ss3.left at hsp
 rw [hsp, List.takeWhile_append_of_pos ha]
 have : (List.drop k (tl S)).takeWhile isDig = [] := by
  by_cases h : k < S.size
  ·have e := Ss3.left_cons h
   unfold Ss3.left at e
   rw [e, List.takeWhile_cons, if_neg]
   rw [<- nx_in h, he]; simp
  ·have e := Ss3.left_nil (S := S) (p := k) (by omega)
   unfold Ss3.left at e
   rw [e]; rfl
 rw [this, List.append_nil]
theorem iNumber (w : World) (b : Nat) (S : ByteArray) (p : Nat) (v : Value) (bm st : Nat) (hT : TabR w) (hg : ∀ w', Kb b w w' -> TabR w') (h : RB w b S p v bm) (hs : S.size <= 100000) (hp : p <= S.size) :
 Calls Tryz.prog 95 #[.pointer (some ⟨b, 0, none⟩), .int .i64 st] w fun e w' => Out (pNum (tl S) st p) (fun y => e = .returned (.int .i64 (y.1 : Int)) /\ RB w' b S y.2 v bm /\ y.2 <= S.size) (fun x => e = .panicked [fl x]) /\ Kb b w w' := by
 have H : Hid (RB w b S p v bm) := h
 have HG : Hid (∀ w', Kb b w w' -> TabR w') := hg
 have c1 := h.c1
 clear h hT hg
 go_enter Tryz.func95, Tryz.ntmps95
 go_wp2
 clear c1
 go_loopw [12] (fun _ wr => ∃ k : Nat, p <= k /\ k <= S.size /\ RB wr b S k v bm /\ Kb b w wr /\ ∀ c ∈ ((tl S).take k).drop p, isDig c = true) (fun _ wr => S.size - (intOf ((wr.cell? ⟨b, 1, none⟩).getD undef)).toNat)
 case atStart => exact ⟨p, Nat.le_refl _, hp, H.out, Kept.refl _ _, fun c hc => by
  rw [List.drop_eq_nil_of_le (by rw [List.length_take]; omega)] at hc; cases hc⟩
 case round =>
  clear H
  obtain ⟨k, hpk, hk, hrc, hkept, ha⟩ := hrel
  have H : Hid (RB wr b S k v bm) := hrc
  have HK : Hid (Kb b w wr) := hkept
  have HA : Hid (∀ c ∈ ((tl S).take k).drop p, isDig c = true) := ha
  have c1 := hrc.c1
  clear hrc hkept ha
  go_wp2_with fail
  refine (iNext _ b S k v bm H.out hs hk).mono ?_
  rintro e w1 ⟨rfl, hb1⟩
  have H1 : Hid (RB w1 b S k v bm) := H.out.below hb1
  have HK1 : Hid (Kb b w w1) := HK.out.trans (kb_of_below hb1)
  clear hb1
  go_wp2_with fail
  refine (iDig _ _).mono ?_
  rintro e w2 ⟨rfl, rfl⟩
  cases hd : isDig (nx (tl S) k)
  ·obtain ⟨d, hdd⟩ : ∃ d, ((tl S).take k).drop p = d := ⟨_, rfl⟩
   have HDE : Hid (pDig (tl S) p = d) := by show _ = _; rw [<- hdd]; exact dig_ends hpk hk HA.out hd
   have HX : Hid (S.extract p k = bs d) := by show _ = _; apply tl_inj; rw [tl_ext, tl_bs]; exact hdd
   have HDL : Hid (p + d.length = k) := by show _ = _; rw [<- hdd, List.length_drop, List.length_take, tl_length]; omega
   rw [hdd] at HA
   have hpz : (p : Int) <= (k : Int) := by omega
   have hkz : (k : Int) <= (S.size : Int) := by omega
   clear hdd
   go_wp2_with fail
   have HRD : Hid (RB w2.drew b S k v bm) := H1.out.drewN 1
   have HKD : Hid (Kb b w w2.drew) := HK1.out.drewN 1
   have HTD : Hid (TabR w2.drew) := HG.out _ HKD.out
   cases hn : numL d with
   | none =>
     have HNS : Hid ((numL d).isSome = false) := by show _ = _; rw [hn]; rfl
     have HP : Hid (pNum (tl S) st p = .error (2, st)) := by show _ = _; unfold pNum; rw [HDE.out, hn]
     clear hn
     refine wp_region_held_drew (S := fun w' => RB w' b S k v bm) (by kernel_rfl) (HRD.out) (fun hHeld => ?_)
     refine wpAnyH_take (i := 0) (v := ?_) rfl (by kernel_rfl) (by kernel_rfl) (by kernel_rfl) (fun _ _ _ h => h) (Or.inl ⟨by rfl, ?_⟩) hHeld ?_
     rotate_left
     ·(intro v9 hS9; go_simp; try with_reducible rfl)
     try simp only [Act.put, List.setIfInBounds_toArray, List.set_cons_zero, List.set_cons_succ, List.getElem_toArray, List.getElem_cons_zero]
     refine wpAnyH_take (i := 1) (v := ?_) rfl (by kernel_rfl) (by kernel_rfl) (by kernel_rfl) (fun _ _ _ h => h) (Or.inl ⟨by rfl, ?_⟩) hHeld ?_
     rotate_left
     ·(intro v9 hS9; go_simp; try with_reducible rfl)
     try simp only [Act.put, List.setIfInBounds_toArray, List.set_cons_zero, List.set_cons_succ, List.getElem_toArray, List.getElem_cons_zero, List.getElem_cons_succ]
     refine wpAnyH_take (i := 2) (v := ?_) rfl (by kernel_rfl) (by kernel_rfl) (by kernel_rfl) (fun _ _ _ h => h) (Or.inl ⟨by rfl, ?_⟩) hHeld ?_
     rotate_left
     ·(intro v9 hS9; go_simp; try with_reducible rfl)
     try simp only [Act.put, List.setIfInBounds_toArray, List.set_cons_zero, List.set_cons_succ, List.getElem_toArray, List.getElem_cons_zero, List.getElem_cons_succ]
     refine wpAnyH_take (i := 3) (v := ?_) rfl (by kernel_rfl) (by kernel_rfl) (by kernel_rfl) (fun _ _ _ h => h) (Or.inl ⟨by rfl, ?_⟩) hHeld ?_
     rotate_left
     ·(intro v9 hS9; obtain ⟨c0, c1, c2, c3, f1, f2⟩ := hS9; go_simp; try with_reducible rfl)
     try simp only [Act.put, List.setIfInBounds_toArray, List.set_cons_zero, List.set_cons_succ, List.getElem_toArray, List.getElem_cons_zero, List.getElem_cons_succ]
     refine wpAnyH_take (i := 4) (v := ?_) rfl (by kernel_rfl) (by kernel_rfl) (by kernel_rfl) (fun _ _ _ h => h) (Or.inl ⟨by rfl, ?_⟩) hHeld ?_
     rotate_left
     ·(intro v9 hS9; go_simp; try with_reducible rfl)
     try simp only [Act.put, List.setIfInBounds_toArray, List.set_cons_zero, List.set_cons_succ, List.getElem_toArray, List.getElem_cons_zero, List.getElem_cons_succ]
     refine wpAnyH_take (i := 5) (v := ?_) rfl (by kernel_rfl) (by kernel_rfl) (by kernel_rfl) (fun _ _ _ h => h) (Or.inl ⟨by rfl, ?_⟩) hHeld ?_
     rotate_left
     ·(intro v9 hS9; go_simp; try with_reducible rfl)
     try simp only [Act.put, List.setIfInBounds_toArray, List.set_cons_zero, List.set_cons_succ, List.getElem_toArray, List.getElem_cons_zero, List.getElem_cons_succ]
     refine wpAnyH_take (i := 6) (v := ?_) rfl (by kernel_rfl) (by kernel_rfl) (by kernel_rfl) (fun _ _ _ h => h) (Or.inl ⟨by rfl, ?_⟩) hHeld ?_
     rotate_left
     ·(intro v9 hS9; go_simp; try with_reducible rfl)
     try simp only [Act.put, List.setIfInBounds_toArray, List.set_cons_zero, List.set_cons_succ, List.getElem_toArray, List.getElem_cons_zero, List.getElem_cons_succ]
     refine wpAnyH_take (i := 7) (v := ?_) rfl (by kernel_rfl) (by kernel_rfl) (by kernel_rfl) (fun _ _ _ h => h) (Or.inl ⟨by rfl, ?_⟩) hHeld ?_
     rotate_left
     ·(intro v9 hS9; go_simp; try with_reducible rfl)
     try simp only [Act.put, List.setIfInBounds_toArray, List.set_cons_zero, List.set_cons_succ, List.getElem_toArray, List.getElem_cons_zero, List.getElem_cons_succ]
     refine wpAnyH_take (i := 8) (v := ?_) rfl (by kernel_rfl) (by kernel_rfl) (by kernel_rfl) (fun _ _ _ h => h) (Or.inl ⟨by rfl, ?_⟩) hHeld ?_
     rotate_left
     ·(intro v9 hS9; obtain ⟨c0, c1, c2, c3, f1, f2⟩ := hS9; go_simp; try with_reducible rfl)
     try simp only [Act.put, List.setIfInBounds_toArray, List.set_cons_zero, List.set_cons_succ, List.getElem_toArray, List.getElem_cons_zero, List.getElem_cons_succ]
     refine wpAnyH_take (i := 9) (v := ?_) rfl (by kernel_rfl) (by kernel_rfl) (by kernel_rfl) (fun _ _ _ h => h) (Or.inl ⟨by rfl, ?_⟩) hHeld ?_
     rotate_left
     ·(intro v9 hS9; go_simp; try with_reducible rfl)
     try simp only [Act.put, List.setIfInBounds_toArray, List.set_cons_zero, List.set_cons_succ, List.getElem_toArray, List.getElem_cons_zero, List.getElem_cons_succ]
     refine wpAnyH_ready (rs := [10]) (by kernel_rfl) (by simp) ?_
     refine AllReadyH.cons rfl (fun K hK => ?_) AllReadyH.nil
     go_simp
     go_wp2_with (go_at_call 140; rw [HX.out]; refine (iShort d _ HTD.out HA.out).mono ?_; rintro e wx ⟨⟨x, rfl, hxk⟩, hbx⟩; have HRX : Hid (RB wx b S k v bm) := RB.below hHeld hbx; have HKX : Hid (Kb b w wx) := HKD.out.trans (kb_of_below hbx); have HXK : Hid (∀ k', numL d = some k' -> x = (k' : Int)) := hxk; clear hbx hxk; rw [HNS.out])
     refine hK.out _ _ HRX.out (fun hNext => ?_)
     clear hK K hHeld
     have hHeld := hNext
     clear hNext
     refine wpAnyH_take (i := 11) (v := ?_) rfl (by kernel_rfl) (by kernel_rfl) (by kernel_rfl) (fun _ _ _ h => h) (Or.inl ⟨by rfl, ?_⟩) hHeld ?_
     rotate_left
     ·(intro v9 hS9; go_simp; try with_reducible rfl)
     try simp only [Act.put, List.setIfInBounds_toArray, List.set_cons_zero, List.set_cons_succ, List.getElem_toArray, List.getElem_cons_zero, List.getElem_cons_succ]
     refine wpAnyH_take (i := 12) (v := ?_) rfl (by kernel_rfl) (by kernel_rfl) (by kernel_rfl) (fun _ _ _ h => h) (Or.inl ⟨by rfl, ?_⟩) hHeld ?_
     rotate_left
     ·(intro v9 hS9; go_simp; try with_reducible rfl)
     try simp only [Act.put, List.setIfInBounds_toArray, List.set_cons_zero, List.set_cons_succ, List.getElem_toArray, List.getElem_cons_zero, List.getElem_cons_succ]
     refine wpAnyH_take (i := 13) (v := ?_) rfl (by kernel_rfl) (by kernel_rfl) (by kernel_rfl) (fun _ _ _ h => h) (Or.inl ⟨by rfl, ?_⟩) hHeld ?_
     rotate_left
     ·(intro v9 hS9; go_simp; try with_reducible rfl)
     try simp only [Act.put, List.setIfInBounds_toArray, List.set_cons_zero, List.set_cons_succ, List.getElem_toArray, List.getElem_cons_zero, List.getElem_cons_succ]
     refine wpAnyH_take (i := 14) (v := ?_) rfl (by kernel_rfl) (by kernel_rfl) (by kernel_rfl) (fun _ _ _ h => h) (Or.inl ⟨by rfl, ?_⟩) hHeld ?_
     rotate_left
     ·(intro v9 hS9; go_simp; try with_reducible rfl)
     try simp only [Act.put, List.setIfInBounds_toArray, List.set_cons_zero, List.set_cons_succ, List.getElem_toArray, List.getElem_cons_zero, List.getElem_cons_succ]
     refine wpAnyH_take (i := 15) (v := ?_) rfl (by kernel_rfl) (by kernel_rfl) (by kernel_rfl) (fun _ _ _ h => h) (Or.inl ⟨by rfl, ?_⟩) hHeld ?_
     rotate_left
     ·(intro v9 hS9; go_simp; try with_reducible rfl)
     try simp only [Act.put, List.setIfInBounds_toArray, List.set_cons_zero, List.set_cons_succ, List.getElem_toArray, List.getElem_cons_zero, List.getElem_cons_succ]
     refine wpAnyH_done (by kernel_rfl) ?_ _
     all_goals
      go_wp2_with fail
      refine (iFail _ _ _).mono ?_
      rintro e w' ⟨rfl, rfl⟩
      go_wp2
      exact ⟨rfl, Out.error HP.out rfl, HKX.out⟩
   | some y =>
     have HNS : Hid ((numL d).isSome = true) := by show _ = _; rw [hn]; rfl
     have HP : Hid (pNum (tl S) st p = .ok (y, k)) := by show _ = _; unfold pNum; rw [HDE.out, hn]; simp only; rw [HDL.out]
     have HNY : Hid (numL d = some y) := hn
     clear hn
     refine wp_region_held_drew (S := fun w' => RB w' b S k v bm) (by kernel_rfl) (HRD.out) (fun hHeld => ?_)
     refine wpAnyH_take (i := 0) (v := ?_) rfl (by kernel_rfl) (by kernel_rfl) (by kernel_rfl) (fun _ _ _ h => h) (Or.inl ⟨by rfl, ?_⟩) hHeld ?_
     rotate_left
     ·(intro v9 hS9; go_simp; try with_reducible rfl)
     try simp only [Act.put, List.setIfInBounds_toArray, List.set_cons_zero, List.set_cons_succ, List.getElem_toArray, List.getElem_cons_zero]
     refine wpAnyH_take (i := 1) (v := ?_) rfl (by kernel_rfl) (by kernel_rfl) (by kernel_rfl) (fun _ _ _ h => h) (Or.inl ⟨by rfl, ?_⟩) hHeld ?_
     rotate_left
     ·(intro v9 hS9; go_simp; try with_reducible rfl)
     try simp only [Act.put, List.setIfInBounds_toArray, List.set_cons_zero, List.set_cons_succ, List.getElem_toArray, List.getElem_cons_zero, List.getElem_cons_succ]
     refine wpAnyH_take (i := 2) (v := ?_) rfl (by kernel_rfl) (by kernel_rfl) (by kernel_rfl) (fun _ _ _ h => h) (Or.inl ⟨by rfl, ?_⟩) hHeld ?_
     rotate_left
     ·(intro v9 hS9; go_simp; try with_reducible rfl)
     try simp only [Act.put, List.setIfInBounds_toArray, List.set_cons_zero, List.set_cons_succ, List.getElem_toArray, List.getElem_cons_zero, List.getElem_cons_succ]
     refine wpAnyH_take (i := 3) (v := ?_) rfl (by kernel_rfl) (by kernel_rfl) (by kernel_rfl) (fun _ _ _ h => h) (Or.inl ⟨by rfl, ?_⟩) hHeld ?_
     rotate_left
     ·(intro v9 hS9; obtain ⟨c0, c1, c2, c3, f1, f2⟩ := hS9; go_simp; try with_reducible rfl)
     try simp only [Act.put, List.setIfInBounds_toArray, List.set_cons_zero, List.set_cons_succ, List.getElem_toArray, List.getElem_cons_zero, List.getElem_cons_succ]
     refine wpAnyH_take (i := 4) (v := ?_) rfl (by kernel_rfl) (by kernel_rfl) (by kernel_rfl) (fun _ _ _ h => h) (Or.inl ⟨by rfl, ?_⟩) hHeld ?_
     rotate_left
     ·(intro v9 hS9; go_simp; try with_reducible rfl)
     try simp only [Act.put, List.setIfInBounds_toArray, List.set_cons_zero, List.set_cons_succ, List.getElem_toArray, List.getElem_cons_zero, List.getElem_cons_succ]
     refine wpAnyH_take (i := 5) (v := ?_) rfl (by kernel_rfl) (by kernel_rfl) (by kernel_rfl) (fun _ _ _ h => h) (Or.inl ⟨by rfl, ?_⟩) hHeld ?_
     rotate_left
     ·(intro v9 hS9; go_simp; try with_reducible rfl)
     try simp only [Act.put, List.setIfInBounds_toArray, List.set_cons_zero, List.set_cons_succ, List.getElem_toArray, List.getElem_cons_zero, List.getElem_cons_succ]
     refine wpAnyH_take (i := 6) (v := ?_) rfl (by kernel_rfl) (by kernel_rfl) (by kernel_rfl) (fun _ _ _ h => h) (Or.inl ⟨by rfl, ?_⟩) hHeld ?_
     rotate_left
     ·(intro v9 hS9; go_simp; try with_reducible rfl)
     try simp only [Act.put, List.setIfInBounds_toArray, List.set_cons_zero, List.set_cons_succ, List.getElem_toArray, List.getElem_cons_zero, List.getElem_cons_succ]
     refine wpAnyH_take (i := 7) (v := ?_) rfl (by kernel_rfl) (by kernel_rfl) (by kernel_rfl) (fun _ _ _ h => h) (Or.inl ⟨by rfl, ?_⟩) hHeld ?_
     rotate_left
     ·(intro v9 hS9; go_simp; try with_reducible rfl)
     try simp only [Act.put, List.setIfInBounds_toArray, List.set_cons_zero, List.set_cons_succ, List.getElem_toArray, List.getElem_cons_zero, List.getElem_cons_succ]
     refine wpAnyH_take (i := 8) (v := ?_) rfl (by kernel_rfl) (by kernel_rfl) (by kernel_rfl) (fun _ _ _ h => h) (Or.inl ⟨by rfl, ?_⟩) hHeld ?_
     rotate_left
     ·(intro v9 hS9; obtain ⟨c0, c1, c2, c3, f1, f2⟩ := hS9; go_simp; try with_reducible rfl)
     try simp only [Act.put, List.setIfInBounds_toArray, List.set_cons_zero, List.set_cons_succ, List.getElem_toArray, List.getElem_cons_zero, List.getElem_cons_succ]
     refine wpAnyH_take (i := 9) (v := ?_) rfl (by kernel_rfl) (by kernel_rfl) (by kernel_rfl) (fun _ _ _ h => h) (Or.inl ⟨by rfl, ?_⟩) hHeld ?_
     rotate_left
     ·(intro v9 hS9; go_simp; try with_reducible rfl)
     try simp only [Act.put, List.setIfInBounds_toArray, List.set_cons_zero, List.set_cons_succ, List.getElem_toArray, List.getElem_cons_zero, List.getElem_cons_succ]
     refine wpAnyH_ready (rs := [10]) (by kernel_rfl) (by simp) ?_
     refine AllReadyH.cons rfl (fun K hK => ?_) AllReadyH.nil
     go_simp
     go_wp2_with (go_at_call 140; rw [HX.out]; refine (iShort d _ HTD.out HA.out).mono ?_; rintro e wx ⟨⟨x, rfl, hxk⟩, hbx⟩; have HRX : Hid (RB wx b S k v bm) := RB.below hHeld hbx; have HKX : Hid (Kb b w wx) := HKD.out.trans (kb_of_below hbx); have HXK : Hid (∀ k', numL d = some k' -> x = (k' : Int)) := hxk; clear hbx hxk; rw [HNS.out])
     refine hK.out _ _ HRX.out (fun hNext => ?_)
     clear hK K hHeld
     have hHeld := hNext
     clear hNext
     refine wpAnyH_take (i := 11) (v := ?_) rfl (by kernel_rfl) (by kernel_rfl) (by kernel_rfl) (fun _ _ _ h => h) (Or.inl ⟨by rfl, ?_⟩) hHeld ?_
     rotate_left
     ·(intro v9 hS9; go_simp; try with_reducible rfl)
     try simp only [Act.put, List.setIfInBounds_toArray, List.set_cons_zero, List.set_cons_succ, List.getElem_toArray, List.getElem_cons_zero, List.getElem_cons_succ]
     refine wpAnyH_take (i := 12) (v := ?_) rfl (by kernel_rfl) (by kernel_rfl) (by kernel_rfl) (fun _ _ _ h => h) (Or.inl ⟨by rfl, ?_⟩) hHeld ?_
     rotate_left
     ·(intro v9 hS9; go_simp; try with_reducible rfl)
     try simp only [Act.put, List.setIfInBounds_toArray, List.set_cons_zero, List.set_cons_succ, List.getElem_toArray, List.getElem_cons_zero, List.getElem_cons_succ]
     refine wpAnyH_take (i := 13) (v := ?_) rfl (by kernel_rfl) (by kernel_rfl) (by kernel_rfl) (fun _ _ _ h => h) (Or.inl ⟨by rfl, ?_⟩) hHeld ?_
     rotate_left
     ·(intro v9 hS9; go_simp; try with_reducible rfl)
     try simp only [Act.put, List.setIfInBounds_toArray, List.set_cons_zero, List.set_cons_succ, List.getElem_toArray, List.getElem_cons_zero, List.getElem_cons_succ]
     refine wpAnyH_take (i := 14) (v := ?_) rfl (by kernel_rfl) (by kernel_rfl) (by kernel_rfl) (fun _ _ _ h => h) (Or.inl ⟨by rfl, ?_⟩) hHeld ?_
     rotate_left
     ·(intro v9 hS9; go_simp; try with_reducible rfl)
     try simp only [Act.put, List.setIfInBounds_toArray, List.set_cons_zero, List.set_cons_succ, List.getElem_toArray, List.getElem_cons_zero, List.getElem_cons_succ]
     refine wpAnyH_take (i := 15) (v := ?_) rfl (by kernel_rfl) (by kernel_rfl) (by kernel_rfl) (fun _ _ _ h => h) (Or.inl ⟨by rfl, ?_⟩) hHeld ?_
     rotate_left
     ·(intro v9 hS9; go_simp; try with_reducible rfl)
     try simp only [Act.put, List.setIfInBounds_toArray, List.set_cons_zero, List.set_cons_succ, List.getElem_toArray, List.getElem_cons_zero, List.getElem_cons_succ]
     refine wpAnyH_done (by kernel_rfl) ?_ _
     all_goals
      go_wp2
      go_ret
      exact ⟨Out.ok HP.out ⟨by rw [HXK.out y HNY.out]; rfl, HRX.out, hk⟩, HKX.out⟩
  ·have hlt : k < S.size := by
    rcases Nat.lt_or_ge k S.size with e | e
    ·exact e
    ·rw [nx_off e] at hd; cases hd
   have HD : Hid (isDig S[k] = true) := by show _ = _; rw [<- nx_in hlt]; exact hd
   have d1 := H1.out.c1
   have g1 := H1.out.f1
   have hkw : IntKind.i64.wrap ((k : Int) + 1) = (k : Int) + 1 := by rw [IntKind.wrap_i64]; omega
   go_wp2
   go_roundw
   case rel =>
    refine ⟨k + 1, by omega, by omega, H1.out.move _ _ (by simp), Ss3.kept_set HK1.out _, ?_⟩
    rw [drop_take_more hpk hlt]
    intro c hc
    rcases List.mem_append.1 hc with e | e
    ·exact HA.out c e
    ·have : c = S[k] := by simpa using e
     rw [this]; exact HD.out
   case measure => rw [set_same (w := w2) (u := .int .i64 k) d1, c1]; simp [intOf]; omega
end Pr2
namespace Pr3
open Go.RowKit
open Nd0 Nd3 Tm0 Tx0 Tx1 Ss0 Ss1 Tb0 Tb1 Px0 Pr1 Pr2
open Ss5 (Kb)
theorem iPairR (w : World) (b : Nat) (S : ByteArray) (p : Nat) (v : Value) (bm : Nat) (c : UInt8) (st : Nat) (hg : ∀ w', Kb b w w' -> TabR w') (h : RB w b S p v bm) (hs : S.size <= 100000) (hp : p <= S.size) :
 Calls Tryz.prog 65 #[.pointer (some ⟨b, 0, none⟩), .int .u8 (c.toNat : Int), .int .i64 st] w fun e w' => Out (pPair (tl S) c st p) (fun y => e = .returned (.tuple #[.int .i64 (y.1.1 : Int), .int .i64 (y.1.2 : Int)]) /\ RB w' b S y.2 v bm /\ y.2 <= S.size) (fun x => e = .panicked [fl x]) /\ Kb b w w' := by
 have H : Hid (RB w b S p v bm) := h
 have HG : Hid (∀ w', Kb b w w' -> TabR w') := hg
 clear h hg
 go_enter Tryz.func65, Tryz.ntmps65
 go_wp2_with fail
 refine (iNeed _ b S p v bm c st H.out hs hp).mono ?_
 rintro e w1 ⟨ho1, hk1⟩
 have HK1 : Hid (Kb b w w1) := hk1
 clear hk1
 cases h1 : pNeed (tl S) c st p with
 | error x =>
   obtain rfl := ho1.2 x h1
   have HP : Hid (pPair (tl S) c st p = .error x) := by show _ = _; unfold pPair; rw [h1]; rfl
   clear ho1 h1
   go_wp2
   exact ⟨rfl, Out.error HP.out rfl, HK1.out⟩
 | ok p1 =>
   obtain ⟨rfl, hr1, hp1⟩ := ho1.1 p1 h1
   have H1 : Hid (RB w1 b S p1 v bm) := hr1
   have HP1 : Hid (pNeed (tl S) c st p = .ok p1) := h1
   clear ho1 h1 hr1
   go_wp2_with fail
   refine (iNumber _ b S p1 v bm st (HG.out _ HK1.out) (fun w' k => HG.out _ (HK1.out.trans k)) H1.out hs hp1).mono ?_
   rintro e w2 ⟨ho2, hk2⟩
   have HK2 : Hid (Kb b w w2) := HK1.out.trans hk2
   clear hk2
   cases h2 : pNum (tl S) st p1 with
   | error x =>
     obtain rfl := ho2.2 x h2
     have HP : Hid (pPair (tl S) c st p = .error x) := by show _ = _; unfold pPair; rw [HP1.out]; simp only [Except.bind]; rw [h2]
     clear ho2 h2
     go_wp2
     exact ⟨rfl, Out.error HP.out rfl, HK2.out⟩
   | ok y1 =>
     obtain ⟨rfl, hr2, hp2⟩ := ho2.1 y1 h2
     have H2 : Hid (RB w2 b S y1.2 v bm) := hr2
     have HP2 : Hid (pNum (tl S) st p1 = .ok y1) := h2
     clear ho2 h2 hr2
     go_wp2_with fail
     refine (iNeed _ b S y1.2 v bm 58 st H2.out hs hp2).mono ?_
     rintro e w3 ⟨ho3, hk3⟩
     have HK3 : Hid (Kb b w w3) := HK2.out.trans hk3
     clear hk3
     cases h3 : pNeed (tl S) 58 st y1.2 with
     | error x =>
       obtain rfl := ho3.2 x h3
       have HP : Hid (pPair (tl S) c st p = .error x) := by show _ = _; unfold pPair; rw [HP1.out]; simp only [Except.bind]; rw [HP2.out]; simp only; rw [h3]
       clear ho3 h3
       go_wp2
       exact ⟨rfl, Out.error HP.out rfl, HK3.out⟩
     | ok p3 =>
       obtain ⟨rfl, hr3, hp3⟩ := ho3.1 p3 h3
       have H3 : Hid (RB w3 b S p3 v bm) := hr3
       have HP3 : Hid (pNeed (tl S) 58 st y1.2 = .ok p3) := h3
       clear ho3 h3 hr3
       go_wp2_with fail
       refine (iNumber _ b S p3 v bm st (HG.out _ HK3.out) (fun w' k => HG.out _ (HK3.out.trans k)) H3.out hs hp3).mono ?_
       rintro e w4 ⟨ho4, hk4⟩
       have HK4 : Hid (Kb b w w4) := HK3.out.trans hk4
       clear hk4
       cases h4 : pNum (tl S) st p3 with
       | error x =>
         obtain rfl := ho4.2 x h4
         have HP : Hid (pPair (tl S) c st p = .error x) := by show _ = _; unfold pPair; rw [HP1.out]; simp only [Except.bind]; rw [HP2.out]; simp only; rw [HP3.out]; simp only; rw [h4]
         clear ho4 h4
         go_wp2
         exact ⟨rfl, Out.error HP.out rfl, HK4.out⟩
       | ok y2 =>
         obtain ⟨rfl, hr4, hp4⟩ := ho4.1 y2 h4
         have H4 : Hid (RB w4 b S y2.2 v bm) := hr4
         have HP4 : Hid (pNum (tl S) st p3 = .ok y2) := h4
         clear ho4 h4 hr4
         go_wp2_with fail
         refine (iEnd _ b S y2.2 v bm st H4.out hs hp4).mono ?_
         rintro e w5 ⟨ho5, m, rfl⟩
         cases h5 : pEnd (tl S) st y2.2 with
         | error x =>
           obtain rfl := ho5.2 x h5
           have HP : Hid (pPair (tl S) c st p = .error x) := by show _ = _; unfold pPair; rw [HP1.out]; simp only [Except.bind]; rw [HP2.out]; simp only; rw [HP3.out]; simp only; rw [HP4.out]; simp only; rw [h5]
           clear ho5 h5
           go_wp2
           exact ⟨rfl, Out.error HP.out rfl, HK4.out.drewN _⟩
         | ok q =>
           obtain ⟨rfl, rfl⟩ := ho5.1 q h5
           have HP : Hid (pPair (tl S) c st p = .ok ((y1.1, y2.1), y2.2)) := by show _ = _; unfold pPair; rw [HP1.out]; simp only [Except.bind]; rw [HP2.out]; simp only; rw [HP3.out]; simp only; rw [HP4.out]; simp only; rw [h5]
           clear ho5 h5
           go_wp2
           go_ret2
           exact ⟨Out.ok HP.out ⟨rfl, H4.out.drewN _, hp4⟩, HK4.out.drewN _⟩
end Pr3
namespace Pg3
open Go.RowKit
open Nd0 Tm0 Tm5 Pl1 Ap0 Pg1 Pg2
open Ws1 (ret_int ret_bool)
def used (n : Nd) : Nd :=
 ⟨n.op, n.w, if numbered n.op then n.k else 0, if 0 < cnt n.op then n.a else 0, if 1 < cnt n.op \/ quant n.op = true then n.b else 0, if 2 < cnt n.op then n.c else 0⟩
theorem iUsed (n : Nd) (w : World) :
 Calls Tryz.prog 51 #[.agg #[.int .i64 n.op, .int .i64 n.w, .int .i64 n.k, .int .i64 n.a, .int .i64 n.b, .int .i64 n.c]] w fun e w' => e = .returned (.agg #[.int .i64 (used n).op, .int .i64 (used n).w, .int .i64 (used n).k, .int .i64 (used n).a, .int .i64 (used n).b, .int .i64 (used n).c]) /\ Below w.heap.size w w' := by
 have HU : ∀ m : Nd, m = used n -> Hid (m = used n) := fun m h => h
 have hc3 := cnt_le n.op
 have HC : Hid (cnt n.op = 0 \/ cnt n.op = 1 \/ cnt n.op = 2 \/ cnt n.op = 3) := by show _ \/ _; omega
 have HV : Hid (used n = ⟨n.op, n.w, if numbered n.op then n.k else 0, if 0 < cnt n.op then n.a else 0, if 1 < cnt n.op \/ quant n.op = true then n.b else 0, if 2 < cnt n.op then n.c else 0⟩) := rfl
 clear HU hc3
 generalize used n = u at HV ⊢
 cases hn : numbered n.op <;> cases hq : quant n.op <;> rcases HC.out with hc | hc | hc | hc
 all_goals
  have HN : Hid (numbered n.op = _) := hn
  have HQ : Hid (quant n.op = _) := hq
  have HK : Hid (cnt n.op = _) := hc
  go_enter Tryz.func51, Tryz.ntmps51
  go_wp2_with (first | (go_at_call 43; refine (iCount _ _).mono ?_; rintro e w' ⟨rfl, rfl⟩; rw [hc]) | (go_at_call 73; refine (iNumbered _ _).mono ?_; rintro e w' ⟨rfl, rfl⟩; rw [hn]) | (go_at_call 54; refine (iQuant _ _).mono ?_; rintro e w' ⟨rfl, rfl⟩; rw [hq]))
  refine bodyPost_ret (v := .agg #[.int .i64 u.op, .int .i64 u.w, .int .i64 u.k, .int .i64 u.a, .int .i64 u.b, .int .i64 u.c]) ?_ rfl ⟨rfl, ?_⟩
  ·have h9 := HV.out
   rw [HN.out, HQ.out, HK.out] at h9
   simp at h9
   subst h9
   simp [results, Tryz.results51, go_sem]
  ·exact (((Below.refl _ _).alloc (Nat.le_refl _) _).alloc (by simp) _).alloc (by simp; omega) _
def pahead (n : Nd) (i : Int) : Bool := (parts n).all fun p => decide (0 <= p /\ p < i)
theorem iAhead (n : Nd) (i : Int) (w : World) :
 Calls Tryz.prog 52 #[.agg #[.int .i64 n.op, .int .i64 n.w, .int .i64 n.k, .int .i64 n.a, .int .i64 n.b, .int .i64 n.c], .int .i64 i] w fun e w' => e = .returned (.bool (pahead n i)) /\ Below w.heap.size w w' := by
 go_enter Tryz.func52, Tryz.ntmps52
 go_wp2_with fail
 refine (iParts n _).mono ?_
 rintro e w1 ⟨⟨pa, pc, rfl, hpi⟩, hb1⟩
 have HP : Hid (Ints w1 pa (parts n)) := hpi.ints
 have HB1 : Hid (Below w.heap.size w w1) := ((Below.refl _ _).alloc (Nat.le_refl _) _).trans (hb1.mono (by simp))
 have hpl := parts_le n
 clear hpi hb1
 go_wp2_with fail
 go_loop [10] (fun q => ∃ k : Nat, k <= (parts n).length /\ q = .int .i64 k /\ ∀ j (h : j < (parts n).length), j < k -> 0 <= (parts n)[j] /\ (parts n)[j] < i) (fun q => (parts n).length - (intOf q).toNat)
 case atStart => exact ⟨0, Nat.zero_le _, rfl, fun j _ hj => by omega⟩
 case round =>
  obtain ⟨k, hk, rfl, hall⟩ := hrel
  have HA : Hid (∀ j (h : j < (parts n).length), j < k -> 0 <= (parts n)[j] /\ (parts n)[j] < i) := hall
  clear hall
  by_cases hlt : k < (parts n).length
  ·have hlz : (k : Int) < ((parts n).length : Int) := by omega
   rcases HP.out.2 with h0 | ⟨pb, po, rfl, hpc⟩
   ·omega
   have pk := hpc k hlt
   clear hpc
   have HBAD : Hid (¬ (0 <= (parts n)[k] /\ (parts n)[k] < i) -> pahead n i = false) := by
    show _ -> _
    intro h
    unfold pahead
    rw [List.all_eq_false]
    exact ⟨_, List.getElem_mem hlt, by simpa using h⟩
   have HEQ : Hid (∀ x : Int, x = (parts n)[k] -> (0 <= x /\ x < i) -> ∀ j (h : j < (parts n).length), j < k + 1 -> 0 <= (parts n)[j] /\ (parts n)[j] < i) := by
    show ∀ _, _
    intro x hx hxi j h hj
    by_cases e : j = k
    ·subst e; subst hx; exact hxi
    ·exact HA.out j h (by omega)
   obtain ⟨x, hx⟩ : ∃ x : Int, x = (parts n)[k] := ⟨_, rfl⟩
   rw [<- hx] at pk HBAD
   have HX : Hid (x = (parts n)[k]) := hx
   clear hx
   by_cases h1 : x < 0
   ·go_wp2
    go_ret
    exact ⟨ret_bool (HBAD.out (by omega)).symm, HB1.out⟩
   ·by_cases h2 : i <= x
    ·go_wp2
     go_ret
     exact ⟨ret_bool (HBAD.out (by omega)).symm, HB1.out⟩
    ·go_wp2
     go_round
     case rel => exact ⟨k + 1, by omega, by go_num, HEQ.out x HX.out ⟨by omega, by omega⟩⟩
     case measure => simp [intOf]; omega
  ·have HT : Hid (pahead n i = true) := by
    show pahead n i = true
    unfold pahead
    rw [List.all_eq_true]
    intro p hp
    obtain ⟨j, hj, rfl⟩ := List.getElem_of_mem hp
    simpa using HA.out j hj (by omega)
   go_wp2
   go_ret
   exact ⟨ret_bool HT.out.symm, HB1.out⟩
end Pg3
end Go.Proofs.YtiaimhgfimhepaaGreatDoor
