/- Small texts of mine, one behind the other. -/
import Derived.Test.YtldeakifeifgdaaDoorMx0
import Derived.Test.YtldeakifeifgdaaDoorPkQk
import Derived.Test.YtldeakifeifgdaaDoorPkQl
import Derived.Test.YtldeakifeifgdaaDoorMm1
/- The program's machine: what it says of keys; of a memo, of values, of a verdict, of its counts. -/
namespace Go.Proofs.YtldeakifeifgdaaDoor.Mi1
open Go.RowKit
open Ta0 Ta1 Ta2 Tc2 Mm0 Mm2 Mx0 Ms0
open Nd0 (Kept Ints set_other set_same lt_of_cell)
open Qc0 (Sn Sns SnAt)
set_option linter.unusedVariables false

/-- What the first j of a memo say. -/
def says (l : List Sn) : Nat → ByteArray → Option Int
  | 0 => fun _ => none
  | j + 1 => putF (says l j) (l.getD j Sn.zero).k (l.getD j Sn.zero).r
/-- How many keys they have. -/
def cnt (l : List Sn) : Nat → Nat
  | 0 => 0
  | j + 1 => if (says l j (l.getD j Sn.zero).k).isSome then cnt l j else cnt l j + 1
theorem cnt_le (l : List Sn) (j : Nat) : cnt l j ≤ j := by
  induction j with
  | zero => exact Nat.le_refl _
  | succ j ih => unfold cnt; split <;> omega
theorem says_some {l : List Sn} {x : ByteArray} {j : Nat} : (says l j x).isSome = true ↔ ∃ i, i < j ∧ (l.getD i Sn.zero).k = x := by
  induction j with
  | zero => simp [says]
  | succ j ih =>
    unfold says putF
    by_cases e : x = (l.getD j Sn.zero).k
    · rw [if_pos e]
      exact ⟨fun _ => ⟨j, by omega, e.symm⟩, fun _ => rfl⟩
    · rw [if_neg e, ih]
      constructor
      · rintro ⟨i, hi, h⟩
        exact ⟨i, by omega, h⟩
      · rintro ⟨i, hi, h⟩
        by_cases e2 : i = j
        · subst e2; exact absurd h.symm e
        · exact ⟨i, by omega, h⟩
/-- All keys are counted just when no two are alike. -/
theorem cnt_all {l : List Sn} {j : Nat} : cnt l j = j ↔ ∀ t s, t < j → s < t → (l.getD s Sn.zero).k ≠ (l.getD t Sn.zero).k := by
  induction j with
  | zero => exact ⟨fun _ t s h => by omega, fun _ => rfl⟩
  | succ j ih =>
    have hle := cnt_le l j
    unfold cnt
    constructor
    · intro h t s ht hs
      by_cases hi : (says l j (l.getD j Sn.zero).k).isSome = true
      · rw [if_pos hi] at h; omega
      · rw [if_neg hi] at h
        by_cases e : t = j
        · subst e
          intro hk
          exact hi (says_some.2 ⟨s, hs, hk⟩)
        · exact ih.1 (by omega) t s (by omega) hs
    · intro h
      have hi : ¬ (says l j (l.getD j Sn.zero).k).isSome = true := fun hi => by
        obtain ⟨i, hi1, hi2⟩ := says_some.1 hi
        exact h j i (by omega) hi1 hi2
      rw [if_neg hi, ih.2 fun t s ht hs => h t s (by omega) hs]
theorem cnt_apart (l : List Sn) : cnt l l.length = l.length ↔ apart l := by
  rw [cnt_all]
  constructor
  · intro h i j hi hj hji
    have := h i j hi hji
    simpa [List.getD, hi, hj] using this
  · intro h t s ht hs
    have := h t s ht (by omega) hs
    have h2 : s < l.length := by omega
    simpa [List.getD, ht, h2] using this

set_option maxRecDepth 100000 in
set_option maxHeartbeats 2000000 in
theorem iSays (w : World) (a : Option Addr) (l : List Sn) (c : Nat) (hl : l.length ≤ 1048576) (h : Sns w a l) (hk : ∀ x ∈ l, x.k.size ≤ maxLen) (hr : ∀ x ∈ l, 0 ≤ x.r ∧ x.r ≤ 1) :
    Calls Tryd.prog 68 #[.slice a l.length c] w fun e w' => e = .returned (.map (some w.heap.size)) ∧ Ms w' w.heap.size (cnt l l.length) (says l l.length) ∧ Below w.heap.size w w' := by
  have H : Hid (Sns w a l) := h
  have HK : Hid (∀ x ∈ l, x.k.size ≤ maxLen) := hk
  have HRR : Hid (∀ x ∈ l, 0 ≤ x.r ∧ x.r ≤ 1) := hr
  clear h hk hr
  have hmm := @run_makeMap Tryd.prog
  go_enter Tryd.func68, Tryd.ntmps68
  go_wp2
  clear hmm
  go_loopw [9] (fun i wr => ∃ j : Nat, j ≤ l.length ∧ i = .int .i64 j ∧ Ms wr w.heap.size (cnt l j) (says l j) ∧ Below w.heap.size w wr) (fun i _ => l.length - (intOf i).toNat)
  case atStart => exact ⟨0, Nat.zero_le _, rfl, Ms.new w, (Below.refl _ _).alloc (Nat.le_refl _) _⟩
  case round =>
    obtain ⟨j, hj, rfl, hms, hb⟩ := hrel
    have HMS : Hid (Ms wr w.heap.size (cnt l j) (says l j)) := hms
    have HB : Hid (Below w.heap.size w wr) := hb
    clear hms hb
    by_cases hlt : j < l.length
    · have hjz : (j : Int) < (l.length : Int) := by omega
      have hN := H.out.below HB.out
      rcases hN.2 with h0 | ⟨xb, xo, rfl, hc⟩
      · omega
      obtain ⟨p0, p1⟩ := hc j hlt
      clear hc hN
      have hgd : l.getD j Sn.zero = l[j] := by simp [List.getD, hlt]
      have HXK : Hid (l[j].k.size ≤ maxLen) := HK.out _ (List.getElem_mem hlt)
      have HXR : Hid (0 ≤ l[j].r ∧ l[j].r ≤ 1) := HRR.out _ (List.getElem_mem hlt)
      have HSY : Hid (says l (j + 1) = putF (says l j) l[j].k l[j].r) := by show _ = _; rw [← hgd]; rfl
      have HCT : Hid (cnt l (j + 1) = if (says l j l[j].k).isSome then cnt l j else cnt l j + 1) := by show _ = _; rw [← hgd]; rfl
      clear hgd
      generalize l[j] = x at *
      have HMA : Hid (Ms (wr.alloc (.cells #[.string x.k, .int .i64 x.r] 91)) w.heap.size (cnt l j) (says l j)) := HMS.out.below ((Below.refl _ _).alloc (Nat.le_refl _) _)
      have hcl := cnt_le l j
      obtain ⟨w2, hst, hm2, hk2⟩ := HMA.out.store HXK.out (Ms0.wf_bit (by have := HXR.out.1; omega) HXR.out.2) (v := x.r) (by omega)
      have HM2 : Hid (Ms w2 w.heap.size (cnt l (j + 1)) (says l (j + 1))) := by rw [HSY.out, HCT.out]; exact hm2
      have HB2 : Hid (Below w.heap.size w w2) := HB.out.trans (((Below.refl _ _).alloc HB.out.size _).trans (hk2.below (fun b hb => by omega) (by have := HB.out.size; simp; omega)))
      clear hm2 hk2 hcl
      go_wp2
      go_roundw
      case rel => exact ⟨j + 1, by omega, by go_num, HM2.out, HB2.out⟩
      case measure => simp [intOf]; omega
    · have hjz : ¬ (j : Int) < (l.length : Int) := by omega
      have HJ : Hid (j = l.length) := by show _ = _; omega
      go_wp2
      go_ret
      exact ⟨rfl, by rw [← HJ.out]; exact HMS.out, HB.out⟩

end Go.Proofs.YtldeakifeifgdaaDoor.Mi1

/- The program's machine: of a memo, of values, of a verdict, of its counts. -/
namespace Go.Proofs.YtldeakifeifgdaaDoor.Mi2
open Go.RowKit
open Ta0 Ta1 Ta2 Tc2 Te1 Mm0 Mm2 Mx0 Ms0 Mi1
open Nd0 (Kept Ints set_other set_same lt_of_cell)
open Qc0 (Sn Sns SnAt)
set_option linter.unusedVariables false

open Classical in
noncomputable def memB (l : List Sn) (room : Int) : Bool := decide ((0 ≤ room ∧ room ≤ 40) ∧ (l.length : Int) ≤ room ∧ (∀ x ∈ l, 0 ≤ x.r ∧ x.r ≤ 1) ∧ apart l)
theorem memB_iff {l : List Sn} {room : Int} : memB l room = true ↔ (0 ≤ room ∧ room ≤ 40) ∧ (l.length : Int) ≤ room ∧ (∀ x ∈ l, 0 ≤ x.r ∧ x.r ≤ 1) ∧ apart l := by unfold memB; simp
theorem memB_no {l : List Sn} {room : Int} (h : ¬ ((0 ≤ room ∧ room ≤ 40) ∧ (l.length : Int) ≤ room ∧ (∀ x ∈ l, 0 ≤ x.r ∧ x.r ≤ 1) ∧ apart l)) : memB l room = false := Bool.eq_false_iff.2 fun e => h (memB_iff.1 e)
theorem memB_yes {l : List Sn} {room : Int} (h : ((0 ≤ room ∧ room ≤ 40) ∧ (l.length : Int) ≤ room ∧ (∀ x ∈ l, 0 ≤ x.r ∧ x.r ≤ 1) ∧ apart l)) : memB l room = true := memB_iff.2 h

set_option maxRecDepth 100000 in
set_option maxHeartbeats 4000000 in
theorem iMemo (w : World) (a : Option Addr) (l : List Sn) (c : Nat) (room : Int) (h : Sns w a l) (hk : ∀ x ∈ l, x.k.size ≤ maxLen) :
    Calls Tryd.prog 30 #[.slice a l.length c, .int .i64 room] w fun e w' => e = .returned (.bool (memB l room)) ∧ Below w.heap.size w w' := by
  have H : Hid (Sns w a l) := h
  have HK : Hid (∀ x ∈ l, x.k.size ≤ maxLen) := hk
  have hm := h.1
  unfold maxLen at hm
  clear h hk
  by_cases h1 : room < 0
  · have h1b : decide (room < 0) = true := decide_eq_true h1
    have HF : Hid (memB l room = false) := memB_no fun k => by omega
    go_enter Tryd.func30, Tryd.ntmps30
    go_wp2
    go_ret
    exact ⟨ret_bool HF.out.symm, Below.refl _ _⟩
  have h1b : decide (room < 0) = false := decide_eq_false h1
  by_cases h2 : 40 < room
  · have h2b : decide (40 < room) = true := decide_eq_true h2
    have HF : Hid (memB l room = false) := memB_no fun k => by omega
    go_enter Tryd.func30, Tryd.ntmps30
    go_wp2
    go_ret
    exact ⟨ret_bool HF.out.symm, Below.refl _ _⟩
  have h2b : decide (40 < room) = false := decide_eq_false h2
  by_cases h3 : room < (l.length : Int)
  · have h3b : decide (room < (l.length : Int)) = true := decide_eq_true h3
    have HF : Hid (memB l room = false) := memB_no fun k => by omega
    go_enter Tryd.func30, Tryd.ntmps30
    go_wp2
    go_ret
    exact ⟨ret_bool HF.out.symm, Below.refl _ _⟩
  have h3b : decide (room < (l.length : Int)) = false := decide_eq_false h3
  go_enter Tryd.func30, Tryd.ntmps30
  go_wp2
  go_loopw [21] (fun i wr => ∃ j : Nat, j ≤ l.length ∧ i = .int .i64 j ∧ (∀ t (ht : t < l.length), t < j → 0 ≤ l[t].r ∧ l[t].r ≤ 1) ∧ Below w.heap.size w wr) (fun i _ => l.length - (intOf i).toNat)
  case atStart => exact ⟨0, Nat.zero_le _, rfl, fun t _ h => by omega, Below.refl _ _⟩
  case round =>
    obtain ⟨j, hj, rfl, hbt, hb⟩ := hrel
    have HBT : Hid (∀ t (ht : t < l.length), t < j → 0 ≤ l[t].r ∧ l[t].r ≤ 1) := hbt
    have HB : Hid (Below w.heap.size w wr) := hb
    clear hbt hb
    by_cases hlt : j < l.length
    · have hjz : (j : Int) < (l.length : Int) := by omega
      have hN := H.out.below HB.out
      rcases hN.2 with h0 | ⟨xb, xo, rfl, hc⟩
      · omega
      obtain ⟨p0, p1⟩ := hc j hlt
      clear hc hN
      have HNO : Hid (¬ (0 ≤ l[j].r ∧ l[j].r ≤ 1) → memB l room = false) := fun h => memB_no fun k => h (k.2.2.1 _ (List.getElem_mem hlt))
      have HYE : Hid (0 ≤ l[j].r ∧ l[j].r ≤ 1 → ∀ t (ht : t < l.length), t < j + 1 → 0 ≤ l[t].r ∧ l[t].r ≤ 1) := fun h t ht h2 => by
        by_cases e : t = j
        · subst e; exact h
        · exact HBT.out t ht (by omega)
      generalize l[j] = x at *
      have HIB : Hid (∀ W : World, Calls Tryd.prog 67 #[.int .i64 x.r] W fun e w' => e = .returned (.bool (bitB x.r)) ∧ w' = W) := fun W => iBitOk x.r W
      have HBA : Hid (Below w.heap.size w (wr.alloc (.cells #[.string x.k, .int .i64 x.r] 91))) := HB.out.alloc HB.out.size _
      cases hB : bitB x.r
      · have HF : Hid (memB l room = false) := HNO.out fun h => by
          have := of_decide_eq_false hB
          omega
        rw [hB] at HIB
        clear hB
        go_wp2_with (go_at_call 67; refine (HIB.out _).mono ?_; rintro e w9 ⟨rfl, hw9⟩; (have hw8 := hw9.symm); clear hw9; subst hw8)
        go_ret
        exact ⟨ret_bool HF.out.symm, HBA.out⟩
      · have HT := HYE.out (by have := of_decide_eq_true hB; omega)
        have HT2 : Hid (∀ t (ht : t < l.length), t < j + 1 → 0 ≤ l[t].r ∧ l[t].r ≤ 1) := HT
        rw [hB] at HIB
        clear hB HT
        go_wp2_with (go_at_call 67; refine (HIB.out _).mono ?_; rintro e w9 ⟨rfl, hw9⟩; (have hw8 := hw9.symm); clear hw9; subst hw8)
        go_roundw
        case rel => exact ⟨j + 1, by omega, by go_num, HT2.out, HBA.out⟩
        case measure => simp [intOf]; omega
    · have hjz : ¬ (j : Int) < (l.length : Int) := by omega
      have HBI : Hid (∀ x ∈ l, 0 ≤ x.r ∧ x.r ≤ 1) := fun x hx => by
        obtain ⟨t, ht, rfl⟩ := List.getElem_of_mem hx
        exact HBT.out t ht (by omega)
      clear HBT
      go_wp2_with fail
      refine (iSays _ a l c (by omega) (H.out.below HB.out) HK.out HBI.out).mono ?_
      rintro e w2 ⟨rfl, hms, hb2⟩
      have HB2 : Hid (Below w.heap.size w w2) := HB.out.trans (hb2.mono HB.out.size)
      have hlen := fun ty => hms.len ty
      clear hms hb2
      have hcl := cnt_le l l.length
      by_cases hap : cnt l l.length = l.length
      · have HT : Hid (memB l room = true) := memB_yes ⟨⟨by omega, by omega⟩, by omega, HBI.out, (cnt_apart l).1 hap⟩
        have hq : ((cnt l l.length : Int) == (l.length : Int)) = true := by rw [hap]; simp
        clear hap
        generalize cnt l l.length = cc at *
        go_wp2
        go_ret
        exact ⟨ret_bool HT.out.symm, HB2.out⟩
      · have HT : Hid (memB l room = false) := memB_no fun k => hap ((cnt_apart l).2 k.2.2.2)
        have hq : ((cnt l l.length : Int) == (l.length : Int)) = false := beq_eq_false_iff_ne.2 (by omega)
        clear hap
        generalize cnt l l.length = cc at *
        go_wp2
        go_ret
        exact ⟨ret_bool HT.out.symm, HB2.out⟩

/-- Whether all are bits. -/
def allB (l : List Int) : Bool := l.all bitB
theorem allB_no {l : List Int} {k : Nat} (h : k < l.length) (hb : bitB l[k] = false) : allB l = false := by
  unfold allB
  rw [List.all_eq_false]
  exact ⟨_, List.getElem_mem h, by rw [hb]; simp⟩
set_option maxHeartbeats 2000000 in
theorem iPlaceAny (a : Option Addr) (l : List Int) (c : Nat) (w : World) (hI : Ints w a l) :
    Calls Tryd.prog 69 #[.slice a l.length c] w fun e w' => (∃ p : Int, e = .returned (.tuple #[.int .i64 p, .bool (allB l)])) ∧ w' = w := by
  have HI1 : Hid (Ints w a l) := hI
  have hm := hI.1
  unfold maxLen at hm
  clear hI
  go_enter Tryd.func69, Tryd.ntmps69
  go_wp2
  go_loop [4, 9] (fun p i => ∃ (k : Nat) (y : Int), k ≤ l.length ∧ i = .int .i64 k ∧ p = .int .i64 y ∧ ∀ j (hj : j < l.length), j < k → bitB l[j] = true) (fun _ i => l.length - (intOf i).toNat)
  case atStart => exact ⟨0, 0, Nat.zero_le _, rfl, rfl, fun j _ hj => by omega⟩
  case round =>
    obtain ⟨k, y, hk, rfl, rfl, hbt⟩ := hrel
    have HBT : Hid (∀ j (hj : j < l.length), j < k → bitB l[j] = true) := hbt
    clear hbt
    by_cases hlt : k < l.length
    · have hkz : (k : Int) < (l.length : Int) := by omega
      rcases HI1.out.2 with h0 | ⟨xb, xo, rfl, hc⟩
      · omega
      have p0 := hc k hlt
      clear hc
      have HN : Hid (bitB l[k] = false → allB l = false) := allB_no hlt
      have HY : Hid (bitB l[k] = true → ∀ j (hj : j < l.length), j < k + 1 → bitB l[j] = true) := fun h j hj h2 => by
        by_cases e : j = k
        · subst e; exact h
        · exact HBT.out j hj (by omega)
      generalize l[k] = x at *
      have HIC : Hid (∀ W, Calls Tryd.prog 67 #[.int .i64 x] W fun e w' => e = .returned (.bool (bitB x)) ∧ w' = W) := fun W => iBitOk x W
      cases hB : bitB x
      · have HBd : Hid (allB l = false) := HN.out hB
        rw [hB] at HIC
        clear hB
        go_wp2_with (go_at_call 67; refine (HIC.out _).mono ?_; rintro e w' ⟨rfl, rfl⟩)
        go_ret2
        exact ⟨⟨0, by rw [HBd.out]; rfl⟩, rfl⟩
      · have HT := HY.out hB
        have HT2 : Hid (∀ j (hj : j < l.length), j < k + 1 → bitB l[j] = true) := HT
        rw [hB] at HIC
        clear hB HT
        go_wp2_with (go_at_call 67; refine (HIC.out _).mono ?_; rintro e w' ⟨rfl, rfl⟩)
        go_round
        case rel => exact ⟨k + 1, _, by omega, by go_num, rfl, HT2.out⟩
        case measure => simp [intOf]; omega
    · have HT : Hid (allB l = true) := by
        show _ = _
        unfold allB
        rw [List.all_eq_true]
        intro x hx
        obtain ⟨t, ht, rfl⟩ := List.getElem_of_mem hx
        exact HBT.out t ht (by omega)
      go_wp2
      go_ret2
      exact ⟨⟨y, by rw [HT.out]; rfl⟩, rfl⟩

/-- At most n bits. -/
def valB (l : List Int) (n : Int) : Bool := allB l && decide ((l.length : Int) ≤ n)
set_option maxHeartbeats 2000000 in
theorem iVals (a : Option Addr) (l : List Int) (c : Nat) (n : Int) (w : World) (hI : Ints w a l) :
    Calls Tryd.prog 31 #[.slice a l.length c, .int .i64 n] w fun e w' => e = .returned (.bool (valB l n)) ∧ w' = w := by
  have HI1 : Hid (Ints w a l) := hI
  clear hI
  cases hA : allB l
  · have HF : Hid (valB l n = false) := by show _ = _; unfold valB; rw [hA]; rfl
    go_enter Tryd.func31, Tryd.ntmps31
    go_wp2_with fail
    refine (iPlaceAny a l c _ HI1.out).mono ?_
    rw [hA]
    rintro e w2 ⟨⟨p, rfl⟩, rfl⟩
    clear hA
    go_wp2
    go_ret
    exact ⟨ret_bool HF.out.symm, rfl⟩
  · by_cases hn : (l.length : Int) ≤ n
    · have HF : Hid (valB l n = true) := by show _ = _; unfold valB; rw [hA, decide_eq_true hn]; rfl
      have hnb : decide ((l.length : Int) ≤ n) = true := decide_eq_true hn
      go_enter Tryd.func31, Tryd.ntmps31
      go_wp2_with fail
      refine (iPlaceAny a l c _ HI1.out).mono ?_
      rw [hA]
      rintro e w2 ⟨⟨p, rfl⟩, rfl⟩
      clear hA
      go_wp2
      go_ret
      exact ⟨ret_bool HF.out.symm, rfl⟩
    · have HF : Hid (valB l n = false) := by show _ = _; unfold valB; rw [decide_eq_false hn]; simp
      have hnb : decide ((l.length : Int) ≤ n) = false := decide_eq_false hn
      go_enter Tryd.func31, Tryd.ntmps31
      go_wp2_with fail
      refine (iPlaceAny a l c _ HI1.out).mono ?_
      rw [hA]
      rintro e w2 ⟨⟨p, rfl⟩, rfl⟩
      clear hA
      go_wp2
      go_ret
      exact ⟨ret_bool HF.out.symm, rfl⟩

end Go.Proofs.YtldeakifeifgdaaDoor.Mi2

/- The program's machine: its verdict, its counts; MachineOk. Written by tools/gen_mi3.py. -/
namespace Go.Proofs.YtldeakifeifgdaaDoor.Mi3
open Go.RowKit
open Ta0 Ta1 Ta2 Tc2 Te1 Mm0 Mm2 Mx0 Ms0 Mi1 Mi2
open Nd0 (Kept Ints set_other set_same lt_of_cell)
open Qc0 (Sn Sns SnAt)
open Ss1 (tl)
set_option linter.unusedVariables false

/-- Of a verdict. -/
def retB (m : Mc) : Bool := if m.ret = -1 then !m.over else bitB m.ret && (!m.over || decide (m.vals.length = 0))
set_option maxRecDepth 100000 in
set_option maxHeartbeats 4000000 in
theorem iRet (w : World) (m : Mc) (ra va ma : Option Addr) (rc vc mc : Nat) :
    Calls Tryd.prog 32 #[mval m ra va ma rc vc mc] w fun e w' => e = .returned (.bool (retB m)) ∧ Below w.heap.size w w' := by
  have HB0 : Hid (Below w.heap.size w (w.alloc (.cells #[.slice ra m.row.length rc, .int .i64 m.N, .string m.S, .int .i64 m.room, .slice va m.vals.length vc, .int .i64 m.ret, .bool m.over, .int .i64 m.steps, .int .i64 m.looks, .int .i64 m.hits, .slice ma m.memo.length mc] 34))) := (Below.refl _ _).alloc (Nat.le_refl _) _
  have HIB : Hid (∀ W : World, Calls Tryd.prog 67 #[.int .i64 m.ret] W fun e w' => e = .returned (.bool (bitB m.ret)) ∧ w' = W) := fun W => iBitOk m.ret W
  by_cases h1 : m.ret = -1
  · have h1b : (m.ret == -1) = true := by rw [h1]; rfl

    have HF : Hid (retB m = !m.over) := if_pos h1
    clear h1
    go_enter Tryd.func32, Tryd.ntmps32
    go_wp2_with (go_at_call 67; refine (HIB.out _).mono ?_; rintro e w9 ⟨rfl, hw9⟩; (have hw8 := hw9.symm); clear hw9; subst hw8)
    go_ret
    exact ⟨ret_bool HF.out.symm, HB0.out⟩
  have h1b : (m.ret == -1) = false := beq_eq_false_iff_ne.2 h1
  cases hB : bitB m.ret
  · rw [hB] at HIB

    have HF : Hid (retB m = false) := by show _ = _; unfold retB; rw [if_neg h1, hB]; rfl
    clear h1 hB
    go_enter Tryd.func32, Tryd.ntmps32
    go_wp2_with (go_at_call 67; refine (HIB.out _).mono ?_; rintro e w9 ⟨rfl, hw9⟩; (have hw8 := hw9.symm); clear hw9; subst hw8)
    go_ret
    exact ⟨ret_bool HF.out.symm, HB0.out⟩
  rw [hB] at HIB
  cases ho : m.over
  · have HF : Hid (retB m = true) := by show _ = _; unfold retB; rw [if_neg h1, hB, ho]; rfl
    rw [ho] at HB0
    clear h1 hB
    go_enter Tryd.func32, Tryd.ntmps32
    go_wp2_with (go_at_call 67; refine (HIB.out _).mono ?_; rintro e w9 ⟨rfl, hw9⟩; (have hw8 := hw9.symm); clear hw9; subst hw8)
    go_ret
    exact ⟨ret_bool HF.out.symm, HB0.out⟩
  rw [ho] at HB0
  by_cases hv : m.vals.length = 0
  · have HF : Hid (retB m = true) := by show _ = _; unfold retB; rw [if_neg h1, hB, ho, decide_eq_true hv]; rfl
    rw [hv] at HB0
    have hve : m.vals = [] := List.eq_nil_of_length_eq_zero hv
    clear h1 hB hv
    go_enter Tryd.func32, Tryd.ntmps32
    go_wp2_with (go_at_call 67; refine (HIB.out _).mono ?_; rintro e w9 ⟨rfl, hw9⟩; (have hw8 := hw9.symm); clear hw9; subst hw8)
    go_ret
    exact ⟨ret_bool HF.out.symm, HB0.out⟩
  · have HF : Hid (retB m = false) := by show _ = _; unfold retB; rw [if_neg h1, hB, ho, decide_eq_false hv]; rfl
    have hvn : ¬ m.vals = [] := fun e => hv (by rw [e]; rfl)
    have hvb : ((m.vals.length : Int) == 0) = false := beq_eq_false_iff_ne.2 (by omega)
    clear h1 hB hv
    go_enter Tryd.func32, Tryd.ntmps32
    go_wp2_with (go_at_call 67; refine (HIB.out _).mono ?_; rintro e w9 ⟨rfl, hw9⟩; (have hw8 := hw9.symm); clear hw9; subst hw8)
    go_ret
    exact ⟨ret_bool HF.out.symm, HB0.out⟩

set_option maxRecDepth 100000 in
set_option maxHeartbeats 4000000 in
theorem iCounts (w : World) (m : Mc) (ra va ma : Option Addr) (rc vc mc : Nat) :
    Calls Tryd.prog 70 #[mval m ra va ma rc vc mc] w fun e w' => e = .returned (.agg #[.int .i64 m.steps, .int .i64 m.looks, .int .i64 m.hits]) ∧ Below w.heap.size w w' := by
  go_enter Tryd.func70, Tryd.ntmps70
  go_wp2
  refine bodyPost_ret (v := .agg #[.int .i64 m.steps, .int .i64 m.looks, .int .i64 m.hits]) (by simp [results, Tryd.results70, go_sem]) rfl ⟨rfl, ?_⟩
  repeat (first | exact Below.refl _ _ | refine Below.setCell ?_ (by simp <;> omega) _ | refine Below.alloc ?_ (by simp <;> omega) _)

theorem idx3 (f : Nat → Int) {v : Nat} (hv : v < 3) (w : World) : (Instr.index 95 (.agg #[.int .i64 (f 0), .int .i64 (f 1), .int .i64 (f 2)]) (.int .i64 (v : Int))).run Tryd.prog w = .ok (.int .i64 (f v)) w := by
  rcases (show v = 0 ∨ v = 1 ∨ v = 2 by omega) with h | h | h <;> subst h <;> simp [Instr.index, run_underlying Tryd.underlying95, asIntOf, go_sem]
/-- A count. -/
def ctB (x : Int) : Bool := decide (0 ≤ x ∧ x ≤ 1000000000)
def countsB (m : Mc) : Bool := ctB m.steps && ctB m.looks && ctB m.hits
set_option maxRecDepth 100000 in
set_option maxHeartbeats 4000000 in
theorem iCountsOk (w : World) (m : Mc) (ra va ma : Option Addr) (rc vc mc : Nat) :
    Calls Tryd.prog 33 #[mval m ra va ma rc vc mc] w fun e w' => e = .returned (.bool (countsB m)) ∧ Below w.heap.size w w' := by
  have HB0 : Hid (Below w.heap.size w (w.alloc (.cells #[.slice ra m.row.length rc, .int .i64 m.N, .string m.S, .int .i64 m.room, .slice va m.vals.length vc, .int .i64 m.ret, .bool m.over, .int .i64 m.steps, .int .i64 m.looks, .int .i64 m.hits, .slice ma m.memo.length mc] 34))) := (Below.refl _ _).alloc (Nat.le_refl _) _
  have HX0 : Hid (Mb (w.alloc (.cells #[.slice ra m.row.length rc, .int .i64 m.N, .string m.S, .int .i64 m.room, .slice va m.vals.length vc, .int .i64 m.ret, .bool m.over, .int .i64 m.steps, .int .i64 m.looks, .int .i64 m.hits, .slice ma m.memo.length mc] 34)) w.heap.size m ra va ma rc vc mc) := Mb.made _ _ _ _ _ _ _ _ _
  obtain ⟨f, hf⟩ : ∃ f : Nat → Int, f = fun k => if k = 0 then m.steps else if k = 1 then m.looks else m.hits := ⟨_, rfl⟩
  have HC : Hid (∀ j, j < 3 → ctB (f j) = false → countsB m = false) := fun j hj h => by
    rw [hf] at h
    unfold countsB
    have : j = 0 ∨ j = 1 ∨ j = 2 := by omega
    rcases this with rfl | rfl | rfl
    · rw [show ctB m.steps = false from h]; rfl
    · rw [show ctB m.looks = false from h]; simp
    · rw [show ctB m.hits = false from h]; simp
  have HD : Hid ((∀ j, j < 3 → ctB (f j) = true) → countsB m = true) := fun h => by
    unfold countsB
    have a0 := h 0 (by omega)
    have a1 := h 1 (by omega)
    have a2 := h 2 (by omega)
    rw [hf] at a0 a1 a2
    rw [show ctB m.steps = true from a0, show ctB m.looks = true from a1, show ctB m.hits = true from a2]
    rfl
  have HS : Hid (f 0 = m.steps ∧ f 1 = m.looks ∧ f 2 = m.hits) := by rw [hf]; exact ⟨rfl, rfl, rfl⟩
  clear hf
  go_enter Tryd.func33, Tryd.ntmps33
  go_wp2_with fail
  refine (iCounts _ m ra va ma rc vc mc).mono ?_
  rintro e w1 ⟨rfl, hb1⟩
  have HB1 : Hid (Below w.heap.size w w1) := HB0.out.trans (hb1.mono HB0.out.size)
  clear hb1 HX0 HB0
  rw [← HS.out.1, ← HS.out.2.1, ← HS.out.2.2]
  clear HS
  go_wp2
  go_loopw [7] (fun i wr => ∃ j : Nat, j ≤ 3 ∧ i = .int .i64 j ∧ wr = w1 ∧ ∀ t, t < j → ctB (f t) = true) (fun i _ => 3 - (intOf i).toNat)
  case atStart => exact ⟨0, Nat.zero_le _, rfl, rfl, fun t h => by omega⟩
  case round =>
    obtain ⟨j, hj, rfl, hwr, hbt⟩ := hrel
    have hwr' := hwr.symm
    clear hwr
    subst hwr'
    have HBT : Hid (∀ t, t < j → ctB (f t) = true) := hbt
    clear hbt
    by_cases hlt : j < 3
    · have hX := fun w => idx3 f hlt w
      have hjz : (j : Int) < 3 := by omega
      cases hq : ctB (f j)
      · have HF : Hid (countsB m = false) := HC.out j hlt hq
        have hr := of_decide_eq_false hq
        clear hq
        generalize f j = x at *
        by_cases h0 : x < 0
        · have h0b : decide (x < 0) = true := decide_eq_true h0
          clear hr
          go_wp2
          go_ret
          exact ⟨ret_bool HF.out.symm, HB1.out⟩
        · have h0b : decide (x < 0) = false := decide_eq_false h0
          have h1b : decide (1000000000 < x) = true := decide_eq_true (by omega)
          clear hr
          go_wp2
          go_ret
          exact ⟨ret_bool HF.out.symm, HB1.out⟩
      · have hr := of_decide_eq_true hq
        have HN : Hid (∀ t, t < j + 1 → ctB (f t) = true) := fun t ht => by
          by_cases e : t = j
          · rw [e]; exact hq
          · exact HBT.out t (by omega)
        clear hq
        generalize f j = x at *
        have h0b : decide (x < 0) = false := decide_eq_false (by omega)
        have h1b : decide (1000000000 < x) = false := decide_eq_false (by omega)
        clear hr
        go_wp2
        go_roundw
        case rel => exact ⟨j + 1, by omega, by go_num, (by first | trivial | rfl), HN.out⟩
        case measure => simp [intOf]; omega
    · have HF : Hid (countsB m = true) := HD.out fun t ht => HBT.out t (by omega)
      have hjz : ¬ (j : Int) < 3 := by omega
      go_wp2
      go_ret
      exact ⟨ret_bool HF.out.symm, HB1.out⟩

end Go.Proofs.YtldeakifeifgdaaDoor.Mi3

/- The program's MachineOk, MachineVerdict. Written by tools/gen_mi4.py. -/
namespace Go.Proofs.YtldeakifeifgdaaDoor.Mi4
open Go.RowKit
open Ta0 Ta1 Ta2 Tc2 Te1 Mm0 Mm2 Mx0 Ms0 Mi1 Mi2 Mi3
open Nd0 (Kept Ints set_other set_same lt_of_cell)
open Qc0 (Sn Sns SnAt)
open Ss1 (tl)
set_option linter.unusedVariables false

theorem bit_iff (x : Int) : bitB x = true ↔ 0 ≤ x ∧ x ≤ 1 := by
  unfold bitB
  rw [decide_eq_true_eq]
  omega
theorem ok_iff (m : Mc) : mokB m = true ↔ tokB m.N (tl m.S) = true ∧ (m.row.length : Int) = m.N ∧ memB m.memo m.room = true ∧ valB m.vals m.N = true ∧ retB m = true ∧ countsB m = true := by
  have hv : valB m.vals m.N = true ↔ (∀ x ∈ m.vals, 0 ≤ x ∧ x ≤ 1) ∧ (m.vals.length : Int) ≤ m.N := by
    unfold valB allB
    rw [Bool.and_eq_true, List.all_eq_true, decide_eq_true_eq]
    constructor
    · rintro ⟨h, k⟩
      exact ⟨fun x hx => (bit_iff x).1 (h x hx), k⟩
    · rintro ⟨h, k⟩
      exact ⟨fun x hx => (bit_iff x).2 (h x hx), k⟩
  have hc : countsB m = true ↔ (0 ≤ m.steps ∧ m.steps ≤ 1000000000) ∧ (0 ≤ m.looks ∧ m.looks ≤ 1000000000) ∧ (0 ≤ m.hits ∧ m.hits ≤ 1000000000) := by
    unfold countsB ctB
    rw [Bool.and_eq_true, Bool.and_eq_true, decide_eq_true_eq, decide_eq_true_eq, decide_eq_true_eq, and_assoc]
  have hr : retB m = true ↔ (-1 ≤ m.ret ∧ m.ret ≤ 1) ∧ (m.over = true → 0 ≤ m.ret ∧ m.vals.length = 0) := by
    unfold retB
    by_cases h1 : m.ret = -1
    · rw [if_pos h1]
      cases m.over
      · simp; omega
      · simp; omega
    · rw [if_neg h1, Bool.and_eq_true, bit_iff]
      cases m.over
      · simp; omega
      · simp only [Bool.not_true, Bool.false_or, decide_eq_true_eq, true_implies]
        omega
  have hm : mokB m = true ↔ Mok m := by unfold mokB; simp
  rw [hm, hv, hc, hr, memB_iff]
  constructor
  · rintro ⟨h1, h2, h3, h4, h5, h6, h7, h8, h9, h10, h11, h12, h13⟩
    exact ⟨h1, h2, ⟨h3, h4, h12, h13⟩, ⟨h11, h5⟩, ⟨h6, h7⟩, h8, h9, h10⟩
  · rintro ⟨h1, h2, ⟨h3, h4, h12, h13⟩, ⟨h11, h5⟩, ⟨h6, h7⟩, h8, h9, h10⟩
    exact ⟨h1, h2, h3, h4, h5, h6, h7, h8, h9, h10, h11, h12, h13⟩

set_option maxRecDepth 100000 in
set_option maxHeartbeats 8000000 in
theorem iMachineOk (m : Mc) (ra va ma : Option Addr) (rc vc mc : Nat) (w : World) (hS : m.S.size ≤ 1048576) (hR : Mr w m ra va ma) (hk : ∀ x ∈ m.memo, x.k.size ≤ maxLen) :
    Calls Tryd.prog 10 #[mval m ra va ma rc vc mc] w fun e w' => e = .returned (.bool (mokB m)) ∧ Below w.heap.size w w' := by
  have HX0 : Hid (Mb (w.alloc (.cells #[.slice ra m.row.length rc, .int .i64 m.N, .string m.S, .int .i64 m.room, .slice va m.vals.length vc, .int .i64 m.ret, .bool m.over, .int .i64 m.steps, .int .i64 m.looks, .int .i64 m.hits, .slice ma m.memo.length mc] 34)) w.heap.size m ra va ma rc vc mc) := Mb.made _ _ _ _ _ _ _ _ _
  have HB0 : Hid (Below w.heap.size w (w.alloc (.cells #[.slice ra m.row.length rc, .int .i64 m.N, .string m.S, .int .i64 m.room, .slice va m.vals.length vc, .int .i64 m.ret, .bool m.over, .int .i64 m.steps, .int .i64 m.looks, .int .i64 m.hits, .slice ma m.memo.length mc] 34))) := (Below.refl _ _).alloc (Nat.le_refl _) _
  have hlr := hR.row.1
  unfold maxLen at hlr
  have HT : Hid (∀ W, Calls Tryd.prog 29 #[tv m.N m.S] W fun e w' => e = .returned (.bool (tokB m.N (tl m.S))) ∧ Below W.heap.size W w') := fun W => iTableOk m.N m.S W hS
  have HM : Hid (∀ W, Below w.heap.size w W → Calls Tryd.prog 30 #[.slice ma m.memo.length mc, .int .i64 m.room] W fun e w' => e = .returned (.bool (memB m.memo m.room)) ∧ Below W.heap.size W w') := fun W hb => iMemo W ma m.memo mc m.room (hR.memo.below hb) hk
  have HV : Hid (∀ W, Below w.heap.size w W → Calls Tryd.prog 31 #[.slice va m.vals.length vc, .int .i64 m.N] W fun e w' => e = .returned (.bool (valB m.vals m.N)) ∧ Below W.heap.size W w') := fun W hb => (iVals va m.vals vc m.N W (hR.vals.below hb)).mono fun e w' h => ⟨h.1, by rw [h.2]; exact Below.refl _ _⟩
  have HR : Hid (∀ W, Below w.heap.size w W → Calls Tryd.prog 32 #[mval m ra va ma rc vc mc] W fun e w' => e = .returned (.bool (retB m)) ∧ Below W.heap.size W w') := fun W hb => iRet W m ra va ma rc vc mc
  have HC : Hid (∀ W, Below w.heap.size w W → Calls Tryd.prog 33 #[mval m ra va ma rc vc mc] W fun e w' => e = .returned (.bool (countsB m)) ∧ Below W.heap.size W w') := fun W hb => iCountsOk W m ra va ma rc vc mc
  have HI : Hid (mokB m = true ↔ tokB m.N (tl m.S) = true ∧ (m.row.length : Int) = m.N ∧ memB m.memo m.room = true ∧ valB m.vals m.N = true ∧ retB m = true ∧ countsB m = true) := ok_iff m
  have HNO : Hid (¬ (tokB m.N (tl m.S) = true ∧ (m.row.length : Int) = m.N ∧ memB m.memo m.room = true ∧ valB m.vals m.N = true ∧ retB m = true ∧ countsB m = true) → mokB m = false) := fun h => Bool.eq_false_iff.2 fun e => h (HI.out.1 e)
  clear hS hR hk
  cases h1 : tokB m.N (tl m.S)
  · have HF : Hid (mokB m = false) := HNO.out fun k => by rw [h1] at k; simp at k
    rw [h1] at HT
    clear h1
    go_enter Tryd.func10, Tryd.ntmps10
    go_wp2_with fail
    refine (HT.out _).mono ?_
    rintro e w1 ⟨rfl, hb1⟩
    have HB1 : Hid (Below w.heap.size w w1) := HB0.out.trans (hb1.mono HB0.out.size)
    have HX1 : Hid (Mb w1 w.heap.size m ra va ma rc vc mc) := HX0.out.below hb1
    clear hb1
    obtain ⟨m0, m1, m2, m3, m4, m5, m6, m7, m8, m9, m10⟩ := HX1.out
    go_wp2
    go_ret
    exact ⟨ret_bool HF.out.symm, HB1.out⟩
  by_cases h2 : (m.row.length : Int) = m.N
  rotate_left
  · have HF : Hid (mokB m = false) := HNO.out fun k => h2 k.2.1
    have h2b : ((m.row.length : Int) == m.N) = false := beq_eq_false_iff_ne.2 h2
    rw [h1] at HT
    clear h1 h2
    go_enter Tryd.func10, Tryd.ntmps10
    go_wp2_with fail
    refine (HT.out _).mono ?_
    rintro e w1 ⟨rfl, hb1⟩
    have HB1 : Hid (Below w.heap.size w w1) := HB0.out.trans (hb1.mono HB0.out.size)
    have HX1 : Hid (Mb w1 w.heap.size m ra va ma rc vc mc) := HX0.out.below hb1
    clear hb1
    obtain ⟨m0, m1, m2, m3, m4, m5, m6, m7, m8, m9, m10⟩ := HX1.out
    go_wp2
    go_ret
    exact ⟨ret_bool HF.out.symm, HB1.out⟩
  have h2b : ((m.row.length : Int) == m.N) = true := beq_iff_eq.2 h2
  have H2 : Hid ((m.row.length : Int) = m.N) := h2
  clear h2
  have H1 : Hid (tokB m.N (tl m.S) = true) := h1
  rw [h1] at HT
  clear h1
  cases h3 : memB m.memo m.room
  · have HF : Hid (mokB m = false) := HNO.out fun k => by rw [h3] at k; simp at k
    rw [h3] at HM
    clear h3
    go_enter Tryd.func10, Tryd.ntmps10
    go_wp2_with fail
    refine (HT.out _).mono ?_
    rintro e w1 ⟨rfl, hb1⟩
    have HB1 : Hid (Below w.heap.size w w1) := HB0.out.trans (hb1.mono HB0.out.size)
    have HX1 : Hid (Mb w1 w.heap.size m ra va ma rc vc mc) := HX0.out.below hb1
    clear hb1
    obtain ⟨m0, m1, m2, m3, m4, m5, m6, m7, m8, m9, m10⟩ := HX1.out
    go_wp2_with fail
    refine (HM.out w1 HB1.out).mono ?_
    rintro e w2 ⟨rfl, hb2⟩
    have HB2 : Hid (Below w.heap.size w w2) := HB1.out.trans (hb2.mono HB1.out.size)
    have HX2 : Hid (Mb w2 w.heap.size m ra va ma rc vc mc) := HX1.out.below hb2
    clear hb2 m0 m1 m2 m3 m4 m5 m6 m7 m8 m9 m10
    obtain ⟨m0, m1, m2, m3, m4, m5, m6, m7, m8, m9, m10⟩ := HX2.out
    go_wp2
    go_ret
    exact ⟨ret_bool HF.out.symm, HB2.out⟩
  have H3 : Hid (memB m.memo m.room = true) := h3
  rw [h3] at HM
  clear h3
  cases h4 : valB m.vals m.N
  · have HF : Hid (mokB m = false) := HNO.out fun k => by rw [h4] at k; simp at k
    rw [h4] at HV
    clear h4
    go_enter Tryd.func10, Tryd.ntmps10
    go_wp2_with fail
    refine (HT.out _).mono ?_
    rintro e w1 ⟨rfl, hb1⟩
    have HB1 : Hid (Below w.heap.size w w1) := HB0.out.trans (hb1.mono HB0.out.size)
    have HX1 : Hid (Mb w1 w.heap.size m ra va ma rc vc mc) := HX0.out.below hb1
    clear hb1
    obtain ⟨m0, m1, m2, m3, m4, m5, m6, m7, m8, m9, m10⟩ := HX1.out
    go_wp2_with fail
    refine (HM.out w1 HB1.out).mono ?_
    rintro e w2 ⟨rfl, hb2⟩
    have HB2 : Hid (Below w.heap.size w w2) := HB1.out.trans (hb2.mono HB1.out.size)
    have HX2 : Hid (Mb w2 w.heap.size m ra va ma rc vc mc) := HX1.out.below hb2
    clear hb2 m0 m1 m2 m3 m4 m5 m6 m7 m8 m9 m10
    obtain ⟨m0, m1, m2, m3, m4, m5, m6, m7, m8, m9, m10⟩ := HX2.out
    go_wp2_with fail
    refine (HV.out w2 HB2.out).mono ?_
    rintro e w3 ⟨rfl, hb3⟩
    have HB3 : Hid (Below w.heap.size w w3) := HB2.out.trans (hb3.mono HB2.out.size)
    have HX3 : Hid (Mb w3 w.heap.size m ra va ma rc vc mc) := HX2.out.below hb3
    clear hb3 m0 m1 m2 m3 m4 m5 m6 m7 m8 m9 m10
    obtain ⟨m0, m1, m2, m3, m4, m5, m6, m7, m8, m9, m10⟩ := HX3.out
    go_wp2
    go_ret
    exact ⟨ret_bool HF.out.symm, HB3.out⟩
  have H4 : Hid (valB m.vals m.N = true) := h4
  rw [h4] at HV
  clear h4
  cases h5 : retB m
  · have HF : Hid (mokB m = false) := HNO.out fun k => by rw [h5] at k; simp at k
    rw [h5] at HR
    clear h5
    go_enter Tryd.func10, Tryd.ntmps10
    go_wp2_with fail
    refine (HT.out _).mono ?_
    rintro e w1 ⟨rfl, hb1⟩
    have HB1 : Hid (Below w.heap.size w w1) := HB0.out.trans (hb1.mono HB0.out.size)
    have HX1 : Hid (Mb w1 w.heap.size m ra va ma rc vc mc) := HX0.out.below hb1
    clear hb1
    obtain ⟨m0, m1, m2, m3, m4, m5, m6, m7, m8, m9, m10⟩ := HX1.out
    go_wp2_with fail
    refine (HM.out w1 HB1.out).mono ?_
    rintro e w2 ⟨rfl, hb2⟩
    have HB2 : Hid (Below w.heap.size w w2) := HB1.out.trans (hb2.mono HB1.out.size)
    have HX2 : Hid (Mb w2 w.heap.size m ra va ma rc vc mc) := HX1.out.below hb2
    clear hb2 m0 m1 m2 m3 m4 m5 m6 m7 m8 m9 m10
    obtain ⟨m0, m1, m2, m3, m4, m5, m6, m7, m8, m9, m10⟩ := HX2.out
    go_wp2_with fail
    refine (HV.out w2 HB2.out).mono ?_
    rintro e w3 ⟨rfl, hb3⟩
    have HB3 : Hid (Below w.heap.size w w3) := HB2.out.trans (hb3.mono HB2.out.size)
    have HX3 : Hid (Mb w3 w.heap.size m ra va ma rc vc mc) := HX2.out.below hb3
    clear hb3 m0 m1 m2 m3 m4 m5 m6 m7 m8 m9 m10
    obtain ⟨m0, m1, m2, m3, m4, m5, m6, m7, m8, m9, m10⟩ := HX3.out
    go_wp2_with fail
    refine (HR.out w3 HB3.out).mono ?_
    rintro e w4 ⟨rfl, hb4⟩
    have HB4 : Hid (Below w.heap.size w w4) := HB3.out.trans (hb4.mono HB3.out.size)
    have HX4 : Hid (Mb w4 w.heap.size m ra va ma rc vc mc) := HX3.out.below hb4
    clear hb4 m0 m1 m2 m3 m4 m5 m6 m7 m8 m9 m10
    obtain ⟨m0, m1, m2, m3, m4, m5, m6, m7, m8, m9, m10⟩ := HX4.out
    go_wp2
    go_ret
    exact ⟨ret_bool HF.out.symm, HB4.out⟩
  have H5 : Hid (retB m = true) := h5
  rw [h5] at HR
  clear h5
  cases h6 : countsB m
  · have HF : Hid (mokB m = false) := HNO.out fun k => by rw [h6] at k; simp at k
    rw [h6] at HC
    clear h6
    go_enter Tryd.func10, Tryd.ntmps10
    go_wp2_with fail
    refine (HT.out _).mono ?_
    rintro e w1 ⟨rfl, hb1⟩
    have HB1 : Hid (Below w.heap.size w w1) := HB0.out.trans (hb1.mono HB0.out.size)
    have HX1 : Hid (Mb w1 w.heap.size m ra va ma rc vc mc) := HX0.out.below hb1
    clear hb1
    obtain ⟨m0, m1, m2, m3, m4, m5, m6, m7, m8, m9, m10⟩ := HX1.out
    go_wp2_with fail
    refine (HM.out w1 HB1.out).mono ?_
    rintro e w2 ⟨rfl, hb2⟩
    have HB2 : Hid (Below w.heap.size w w2) := HB1.out.trans (hb2.mono HB1.out.size)
    have HX2 : Hid (Mb w2 w.heap.size m ra va ma rc vc mc) := HX1.out.below hb2
    clear hb2 m0 m1 m2 m3 m4 m5 m6 m7 m8 m9 m10
    obtain ⟨m0, m1, m2, m3, m4, m5, m6, m7, m8, m9, m10⟩ := HX2.out
    go_wp2_with fail
    refine (HV.out w2 HB2.out).mono ?_
    rintro e w3 ⟨rfl, hb3⟩
    have HB3 : Hid (Below w.heap.size w w3) := HB2.out.trans (hb3.mono HB2.out.size)
    have HX3 : Hid (Mb w3 w.heap.size m ra va ma rc vc mc) := HX2.out.below hb3
    clear hb3 m0 m1 m2 m3 m4 m5 m6 m7 m8 m9 m10
    obtain ⟨m0, m1, m2, m3, m4, m5, m6, m7, m8, m9, m10⟩ := HX3.out
    go_wp2_with fail
    refine (HR.out w3 HB3.out).mono ?_
    rintro e w4 ⟨rfl, hb4⟩
    have HB4 : Hid (Below w.heap.size w w4) := HB3.out.trans (hb4.mono HB3.out.size)
    have HX4 : Hid (Mb w4 w.heap.size m ra va ma rc vc mc) := HX3.out.below hb4
    clear hb4 m0 m1 m2 m3 m4 m5 m6 m7 m8 m9 m10
    obtain ⟨m0, m1, m2, m3, m4, m5, m6, m7, m8, m9, m10⟩ := HX4.out
    go_wp2_with fail
    refine (HC.out w4 HB4.out).mono ?_
    rintro e w5 ⟨rfl, hb5⟩
    have HB5 : Hid (Below w.heap.size w w5) := HB4.out.trans (hb5.mono HB4.out.size)
    have HX5 : Hid (Mb w5 w.heap.size m ra va ma rc vc mc) := HX4.out.below hb5
    clear hb5 m0 m1 m2 m3 m4 m5 m6 m7 m8 m9 m10
    obtain ⟨m0, m1, m2, m3, m4, m5, m6, m7, m8, m9, m10⟩ := HX5.out
    go_wp2
    go_ret
    exact ⟨ret_bool HF.out.symm, HB5.out⟩
  have HF : Hid (mokB m = true) := HI.out.2 ⟨H1.out, H2.out, H3.out, H4.out, H5.out, h6⟩
  rw [h6] at HC
  clear h6
  go_enter Tryd.func10, Tryd.ntmps10
  go_wp2_with fail
  refine (HT.out _).mono ?_
  rintro e w1 ⟨rfl, hb1⟩
  have HB1 : Hid (Below w.heap.size w w1) := HB0.out.trans (hb1.mono HB0.out.size)
  have HX1 : Hid (Mb w1 w.heap.size m ra va ma rc vc mc) := HX0.out.below hb1
  clear hb1
  obtain ⟨m0, m1, m2, m3, m4, m5, m6, m7, m8, m9, m10⟩ := HX1.out
  go_wp2_with fail
  refine (HM.out w1 HB1.out).mono ?_
  rintro e w2 ⟨rfl, hb2⟩
  have HB2 : Hid (Below w.heap.size w w2) := HB1.out.trans (hb2.mono HB1.out.size)
  have HX2 : Hid (Mb w2 w.heap.size m ra va ma rc vc mc) := HX1.out.below hb2
  clear hb2 m0 m1 m2 m3 m4 m5 m6 m7 m8 m9 m10
  obtain ⟨m0, m1, m2, m3, m4, m5, m6, m7, m8, m9, m10⟩ := HX2.out
  go_wp2_with fail
  refine (HV.out w2 HB2.out).mono ?_
  rintro e w3 ⟨rfl, hb3⟩
  have HB3 : Hid (Below w.heap.size w w3) := HB2.out.trans (hb3.mono HB2.out.size)
  have HX3 : Hid (Mb w3 w.heap.size m ra va ma rc vc mc) := HX2.out.below hb3
  clear hb3 m0 m1 m2 m3 m4 m5 m6 m7 m8 m9 m10
  obtain ⟨m0, m1, m2, m3, m4, m5, m6, m7, m8, m9, m10⟩ := HX3.out
  go_wp2_with fail
  refine (HR.out w3 HB3.out).mono ?_
  rintro e w4 ⟨rfl, hb4⟩
  have HB4 : Hid (Below w.heap.size w w4) := HB3.out.trans (hb4.mono HB3.out.size)
  have HX4 : Hid (Mb w4 w.heap.size m ra va ma rc vc mc) := HX3.out.below hb4
  clear hb4 m0 m1 m2 m3 m4 m5 m6 m7 m8 m9 m10
  obtain ⟨m0, m1, m2, m3, m4, m5, m6, m7, m8, m9, m10⟩ := HX4.out
  go_wp2_with fail
  refine (HC.out w4 HB4.out).mono ?_
  rintro e w5 ⟨rfl, hb5⟩
  have HB5 : Hid (Below w.heap.size w w5) := HB4.out.trans (hb5.mono HB4.out.size)
  have HX5 : Hid (Mb w5 w.heap.size m ra va ma rc vc mc) := HX4.out.below hb5
  clear hb5 m0 m1 m2 m3 m4 m5 m6 m7 m8 m9 m10
  obtain ⟨m0, m1, m2, m3, m4, m5, m6, m7, m8, m9, m10⟩ := HX5.out
  go_wp2
  go_ret
  exact ⟨ret_bool HF.out.symm, HB5.out⟩

/-- The verdict of a machine. -/
noncomputable def verV (m : Mc) : Int × Bool := if mokB m = true ∧ m.over = true then (m.ret, true) else (0, false)

set_option maxRecDepth 100000 in
set_option maxHeartbeats 4000000 in
theorem iVerdict (m : Mc) (ra va ma : Option Addr) (rc vc mc : Nat) (w : World) (hS : m.S.size ≤ 1048576) (hR : Mr w m ra va ma) (hk : ∀ x ∈ m.memo, x.k.size ≤ maxLen) :
    Calls Tryd.prog 13 #[mval m ra va ma rc vc mc] w fun e w' => e = .returned (.tuple #[.int .i64 (verV m).1, .bool (verV m).2]) ∧ Below w.heap.size w w' := by
  have HX0 : Hid (Mb (w.alloc (.cells #[.slice ra m.row.length rc, .int .i64 m.N, .string m.S, .int .i64 m.room, .slice va m.vals.length vc, .int .i64 m.ret, .bool m.over, .int .i64 m.steps, .int .i64 m.looks, .int .i64 m.hits, .slice ma m.memo.length mc] 34)) w.heap.size m ra va ma rc vc mc) := Mb.made _ _ _ _ _ _ _ _ _
  have HB0 : Hid (Below w.heap.size w (w.alloc (.cells #[.slice ra m.row.length rc, .int .i64 m.N, .string m.S, .int .i64 m.room, .slice va m.vals.length vc, .int .i64 m.ret, .bool m.over, .int .i64 m.steps, .int .i64 m.looks, .int .i64 m.hits, .slice ma m.memo.length mc] 34))) := (Below.refl _ _).alloc (Nat.le_refl _) _
  have HOK : Hid (∀ W, Below w.heap.size w W → Calls Tryd.prog 10 #[mval m ra va ma rc vc mc] W fun e w' => e = .returned (.bool (mokB m)) ∧ Below W.heap.size W w') := fun W hb => iMachineOk m ra va ma rc vc mc W hS (hR.below hb) hk
  clear hS hR hk
  cases h1 : mokB m
  · have HF : Hid (verV m = (0, false)) := by show _ = _; unfold verV; rw [h1]; rfl
    rw [h1] at HOK
    clear h1
    rw [HF.out]
    go_enter Tryd.func13, Tryd.ntmps13
    go_wp2_with fail
    refine (HOK.out _ HB0.out).mono ?_
    rintro e w1 ⟨rfl, hb1⟩
    have HB1 : Hid (Below w.heap.size w w1) := HB0.out.trans (hb1.mono HB0.out.size)
    clear hb1
    go_wp2
    go_ret2
    exact ⟨rfl, HB1.out⟩
  rw [h1] at HOK
  cases ho : m.over
  · have HF : Hid (verV m = (0, false)) := by show _ = _; unfold verV; rw [h1, ho]; rfl
    rw [HF.out]
    have HO : Hid _ := ho
    clear h1 ho
    go_enter Tryd.func13, Tryd.ntmps13
    go_wp2_with fail
    refine ((HOK.out _ HB0.out).mono ?_)
    rintro e w1 ⟨rfl, hb1⟩
    have HB1 : Hid (Below w.heap.size w w1) := HB0.out.trans (hb1.mono HB0.out.size)
    obtain ⟨m0, m1, m2, m3, m4, m5, m6, m7, m8, m9, m10⟩ := HX0.out.below hb1
    have ho := HO.out
    clear hb1
    go_wp2
    go_ret2
    exact ⟨rfl, HB1.out⟩
  · have HF : Hid (verV m = (m.ret, true)) := by show _ = _; unfold verV; rw [h1, ho]; rfl
    rw [HF.out]
    have HO : Hid _ := ho
    clear h1 ho
    go_enter Tryd.func13, Tryd.ntmps13
    go_wp2_with fail
    refine ((HOK.out _ HB0.out).mono ?_)
    rintro e w1 ⟨rfl, hb1⟩
    have HB1 : Hid (Below w.heap.size w w1) := HB0.out.trans (hb1.mono HB0.out.size)
    obtain ⟨m0, m1, m2, m3, m4, m5, m6, m7, m8, m9, m10⟩ := HX0.out.below hb1
    have ho := HO.out
    clear hb1
    go_wp2
    go_ret2
    exact ⟨rfl, HB1.out⟩

end Go.Proofs.YtldeakifeifgdaaDoor.Mi4

/- What is left of the program's machine; MachineLeft of both. Written by tools/gen_mi5.py. -/
namespace Go.Proofs.YtldeakifeifgdaaDoor.Mi5
open Go.RowKit
open Ta0 Ta1 Ta2 Ta3 Tc2 Tc5 Td2 Te1 Te3 Mc0 Mm0 Mm1 Mm2 Mx0 Mi4
open Nd0 (Kept Ints set_other set_same lt_of_cell)
open Ss0 (bs bs_size bs_ext)
open Ss1 (tl bs_tl)
set_option linter.unusedVariables false

theorem plc_pl (vb : List Bool) : ∀ k, k ≤ vb.length → plc (vb.map bi) k = pl (vb.take k) := by
  intro k
  induction k with
  | zero => intro _; simp [plc, pl]
  | succ k ih =>
    intro h
    have hk : k < vb.length := by omega
    show 2 * plc (vb.map bi) k + ((vb.map bi).getD k 0).toNat = _
    rw [ih (by omega), take_bit hk, pl_snoc]
    have : (vb.map bi).getD k 0 = bi vb[k] := by simp [List.getD, hk]
    rw [this]
    simp [bi]
theorem bits_ok (vb : List Bool) : ∀ i, i < (vb.map bi).length → bitB ((vb.map bi).getD i 0) = true := fun i hi => by
  have hi2 : i < vb.length := by simpa using hi
  have : (vb.map bi).getD i 0 = bi vb[i] := by simp [List.getD, hi2]
  rw [this]
  cases vb[i] <;> rfl
theorem pl_lt (vb : List Bool) : pl vb < 2 ^ vb.length := by
  have h := plc_lt (l := vb.map bi) (k := vb.length) (fun i hi => bits_ok vb i (by rw [List.length_map]; exact hi))
  rw [plc_pl vb _ (Nat.le_refl _), List.take_length] at h
  exact h
theorem cut_tab {n : Nat} (F : Nat → Bool) (vb : List Bool) (hk : vb.length ≤ n) : ((tab n F).take ((pl vb + 1) * 2 ^ (n - vb.length))).drop (pl vb * 2 ^ (n - vb.length)) = tab (n - vb.length) (lft n F vb) := by
  have hp := pl_lt vb
  have hle : (pl vb + 1) * 2 ^ (n - vb.length) ≤ 2 ^ n := by
    rw [show n = vb.length + (n - vb.length) by omega, Nat.pow_add, show vb.length + (n - vb.length) - vb.length = n - vb.length by omega]
    exact Nat.mul_le_mul_right _ hp
  have h1 : (pl vb + 1) * 2 ^ (n - vb.length) = pl vb * 2 ^ (n - vb.length) + 2 ^ (n - vb.length) := by rw [Nat.add_mul, Nat.one_mul]
  apply List.ext_getElem
  · rw [List.length_drop, List.length_take, tab_length, tab_length, Nat.min_eq_left hle, h1, Nat.add_sub_cancel_left]
  · intro i h2 h3
    rw [List.getElem_drop, List.getElem_take, tab_get, tab_get]
    rfl
theorem cut_le {n : Nat} (vb : List Bool) (hk : vb.length ≤ n) : (pl vb + 1) * 2 ^ (n - vb.length) ≤ 2 ^ n := by
  rw [show n = vb.length + (n - vb.length) by omega, Nat.pow_add, show vb.length + (n - vb.length) - vb.length = n - vb.length by omega]
  exact Nat.mul_le_mul_right _ (pl_lt vb)
set_option maxRecDepth 100000 in
set_option maxHeartbeats 4000000 in
theorem iLeft (n : Nat) (F : Nat → Bool) (vb : List Bool) (m : Mc) (ra va ma : Option Addr) (rc vc mc : Nat) (w : World) (hn : n ≤ 12) (hN : m.N = (n : Int)) (hS : m.S = bs (tab n F)) (hv : m.vals = vb.map bi) (hk : vb.length ≤ n) (hI : Ints w va m.vals) :
    Calls Tryd.prog 87 #[mval m ra va ma rc vc mc] w fun e w' => e = .returned (tv ((n - vb.length : Nat) : Int) (bs (tab (n - vb.length) (lft n F vb)))) ∧ Below w.heap.size w w' := by
  have hlv : m.vals.length = vb.length := by rw [hv, List.length_map]
  have HPL : Hid (∀ W, Below w.heap.size w W → Calls Tryd.prog 69 #[.slice va m.vals.length vc] W fun e w' => e = .returned (.tuple #[.int .i64 ((pl vb : Nat) : Int), .bool true]) ∧ w' = W) := fun W hb => by
    refine (iPlaceOf va m.vals vc W (by omega) (hI.below hb)).mono ?_
    rintro e w' ⟨h, rfl⟩
    refine ⟨?_, rfl⟩
    rcases h with ⟨_, rfl⟩ | ⟨⟨i, hi, hb⟩, _⟩
    · rw [hlv, hv, plc_pl vb _ (Nat.le_refl _), List.take_length]
    · rw [hv] at hi hb
      rw [bits_ok vb i hi] at hb
      cases hb
  have HEX : Hid (m.S.extract (pl vb * 2 ^ (n - vb.length)) ((pl vb + 1) * 2 ^ (n - vb.length)) = bs (tab (n - vb.length) (lft n F vb))) := by
    show _ = _
    rw [hS, bs_ext, cut_tab F vb hk]
  have hp1 := pl_lt vb
  have hp2 := cut_le vb hk
  have hp3 := (p12 hn).2
  have hp4 : pl vb < 4096 := by
    have := Nat.pow_le_pow_right (n := 2) (by omega) hk
    omega
  have hsz : m.S.size = 2 ^ n := by rw [hS, bs_size, tab_length]
  have hmul : pl vb * 2 ^ (n - vb.length) ≤ (pl vb + 1) * 2 ^ (n - vb.length) := Nat.mul_le_mul_right _ (by omega)
  have hw1 : IntKind.i64.wrap ((pl vb : Int) * 2 ^ (n - vb.length)) = ((pl vb * 2 ^ (n - vb.length) : Nat) : Int) := by
    rw [show (pl vb : Int) * 2 ^ (n - vb.length) = ((pl vb * 2 ^ (n - vb.length) : Nat) : Int) by push_cast; rfl, IntKind.wrap_i64] <;> omega
  have hw2 : IntKind.i64.wrap (((pl vb : Int) + 1) * 2 ^ (n - vb.length)) = (((pl vb + 1) * 2 ^ (n - vb.length) : Nat) : Int) := by
    rw [show ((pl vb : Int) + 1) * 2 ^ (n - vb.length) = (((pl vb + 1) * 2 ^ (n - vb.length) : Nat) : Int) by push_cast; rfl, IntKind.wrap_i64] <;> omega
  have hsub : m.N - (m.vals.length : Int) = ((n - vb.length : Nat) : Int) := by rw [hN, hlv]; omega
  have HSUB : Hid (m.N - (m.vals.length : Int) = ((n - vb.length : Nat) : Int)) := hsub
  have hN0 : 0 ≤ m.N := by omega
  have hN1 : m.N ≤ 12 := by omega
  have hv1 : m.vals.length ≤ 12 := by omega
  have he12 : n - vb.length ≤ 12 := by omega
  have hA2 : pl vb * 2 ^ (n - vb.length) ≤ m.S.size := by omega
  have hB2 : (pl vb + 1) * 2 ^ (n - vb.length) ≤ m.S.size := by omega
  have hsz2 : m.S.size ≤ 4096 := by omega
  clear hsz hp1 hp2 hp3 hI hv hS hN hlv
  generalize n - vb.length = e at *
  generalize bs (tab e (lft n F vb)) = T at *
  generalize pl vb = y at *
  generalize hA : y * 2 ^ e = A at *
  generalize hB : (y + 1) * 2 ^ e = B at *
  clear hA hB
  obtain ⟨W0, hW0⟩ : ∃ W0, W0 = ((w.alloc (.cells #[.slice ra m.row.length rc, .int .i64 m.N, .string m.S, .int .i64 m.room, .slice va m.vals.length vc, .int .i64 m.ret, .bool m.over, .int .i64 m.steps, .int .i64 m.looks, .int .i64 m.hits, .slice ma m.memo.length mc] 34)).alloc (.cells #[.int .i64 0, .string ⟨#[]⟩] 26)) := ⟨_, rfl⟩
  have HE0 : Hid (((w.alloc (.cells #[.slice ra m.row.length rc, .int .i64 m.N, .string m.S, .int .i64 m.room, .slice va m.vals.length vc, .int .i64 m.ret, .bool m.over, .int .i64 m.steps, .int .i64 m.looks, .int .i64 m.hits, .slice ma m.memo.length mc] 34)).alloc (.cells #[.int .i64 0, .string ⟨#[]⟩] 26)) = W0) := hW0.symm
  have HB0 : Hid (Below w.heap.size w W0) := by rw [hW0]; exact ((Below.refl _ _).alloc (Nat.le_refl _) _).alloc (by simp) _
  have HA0 : Hid (Mb W0 w.heap.size m ra va ma rc vc mc) := by rw [hW0]; exact (Mb.made _ _ _ _ _ _ _ _ _).alloc _
  have HL0 : Hid (Lay W0 (w.heap.size + 1) (.int .i64 0) (.string ⟨#[]⟩)) := by
    rw [hW0]
    have h1 := Lay.made (w.alloc (.cells #[.slice ra m.row.length rc, .int .i64 m.N, .string m.S, .int .i64 m.room, .slice va m.vals.length vc, .int .i64 m.ret, .bool m.over, .int .i64 m.steps, .int .i64 m.looks, .int .i64 m.hits, .slice ma m.memo.length mc] 34)) (.int .i64 0) (.string ⟨#[]⟩) 26
    have h2 : (w.alloc (.cells #[.slice ra m.row.length rc, .int .i64 m.N, .string m.S, .int .i64 m.room, .slice va m.vals.length vc, .int .i64 m.ret, .bool m.over, .int .i64 m.steps, .int .i64 m.looks, .int .i64 m.hits, .slice ma m.memo.length mc] 34)).heap.size = w.heap.size + 1 := by simp
    rw [h2] at h1
    exact h1
  clear hW0
  go_enter Tryd.func87, Tryd.ntmps87
  go_upto_region 1 with fail
  rw [HE0.out]
  clear HE0
  obtain ⟨m0, m1, m2, m3, m4, m5, m6, m7, m8, m9, m10⟩ := HA0.out
  obtain ⟨y0, y1, z0, z1⟩ := HL0.out
  go_wp2_with fail
  refine (HPL.out _ HB0.out).mono ?_
  rintro _ w2 ⟨rfl, hw⟩
  have hw' := hw.symm
  clear hw
  subst hw'
  go_wp2_with fail
  go_region
  rw [HEX.out]
  obtain ⟨W2, hW2, hL2, hB2'⟩ := finT HL0.out HB0.out (Nat.le_succ _) (.int .i64 (e : Int)) (.string T)
  rw [← hW2]
  have u0 := hL2.c0
  have u1 := hL2.c1
  clear m0 m1 m2 m3 m4 m5 m6 m7 m8 m9 m10 y0 y1 z0 z1 hW2
  go_wp2
  exact bodyPost_ret (v := tv (e : Int) T) (by simp [results, Tryd.results87, go_sem, u0, u1]) rfl ⟨rfl, hB2'.drew⟩

/-- A row of bits as flags. -/
theorem bits_of (l : List Int) (h : ∀ x ∈ l, 0 ≤ x ∧ x ≤ 1) : ∃ vb : List Bool, l = vb.map bi := by
  refine ⟨l.map (fun x => decide (x = 1)), ?_⟩
  rw [List.map_map]
  conv => lhs; rw [← List.map_id l]
  apply List.map_congr_left
  intro x hx
  have := h x hx
  have hx2 : x = 0 ∨ x = 1 := by omega
  rcases hx2 with rfl | rfl <;> rfl
end Go.Proofs.YtldeakifeifgdaaDoor.Mi5
