/- The program's machine: of a memo, of values, of a verdict, of its counts. -/
import Derived.Test.YtmhambifbimndaaMi1
namespace Go.Proofs.Ytmhambifbimndaa.Mi2
open Go.RowKit
open Ta0 Ta1 Ta2 Tc2 Te1 Mm0 Mm2 Mx0 Ms0 Mi1
open Nd0 (Kept Ints set_other set_same lt_of_cell)
open Qc0 (Sn Sns SnAt)
set_option linter.unusedVariables false

open Classical in
noncomputable def memB (l : List Sn) (room : Int) : Bool := decide ((0 ≤ room ∧ room ≤ 40) ∧ (l.length : Int) ≤ room ∧ (∀ x ∈ l, 0 ≤ x.r ∧ x.r ≤ 1) ∧ apart l)
theorem memB_iff {l : List Sn} {room : Int} : memB l room = true ↔ (0 ≤ room ∧ room ≤ 40) ∧ (l.length : Int) ≤ room ∧ (∀ x ∈ l, 0 ≤ x.r ∧ x.r ≤ 1) ∧ apart l := by unfold memB; simp
theorem memB_no {l : List Sn} {room : Int} (h : ¬ ((0 ≤ room ∧ room ≤ 40) ∧ (l.length : Int) ≤ room ∧ (∀ x ∈ l, 0 ≤ x.r ∧ x.r ≤ 1) ∧ apart l)) : memB l room = false := Bool.eq_false_iff.2 fun e => h (memB_iff.1 e)
theorem memB_yes {l : List Sn} {room : Int} (h : ((0 ≤ room ∧ room ≤ 40) ∧ (l.length : Int) ≤ room ∧ (∀ x ∈ l, 0 ≤ x.r ∧ x.r ≤ 1) ∧ apart l)) : memB l room = true := memB_iff.2 h

set_option maxRecDepth 100000 in
set_option maxHeartbeats 4000000 in
theorem iMemo (w : World) (a : Option Addr) (l : List Sn) (c : Nat) (room : Int) (h : Sns w a l) (hk : ∀ x ∈ l, x.k.size ≤ maxLen) :
    Calls Try.prog 33 #[.slice a l.length c, .int .i64 room] w fun e w' => e = .returned (.bool (memB l room)) ∧ Below w.heap.size w w' := by
  have H : Hid (Sns w a l) := h
  have HK : Hid (∀ x ∈ l, x.k.size ≤ maxLen) := hk
  have hm := h.1
  unfold maxLen at hm
  clear h hk
  by_cases h1 : room < 0
  · have h1b : decide (room < 0) = true := decide_eq_true h1
    have HF : Hid (memB l room = false) := memB_no fun k => by omega
    go_enter Try.func33, Try.ntmps33
    go_wp2
    go_ret
    exact ⟨ret_bool HF.out.symm, Below.refl _ _⟩
  have h1b : decide (room < 0) = false := decide_eq_false h1
  by_cases h2 : 40 < room
  · have h2b : decide (40 < room) = true := decide_eq_true h2
    have HF : Hid (memB l room = false) := memB_no fun k => by omega
    go_enter Try.func33, Try.ntmps33
    go_wp2
    go_ret
    exact ⟨ret_bool HF.out.symm, Below.refl _ _⟩
  have h2b : decide (40 < room) = false := decide_eq_false h2
  by_cases h3 : room < (l.length : Int)
  · have h3b : decide (room < (l.length : Int)) = true := decide_eq_true h3
    have HF : Hid (memB l room = false) := memB_no fun k => by omega
    go_enter Try.func33, Try.ntmps33
    go_wp2
    go_ret
    exact ⟨ret_bool HF.out.symm, Below.refl _ _⟩
  have h3b : decide (room < (l.length : Int)) = false := decide_eq_false h3
  go_enter Try.func33, Try.ntmps33
  go_wp2
  go_loopw [21] (fun i wr => ∃ j : Nat, j ≤ l.length ∧ i = .int .i64 j ∧ (∀ t (ht : t < l.length), t < j → 0 ≤ l[t].r ∧ l[t].r ≤ 1) ∧ Below w.heap.size w wr) (fun i _ => l.length - (intOf i).toNat)
  case atStart => exact ⟨0, Nat.zero_le _, rfl, fun t _ h => by omega, Below.refl _ _⟩
  case round =>
    obtain ⟨j, hj, rfl, hbt, hb⟩ := hrel
    have HBT : Hid (∀ t (ht : t < l.length), t < j → 0 ≤ l[t].r ∧ l[t].r ≤ 1) := hbt
    have HB : Hid (Below w.heap.size w wr) := hb
    clear hbt hb
    by_cases hlt : j < l.length
    · have hjz : (j : Int) < (l.length : Int) := by omega
      have hN := H.out.below HB.out
      rcases hN.2 with h0 | ⟨xb, xo, rfl, hc⟩
      · omega
      obtain ⟨p0, p1⟩ := hc j hlt
      clear hc hN
      have HNO : Hid (¬ (0 ≤ l[j].r ∧ l[j].r ≤ 1) → memB l room = false) := fun h => memB_no fun k => h (k.2.2.1 _ (List.getElem_mem hlt))
      have HYE : Hid (0 ≤ l[j].r ∧ l[j].r ≤ 1 → ∀ t (ht : t < l.length), t < j + 1 → 0 ≤ l[t].r ∧ l[t].r ≤ 1) := fun h t ht h2 => by
        by_cases e : t = j
        · subst e; exact h
        · exact HBT.out t ht (by omega)
      generalize l[j] = x at *
      have HIB : Hid (∀ W : World, Calls Try.prog 44 #[.int .i64 x.r] W fun e w' => e = .returned (.bool (bitB x.r)) ∧ w' = W) := fun W => iBitOk x.r W
      have HBA : Hid (Below w.heap.size w (wr.alloc (.cells #[.string x.k, .int .i64 x.r] 56))) := HB.out.alloc HB.out.size _
      cases hB : bitB x.r
      · have HF : Hid (memB l room = false) := HNO.out fun h => by
          have := of_decide_eq_false hB
          omega
        rw [hB] at HIB
        clear hB
        go_wp2_with (go_at_call 44; refine (HIB.out _).mono ?_; rintro e w9 ⟨rfl, hw9⟩; (have hw8 := hw9.symm); clear hw9; subst hw8)
        go_ret
        exact ⟨ret_bool HF.out.symm, HBA.out⟩
      · have HT := HYE.out (by have := of_decide_eq_true hB; omega)
        have HT2 : Hid (∀ t (ht : t < l.length), t < j + 1 → 0 ≤ l[t].r ∧ l[t].r ≤ 1) := HT
        rw [hB] at HIB
        clear hB HT
        go_wp2_with (go_at_call 44; refine (HIB.out _).mono ?_; rintro e w9 ⟨rfl, hw9⟩; (have hw8 := hw9.symm); clear hw9; subst hw8)
        go_roundw
        case rel => exact ⟨j + 1, by omega, by go_num, HT2.out, HBA.out⟩
        case measure => simp [intOf]; omega
    · have hjz : ¬ (j : Int) < (l.length : Int) := by omega
      have HBI : Hid (∀ x ∈ l, 0 ≤ x.r ∧ x.r ≤ 1) := fun x hx => by
        obtain ⟨t, ht, rfl⟩ := List.getElem_of_mem hx
        exact HBT.out t ht (by omega)
      clear HBT
      go_wp2_with fail
      refine (iSays _ a l c (by omega) (H.out.below HB.out) HK.out HBI.out).mono ?_
      rintro e w2 ⟨rfl, hms, hb2⟩
      have HB2 : Hid (Below w.heap.size w w2) := HB.out.trans (hb2.mono HB.out.size)
      have hlen := fun ty => hms.len ty
      clear hms hb2
      have hcl := cnt_le l l.length
      by_cases hap : cnt l l.length = l.length
      · have HT : Hid (memB l room = true) := memB_yes ⟨⟨by omega, by omega⟩, by omega, HBI.out, (cnt_apart l).1 hap⟩
        have hq : ((cnt l l.length : Int) == (l.length : Int)) = true := by rw [hap]; simp
        clear hap
        generalize cnt l l.length = cc at *
        go_wp2
        go_ret
        exact ⟨ret_bool HT.out.symm, HB2.out⟩
      · have HT : Hid (memB l room = false) := memB_no fun k => hap ((cnt_apart l).2 k.2.2.2)
        have hq : ((cnt l l.length : Int) == (l.length : Int)) = false := beq_eq_false_iff_ne.2 (by omega)
        clear hap
        generalize cnt l l.length = cc at *
        go_wp2
        go_ret
        exact ⟨ret_bool HT.out.symm, HB2.out⟩

/-- Whether all are bits. -/
def allB (l : List Int) : Bool := l.all bitB
theorem allB_no {l : List Int} {k : Nat} (h : k < l.length) (hb : bitB l[k] = false) : allB l = false := by
  unfold allB
  rw [List.all_eq_false]
  exact ⟨_, List.getElem_mem h, by rw [hb]; simp⟩
set_option maxHeartbeats 2000000 in
theorem iPlaceAny (a : Option Addr) (l : List Int) (c : Nat) (w : World) (hI : Ints w a l) :
    Calls Try.prog 46 #[.slice a l.length c] w fun e w' => (∃ p : Int, e = .returned (.tuple #[.int .i64 p, .bool (allB l)])) ∧ w' = w := by
  have HI1 : Hid (Ints w a l) := hI
  have hm := hI.1
  unfold maxLen at hm
  clear hI
  go_enter Try.func46, Try.ntmps46
  go_wp2
  go_loop [4, 9] (fun p i => ∃ (k : Nat) (y : Int), k ≤ l.length ∧ i = .int .i64 k ∧ p = .int .i64 y ∧ ∀ j (hj : j < l.length), j < k → bitB l[j] = true) (fun _ i => l.length - (intOf i).toNat)
  case atStart => exact ⟨0, 0, Nat.zero_le _, rfl, rfl, fun j _ hj => by omega⟩
  case round =>
    obtain ⟨k, y, hk, rfl, rfl, hbt⟩ := hrel
    have HBT : Hid (∀ j (hj : j < l.length), j < k → bitB l[j] = true) := hbt
    clear hbt
    by_cases hlt : k < l.length
    · have hkz : (k : Int) < (l.length : Int) := by omega
      rcases HI1.out.2 with h0 | ⟨xb, xo, rfl, hc⟩
      · omega
      have p0 := hc k hlt
      clear hc
      have HN : Hid (bitB l[k] = false → allB l = false) := allB_no hlt
      have HY : Hid (bitB l[k] = true → ∀ j (hj : j < l.length), j < k + 1 → bitB l[j] = true) := fun h j hj h2 => by
        by_cases e : j = k
        · subst e; exact h
        · exact HBT.out j hj (by omega)
      generalize l[k] = x at *
      have HIC : Hid (∀ W, Calls Try.prog 44 #[.int .i64 x] W fun e w' => e = .returned (.bool (bitB x)) ∧ w' = W) := fun W => iBitOk x W
      cases hB : bitB x
      · have HBd : Hid (allB l = false) := HN.out hB
        rw [hB] at HIC
        clear hB
        go_wp2_with (go_at_call 44; refine (HIC.out _).mono ?_; rintro e w' ⟨rfl, rfl⟩)
        go_ret2
        exact ⟨⟨0, by rw [HBd.out]; rfl⟩, rfl⟩
      · have HT := HY.out hB
        have HT2 : Hid (∀ j (hj : j < l.length), j < k + 1 → bitB l[j] = true) := HT
        rw [hB] at HIC
        clear hB HT
        go_wp2_with (go_at_call 44; refine (HIC.out _).mono ?_; rintro e w' ⟨rfl, rfl⟩)
        go_round
        case rel => exact ⟨k + 1, _, by omega, by go_num, rfl, HT2.out⟩
        case measure => simp [intOf]; omega
    · have HT : Hid (allB l = true) := by
        show _ = _
        unfold allB
        rw [List.all_eq_true]
        intro x hx
        obtain ⟨t, ht, rfl⟩ := List.getElem_of_mem hx
        exact HBT.out t ht (by omega)
      go_wp2
      go_ret2
      exact ⟨⟨y, by rw [HT.out]; rfl⟩, rfl⟩

/-- At most n bits. -/
def valB (l : List Int) (n : Int) : Bool := allB l && decide ((l.length : Int) ≤ n)
set_option maxHeartbeats 2000000 in
theorem iVals (a : Option Addr) (l : List Int) (c : Nat) (n : Int) (w : World) (hI : Ints w a l) :
    Calls Try.prog 34 #[.slice a l.length c, .int .i64 n] w fun e w' => e = .returned (.bool (valB l n)) ∧ w' = w := by
  have HI1 : Hid (Ints w a l) := hI
  clear hI
  cases hA : allB l
  · have HF : Hid (valB l n = false) := by show _ = _; unfold valB; rw [hA]; rfl
    go_enter Try.func34, Try.ntmps34
    go_wp2_with fail
    refine (iPlaceAny a l c _ HI1.out).mono ?_
    rw [hA]
    rintro e w2 ⟨⟨p, rfl⟩, rfl⟩
    clear hA
    go_wp2
    go_ret
    exact ⟨ret_bool HF.out.symm, rfl⟩
  · by_cases hn : (l.length : Int) ≤ n
    · have HF : Hid (valB l n = true) := by show _ = _; unfold valB; rw [hA, decide_eq_true hn]; rfl
      have hnb : decide ((l.length : Int) ≤ n) = true := decide_eq_true hn
      go_enter Try.func34, Try.ntmps34
      go_wp2_with fail
      refine (iPlaceAny a l c _ HI1.out).mono ?_
      rw [hA]
      rintro e w2 ⟨⟨p, rfl⟩, rfl⟩
      clear hA
      go_wp2
      go_ret
      exact ⟨ret_bool HF.out.symm, rfl⟩
    · have HF : Hid (valB l n = false) := by show _ = _; unfold valB; rw [decide_eq_false hn]; simp
      have hnb : decide ((l.length : Int) ≤ n) = false := decide_eq_false hn
      go_enter Try.func34, Try.ntmps34
      go_wp2_with fail
      refine (iPlaceAny a l c _ HI1.out).mono ?_
      rw [hA]
      rintro e w2 ⟨⟨p, rfl⟩, rfl⟩
      clear hA
      go_wp2
      go_ret
      exact ⟨ret_bool HF.out.symm, rfl⟩

end Go.Proofs.Ytmhambifbimndaa.Mi2
