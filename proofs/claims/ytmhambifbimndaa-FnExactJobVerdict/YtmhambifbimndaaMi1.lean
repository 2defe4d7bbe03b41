/- The program's machine: what it says of keys; of a memo, of values, of a verdict, of its counts. -/
import Derived.Test.YtmhambifbimndaaMx0
import Derived.Test.YtmhambifbimndaaMm2
import Derived.Test.YtmhambifbimndaaPkJ35
import Derived.Test.YtmhambifbimndaaTe3
namespace Go.Proofs.Ytmhambifbimndaa.Mi1
open Go.RowKit
open Ta0 Ta1 Ta2 Tc2 Mm0 Mm2 Mx0 Ms0
open Nd0 (Kept Ints set_other set_same lt_of_cell)
open Qc0 (Sn Sns SnAt)
set_option linter.unusedVariables false

/-- What the first j of a memo say. -/
def says (l : List Sn) : Nat → ByteArray → Option Int
  | 0 => fun _ => none
  | j + 1 => putF (says l j) (l.getD j Sn.zero).k (l.getD j Sn.zero).r
/-- How many keys they have. -/
def cnt (l : List Sn) : Nat → Nat
  | 0 => 0
  | j + 1 => if (says l j (l.getD j Sn.zero).k).isSome then cnt l j else cnt l j + 1
theorem cnt_le (l : List Sn) (j : Nat) : cnt l j ≤ j := by
  induction j with
  | zero => exact Nat.le_refl _
  | succ j ih => unfold cnt; split <;> omega
theorem says_some {l : List Sn} {x : ByteArray} {j : Nat} : (says l j x).isSome = true ↔ ∃ i, i < j ∧ (l.getD i Sn.zero).k = x := by
  induction j with
  | zero => simp [says]
  | succ j ih =>
    unfold says putF
    by_cases e : x = (l.getD j Sn.zero).k
    · rw [if_pos e]
      exact ⟨fun _ => ⟨j, by omega, e.symm⟩, fun _ => rfl⟩
    · rw [if_neg e, ih]
      constructor
      · rintro ⟨i, hi, h⟩
        exact ⟨i, by omega, h⟩
      · rintro ⟨i, hi, h⟩
        by_cases e2 : i = j
        · subst e2; exact absurd h.symm e
        · exact ⟨i, by omega, h⟩
/-- All keys are counted just when no two are alike. -/
theorem cnt_all {l : List Sn} {j : Nat} : cnt l j = j ↔ ∀ t s, t < j → s < t → (l.getD s Sn.zero).k ≠ (l.getD t Sn.zero).k := by
  induction j with
  | zero => exact ⟨fun _ t s h => by omega, fun _ => rfl⟩
  | succ j ih =>
    have hle := cnt_le l j
    unfold cnt
    constructor
    · intro h t s ht hs
      by_cases hi : (says l j (l.getD j Sn.zero).k).isSome = true
      · rw [if_pos hi] at h; omega
      · rw [if_neg hi] at h
        by_cases e : t = j
        · subst e
          intro hk
          exact hi (says_some.2 ⟨s, hs, hk⟩)
        · exact ih.1 (by omega) t s (by omega) hs
    · intro h
      have hi : ¬ (says l j (l.getD j Sn.zero).k).isSome = true := fun hi => by
        obtain ⟨i, hi1, hi2⟩ := says_some.1 hi
        exact h j i (by omega) hi1 hi2
      rw [if_neg hi, ih.2 fun t s ht hs => h t s (by omega) hs]
theorem cnt_apart (l : List Sn) : cnt l l.length = l.length ↔ apart l := by
  rw [cnt_all]
  constructor
  · intro h i j hi hj hji
    have := h i j hi hji
    simpa [List.getD, hi, hj] using this
  · intro h t s ht hs
    have := h t s ht (by omega) hs
    have h2 : s < l.length := by omega
    simpa [List.getD, ht, h2] using this

set_option maxRecDepth 100000 in
set_option maxHeartbeats 2000000 in
theorem iSays (w : World) (a : Option Addr) (l : List Sn) (c : Nat) (hl : l.length ≤ 1048576) (h : Sns w a l) (hk : ∀ x ∈ l, x.k.size ≤ maxLen) (hr : ∀ x ∈ l, 0 ≤ x.r ∧ x.r ≤ 1) :
    Calls Try.prog 45 #[.slice a l.length c] w fun e w' => e = .returned (.map (some w.heap.size)) ∧ Ms w' w.heap.size (cnt l l.length) (says l l.length) ∧ Below w.heap.size w w' := by
  have H : Hid (Sns w a l) := h
  have HK : Hid (∀ x ∈ l, x.k.size ≤ maxLen) := hk
  have HRR : Hid (∀ x ∈ l, 0 ≤ x.r ∧ x.r ≤ 1) := hr
  clear h hk hr
  have hmm := @run_makeMap Try.prog
  go_enter Try.func45, Try.ntmps45
  go_wp2
  clear hmm
  go_loopw [9] (fun i wr => ∃ j : Nat, j ≤ l.length ∧ i = .int .i64 j ∧ Ms wr w.heap.size (cnt l j) (says l j) ∧ Below w.heap.size w wr) (fun i _ => l.length - (intOf i).toNat)
  case atStart => exact ⟨0, Nat.zero_le _, rfl, Ms.new w, (Below.refl _ _).alloc (Nat.le_refl _) _⟩
  case round =>
    obtain ⟨j, hj, rfl, hms, hb⟩ := hrel
    have HMS : Hid (Ms wr w.heap.size (cnt l j) (says l j)) := hms
    have HB : Hid (Below w.heap.size w wr) := hb
    clear hms hb
    by_cases hlt : j < l.length
    · have hjz : (j : Int) < (l.length : Int) := by omega
      have hN := H.out.below HB.out
      rcases hN.2 with h0 | ⟨xb, xo, rfl, hc⟩
      · omega
      obtain ⟨p0, p1⟩ := hc j hlt
      clear hc hN
      have hgd : l.getD j Sn.zero = l[j] := by simp [List.getD, hlt]
      have HXK : Hid (l[j].k.size ≤ maxLen) := HK.out _ (List.getElem_mem hlt)
      have HXR : Hid (0 ≤ l[j].r ∧ l[j].r ≤ 1) := HRR.out _ (List.getElem_mem hlt)
      have HSY : Hid (says l (j + 1) = putF (says l j) l[j].k l[j].r) := by show _ = _; rw [← hgd]; rfl
      have HCT : Hid (cnt l (j + 1) = if (says l j l[j].k).isSome then cnt l j else cnt l j + 1) := by show _ = _; rw [← hgd]; rfl
      clear hgd
      generalize l[j] = x at *
      have HMA : Hid (Ms (wr.alloc (.cells #[.string x.k, .int .i64 x.r] 56)) w.heap.size (cnt l j) (says l j)) := HMS.out.below ((Below.refl _ _).alloc (Nat.le_refl _) _)
      have hcl := cnt_le l j
      obtain ⟨w2, hst, hm2, hk2⟩ := HMA.out.store HXK.out (Ms0.wf_bit (by have := HXR.out.1; omega) HXR.out.2) (v := x.r) (by omega)
      have HM2 : Hid (Ms w2 w.heap.size (cnt l (j + 1)) (says l (j + 1))) := by rw [HSY.out, HCT.out]; exact hm2
      have HB2 : Hid (Below w.heap.size w w2) := HB.out.trans (((Below.refl _ _).alloc HB.out.size _).trans (hk2.below (fun b hb => by omega) (by have := HB.out.size; simp; omega)))
      clear hm2 hk2 hcl
      go_wp2
      go_roundw
      case rel => exact ⟨j + 1, by omega, by go_num, HM2.out, HB2.out⟩
      case measure => simp [intOf]; omega
    · have hjz : ¬ (j : Int) < (l.length : Int) := by omega
      have HJ : Hid (j = l.length) := by show _ = _; omega
      go_wp2
      go_ret
      exact ⟨rfl, by rw [← HJ.out]; exact HMS.out, HB.out⟩

end Go.Proofs.Ytmhambifbimndaa.Mi1
