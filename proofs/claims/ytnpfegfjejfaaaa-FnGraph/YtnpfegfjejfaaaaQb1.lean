/- Walks of the exact laws' helpers on Ands. Written by tools/mkflat.py. -/
import Derived.Test.YtnpfegfjejfaaaaRows
import Derived.Deep.RegionWith
import Derived.Laws.MakeOwn
import Derived.Test.YtnpfegfjejfaaaaNd1
import Derived.Test.YtnpfegfjejfaaaaQb0
namespace Go.Proofs.Ytnpfegfjejfaaaa.Qb1
open Go.RowKit
open Nd0 Nd1 Qb0
set_option linter.unusedVariables false

set_option maxHeartbeats 1000000 in
theorem toAnd (a : Int) (b : Int) (w : World) :
    Calls Try.prog 97 #[.agg #[.int .i64 a, .int .i64 b]] w fun e w' => e = .returned (.agg #[.int .i64 a, .int .i64 b]) ∧ Below w.heap.size w w' := by
  go_enter Try.func97, Try.ntmps97
  go_wp2
  refine bodyPost_ret (v := .agg #[.int .i64 a, .int .i64 b]) (by simp [results, Try.results97, go_sem]) rfl ⟨rfl, ?_⟩
  exact (((Below.refl _ _).alloc (Nat.le_refl _) _).alloc (by simp) _).alloc (by simp; omega) _

set_option maxHeartbeats 1000000 in
theorem eqAnd (a : Int) (b : Int) (w : World) :
    Calls Try.prog 98 #[.agg #[.int .i64 a, .int .i64 b], .agg #[.int .i64 a, .int .i64 b]] w fun e w' => e = .returned (.bool true) ∧ Below w.heap.size w w' := by
  have hb0 : (a != a) = false := by simp
  have hb1 : (b != b) = false := by simp
  go_enter Try.func98, Try.ntmps98
  go_wp2
  go_ret
  exact ⟨rfl, ((Below.refl _ _).alloc (Nat.le_refl _) _).alloc (by simp) _⟩

set_option maxHeartbeats 1000000 in
theorem eqAndS (w : World) (a a' : Option Addr) (l : List An) (c c' : Nat) (h : Ans w a l) (h' : Ans w a' l) :
    Calls Try.prog 70 #[.slice a l.length c, .slice a' l.length c'] w fun e w' => e = .returned (.bool true) ∧ Below w.heap.size w w' := by
  have H : Hid (Ans w a l) := h
  have H' : Hid (Ans w a' l) := h'
  have hm := h.1
  unfold maxLen at hm
  clear h h'
  go_enter Try.func70, Try.ntmps70
  go_wp2
  go_loopw [5] (fun i wr => ∃ k : Nat, k ≤ l.length ∧ i = .int .i64 k ∧ Below w.heap.size w wr) (fun i _ => l.length - (intOf i).toNat)
  case atStart => exact ⟨0, Nat.zero_le _, rfl, Below.refl _ _⟩
  case round =>
    obtain ⟨k, hk, rfl, hb⟩ := hrel
    have HB : Hid (Below w.heap.size w wr) := hb
    clear hb
    by_cases hlt : k < l.length
    · have hlz : (k : Int) < (l.length : Int) := by omega
      have HN := H.out.below HB.out
      have HN' := H'.out.below HB.out
      rcases HN.2 with h0 | ⟨xb, xo, rfl, hc⟩
      · omega
      rcases HN'.2 with h0 | ⟨yb, yo, rfl, hc'⟩
      · omega
      obtain ⟨p0, p1⟩ := hc k hlt
      obtain ⟨q0, q1⟩ := hc' k hlt
      clear hc hc' HN HN'
      generalize l[k] = x at p0 p1 q0 q1
      obtain ⟨x0, x1⟩ := x
      simp only at p0 p1 q0 q1
      go_wp2
      go_region_with (go_at_call 98; refine (eqAnd _ _ _).mono ?_; rintro e w' ⟨rfl, hbe⟩)
      all_goals
        have HB2 : Hid (Below w.heap.size w w') := HB.out.drew.trans (hbe.mono (by have := HB.out.size; simpa using this))
        clear hbe
        go_wp2
        go_roundw
        case rel => exact ⟨k + 1, by omega, by go_num, HB2.out⟩
        case measure => simp [intOf]; omega
    · go_wp2
      go_ret
      exact ⟨rfl, HB.out⟩

set_option maxHeartbeats 400000 in
theorem szAndS (w : World) (a : Option Addr) (n c : Nat) (left : Int) (h0 : 0 ≤ left) (h1 : left ≤ 1048576) (hn : n ≤ maxLen) :
    Calls Try.prog 68 #[.slice a n c, .int .i64 left] w fun e w' => e = .returned (.int .i64 (if (n : Int) ≤ left then left - n else -1)) ∧ w' = w := by
  unfold maxLen at hn
  by_cases hc : (n : Int) ≤ left
  · go_enter Try.func68, Try.ntmps68
    go_wp2
    go_ret
    exact ⟨rfl, rfl⟩
  · go_enter Try.func68, Try.ntmps68
    go_wp2
    go_ret
    exact ⟨rfl, rfl⟩

theorem infoAn : (Try.prog.info? 89).map (fun i => (i.zero, i.size, i.bytes)) = some (some (.agg #[.int .i64 0, .int .i64 0]), 2, 16) := by kernel_rfl
def zerosAn (n : Nat) : Array Value := madeCells #[.int .i64 0, .int .i64 0] (n * 2)
theorem makeAnds (n : Nat) (hn : n ≤ 1048576) (w : World) :
    (Instr.makeSlice 27 (.int .i64 (n : Int)) (.int .i64 (n : Int))).run Try.prog w = .ok (.slice (some ⟨w.heap.size, 0, none⟩) n n) (w.alloc (.cells (zerosAn n) 89)) := by
  obtain ⟨i, hi, hzz⟩ := Option.map_eq_some_iff.1 infoAn
  simp only [Prod.mk.injEq] at hzz
  obtain ⟨hz, hs, hb⟩ := hzz
  have h := run_make (P := Try.prog) w 27 89 i _ Try.underlying27 hi hz .i64 .i64 n n (by omega) (Int.le_refl _) (by rw [hb]; omega) (by omega)
  rw [hs] at h
  simpa [zerosAn, Value.cells] using h
theorem zerosAn_get (n i j : Nat) (h : i < n) (hj : j < 2) : (zerosAn n)[i * 2 + j]? = some (#[.int .i64 0, .int .i64 0] : Array Value)[j]! := by
  simp only [zerosAn, madeCells, Array.getElem?_map, Array.getElem?_range]
  rw [if_pos (by omega)]
  simp only [Option.map_some]
  have e : (i * 2 + j) % 2 = j := by omega
  exact congrArg (fun m => some ((#[.int .i64 0, .int .i64 0] : Array Value)[m]!)) e
theorem zerosAn_at (w : World) (n : Nat) (T : Nat) (j : Nat) (hj : j < n) : AnAt (w.alloc (.cells (zerosAn n) T)) w.heap.size (j * 2) An.zero := by
  refine ⟨by rw [World.cell?_alloc_new]; exact zerosAn_get n j 0 hj (by omega), by rw [World.cell?_alloc_new]; exact zerosAn_get n j 1 hj (by omega)⟩

set_option maxHeartbeats 2000000 in
theorem toAndS (w : World) (a : Option Addr) (l : List An) (c : Nat) (h : Ans w a l) (hl : l.length ≤ 1048576) :
    Calls Try.prog 69 #[.slice a l.length c] w fun e w' => e = .returned (.slice (some ⟨w.heap.size, 0, none⟩) l.length l.length) ∧ WAns w' w.heap.size (some ⟨w.heap.size, 0, none⟩) l ∧ Below w.heap.size w w' := by
  have H : Hid (Ans w a l) := h
  clear h
  have hmk := makeAnds l.length hl
  go_enter Try.func69, Try.ntmps69
  go_wp2
  clear hmk
  go_loopw [4] (fun i wr => ∃ k : Nat, k ≤ l.length ∧ i = .int .i64 k ∧ Below w.heap.size w wr ∧ w.heap.size < wr.heap.size ∧ (∀ j, j < l.length * 2 → wr.frozen? ⟨w.heap.size, j, none⟩ = false) ∧ ∀ j (hj : j < l.length), ∃ v : An, AnAt wr w.heap.size (j * 2) v ∧ (j < k → v = l[j])) (fun i _ => l.length - (intOf i).toNat)
  case atStart =>
    exact ⟨0, Nat.zero_le _, rfl, (Below.refl _ _).alloc (Nat.le_refl _) _, by simp, fun j hj => by simp, fun j hj => ⟨_, zerosAn_at w _ _ j hj, fun x => by omega⟩⟩
  case round =>
    obtain ⟨k, hk, rfl, hb, hz, hf, hx⟩ := hrel
    have HB : Hid (Below w.heap.size w wr) := hb
    by_cases hlt : k < l.length
    · have HN := H.out.below hb
      clear hb
      rcases HN.2 with h0 | ⟨xb, xo, rfl, hc⟩
      · omega
      obtain ⟨p0, p1⟩ := hc k hlt
      clear hc HN
      have HX : Hid (∀ j (hj : j < l.length), ∃ v : An, AnAt wr w.heap.size (j * 2) v ∧ (j < k → v = l[j])) := hx
      have HF : Hid (∀ j, j < l.length * 2 → wr.frozen? ⟨w.heap.size, j, none⟩ = false) := hf
      clear hx hf
      have hlz : (k : Int) < (l.length : Int) := by omega
      obtain ⟨nd, hnd⟩ : ∃ nd : An, nd = l[k] := ⟨_, rfl⟩
      have HD : Hid (nd = l[k]) := hnd
      rw [← hnd] at p0 p1
      clear hnd
      go_wp2_with fail
      refine (toAnd _ _ _).mono ?_
      rintro e w1 ⟨rfl, hb1⟩
      have HB1 : Hid (Below wr.heap.size wr w1) := hb1
      obtain ⟨v, ⟨q0, q1⟩, _⟩ := HX.out k hlt
      have g0 : w1.frozen? ⟨w.heap.size, k * 2, none⟩ = false := by rw [hb1.frozen hz]; exact HF.out (k * 2) (by omega)
      have g1 : w1.frozen? ⟨w.heap.size, k * 2 + 1, none⟩ = false := by rw [hb1.frozen hz]; exact HF.out (k * 2 + 1) (by omega)
      rw [← hb1.cell hz] at q0 q1
      clear hb1 p0 p1
      go_wp2
      go_roundw
      case rel =>
        have F1 : Below w.heap.size w (setAn w1 w.heap.size (k * 2) nd) :=
          HB.out.trans ((setAn_kept (b := w.heap.size) (o := 0) (p := k * 2) (n := nd) (Kept.ofBelow HB1.out)).below (fun i hi => by obtain ⟨x, hx, rfl⟩ := hi; cases hx; exact Nat.le_refl _) HB.out.size)
        have F2 : w.heap.size < (setAn w1 w.heap.size (k * 2) nd).heap.size := by
          have := HB1.out.size
          rw [setAn_size]; omega
        have F3 : ∀ j, j < l.length * 2 → (setAn w1 w.heap.size (k * 2) nd).frozen? ⟨w.heap.size, j, none⟩ = false := by
          intro j hj
          rw [setAn_frozen, HB1.out.frozen hz]; exact HF.out j hj
        have F4 : ∀ j (hj : j < l.length), ∃ v : An, AnAt (setAn w1 w.heap.size (k * 2) nd) w.heap.size (j * 2) v ∧ (j < k + 1 → v = l[j]) := by
          intro j hj
          obtain ⟨u, r0, r1⟩ := HX.out j hj
          have r2 : AnAt w1 w.heap.size (j * 2) u := r0.below HB1.out hz
          by_cases e : j = k
          · subst e
            exact ⟨nd, setAn_same r2, fun _ => HD.out⟩
          · exact ⟨u, setAn_other r2 (by omega), fun x => r1 (by omega)⟩
        exact ⟨k + 1, by omega, by go_num, F1, F2, F3, F4⟩
      case measure => simp [intOf]; omega
    · go_wp2
      go_ret
      refine ⟨rfl, ⟨H.out.1, ?_⟩, HB.out⟩
      refine .inr ⟨w.heap.size, 0, rfl, Nat.le_refl _, fun i hi => ?_, fun j hj => by rw [Nat.zero_add]; exact hf j hj⟩
      obtain ⟨v, q0, q1⟩ := hx i hi
      rw [Nat.zero_add, ← q1 (by omega)]
      exact q0

set_option maxHeartbeats 2000000 in
theorem markAndS (w : World) (B : Nat) (a : Option Addr) (l : List An) (c : Nat) (h : WAns w B a l) (k0 : Int) (h0 : 0 ≤ k0) (h1 : k0 ≤ 10000000) (hl : l.length ≤ 1048576) :
    Calls Try.prog 76 #[.slice a l.length c, .int .i64 k0] w fun e w' => e = .returned (.int .i64 (k0 + 2 * l.length)) ∧ WAns w' B a (markAn l.length k0) ∧ Kept (Ats l.length a) w w' := by
  have H : Hid (WAns w B a l) := h
  clear h
  generalize hn : l.length = n at hl ⊢
  go_enter Try.func76, Try.ntmps76
  go_wp2
  go_loopw [1, 5] (fun q i wr => ∃ k : Nat, k ≤ n ∧ i = .int .i64 k ∧ q = .int .i64 (k0 + 2 * k) ∧ Kept (Ats n a) w wr ∧ (n = 0 ∨ ∃ b o, a = some ⟨b, o, none⟩ ∧ B ≤ b ∧ (∀ j, j < n * 2 → wr.frozen? ⟨b, o + j, none⟩ = false) ∧ ∀ j, j < n → ∃ v : An, AnAt wr b (o + j * 2) v ∧ (j < k → v = (mkAn (k0 + 2 * (j : Int)))))) (fun _ i _ => n - (intOf i).toNat)
  case atStart =>
    refine ⟨0, Nat.zero_le _, rfl, by simp, Kept.refl _ _, ?_⟩
    rcases H.out.2 with e | ⟨b, o, ha, hB, hc, hf⟩
    · exact .inl (by omega)
    · exact .inr ⟨b, o, ha, hB, fun j hj => hf j (by omega), fun j hj => ⟨l[j]'(by omega), hc j (by omega), fun x => by omega⟩⟩
  case round =>
    obtain ⟨k, hk, rfl, rfl, hb, hx⟩ := hrel
    by_cases hlt : k < n
    · have HK : Hid (Kept (Ats n a) w wr) := hb
      clear hb
      rcases hx with e | ⟨b, o, rfl, hB, hf, hc⟩
      · omega
      have HC : Hid (∀ j, j < n → ∃ v : An, AnAt wr b (o + j * 2) v ∧ (j < k → v = (mkAn (k0 + 2 * (j : Int))))) := hc
      have HF : Hid (∀ j, j < n * 2 → wr.frozen? ⟨b, o + j, none⟩ = false) := hf
      have g0 : wr.frozen? ⟨b, o + k * 2, none⟩ = false := hf (k * 2) (by omega)
      have g1 : wr.frozen? ⟨b, o + k * 2 + 1, none⟩ = false := hf (k * 2 + 1) (by omega)
      obtain ⟨v, ⟨p0, p1⟩, _⟩ := hc k hlt
      clear hc hf
      have hlz : (k : Int) < (n : Int) := by omega
      obtain ⟨z, hz⟩ : ∃ z : Int, z = k0 + 2 * (k : Int) := ⟨_, rfl⟩
      rw [← hz]
      have HZ : Hid (z = k0 + 2 * (k : Int)) := hz
      have hz0 : 0 ≤ z := by omega
      have hz9 : z ≤ 100000000 := by omega
      clear hz
      go_wp2
      go_roundw
      case rel =>
        have F1 : Kept (Ats n (some ⟨b, o, none⟩)) w (setAn wr b (o + k * 2) (mkAn z)) := setAn_keptS ⟨by omega, _, rfl, rfl⟩ HK.out
        have F2 : ∀ j, j < n * 2 → (setAn wr b (o + k * 2) (mkAn z)).frozen? ⟨b, o + j, none⟩ = false := fun j hj => by rw [setAn_frozen]; exact HF.out j hj
        have F3 : ∀ j, j < n → ∃ v : An, AnAt (setAn wr b (o + k * 2) (mkAn z)) b (o + j * 2) v ∧ (j < k + 1 → v = (mkAn (k0 + 2 * (j : Int)))) := by
          intro j hj
          obtain ⟨u, q0, q1⟩ := HC.out j hj
          by_cases e : j = k
          · subst e
            exact ⟨mkAn z, setAn_same q0, fun _ => by rw [HZ.out]⟩
          · exact ⟨u, setAn_other q0 (by omega), fun x => q1 (by omega)⟩
        exact ⟨k + 1, by omega, by go_num, congrArg (Value.int .i64) (by have := HZ.out; omega), F1, .inr ⟨b, o, rfl, hB, F2, F3⟩⟩
      case measure => simp [intOf]; omega
    · go_wp2
      go_ret
      have e : k = n := by omega
      subst e
      refine ⟨rfl, ⟨by rw [markAn_length]; have := H.out.1; omega, ?_⟩, hb⟩
      rcases hx with e | ⟨b, o, ha, hB, hf, hc⟩
      · exact .inl (by rw [markAn_length]; exact e)
      · refine .inr ⟨b, o, ha, hB, fun i hi => ?_, fun j hj => hf j (by rw [markAn_length] at hj; exact hj)⟩
        rw [markAn_length] at hi
        obtain ⟨v, q0, q1⟩ := hc i hi
        rw [markAn_get, ← q1 hi]
        exact q0

set_option maxHeartbeats 2000000 in
theorem heldAndS (w : World) (a : Option Addr) (n : Nat) (c : Nat) (k0 : Int) (h : Ans w a (markAn n k0)) (h0 : 0 ≤ k0) (h1 : k0 ≤ 10000000) (hl : n ≤ 1048576) :
    Calls Try.prog 77 #[.slice a n c, .int .i64 k0] w fun e w' => e = .returned (.int .i64 (k0 + 2 * n)) ∧ w' = w := by
  have H : Hid (Ans w a (markAn n k0)) := h
  clear h
  go_enter Try.func77, Try.ntmps77
  go_wp2
  go_loop [1, 5] (fun q i => ∃ k : Nat, k ≤ n ∧ i = .int .i64 k ∧ q = .int .i64 (k0 + 2 * k)) (fun _ i => n - (intOf i).toNat)
  case atStart => exact ⟨0, Nat.zero_le _, rfl, by simp⟩
  case round =>
    obtain ⟨k, hk, rfl, rfl⟩ := hrel
    by_cases hlt : k < n
    · rcases H.out.2 with e | ⟨b, o, rfl, hc⟩
      · rw [markAn_length] at e; omega
      obtain ⟨p0, p1⟩ := hc k (by rw [markAn_length]; exact hlt)
      rw [markAn_get] at p0 p1
      clear hc
      have hlz : (k : Int) < (n : Int) := by omega
      obtain ⟨z, hz⟩ : ∃ z : Int, z = k0 + 2 * (k : Int) := ⟨_, rfl⟩
      rw [← hz] at p0 p1 ⊢
      simp only [mkAn] at p0 p1
      have HZ : Hid (z = k0 + 2 * (k : Int)) := hz
      have hz0 : 0 ≤ z := by omega
      have hz9 : z ≤ 100000000 := by omega
      clear hz
      go_wp2
      go_round
      case rel => exact ⟨k + 1, by omega, by go_num, congrArg (Value.int .i64) (by have := HZ.out; omega)⟩
      case measure => simp [intOf]; omega
    · go_wp2
      go_ret
      have e : k = n := by omega
      subst e
      exact ⟨rfl, rfl⟩

end Go.Proofs.Ytnpfegfjejfaaaa.Qb1
