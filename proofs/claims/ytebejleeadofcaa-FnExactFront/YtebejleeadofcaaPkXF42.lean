/- Small texts of mine, one behind the other. -/
import Derived.Test.YtebejleeadofcaaRows
import Derived.Deep.RegionWith
import Derived.Laws.MakeOwn
import Derived.Test.YtebejleeadofcaaPkXF21
import Derived.Test.YtebejleeadofcaaPkXF1
import Derived.Test.YtebejleeadofcaaNd0
/- Walks of the exact laws' helpers on Quants. Written by tools/mkflat.py. -/
namespace Go.Proofs.Ytebejleeadofcaa.Qa1
open Go.RowKit
open Nd0 Nd1 Qa0
set_option linter.unusedVariables false

set_option maxHeartbeats 1000000 in
theorem eqQuant (all : Bool) (vr : Int) (bits : Int) (w : World) :
    Calls Try.prog 25 #[.agg #[.bool all, .int .i64 vr, .int .i64 bits], .agg #[.bool all, .int .i64 vr, .int .i64 bits]] w fun e w' => e = .returned (.bool true) ∧ Below w.heap.size w w' := by
  have hb0 : (all != all) = false := by simp
  have hb1 : (vr != vr) = false := by simp
  have hb2 : (bits != bits) = false := by simp
  go_enter Try.func25, Try.ntmps25
  go_wp2
  go_ret
  exact ⟨rfl, ((Below.refl _ _).alloc (Nat.le_refl _) _).alloc (by simp) _⟩

set_option maxHeartbeats 1000000 in
theorem eqQuantS (w : World) (a a' : Option Addr) (l : List Qu) (c c' : Nat) (h : Qus w a l) (h' : Qus w a' l) :
    Calls Try.prog 8 #[.slice a l.length c, .slice a' l.length c'] w fun e w' => e = .returned (.bool true) ∧ Below w.heap.size w w' := by
  have H : Hid (Qus w a l) := h
  have H' : Hid (Qus w a' l) := h'
  have hm := h.1
  unfold maxLen at hm
  clear h h'
  go_enter Try.func8, Try.ntmps8
  go_wp2
  go_loopw [5] (fun i wr => ∃ k : Nat, k ≤ l.length ∧ i = .int .i64 k ∧ Below w.heap.size w wr) (fun i _ => l.length - (intOf i).toNat)
  case atStart => exact ⟨0, Nat.zero_le _, rfl, Below.refl _ _⟩
  case round =>
    obtain ⟨k, hk, rfl, hb⟩ := hrel
    have HB : Hid (Below w.heap.size w wr) := hb
    clear hb
    by_cases hlt : k < l.length
    · have hlz : (k : Int) < (l.length : Int) := by omega
      have HN := H.out.below HB.out
      have HN' := H'.out.below HB.out
      rcases HN.2 with h0 | ⟨xb, xo, rfl, hc⟩
      · omega
      rcases HN'.2 with h0 | ⟨yb, yo, rfl, hc'⟩
      · omega
      obtain ⟨p0, p1, p2⟩ := hc k hlt
      obtain ⟨q0, q1, q2⟩ := hc' k hlt
      clear hc hc' HN HN'
      generalize l[k] = x at p0 p1 p2 q0 q1 q2
      obtain ⟨x0, x1, x2⟩ := x
      simp only at p0 p1 p2 q0 q1 q2
      go_wp2
      go_region_with (go_at_call 25; refine (eqQuant _ _ _ _).mono ?_; rintro e w' ⟨rfl, hbe⟩)
      all_goals
        have HB2 : Hid (Below w.heap.size w w') := HB.out.drew.trans (hbe.mono (by have := HB.out.size; simpa using this))
        clear hbe
        go_wp2
        go_roundw
        case rel => exact ⟨k + 1, by omega, by go_num, HB2.out⟩
        case measure => simp [intOf]; omega
    · go_wp2
      go_ret
      exact ⟨rfl, HB.out⟩

theorem infoQu : (Try.prog.info? 50).map (fun i => (i.zero, i.size, i.bytes)) = some (some (.agg #[.bool false, .int .i64 0, .int .i64 0]), 3, 24) := by kernel_rfl
def zerosQu (n : Nat) : Array Value := madeCells #[.bool false, .int .i64 0, .int .i64 0] (n * 3)
theorem makeQuants (n : Nat) (hn : n ≤ 1048576) (w : World) :
    (Instr.makeSlice 24 (.int .i64 (n : Int)) (.int .i64 (n : Int))).run Try.prog w = .ok (.slice (some ⟨w.heap.size, 0, none⟩) n n) (w.alloc (.cells (zerosQu n) 50)) := by
  obtain ⟨i, hi, hzz⟩ := Option.map_eq_some_iff.1 infoQu
  simp only [Prod.mk.injEq] at hzz
  obtain ⟨hz, hs, hb⟩ := hzz
  have h := run_make (P := Try.prog) w 24 50 i _ Try.underlying24 hi hz .i64 .i64 n n (by omega) (Int.le_refl _) (by rw [hb]; omega) (by omega)
  rw [hs] at h
  simpa [zerosQu, Value.cells] using h
theorem zerosQu_get (n i j : Nat) (h : i < n) (hj : j < 3) : (zerosQu n)[i * 3 + j]? = some (#[.bool false, .int .i64 0, .int .i64 0] : Array Value)[j]! := by
  simp only [zerosQu, madeCells, Array.getElem?_map, Array.getElem?_range]
  rw [if_pos (by omega)]
  simp only [Option.map_some]
  have e : (i * 3 + j) % 3 = j := by omega
  exact congrArg (fun m => some ((#[.bool false, .int .i64 0, .int .i64 0] : Array Value)[m]!)) e
theorem zerosQu_at (w : World) (n : Nat) (T : Nat) (j : Nat) (hj : j < n) : QuAt (w.alloc (.cells (zerosQu n) T)) w.heap.size (j * 3) Qu.zero := by
  refine ⟨by rw [World.cell?_alloc_new]; exact zerosQu_get n j 0 hj (by omega), by rw [World.cell?_alloc_new]; exact zerosQu_get n j 1 hj (by omega), by rw [World.cell?_alloc_new]; exact zerosQu_get n j 2 hj (by omega)⟩

set_option maxHeartbeats 2000000 in
theorem markQuantS (w : World) (B : Nat) (a : Option Addr) (l : List Qu) (c : Nat) (h : WQus w B a l) (k0 : Int) (h0 : 0 ≤ k0) (h1 : k0 ≤ 10000000) (hl : l.length ≤ 1048576) :
    Calls Try.prog 11 #[.slice a l.length c, .int .i64 k0] w fun e w' => e = .returned (.int .i64 (k0 + 3 * l.length)) ∧ WQus w' B a (markQu l.length k0) ∧ Kept (Ats l.length a) w w' := by
  have H : Hid (WQus w B a l) := h
  clear h
  generalize hn : l.length = n at hl ⊢
  go_enter Try.func11, Try.ntmps11
  go_wp2
  go_loopw [1, 5] (fun q i wr => ∃ k : Nat, k ≤ n ∧ i = .int .i64 k ∧ q = .int .i64 (k0 + 3 * k) ∧ Kept (Ats n a) w wr ∧ (n = 0 ∨ ∃ b o, a = some ⟨b, o, none⟩ ∧ B ≤ b ∧ (∀ j, j < n * 3 → wr.frozen? ⟨b, o + j, none⟩ = false) ∧ ∀ j, j < n → ∃ v : Qu, QuAt wr b (o + j * 3) v ∧ (j < k → v = (mkQu (k0 + 3 * (j : Int)))))) (fun _ i _ => n - (intOf i).toNat)
  case atStart =>
    refine ⟨0, Nat.zero_le _, rfl, by simp, Kept.refl _ _, ?_⟩
    rcases H.out.2 with e | ⟨b, o, ha, hB, hc, hf⟩
    · exact .inl (by omega)
    · exact .inr ⟨b, o, ha, hB, fun j hj => hf j (by omega), fun j hj => ⟨l[j]'(by omega), hc j (by omega), fun x => by omega⟩⟩
  case round =>
    obtain ⟨k, hk, rfl, rfl, hb, hx⟩ := hrel
    by_cases hlt : k < n
    · have HK : Hid (Kept (Ats n a) w wr) := hb
      clear hb
      rcases hx with e | ⟨b, o, rfl, hB, hf, hc⟩
      · omega
      have HC : Hid (∀ j, j < n → ∃ v : Qu, QuAt wr b (o + j * 3) v ∧ (j < k → v = (mkQu (k0 + 3 * (j : Int))))) := hc
      have HF : Hid (∀ j, j < n * 3 → wr.frozen? ⟨b, o + j, none⟩ = false) := hf
      have g0 : wr.frozen? ⟨b, o + k * 3, none⟩ = false := hf (k * 3) (by omega)
      have g1 : wr.frozen? ⟨b, o + k * 3 + 1, none⟩ = false := hf (k * 3 + 1) (by omega)
      have g2 : wr.frozen? ⟨b, o + k * 3 + 2, none⟩ = false := hf (k * 3 + 2) (by omega)
      obtain ⟨v, ⟨p0, p1, p2⟩, _⟩ := hc k hlt
      clear hc hf
      have hlz : (k : Int) < (n : Int) := by omega
      obtain ⟨z, hz⟩ : ∃ z : Int, z = k0 + 3 * (k : Int) := ⟨_, rfl⟩
      rw [← hz]
      have HZ : Hid (z = k0 + 3 * (k : Int)) := hz
      have hz0 : 0 ≤ z := by omega
      have hz9 : z ≤ 100000000 := by omega
      clear hz
      go_wp2
      go_roundw
      case rel =>
        have F1 : Kept (Ats n (some ⟨b, o, none⟩)) w (setQu wr b (o + k * 3) (mkQu z)) := setQu_keptS ⟨by omega, _, rfl, rfl⟩ HK.out
        have F2 : ∀ j, j < n * 3 → (setQu wr b (o + k * 3) (mkQu z)).frozen? ⟨b, o + j, none⟩ = false := fun j hj => by rw [setQu_frozen]; exact HF.out j hj
        have F3 : ∀ j, j < n → ∃ v : Qu, QuAt (setQu wr b (o + k * 3) (mkQu z)) b (o + j * 3) v ∧ (j < k + 1 → v = (mkQu (k0 + 3 * (j : Int)))) := by
          intro j hj
          obtain ⟨u, q0, q1⟩ := HC.out j hj
          by_cases e : j = k
          · subst e
            exact ⟨mkQu z, setQu_same q0, fun _ => by rw [HZ.out]⟩
          · exact ⟨u, setQu_other q0 (by omega), fun x => q1 (by omega)⟩
        exact ⟨k + 1, by omega, by go_num, congrArg (Value.int .i64) (by have := HZ.out; omega), F1, .inr ⟨b, o, rfl, hB, F2, F3⟩⟩
      case measure => simp [intOf]; omega
    · go_wp2
      go_ret
      have e : k = n := by omega
      subst e
      refine ⟨rfl, ⟨by rw [markQu_length]; have := H.out.1; omega, ?_⟩, hb⟩
      rcases hx with e | ⟨b, o, ha, hB, hf, hc⟩
      · exact .inl (by rw [markQu_length]; exact e)
      · refine .inr ⟨b, o, ha, hB, fun i hi => ?_, fun j hj => hf j (by rw [markQu_length] at hj; exact hj)⟩
        rw [markQu_length] at hi
        obtain ⟨v, q0, q1⟩ := hc i hi
        rw [markQu_get, ← q1 hi]
        exact q0

set_option maxHeartbeats 2000000 in
theorem heldQuantS (w : World) (a : Option Addr) (n : Nat) (c : Nat) (k0 : Int) (h : Qus w a (markQu n k0)) (h0 : 0 ≤ k0) (h1 : k0 ≤ 10000000) (hl : n ≤ 1048576) :
    Calls Try.prog 12 #[.slice a n c, .int .i64 k0] w fun e w' => e = .returned (.int .i64 (k0 + 3 * n)) ∧ w' = w := by
  have H : Hid (Qus w a (markQu n k0)) := h
  clear h
  go_enter Try.func12, Try.ntmps12
  go_wp2
  go_loop [1, 5] (fun q i => ∃ k : Nat, k ≤ n ∧ i = .int .i64 k ∧ q = .int .i64 (k0 + 3 * k)) (fun _ i => n - (intOf i).toNat)
  case atStart => exact ⟨0, Nat.zero_le _, rfl, by simp⟩
  case round =>
    obtain ⟨k, hk, rfl, rfl⟩ := hrel
    by_cases hlt : k < n
    · rcases H.out.2 with e | ⟨b, o, rfl, hc⟩
      · rw [markQu_length] at e; omega
      obtain ⟨p0, p1, p2⟩ := hc k (by rw [markQu_length]; exact hlt)
      rw [markQu_get] at p0 p1 p2
      clear hc
      have hlz : (k : Int) < (n : Int) := by omega
      obtain ⟨z, hz⟩ : ∃ z : Int, z = k0 + 3 * (k : Int) := ⟨_, rfl⟩
      rw [← hz] at p0 p1 p2 ⊢
      simp only [mkQu] at p0 p1 p2
      have HZ : Hid (z = k0 + 3 * (k : Int)) := hz
      have hz0 : 0 ≤ z := by omega
      have hz9 : z ≤ 100000000 := by omega
      clear hz
      go_wp2
      go_round
      case rel => exact ⟨k + 1, by omega, by go_num, congrArg (Value.int .i64) (by have := HZ.out; omega)⟩
      case measure => simp [intOf]; omega
    · go_wp2
      go_ret
      have e : k = n := by omega
      subst e
      exact ⟨rfl, rfl⟩

end Go.Proofs.Ytebejleeadofcaa.Qa1

/- Walks of the exact laws' helpers on slices of nodes. -/
namespace Go.Proofs.Ytebejleeadofcaa.Nd2
open Go.RowKit
open Nd0 Nd1
set_option linter.unusedVariables false

set_option maxHeartbeats 1000000 in
theorem eqNodeS (w : World) (a a' : Option Addr) (l : List Nd) (c c' : Nat) (h : Nodes w a l) (h' : Nodes w a' l) :
    Calls Try.prog 9 #[.slice a l.length c, .slice a' l.length c'] w fun e w' => e = .returned (.bool true) ∧ Below w.heap.size w w' := by
  have H : Hid (Nodes w a l) := h
  have H' : Hid (Nodes w a' l) := h'
  have hm := h.1
  unfold maxLen at hm
  clear h h'
  go_enter Try.func9, Try.ntmps9
  go_wp2
  go_loopw [5] (fun i wr => ∃ k : Nat, k ≤ l.length ∧ i = .int .i64 k ∧ Below w.heap.size w wr) (fun i _ => l.length - (intOf i).toNat)
  case atStart => exact ⟨0, Nat.zero_le _, rfl, Below.refl _ _⟩
  case round =>
    obtain ⟨k, hk, rfl, hb⟩ := hrel
    have HB : Hid (Below w.heap.size w wr) := hb
    clear hb
    by_cases hlt : k < l.length
    · have hlz : (k : Int) < (l.length : Int) := by omega
      have HN := H.out.below HB.out
      have HN' := H'.out.below HB.out
      rcases HN.2 with h0 | ⟨xb, xo, rfl, hc⟩
      · omega
      rcases HN'.2 with h0 | ⟨yb, yo, rfl, hc'⟩
      · omega
      obtain ⟨p0, p1, p2, p3, p4, p5⟩ := hc k hlt
      obtain ⟨q0, q1, q2, q3, q4, q5⟩ := hc' k hlt
      clear hc hc' HN HN'
      generalize l[k] = x at p0 p1 p2 p3 p4 p5 q0 q1 q2 q3 q4 q5
      obtain ⟨x0, x1, x2, x3, x4, x5⟩ := x
      simp only at p0 p1 p2 p3 p4 p5 q0 q1 q2 q3 q4 q5
      go_wp2
      go_region_with (go_at_call 26; refine (eqNode _ _ _ _ _ _ _ _ _ _ _ _ true (by simp) _).mono ?_; rintro e w' ⟨rfl, hbe⟩)
      all_goals
        have HB2 : Hid (Below w.heap.size w w') := HB.out.drew.trans (hbe.mono (by have := HB.out.size; simpa using this))
        clear hbe
        go_wp2
        go_roundw
        case rel => exact ⟨k + 1, by omega, by go_num, HB2.out⟩
        case measure => simp [intOf]; omega
    · go_wp2
      go_ret
      exact ⟨rfl, HB.out⟩

set_option maxHeartbeats 400000 in
theorem szNodeS (w : World) (a : Option Addr) (n c : Nat) (left : Int) (h0 : 0 ≤ left) (h1 : left ≤ 1048576) (hn : n ≤ maxLen) :
    Calls Try.prog 4 #[.slice a n c, .int .i64 left] w fun e w' => e = .returned (.int .i64 (if (n : Int) ≤ left then left - n else -1)) ∧ w' = w := by
  unfold maxLen at hn
  by_cases hc : (n : Int) ≤ left
  · go_enter Try.func4, Try.ntmps4
    go_wp2
    go_ret
    exact ⟨rfl, rfl⟩
  · go_enter Try.func4, Try.ntmps4
    go_wp2
    go_ret
    exact ⟨rfl, rfl⟩

end Go.Proofs.Ytebejleeadofcaa.Nd2
