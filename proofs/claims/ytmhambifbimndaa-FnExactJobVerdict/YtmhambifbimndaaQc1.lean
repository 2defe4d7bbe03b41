/- Walks of the exact laws' helpers on Seens. Written by tools/gen_qc1.py. -/
import Derived.Test.YtmhambifbimndaaRows
import Derived.Deep.RegionWith
import Derived.Laws.MakeOwn
import Derived.Test.YtmhambifbimndaaPkJ2
import Derived.Test.YtmhambifbimndaaQc0
namespace Go.Proofs.Ytmhambifbimndaa.Qc1
open Go.RowKit
open Nd0 Nd1 Qc0
set_option linter.unusedVariables false

set_option maxHeartbeats 1000000 in
theorem toSeen (a : ByteArray) (b : Int) (w : World) :
    Calls Try.prog 43 #[.agg #[.string a, .int .i64 b]] w fun e w' => e = .returned (.agg #[.string a, .int .i64 b]) ∧ Below w.heap.size w w' := by
  go_enter Try.func43, Try.ntmps43
  go_wp2
  refine bodyPost_ret (v := .agg #[.string a, .int .i64 b]) (by simp [results, Try.results43, go_sem]) rfl ⟨rfl, ?_⟩
  exact (((Below.refl _ _).alloc (Nat.le_refl _) _).alloc (by simp) _).alloc (by simp; omega) _

set_option maxHeartbeats 1000000 in
theorem eqSeen (a : ByteArray) (b : Int) (w : World) :
    Calls Try.prog 47 #[.agg #[.string a, .int .i64 b], .agg #[.string a, .int .i64 b]] w fun e w' => e = .returned (.bool true) ∧ Below w.heap.size w w' := by
  have hb0 : (a.toList == a.toList) = true := by simp
  have hb1 : (b != b) = false := by simp
  go_enter Try.func47, Try.ntmps47
  go_wp2
  go_ret
  exact ⟨rfl, ((Below.refl _ _).alloc (Nat.le_refl _) _).alloc (by simp) _⟩

set_option maxHeartbeats 1000000 in
theorem eqSeenS (w : World) (a a' : Option Addr) (l : List Sn) (c c' : Nat) (h : Sns w a l) (h' : Sns w a' l) :
    Calls Try.prog 40 #[.slice a l.length c, .slice a' l.length c'] w fun e w' => e = .returned (.bool true) ∧ Below w.heap.size w w' := by
  have H : Hid (Sns w a l) := h
  have H' : Hid (Sns w a' l) := h'
  have hm := h.1
  unfold maxLen at hm
  clear h h'
  go_enter Try.func40, Try.ntmps40
  go_wp2
  go_loopw [5] (fun i wr => ∃ k : Nat, k ≤ l.length ∧ i = .int .i64 k ∧ Below w.heap.size w wr) (fun i _ => l.length - (intOf i).toNat)
  case atStart => exact ⟨0, Nat.zero_le _, rfl, Below.refl _ _⟩
  case round =>
    obtain ⟨k, hk, rfl, hb⟩ := hrel
    have HB : Hid (Below w.heap.size w wr) := hb
    clear hb
    by_cases hlt : k < l.length
    · have hlz : (k : Int) < (l.length : Int) := by omega
      have HN := H.out.below HB.out
      have HN' := H'.out.below HB.out
      rcases HN.2 with h0 | ⟨xb, xo, rfl, hc⟩
      · omega
      rcases HN'.2 with h0 | ⟨yb, yo, rfl, hc'⟩
      · omega
      obtain ⟨p0, p1⟩ := hc k hlt
      obtain ⟨q0, q1⟩ := hc' k hlt
      clear hc hc' HN HN'
      generalize l[k] = x at p0 p1 q0 q1
      obtain ⟨x0, x1⟩ := x
      simp only at p0 p1 q0 q1
      go_wp2
      go_region_with (go_at_call 47; refine (eqSeen _ _ _).mono ?_; rintro e w' ⟨rfl, hbe⟩)
      all_goals
        have HB2 : Hid (Below w.heap.size w w') := HB.out.drew.trans (hbe.mono (by have := HB.out.size; simpa using this))
        clear hbe
        go_wp2
        go_roundw
        case rel => exact ⟨k + 1, by omega, by go_num, HB2.out⟩
        case measure => simp [intOf]; omega
    · go_wp2
      go_ret
      exact ⟨rfl, HB.out⟩

theorem infoSn : (Try.prog.info? 56).map (fun i => (i.zero, i.size, i.bytes)) = some (some (.agg #[.string ByteArray.empty, .int .i64 0]), 2, 24) := by kernel_rfl
def zerosSn (n : Nat) : Array Value := madeCells #[.string ByteArray.empty, .int .i64 0] (n * 2)
theorem makeSeens (n : Nat) (hn : n ≤ 1048576) (w : World) :
    (Instr.makeSlice 34 (.int .i64 (n : Int)) (.int .i64 (n : Int))).run Try.prog w = .ok (.slice (some ⟨w.heap.size, 0, none⟩) n n) (w.alloc (.cells (zerosSn n) 56)) := by
  obtain ⟨i, hi, hzz⟩ := Option.map_eq_some_iff.1 infoSn
  simp only [Prod.mk.injEq] at hzz
  obtain ⟨hz, hs, hb⟩ := hzz
  have h := run_make (P := Try.prog) w 34 56 i _ Try.underlying34 hi hz .i64 .i64 n n (by omega) (Int.le_refl _) (by rw [hb]; omega) (by omega)
  rw [hs] at h
  simpa [zerosSn, Value.cells] using h
theorem zerosSn_get (n i j : Nat) (h : i < n) (hj : j < 2) : (zerosSn n)[i * 2 + j]? = some (#[.string ByteArray.empty, .int .i64 0] : Array Value)[j]! := by
  simp only [zerosSn, madeCells, Array.getElem?_map, Array.getElem?_range]
  rw [if_pos (by omega)]
  simp only [Option.map_some]
  have e : (i * 2 + j) % 2 = j := by omega
  exact congrArg (fun m => some ((#[.string ByteArray.empty, .int .i64 0] : Array Value)[m]!)) e
theorem zerosSn_at (w : World) (n : Nat) (T : Nat) (j : Nat) (hj : j < n) : SnAt (w.alloc (.cells (zerosSn n) T)) w.heap.size (j * 2) Sn.zero := by
  refine ⟨by rw [World.cell?_alloc_new]; exact zerosSn_get n j 0 hj (by omega), by rw [World.cell?_alloc_new]; exact zerosSn_get n j 1 hj (by omega)⟩

set_option maxHeartbeats 2000000 in
theorem toSeenS (w : World) (a : Option Addr) (l : List Sn) (c : Nat) (h : Sns w a l) (hl : l.length ≤ 1048576) :
    Calls Try.prog 30 #[.slice a l.length c] w fun e w' => e = .returned (.slice (some ⟨w.heap.size, 0, none⟩) l.length l.length) ∧ WSns w' w.heap.size (some ⟨w.heap.size, 0, none⟩) l ∧ Below w.heap.size w w' := by
  have H : Hid (Sns w a l) := h
  clear h
  have hmk := makeSeens l.length hl
  go_enter Try.func30, Try.ntmps30
  go_wp2
  clear hmk
  go_loopw [4] (fun i wr => ∃ k : Nat, k ≤ l.length ∧ i = .int .i64 k ∧ Below w.heap.size w wr ∧ w.heap.size < wr.heap.size ∧ (∀ j, j < l.length * 2 → wr.frozen? ⟨w.heap.size, j, none⟩ = false) ∧ ∀ j (hj : j < l.length), ∃ v : Sn, SnAt wr w.heap.size (j * 2) v ∧ (j < k → v = l[j])) (fun i _ => l.length - (intOf i).toNat)
  case atStart =>
    exact ⟨0, Nat.zero_le _, rfl, (Below.refl _ _).alloc (Nat.le_refl _) _, by simp, fun j hj => by simp, fun j hj => ⟨_, zerosSn_at w _ _ j hj, fun x => by omega⟩⟩
  case round =>
    obtain ⟨k, hk, rfl, hb, hz, hf, hx⟩ := hrel
    have HB : Hid (Below w.heap.size w wr) := hb
    by_cases hlt : k < l.length
    · have HN := H.out.below hb
      clear hb
      rcases HN.2 with h0 | ⟨xb, xo, rfl, hc⟩
      · omega
      obtain ⟨p0, p1⟩ := hc k hlt
      clear hc HN
      have HX : Hid (∀ j (hj : j < l.length), ∃ v : Sn, SnAt wr w.heap.size (j * 2) v ∧ (j < k → v = l[j])) := hx
      have HF : Hid (∀ j, j < l.length * 2 → wr.frozen? ⟨w.heap.size, j, none⟩ = false) := hf
      clear hx hf
      have hlz : (k : Int) < (l.length : Int) := by omega
      obtain ⟨nd, hnd⟩ : ∃ nd : Sn, nd = l[k] := ⟨_, rfl⟩
      have HD : Hid (nd = l[k]) := hnd
      rw [← hnd] at p0 p1
      clear hnd
      go_wp2_with fail
      refine (toSeen _ _ _).mono ?_
      rintro e w1 ⟨rfl, hb1⟩
      have HB1 : Hid (Below wr.heap.size wr w1) := hb1
      obtain ⟨v, ⟨q0, q1⟩, _⟩ := HX.out k hlt
      have g0 : w1.frozen? ⟨w.heap.size, k * 2, none⟩ = false := by rw [hb1.frozen hz]; exact HF.out (k * 2) (by omega)
      have g1 : w1.frozen? ⟨w.heap.size, k * 2 + 1, none⟩ = false := by rw [hb1.frozen hz]; exact HF.out (k * 2 + 1) (by omega)
      rw [← hb1.cell hz] at q0 q1
      clear hb1 p0 p1
      go_wp2
      go_roundw
      case rel =>
        have F1 : Below w.heap.size w (setSn w1 w.heap.size (k * 2) nd) :=
          HB.out.trans ((setSn_kept (b := w.heap.size) (o := 0) (p := k * 2) (n := nd) (Kept.ofBelow HB1.out)).below (fun i hi => by obtain ⟨x, hx, rfl⟩ := hi; cases hx; exact Nat.le_refl _) HB.out.size)
        have F2 : w.heap.size < (setSn w1 w.heap.size (k * 2) nd).heap.size := by
          have := HB1.out.size
          rw [setSn_size]; omega
        have F3 : ∀ j, j < l.length * 2 → (setSn w1 w.heap.size (k * 2) nd).frozen? ⟨w.heap.size, j, none⟩ = false := by
          intro j hj
          rw [setSn_frozen, HB1.out.frozen hz]; exact HF.out j hj
        have F4 : ∀ j (hj : j < l.length), ∃ v : Sn, SnAt (setSn w1 w.heap.size (k * 2) nd) w.heap.size (j * 2) v ∧ (j < k + 1 → v = l[j]) := by
          intro j hj
          obtain ⟨u, r0, r1⟩ := HX.out j hj
          have r2 : SnAt w1 w.heap.size (j * 2) u := r0.below HB1.out hz
          by_cases e : j = k
          · subst e
            exact ⟨nd, setSn_same r2, fun _ => HD.out⟩
          · exact ⟨u, setSn_other r2 (by omega), fun x => r1 (by omega)⟩
        exact ⟨k + 1, by omega, by go_num, F1, F2, F3, F4⟩
      case measure => simp [intOf]; omega
    · go_wp2
      go_ret
      refine ⟨rfl, ⟨H.out.1, ?_⟩, HB.out⟩
      refine .inr ⟨w.heap.size, 0, rfl, Nat.le_refl _, fun i hi => ?_, fun j hj => by rw [Nat.zero_add]; exact hf j hj⟩
      obtain ⟨v, q0, q1⟩ := hx i hi
      rw [Nat.zero_add, ← q1 (by omega)]
      exact q0

set_option maxHeartbeats 1000000 in
theorem szSeen (k : ByteArray) (r : Int) (left : Int) (w : World) (h0 : 0 ≤ left) (h1 : left ≤ 1048576) (hk : k.size ≤ maxLen) :
    Calls Try.prog 41 #[.agg #[.string k, .int .i64 r], .int .i64 left] w fun e w' => e = .returned (.int .i64 (if (k.size : Int) ≤ left then left - k.size else -1)) ∧ Below w.heap.size w w' := by
  unfold maxLen at hk
  have HB : Hid (Below w.heap.size w (w.alloc (.cells #[.string k, .int .i64 r] 71))) := (Below.refl _ _).alloc (Nat.le_refl _) _
  by_cases h : (k.size : Int) ≤ left
  · have hn : ¬ left - (k.size : Int) < 0 := by omega
    rw [if_pos h]
    go_enter Try.func41, Try.ntmps41
    go_wp2
    go_ret
    exact ⟨rfl, HB.out⟩
  · have hn : left - (k.size : Int) < 0 := by omega
    rw [if_neg h]
    go_enter Try.func41, Try.ntmps41
    go_wp2
    go_ret
    exact ⟨rfl, HB.out⟩
set_option maxHeartbeats 1000000 in
theorem szSeenK (w : World) (a : Option Addr) (l : List Sn) (c : Nat) (left : Int) (h : Sns w a l) (h0 : 0 ≤ left) (h1 : left ≤ 1048576) (hk : ∀ x ∈ l, x.k.size ≤ maxLen) :
    Calls Try.prog 25 #[.slice a l.length c, .int .i64 left] w fun e w' => ∃ r : Int, e = .returned (.int .i64 r) ∧ -1 ≤ r ∧ r ≤ 1048576 ∧ (0 ≤ r → (l.length : Int) ≤ 1048576 ∧ ∀ x ∈ l, x.k.size ≤ 1048576) ∧ Below w.heap.size w w' := by
  have H : Hid (Sns w a l) := h
  have HK : Hid (∀ x ∈ l, x.k.size ≤ maxLen) := hk
  have hm := h.1
  unfold maxLen at hm
  clear h hk
  by_cases hc : (l.length : Int) ≤ left
  · have hn : ¬ left - (l.length : Int) < 0 := by omega
    go_enter Try.func25, Try.ntmps25
    go_wp2
    go_loopw [1, 5] (fun q i wr => ∃ (k : Nat) (r : Int), k ≤ l.length ∧ i = .int .i64 k ∧ q = .int .i64 r ∧ 0 ≤ r ∧ r ≤ 1048576 ∧ Below w.heap.size w wr ∧ ∀ j (hj : j < l.length), j < k → l[j].k.size ≤ 1048576) (fun _ i _ => l.length - (intOf i).toNat)
    case atStart => exact ⟨0, _, Nat.zero_le _, rfl, rfl, by omega, by omega, Below.refl _ _, fun j _ h => by omega⟩
    case round =>
      obtain ⟨k, r, hk, rfl, rfl, hr0, hr1, hb, hks⟩ := hrel
      have HKS : Hid (∀ j (hj : j < l.length), j < k → l[j].k.size ≤ 1048576) := hks
      clear hks
      have HB : Hid (Below w.heap.size w wr) := hb
      clear hb
      by_cases hlt : k < l.length
      · have hlz : (k : Int) < (l.length : Int) := by omega
        have HN := H.out.below HB.out
        rcases HN.2 with e0 | ⟨xb, xo, rfl, hc⟩
        · omega
        obtain ⟨p0, p1⟩ := hc k hlt
        have HX : Hid (l[k].k.size ≤ maxLen) := HK.out _ (List.getElem_mem hlt)
        clear hc HN
        have HLK : Hid (∀ y, y = l[k] → y.k.size ≤ 1048576 → ∀ j (hj : j < l.length), j < k + 1 → l[j].k.size ≤ 1048576) := fun y hy hyk j hj hjk => by
          by_cases e : j = k
          · subst e; rw [← hy]; exact hyk
          · exact HKS.out j hj (by omega)
        obtain ⟨x, hx⟩ : ∃ x, x = l[k] := ⟨_, rfl⟩
        rw [← hx] at p0 p1 HX HLK
        have HLX := HLK.out x rfl
        have HLX' : Hid (x.k.size ≤ 1048576 → ∀ j (hj : j < l.length), j < k + 1 → l[j].k.size ≤ 1048576) := HLX
        clear hx HLK HLX
        by_cases hq : (x.k.size : Int) ≤ r
        · have hq2 : ¬ r - (x.k.size : Int) < 0 := by omega
          have hq3 : r - (x.k.size : Int) ≤ 1048576 := by omega
          go_wp2_with (go_at_call 41; refine (szSeen x.k x.r r _ hr0 hr1 HX.out).mono ?_; rw [if_pos hq]; rintro e w1 ⟨rfl, hb1⟩; (have HB2 : Hid (Below w.heap.size w w1) := (by first | exact HB.out.trans (hb1.mono HB.out.size) | exact HB.out.drew.trans (hb1.mono HB.out.drew.size))); clear hb1)
          go_roundw
          case rel => exact ⟨k + 1, _, by omega, by go_num, rfl, by omega, by omega, HB2.out, HLX'.out (by omega)⟩
          case measure => simp [intOf]; omega
        · go_wp2_with (go_at_call 41; refine (szSeen x.k x.r r _ hr0 hr1 HX.out).mono ?_; rw [if_neg hq]; rintro e w1 ⟨rfl, hb1⟩; (have HB2 : Hid (Below w.heap.size w w1) := (by first | exact HB.out.trans (hb1.mono HB.out.size) | exact HB.out.drew.trans (hb1.mono HB.out.drew.size))); clear hb1)
          go_ret
          exact ⟨-1, rfl, by omega, by omega, fun h => by omega, HB2.out⟩
      · go_wp2
        go_ret
        exact ⟨r, rfl, by omega, hr1, fun _ => ⟨by omega, fun x hx => by
          obtain ⟨j, hj, rfl⟩ := List.getElem_of_mem hx
          exact HKS.out j hj (by omega)⟩, HB.out⟩
  · have hn : left - (l.length : Int) < 0 := by omega
    go_enter Try.func25, Try.ntmps25
    go_wp2
    go_ret
    exact ⟨-1, rfl, by omega, by omega, fun h => by omega, Below.refl _ _⟩

theorem szSeenS (w : World) (a : Option Addr) (l : List Sn) (c : Nat) (left : Int) (h : Sns w a l) (h0 : 0 ≤ left) (h1 : left ≤ 1048576) (hk : ∀ x ∈ l, x.k.size ≤ maxLen) :
    Calls Try.prog 25 #[.slice a l.length c, .int .i64 left] w fun e w' => ∃ r : Int, e = .returned (.int .i64 r) ∧ -1 ≤ r ∧ r ≤ 1048576 ∧ (0 ≤ r → (l.length : Int) ≤ 1048576) ∧ Below w.heap.size w w' :=
  (szSeenK w a l c left h h0 h1 hk).mono fun e w' k => by
    obtain ⟨r, h1, h2, h3, h4, h5⟩ := k
    exact ⟨r, h1, h2, h3, fun h => (h4 h).1, h5⟩

end Go.Proofs.Ytmhambifbimndaa.Qc1
