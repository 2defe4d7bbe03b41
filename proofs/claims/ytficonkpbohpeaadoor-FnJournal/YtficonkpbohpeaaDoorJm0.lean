/- Lists of texts held against each other; marks on them. -/
import Derived.Deep.RegionWith
import Derived.Test.YtficonkpbohpeaaDoorMk1
import Derived.Test.YtficonkpbohpeaaDoorPkT25
namespace Go.Proofs.YtficonkpbohpeaaDoor.Jm0
open Go.RowKit
open Nd0 Tx0 Mk1 Ap4
open Ss0 (bs)
open Ss2 (Strs)
set_option linter.unusedVariables false

/-- n texts in the block g that may be written. -/
def Sw (w : World) (g n : Nat) (f : Nat → ByteArray) : Prop := g < w.heap.size ∧ ∀ j, j < n → w.cell? ⟨g, j, none⟩ = some (.string (f j)) ∧ w.frozen? ⟨g, j, none⟩ = false
theorem Sw.kept {w w' : World} {g n : Nat} {f : Nat → ByteArray} (h : Sw w g n f) {S : Nat → Prop} (k : Kept S w w') (hs : ¬ S g) : Sw w' g n f :=
  ⟨Nat.lt_of_lt_of_le h.1 k.size, fun j hj => ⟨by rw [k.cell (p := ⟨g, j, none⟩) h.1 hs]; exact (h.2 j hj).1, by rw [k.frozen (p := ⟨g, j, none⟩) h.1 hs]; exact (h.2 j hj).2⟩⟩
theorem Sw.below {w w' : World} {g n : Nat} {f : Nat → ByteArray} (h : Sw w g n f) (k : Below w.heap.size w w') : Sw w' g n f := h.kept (S := fun _ => False) (Kept.ofBelow k) (fun h => h)
theorem Sw.ext {w : World} {g n : Nat} {f f' : Nat → ByteArray} (h : Sw w g n f) (he : ∀ j, j < n → f j = f' j) : Sw w g n f' := ⟨h.1, fun j hj => by rw [← he j hj]; exact h.2 j hj⟩
theorem Sw.set {w : World} {g n : Nat} {f : Nat → ByteArray} (h : Sw w g n f) {i : Nat} (hi : i < n) (x : ByteArray) : Sw (w.setCell ⟨g, i, none⟩ (.string x)) g n (fun j => if j = i then x else f j) := by
  refine ⟨by simpa using h.1, fun j hj => ⟨?_, by rw [World.frozen?_setCell]; exact (h.2 j hj).2⟩⟩
  show _ = some (Value.string (if j = i then x else f j))
  by_cases e : j = i
  · subst e
    rw [set_same (h.2 j hj).1, if_pos rfl]
  · rw [set_other (by simp <;> omega), if_neg e]
    exact (h.2 j hj).1
/-- The texts of a list, by their places. -/
def fl (l : List (List UInt8)) (j : Nat) : ByteArray := bs (l.getD j [])
theorem Sw.of {w : World} {B g n c : Nat} {l : List (List UInt8)} (h : Ost w B (.slice (some ⟨g, 0, none⟩) n c) l) : Sw w g n (fl l) ∧ B ≤ g ∧ n = l.length := by
  obtain ⟨h1, h2⟩ := h
  rcases h2 with ⟨e, h0⟩ | ⟨g', cap, cur, e, hb, hg, hn, hm, hs, ht⟩
  · cases e
  · cases e
    have hl := (Array.getElem?_eq_some_iff.1 hg).1
    refine ⟨⟨hl, fun j hj => ⟨?_, by simp [World.frozen?, hg]⟩⟩, hb, rfl⟩
    rw [cell_of_row w g j cur _ _ hg]
    have e : (cur.toList.take (l.length * 1))[j]? = some (.string (bs l[j])) := by rw [ht]; simp [hj]
    rw [List.getElem?_take_of_lt (by omega)] at e
    unfold fl
    rw [List.getD_eq_getElem?_getD, List.getElem?_eq_getElem hj]
    simpa using e

set_option maxRecDepth 100000 in
set_option maxHeartbeats 2000000 in
theorem eqStrS (w : World) (g h n c d : Nat) (f : Nat → ByteArray) (hg : Sw w g n f) (hh : Sw w h n f) (hn : n ≤ 1048576) :
    Calls Tryd.prog 23 #[.slice (some ⟨g, 0, none⟩) n c, .slice (some ⟨h, 0, none⟩) n d] w fun e w' => e = .returned (.bool true) ∧ Below w.heap.size w w' := by
  have HG : Hid (Sw w g n f) := hg
  have HH : Hid (Sw w h n f) := hh
  clear hg hh
  go_enter Tryd.func23, Tryd.ntmps23
  go_wp2
  go_loopw [5] (fun i wr => ∃ k : Nat, k ≤ n ∧ i = .int .i64 k ∧ Below w.heap.size w wr) (fun i _ => n - (intOf i).toNat)
  case atStart => exact ⟨0, Nat.zero_le _, rfl, Below.refl _ _⟩
  case round =>
    obtain ⟨k, hk, rfl, hb⟩ := hrel
    have HB : Hid (Below w.heap.size w wr) := hb
    by_cases hlt : k < n
    · have hlz : (k : Int) < (n : Int) := by omega
      have c0 := (HG.out.2 k hlt).1
      have c1 := (HH.out.2 k hlt).1
      have d0 : wr.cell? ⟨g, k, none⟩ = some (.string (f k)) := by rw [hb.cell (p := ⟨g, k, none⟩) HG.out.1]; exact c0
      have d1 : wr.cell? ⟨h, k, none⟩ = some (.string (f k)) := by rw [hb.cell (p := ⟨h, k, none⟩) HH.out.1]; exact c1
      clear c0 c1 hb
      generalize f k = M at *
      go_wp2_with fail
      go_quiet (fail)
      go_wp2
      go_roundw
      case rel => exact ⟨k + 1, by omega, by go_num, Tc2.below_drewN HB.out _⟩
      case measure => simp [intOf]; omega
    · clear hb
      go_wp2
      go_ret
      exact ⟨rfl, HB.out⟩

set_option maxRecDepth 100000 in
set_option maxHeartbeats 2000000 in
theorem markStrS (w : World) (g n c : Nat) (f : Nat → ByteArray) (hg : Sw w g n f) (hn : n ≤ 1048576) :
    Calls Tryd.prog 24 #[.slice (some ⟨g, 0, none⟩) n c, .int .i64 1] w fun e w' => e = .returned (.int .i64 ((1 + n : Nat) : Int)) ∧ Sw w' g n (fun j => mt (1 + j)) ∧ Kept (fun i => i = g) w w' := by
  have HG : Hid (Sw w g n f) := hg
  clear hg
  go_enter Tryd.func24, Tryd.ntmps24
  go_wp2
  go_loopw [1, 5] (fun q i wr => ∃ k : Nat, k ≤ n ∧ i = .int .i64 k ∧ q = .int .i64 ((1 + k : Nat) : Int) ∧ Kept (fun i => i = g) w wr ∧ Sw wr g n (fun j => if j < k then mt (1 + j) else f j)) (fun _ i _ => n - (intOf i).toNat)
  case atStart => exact ⟨0, Nat.zero_le _, rfl, rfl, Kept.refl _ _, HG.out.ext (fun j _ => by simp)⟩
  case round =>
    obtain ⟨k, hk, rfl, rfl, hkp, hsw⟩ := hrel
    have HK : Hid (Kept (fun i => i = g) w wr) := hkp
    have HS : Hid (Sw wr g n (fun j => if j < k then mt (1 + j) else f j)) := hsw
    clear hkp hsw
    by_cases hlt : k < n
    · have hlz : (k : Int) < (n : Int) := by omega
      obtain ⟨z, hz⟩ : ∃ z : Nat, z = 1 + k := ⟨_, rfl⟩
      rw [← hz]
      have HZ : Hid (z = 1 + k) := hz
      have hz0 : 0 < z := by omega
      have hz9 : z < 100000000 := by omega
      clear hz
      go_wp2_with fail
      refine (markText z wr hz0 (by omega)).mono ?_
      rintro e w1 ⟨rfl, hb1⟩
      have HS1 : Hid (Sw w1 g n (fun j => if j < k then mt (1 + j) else f j)) := HS.out.below hb1
      have HK1 : Hid (Kept (fun i => i = g) w w1) := HK.out.trans (Kept.ofBelow hb1)
      clear hb1
      have c0 := (HS1.out.2 k hlt).1
      have f0 := (HS1.out.2 k hlt).2
      have hgl := HS1.out.1
      obtain ⟨M, hM⟩ : ∃ M, M = mt z := ⟨_, rfl⟩
      have HM : Hid (M = mt z) := hM
      rw [← hM]
      clear hM
      have HS2 : Hid (Sw (w1.setCell ⟨g, k, none⟩ (.string M)) g n (fun j => if j = k then M else if j < k then mt (1 + j) else f j)) := HS1.out.set hlt M
      have HK2 : Hid (Kept (fun i => i = g) w (w1.setCell ⟨g, k, none⟩ (.string M))) := HK1.out.setCell (p := ⟨g, k, none⟩) rfl _
      generalize (if k < k then mt (1 + k) else f k) = y at c0
      go_wp2
      go_roundw
      case rel =>
        refine ⟨k + 1, by omega, by go_num, congrArg (Value.int .i64) (by have := HZ.out; omega), HK2.out, HS2.out.ext (fun j hj => ?_)⟩
        by_cases e : j = k
        · subst e
          rw [if_pos rfl, if_pos (by omega), HM.out, HZ.out]
        · simp only [if_neg e]
          by_cases e2 : j < k
          · rw [if_pos e2, if_pos (by omega)]
          · rw [if_neg e2, if_neg (by omega)]
      case measure => simp [intOf]; omega
    · have e : k = n := by omega
      subst e
      go_wp2
      go_ret
      exact ⟨rfl, HS.out.ext (fun j hj => by rw [if_pos hj]), HK.out⟩

set_option maxRecDepth 100000 in
set_option maxHeartbeats 2000000 in
theorem heldStrS (w : World) (g n c : Nat) (hg : Sw w g n (fun j => mt (1 + j))) (hn : n ≤ 1048576) :
    Calls Tryd.prog 25 #[.slice (some ⟨g, 0, none⟩) n c, .int .i64 1] w fun e w' => e = .returned (.int .i64 ((1 + n : Nat) : Int)) ∧ Below w.heap.size w w' := by
  have HG : Hid (Sw w g n (fun j => mt (1 + j))) := hg
  clear hg
  go_enter Tryd.func25, Tryd.ntmps25
  go_wp2
  go_loopw [1, 5] (fun q i wr => ∃ k : Nat, k ≤ n ∧ i = .int .i64 k ∧ q = .int .i64 ((1 + k : Nat) : Int) ∧ Below w.heap.size w wr) (fun _ i _ => n - (intOf i).toNat)
  case atStart => exact ⟨0, Nat.zero_le _, rfl, rfl, Below.refl _ _⟩
  case round =>
    obtain ⟨k, hk, rfl, rfl, hb⟩ := hrel
    have HB : Hid (Below w.heap.size w wr) := hb
    clear hb
    by_cases hlt : k < n
    · have hlz : (k : Int) < (n : Int) := by omega
      have a0 := (HG.out.2 k hlt).1
      simp only at a0
      obtain ⟨z, hz⟩ : ∃ z : Nat, z = 1 + k := ⟨_, rfl⟩
      rw [← hz] at a0 ⊢
      have HZ : Hid (z = 1 + k) := hz
      have hz0 : 0 < z := by omega
      have hz9 : z < 100000000 := by omega
      clear hz
      have HA0 : Hid (∀ W, Below w.heap.size w W → W.cell? ⟨g, k, none⟩ = some (.string (mt z)) ∧ g < W.heap.size) := fun W hb => by rw [hb.cell (p := ⟨g, k, none⟩) (lt_of_cell a0)]; exact ⟨a0, Nat.lt_of_lt_of_le (lt_of_cell a0) hb.size⟩
      clear a0
      have HMT : Hid (∀ W : World, Calls Tryd.prog 37 #[.int .i64 (z : Int)] W fun e w' => e = .returned (.string (mt z)) ∧ Below W.heap.size W w') := fun W => markText z W hz0 (by omega)
      generalize mt z = M at *
      have hMM : (M.toList == M.toList) = true := by simp
      go_wp2
      obtain ⟨b0, hb0⟩ := HA0.out wr.drew HB.out.drew
      go_region_with (go_at_call 37; (with_reducible refine (HMT.out _).mono ?_); rintro e w1 ⟨rfl, hb1⟩; obtain ⟨b0, hb0⟩ := HA0.out w1 (HB.out.drew.trans (hb1.mono HB.out.drew.size)); have HB1 : Hid (Below w.heap.size w w1) := HB.out.drew.trans (hb1.mono HB.out.drew.size); clear hb1)
      all_goals
        go_wp2
        go_roundw
        case rel => exact ⟨k + 1, by omega, by go_num, congrArg (Value.int .i64) (by have := HZ.out; omega), HB1.out⟩
        case measure => simp [intOf]; omega
    · have e : k = n := by omega
      subst e
      go_wp2
      go_ret
      exact ⟨rfl, HB.out⟩
end Go.Proofs.YtficonkpbohpeaaDoor.Jm0
