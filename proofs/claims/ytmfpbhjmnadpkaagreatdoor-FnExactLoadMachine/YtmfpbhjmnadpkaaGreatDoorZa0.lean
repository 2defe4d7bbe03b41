/- Flags as a text: both sides' RowText. -/
import Derived.Test.YtmfpbhjmnadpkaaGreatDoorPkU6
import Derived.Test.YtmfpbhjmnadpkaaGreatDoorPkU7
namespace Go.Proofs.YtmfpbhjmnadpkaaGreatDoor.Za0
open Go.RowKit
open Ap9
open Nd0 (Kept lt_of_cell)
open Nd6 (Bools)
open Ss0 (bs bs_size ret_str)
set_option linter.unusedVariables false

/-- The sign of a flag. -/
def fsg (b : Bool) : UInt8 := if b = true then 97 else 115
/-- The text of a row. -/
def rowT (l : List Bool) : List UInt8 := if l = [] then [45] else l.map fsg
theorem rowT_pos (l : List Bool) : 1 ≤ (rowT l).length := by
  unfold rowT
  split
  · exact Nat.le_refl _
  · rename_i h
    rw [List.length_map]
    exact List.length_pos_iff.2 h
theorem rowT_le (l : List Bool) : (rowT l).length ≤ l.length + 1 := by
  unfold rowT
  split
  · simp
  · rw [List.length_map]; omega

set_option maxRecDepth 100000 in
set_option maxHeartbeats 2000000 in
theorem iRowText (w : World) (a : Option Addr) (l : List Bool) (c : Nat) (h : Bools w a l) (hl : l.length ≤ 1048576) :
    Calls Tryz.prog 22 #[.slice a l.length c] w fun e w' => e = .returned (.string (bs (rowT l))) ∧ Below w.heap.size w w' := by
  have H : Hid (Bools w a l) := h
  clear h
  by_cases h0 : l = []
  · subst h0
    go_enter Tryz.func22, Tryz.ntmps22
    go_wp2
    go_ret
    exact ⟨rfl, Below.refl _ _⟩
  have hlp := List.length_pos_iff.2 h0
  have HV : Hid (rowT l = l.map fsg) := by show _ = _; unfold rowT; exact if_neg h0
  obtain ⟨n, hn⟩ : ∃ n, n = l.length := ⟨_, rfl⟩
  rw [← hn]
  have hn0 : ((n : Int) == 0) = false := beq_eq_false_iff_ne.2 (by omega)
  have hn1 : ¬ n = 0 := by omega
  have hn2 : n ≤ 1048576 := by omega
  have HN : Hid (n = l.length) := hn
  obtain ⟨TK, hTK⟩ : ∃ TK : Nat → List UInt8, TK = fun k => (l.take k).map fsg := ⟨_, rfl⟩
  have HTK : Hid (TK = fun k => (l.take k).map fsg) := hTK
  have HTL : Hid (∀ k, k ≤ n → (TK k).length = k) := by intro k hk; rw [hTK]; simp; omega
  have HT0 : Hid (TK 0 = []) := by show _ = _; rw [hTK]; rfl
  clear hn h0 hl hlp hTK
  go_enter Tryz.func22, Tryz.ntmps22
  go_wp2
  go_loopw [3, 12] (fun v i wr => ∃ k : Nat, k ≤ n ∧ i = .int .i64 k ∧ Owu wr w.heap.size v (TK k) ∧ Below w.heap.size w wr) (fun _ i _ => n - (intOf i).toNat)
  case atStart => exact ⟨0, Nat.zero_le _, rfl, by rw [HT0.out]; exact Owu.lit _ _ (Nat.le_refl _), (Below.refl _ _).alloc (Nat.le_refl _) _⟩
  case round =>
    obtain ⟨k, hk, rfl, ho, hbr⟩ := hrel
    have HO : Hid (Owu wr w.heap.size u3 (TK k)) := ho
    have HB : Hid (Below w.heap.size w wr) := hbr
    clear ho hbr
    by_cases hlt : k < n
    · have hlz : (k : Int) < (n : Int) := by omega
      have hkl : k < l.length := by have := HN.out; omega
      obtain ⟨b, o, ha, hc⟩ : ∃ b o, a = some ⟨b, o, none⟩ ∧ wr.cell? ⟨b, o + k, none⟩ = some (.bool l[k]) := by
        rcases (H.out.below HB.out).2 with e | ⟨b, o, e, hc⟩
        · omega
        · exact ⟨b, o, e, hc k hkl⟩
      subst ha
      have hbl := lt_of_cell hc
      have HNX : Hid (TK (k + 1) = TK k ++ [fsg l[k]]) := by
        show _ = _
        rw [HTK.out]
        show (l.take (k + 1)).map fsg = (l.take k).map fsg ++ [fsg l[k]]
        rw [List.take_succ_eq_append_getElem hkl, List.map_append]
        rfl
      generalize l[k] = x at *
      cases x
      · go_wp2_with (at_builtin; go_must (refine app_byte _ rfl _ _ rfl w.heap.size u3 (TK k) (fsg false) _ rfl rfl rfl HO.out HB.out.size (by rw [HTL.out k (by omega)]; omega) ?_; intro g5 cp5 w5 ho5 hk5 hg5; have HO5 : Hid (Owu w5 w.heap.size (.slice (some ⟨g5, 0, none⟩) ((TK k).length + 1) cp5) (TK k ++ [fsg false])) := ho5; have HK5 : Hid (Kept (fun i => u3.ownBlock = some i) wr w5) := hk5; clear ho5 hk5 hg5))
        go_roundw
        case rel => exact ⟨k + 1, by omega, by go_num, by rw [HNX.out]; exact HO5.out, HB.out.trans (HK5.out.below (fun i hi => (HO.out.lt i hi).1) HB.out.size)⟩
        case measure => simp [intOf]; omega
      · go_wp2_with (at_builtin; go_must (refine app_byte _ rfl _ _ rfl w.heap.size u3 (TK k) (fsg true) _ rfl rfl rfl HO.out HB.out.size (by rw [HTL.out k (by omega)]; omega) ?_; intro g5 cp5 w5 ho5 hk5 hg5; have HO5 : Hid (Owu w5 w.heap.size (.slice (some ⟨g5, 0, none⟩) ((TK k).length + 1) cp5) (TK k ++ [fsg true])) := ho5; have HK5 : Hid (Kept (fun i => u3.ownBlock = some i) wr w5) := hk5; clear ho5 hk5 hg5))
        go_roundw
        case rel => exact ⟨k + 1, by omega, by go_num, by rw [HNX.out]; exact HO5.out, HB.out.trans (HK5.out.below (fun i hi => (HO.out.lt i hi).1) HB.out.size)⟩
        case measure => simp [intOf]; omega
    · have hlz : ¬ (k : Int) < (n : Int) := by omega
      have e : k = n := by omega
      subst e
      have hT : TK k = rowT l := by
        rw [HV.out, HTK.out, HN.out]
        show (l.take l.length).map fsg = _
        rw [List.take_length]
      have ho := HO.out
      rw [hT] at ho
      have hcv := ho.text (rowT_pos l)
      clear hT ho
      obtain ⟨R, hR⟩ : ∃ R, R = bs (rowT l) := ⟨_, rfl⟩
      rw [← hR] at hcv
      have HR : Hid (R = bs (rowT l)) := hR
      clear hR
      go_wp2
      go_ret
      exact ⟨ret_str HR.out, HB.out⟩

set_option maxRecDepth 100000 in
set_option maxHeartbeats 2000000 in
theorem sRowText (w : World) (a : Option Addr) (l : List Bool) (c : Nat) (h : Bools w a l) (hl : l.length ≤ 1048576) :
    Calls Tryz.prog 43 #[.slice a l.length c] w fun e w' => e = .returned (.string (bs (rowT l))) ∧ Below w.heap.size w w' := by
  have H : Hid (Bools w a l) := h
  clear h
  obtain ⟨n, hn⟩ : ∃ n, n = l.length := ⟨_, rfl⟩
  rw [← hn]
  have hn2 : n ≤ 1048576 := by omega
  have HN : Hid (n = l.length) := hn
  obtain ⟨TK, hTK⟩ : ∃ TK : Nat → List UInt8, TK = fun k => (l.take k).map fsg := ⟨_, rfl⟩
  have HTK : Hid (TK = fun k => (l.take k).map fsg) := hTK
  have HTL : Hid (∀ k, k ≤ n → (TK k).length = k) := by intro k hk; rw [hTK]; simp; omega
  have HT0 : Hid (TK 0 = []) := by show _ = _; rw [hTK]; rfl
  clear hn hl hTK
  go_enter Tryz.func43, Tryz.ntmps43
  go_wp2
  go_loopw [3, 4] (fun v i wr => ∃ k : Nat, k ≤ n ∧ i = .int .i64 k ∧ Owu wr w.heap.size v (TK k) ∧ Below w.heap.size w wr) (fun _ i _ => n - (intOf i).toNat)
  case atStart => exact ⟨0, Nat.zero_le _, rfl, by rw [HT0.out]; exact Owu.lit _ _ (Nat.le_refl _), (Below.refl _ _).alloc (Nat.le_refl _) _⟩
  case round =>
    obtain ⟨k, hk, rfl, ho, hbr⟩ := hrel
    have HO : Hid (Owu wr w.heap.size u3 (TK k)) := ho
    have HB : Hid (Below w.heap.size w wr) := hbr
    clear ho hbr
    by_cases hlt : k < n
    · have hlz : (k : Int) < (n : Int) := by omega
      have hkl : k < l.length := by have := HN.out; omega
      obtain ⟨b, o, ha, hc⟩ : ∃ b o, a = some ⟨b, o, none⟩ ∧ wr.cell? ⟨b, o + k, none⟩ = some (.bool l[k]) := by
        rcases (H.out.below HB.out).2 with e | ⟨b, o, e, hc⟩
        · omega
        · exact ⟨b, o, e, hc k hkl⟩
      subst ha
      have hbl := lt_of_cell hc
      have HNX : Hid (TK (k + 1) = TK k ++ [fsg l[k]]) := by
        show _ = _
        rw [HTK.out]
        show (l.take (k + 1)).map fsg = (l.take k).map fsg ++ [fsg l[k]]
        rw [List.take_succ_eq_append_getElem hkl, List.map_append]
        rfl
      generalize l[k] = x at *
      cases x
      · go_wp2_with (at_builtin; go_must (refine app_byte _ rfl _ _ rfl w.heap.size u3 (TK k) (fsg false) _ rfl rfl rfl HO.out HB.out.size (by rw [HTL.out k (by omega)]; omega) ?_; intro g5 cp5 w5 ho5 hk5 hg5; have HO5 : Hid (Owu w5 w.heap.size (.slice (some ⟨g5, 0, none⟩) ((TK k).length + 1) cp5) (TK k ++ [fsg false])) := ho5; have HK5 : Hid (Kept (fun i => u3.ownBlock = some i) wr w5) := hk5; clear ho5 hk5 hg5))
        go_roundw
        case rel => exact ⟨k + 1, by omega, by go_num, by rw [HNX.out]; exact HO5.out, HB.out.trans (HK5.out.below (fun i hi => (HO.out.lt i hi).1) HB.out.size)⟩
        case measure => simp [intOf]; omega
      · go_wp2_with (at_builtin; go_must (refine app_byte _ rfl _ _ rfl w.heap.size u3 (TK k) (fsg true) _ rfl rfl rfl HO.out HB.out.size (by rw [HTL.out k (by omega)]; omega) ?_; intro g5 cp5 w5 ho5 hk5 hg5; have HO5 : Hid (Owu w5 w.heap.size (.slice (some ⟨g5, 0, none⟩) ((TK k).length + 1) cp5) (TK k ++ [fsg true])) := ho5; have HK5 : Hid (Kept (fun i => u3.ownBlock = some i) wr w5) := hk5; clear ho5 hk5 hg5))
        go_roundw
        case rel => exact ⟨k + 1, by omega, by go_num, by rw [HNX.out]; exact HO5.out, HB.out.trans (HK5.out.below (fun i hi => (HO.out.lt i hi).1) HB.out.size)⟩
        case measure => simp [intOf]; omega
    · have hlz : ¬ (k : Int) < (n : Int) := by omega
      have e : k = n := by omega
      subst e
      have hT : TK k = l.map fsg := by
        rw [HTK.out, HN.out]
        show (l.take l.length).map fsg = _
        rw [List.take_length]
      obtain ⟨av, cv, hv, hwb⟩ := HO.out.form
      have hln : (TK k).length = k := HTL.out k (Nat.le_refl _)
      rw [hln] at hv
      subst hv
      by_cases h0 : l = []
      · have hk0 : k = 0 := by rw [HN.out, h0]; rfl
        have HR : Hid (⟨#[45]⟩ = bs (rowT l)) := by show _ = _; rw [h0]; rfl
        subst hk0
        clear hT hwb hln h0
        go_wp2
        go_ret
        exact ⟨ret_str HR.out, HB.out⟩
      · have hk0 : ((k : Int) == 0) = false := beq_eq_false_iff_ne.2 (by have := HN.out; have := List.length_pos_iff.2 h0; omega)
        have hk1 : ¬ k = 0 := by have := HN.out; have := List.length_pos_iff.2 h0; omega
        have hT2 : TK k = rowT l := by rw [hT]; unfold rowT; exact (if_neg h0).symm
        have ho := HO.out
        rw [hT2] at ho
        have hcv := ho.text (rowT_pos l)
        clear hT ho hT2 hwb hln h0
        obtain ⟨R, hR⟩ : ∃ R, R = bs (rowT l) := ⟨_, rfl⟩
        rw [← hR] at hcv
        have HR : Hid (R = bs (rowT l)) := hR
        clear hR
        go_wp2
        go_ret
        exact ⟨ret_str HR.out, HB.out⟩
end Go.Proofs.YtmfpbhjmnadpkaaGreatDoor.Za0
