/- Small texts of mine, one behind the other. -/
import Derived.Deep.RegionWith
import Derived.Test.YtmjmnfegaoegjaaGreatDoorPkLD1
import Derived.Test.YtmjmnfegaoegjaaGreatDoorPkLD2
import Derived.Test.YtmjmnfegaoegjaaGreatDoorPkLD4
/- The walks of the model's words of operators. -/
namespace Go.Proofs.YtmjmnfegaoegjaaGreatDoor.Ss2
open Go.RowKit
open Nd0 Tx0 Ss0 Ss1
open Ws1 (ret_int)
set_option linter.unusedVariables false

def Strs (w : World) (a : Option Addr) (ts : List (List UInt8)) : Prop :=
  ts.length ≤ maxLen ∧ (ts.length = 0 ∨ ∃ b o, a = some ⟨b, o, none⟩ ∧ ∀ i (h : i < ts.length), w.cell? ⟨b, o + i, none⟩ = some (.string (bs ts[i])))
theorem Strs.below {w w' : World} {a : Option Addr} {l : List (List UInt8)} (h : Strs w a l) (k : Below w.heap.size w w') : Strs w' a l := by
  refine ⟨h.1, ?_⟩
  rcases h.2 with h0 | ⟨b, o, rfl, hc⟩
  · exact .inl h0
  · exact .inr ⟨b, o, rfl, fun i hi => by rw [k.cell (lt_of_cell (hc i hi))]; exact hc i hi⟩
theorem strs_lit (W : World) (g : Nat) (l : List (List UInt8)) (T : Nat) (hg : g = W.heap.size) (hl : l.length ≤ maxLen) : Strs (W.alloc (.cells (l.map fun x => .string (bs x)).toArray T)) (some ⟨g, 0, none⟩) l := by
  subst hg
  refine ⟨hl, .inr ⟨W.heap.size, 0, rfl, fun i hi => ?_⟩⟩
  rw [World.cell?_alloc_new]
  simp [hi]
end Go.Proofs.YtmjmnfegaoegjaaGreatDoor.Ss2

/- Draws below greater numbers, and of a text out of a list. -/
namespace Go.Proofs.YtmjmnfegaoegjaaGreatDoor.Dr5
open Go.RowKit
open Nd0 Ss0 Ss2
open Dr0 (Cur Only)
open Dr1 (byte below)
set_option linter.unusedVariables false

set_option maxHeartbeats 1000000 in
theorem belowBig (w : World) (b : Nat) (a : Option Addr) (len cap : Nat) (n : Int) (h0 : 256 < n) (h1 : n ≤ 1048576) (hc : Cur w b a len cap) :
    Calls Tryz.prog 25 #[.pointer (some ⟨b, 0, none⟩), .int .i64 n] w fun e w' => (∃ x : Int, e = .returned (.int .i64 x) ∧ 0 ≤ x ∧ x < n) ∧ Cur w' b a len cap ∧ Only b w w' := by
  have HC : Hid (Cur w b a len cap) := hc
  clear hc
  go_enter Tryz.func25, Tryz.ntmps25
  go_wp2_with fail
  refine (byte _ b a len cap HC.out).mono ?_
  rintro e w1 ⟨⟨x1, rfl, hx10, hx11⟩, hc1, ho1⟩
  have HC1 : Hid (Cur w1 b a len cap) := hc1
  have HO1 : Hid (Only b w w1) := ho1
  clear hc1 ho1
  go_wp2_with fail
  refine (byte _ b a len cap HC1.out).mono ?_
  rintro e w2 ⟨⟨x2, rfl, hx20, hx21⟩, hc2, ho2⟩
  have HC2 : Hid (Cur w2 b a len cap) := hc2
  have HO2 : Hid (Only b w w2) := HO1.out.trans ho2
  clear hc2 ho2
  go_wp2_with fail
  refine (byte _ b a len cap HC2.out).mono ?_
  rintro e w3 ⟨⟨x3, rfl, hx30, hx31⟩, hc3, ho3⟩
  have HC3 : Hid (Cur w3 b a len cap) := hc3
  have HO3 : Hid (Only b w w3) := HO2.out.trans ho3
  clear hc3 ho3
  go_wp2_with fail
  refine (byte _ b a len cap HC3.out).mono ?_
  rintro e w4 ⟨⟨x4, rfl, hx40, hx41⟩, hc4, ho4⟩
  have HC4 : Hid (Cur w4 b a len cap) := hc4
  have HO4 : Hid (Only b w w4) := HO3.out.trans ho4
  clear hc4 ho4
  go_wp2
  go_ret
  exact ⟨⟨_, rfl, Int.emod_nonneg _ (by omega), Int.emod_lt_of_pos _ (by omega)⟩, HC4.out, HO4.out⟩
theorem belowAny (w : World) (b : Nat) (a : Option Addr) (len cap : Nat) (n : Int) (h0 : 1 ≤ n) (h1 : n ≤ 1048576) (hc : Cur w b a len cap) :
    Calls Tryz.prog 25 #[.pointer (some ⟨b, 0, none⟩), .int .i64 n] w fun e w' => (∃ x : Int, e = .returned (.int .i64 x) ∧ 0 ≤ x ∧ x < n) ∧ Cur w' b a len cap ∧ Only b w w' := by
  by_cases h : n ≤ 256
  · exact below w b a len cap n h0 h hc
  · exact belowBig w b a len cap n (by omega) h1 hc

set_option maxHeartbeats 1000000 in
theorem pickStr (w : World) (b : Nat) (a : Option Addr) (len cap : Nat) (g : Nat) (l : List (List UInt8)) (c : Nat) (h0 : 1 ≤ l.length) (h1 : l.length ≤ 256) (hg : g ≠ b) (hi : Strs w (some ⟨g, 0, none⟩) l) (hc : Cur w b a len cap) :
    Calls Tryz.prog 55 #[.pointer (some ⟨b, 0, none⟩), .slice (some ⟨g, 0, none⟩) l.length c] w fun e w' => (∃ x ∈ l, e = .returned (.string (bs x))) ∧ Cur w' b a len cap ∧ Only b w w' := by
  have HC : Hid (Cur w b a len cap) := hc
  have HI : Hid (Strs w (some ⟨g, 0, none⟩) l) := hi
  clear hc hi
  go_enter Tryz.func55, Tryz.ntmps55
  go_wp2_with fail
  refine (below _ b a len cap _ (by omega) (by omega) HC.out).mono ?_
  rintro e w' ⟨⟨x, rfl, hx0, hx1⟩, hc', ho'⟩
  have HC' : Hid (Cur w' b a len cap) := hc'
  have HO' : Hid (Only b w w') := ho'
  obtain ⟨k, rfl⟩ := Int.eq_ofNat_of_zero_le hx0
  have hkl : k < l.length := by omega
  rcases HI.out.2 with h | ⟨b', o', he, hcl⟩
  · omega
  cases he
  have q0 : w'.cell? ⟨g, k, none⟩ = some (.string (bs l[k])) := by
    have := hcl k hkl
    rw [Nat.zero_add] at this
    rw [ho'.cell (p := ⟨g, k, none⟩) (lt_of_cell this) hg]; exact this
  clear hc' ho' hcl
  have HM : Hid (l[k] ∈ l) := List.getElem_mem hkl
  generalize l[k] = y at q0 HM
  go_wp2
  go_ret
  exact ⟨⟨y, HM.out, rfl⟩, HC'.out, HO'.out⟩

end Go.Proofs.YtmjmnfegaoegjaaGreatDoor.Dr5

/- Flags as a text: both sides' RowText. -/
namespace Go.Proofs.YtmjmnfegaoegjaaGreatDoor.Za0
open Go.RowKit
open Ap9
open Nd0 (Kept lt_of_cell)
open Nd6 (Bools)
open Ss0 (bs bs_size ret_str)
set_option linter.unusedVariables false

def fsg (b : Bool) : UInt8 := if b = true then 97 else 115
def rowT (l : List Bool) : List UInt8 := if l = [] then [45] else l.map fsg
theorem rowT_pos (l : List Bool) : 1 ≤ (rowT l).length := by
  unfold rowT
  split
  · exact Nat.le_refl _
  · rename_i h
    rw [List.length_map]
    exact List.length_pos_iff.2 h
theorem rowT_le (l : List Bool) : (rowT l).length ≤ l.length + 1 := by
  unfold rowT
  split
  · simp
  · rw [List.length_map]; omega

set_option maxRecDepth 100000 in
set_option maxHeartbeats 2000000 in
theorem iRowText (w : World) (a : Option Addr) (l : List Bool) (c : Nat) (h : Bools w a l) (hl : l.length ≤ 1048576) :
    Calls Tryz.prog 20 #[.slice a l.length c] w fun e w' => e = .returned (.string (bs (rowT l))) ∧ Below w.heap.size w w' := by
  have H : Hid (Bools w a l) := h
  clear h
  by_cases h0 : l = []
  · subst h0
    go_enter Tryz.func20, Tryz.ntmps20
    go_wp2
    go_ret
    exact ⟨rfl, Below.refl _ _⟩
  have hlp := List.length_pos_iff.2 h0
  have HV : Hid (rowT l = l.map fsg) := by show _ = _; unfold rowT; exact if_neg h0
  obtain ⟨n, hn⟩ : ∃ n, n = l.length := ⟨_, rfl⟩
  rw [← hn]
  have hn0 : ((n : Int) == 0) = false := beq_eq_false_iff_ne.2 (by omega)
  have hn1 : ¬ n = 0 := by omega
  have hn2 : n ≤ 1048576 := by omega
  have HN : Hid (n = l.length) := hn
  obtain ⟨TK, hTK⟩ : ∃ TK : Nat → List UInt8, TK = fun k => (l.take k).map fsg := ⟨_, rfl⟩
  have HTK : Hid (TK = fun k => (l.take k).map fsg) := hTK
  have HTL : Hid (∀ k, k ≤ n → (TK k).length = k) := by intro k hk; rw [hTK]; simp; omega
  have HT0 : Hid (TK 0 = []) := by show _ = _; rw [hTK]; rfl
  clear hn h0 hl hlp hTK
  go_enter Tryz.func20, Tryz.ntmps20
  go_wp2
  go_loopw [3, 12] (fun v i wr => ∃ k : Nat, k ≤ n ∧ i = .int .i64 k ∧ Owu wr w.heap.size v (TK k) ∧ Below w.heap.size w wr) (fun _ i _ => n - (intOf i).toNat)
  case atStart => exact ⟨0, Nat.zero_le _, rfl, by rw [HT0.out]; exact Owu.lit _ _ (Nat.le_refl _), (Below.refl _ _).alloc (Nat.le_refl _) _⟩
  case round =>
    obtain ⟨k, hk, rfl, ho, hbr⟩ := hrel
    have HO : Hid (Owu wr w.heap.size u3 (TK k)) := ho
    have HB : Hid (Below w.heap.size w wr) := hbr
    clear ho hbr
    by_cases hlt : k < n
    · have hlz : (k : Int) < (n : Int) := by omega
      have hkl : k < l.length := by have := HN.out; omega
      obtain ⟨b, o, ha, hc⟩ : ∃ b o, a = some ⟨b, o, none⟩ ∧ wr.cell? ⟨b, o + k, none⟩ = some (.bool l[k]) := by
        rcases (H.out.below HB.out).2 with e | ⟨b, o, e, hc⟩
        · omega
        · exact ⟨b, o, e, hc k hkl⟩
      subst ha
      have hbl := lt_of_cell hc
      have HNX : Hid (TK (k + 1) = TK k ++ [fsg l[k]]) := by
        show _ = _
        rw [HTK.out]
        show (l.take (k + 1)).map fsg = (l.take k).map fsg ++ [fsg l[k]]
        rw [List.take_succ_eq_append_getElem hkl, List.map_append]
        rfl
      generalize l[k] = x at *
      cases x
      · go_wp2_with (at_builtin; go_must (refine app_byte _ rfl _ _ rfl w.heap.size u3 (TK k) (fsg false) _ rfl rfl rfl HO.out HB.out.size (by rw [HTL.out k (by omega)]; omega) ?_; intro g5 cp5 w5 ho5 hk5 hg5; have HO5 : Hid (Owu w5 w.heap.size (.slice (some ⟨g5, 0, none⟩) ((TK k).length + 1) cp5) (TK k ++ [fsg false])) := ho5; have HK5 : Hid (Kept (fun i => u3.ownBlock = some i) wr w5) := hk5; clear ho5 hk5 hg5))
        go_roundw
        case rel => exact ⟨k + 1, by omega, by go_num, by rw [HNX.out]; exact HO5.out, HB.out.trans (HK5.out.below (fun i hi => (HO.out.lt i hi).1) HB.out.size)⟩
        case measure => simp [intOf]; omega
      · go_wp2_with (at_builtin; go_must (refine app_byte _ rfl _ _ rfl w.heap.size u3 (TK k) (fsg true) _ rfl rfl rfl HO.out HB.out.size (by rw [HTL.out k (by omega)]; omega) ?_; intro g5 cp5 w5 ho5 hk5 hg5; have HO5 : Hid (Owu w5 w.heap.size (.slice (some ⟨g5, 0, none⟩) ((TK k).length + 1) cp5) (TK k ++ [fsg true])) := ho5; have HK5 : Hid (Kept (fun i => u3.ownBlock = some i) wr w5) := hk5; clear ho5 hk5 hg5))
        go_roundw
        case rel => exact ⟨k + 1, by omega, by go_num, by rw [HNX.out]; exact HO5.out, HB.out.trans (HK5.out.below (fun i hi => (HO.out.lt i hi).1) HB.out.size)⟩
        case measure => simp [intOf]; omega
    · have hlz : ¬ (k : Int) < (n : Int) := by omega
      have e : k = n := by omega
      subst e
      have hT : TK k = rowT l := by
        rw [HV.out, HTK.out, HN.out]
        show (l.take l.length).map fsg = _
        rw [List.take_length]
      have ho := HO.out
      rw [hT] at ho
      have hcv := ho.text (rowT_pos l)
      clear hT ho
      obtain ⟨R, hR⟩ : ∃ R, R = bs (rowT l) := ⟨_, rfl⟩
      rw [← hR] at hcv
      have HR : Hid (R = bs (rowT l)) := hR
      clear hR
      go_wp2
      go_ret
      exact ⟨ret_str HR.out, HB.out⟩

set_option maxRecDepth 100000 in
set_option maxHeartbeats 2000000 in
theorem sRowText (w : World) (a : Option Addr) (l : List Bool) (c : Nat) (h : Bools w a l) (hl : l.length ≤ 1048576) :
    Calls Tryz.prog 36 #[.slice a l.length c] w fun e w' => e = .returned (.string (bs (rowT l))) ∧ Below w.heap.size w w' := by
  have H : Hid (Bools w a l) := h
  clear h
  obtain ⟨n, hn⟩ : ∃ n, n = l.length := ⟨_, rfl⟩
  rw [← hn]
  have hn2 : n ≤ 1048576 := by omega
  have HN : Hid (n = l.length) := hn
  obtain ⟨TK, hTK⟩ : ∃ TK : Nat → List UInt8, TK = fun k => (l.take k).map fsg := ⟨_, rfl⟩
  have HTK : Hid (TK = fun k => (l.take k).map fsg) := hTK
  have HTL : Hid (∀ k, k ≤ n → (TK k).length = k) := by intro k hk; rw [hTK]; simp; omega
  have HT0 : Hid (TK 0 = []) := by show _ = _; rw [hTK]; rfl
  clear hn hl hTK
  go_enter Tryz.func36, Tryz.ntmps36
  go_wp2
  go_loopw [3, 4] (fun v i wr => ∃ k : Nat, k ≤ n ∧ i = .int .i64 k ∧ Owu wr w.heap.size v (TK k) ∧ Below w.heap.size w wr) (fun _ i _ => n - (intOf i).toNat)
  case atStart => exact ⟨0, Nat.zero_le _, rfl, by rw [HT0.out]; exact Owu.lit _ _ (Nat.le_refl _), (Below.refl _ _).alloc (Nat.le_refl _) _⟩
  case round =>
    obtain ⟨k, hk, rfl, ho, hbr⟩ := hrel
    have HO : Hid (Owu wr w.heap.size u3 (TK k)) := ho
    have HB : Hid (Below w.heap.size w wr) := hbr
    clear ho hbr
    by_cases hlt : k < n
    · have hlz : (k : Int) < (n : Int) := by omega
      have hkl : k < l.length := by have := HN.out; omega
      obtain ⟨b, o, ha, hc⟩ : ∃ b o, a = some ⟨b, o, none⟩ ∧ wr.cell? ⟨b, o + k, none⟩ = some (.bool l[k]) := by
        rcases (H.out.below HB.out).2 with e | ⟨b, o, e, hc⟩
        · omega
        · exact ⟨b, o, e, hc k hkl⟩
      subst ha
      have hbl := lt_of_cell hc
      have HNX : Hid (TK (k + 1) = TK k ++ [fsg l[k]]) := by
        show _ = _
        rw [HTK.out]
        show (l.take (k + 1)).map fsg = (l.take k).map fsg ++ [fsg l[k]]
        rw [List.take_succ_eq_append_getElem hkl, List.map_append]
        rfl
      generalize l[k] = x at *
      cases x
      · go_wp2_with (at_builtin; go_must (refine app_byte _ rfl _ _ rfl w.heap.size u3 (TK k) (fsg false) _ rfl rfl rfl HO.out HB.out.size (by rw [HTL.out k (by omega)]; omega) ?_; intro g5 cp5 w5 ho5 hk5 hg5; have HO5 : Hid (Owu w5 w.heap.size (.slice (some ⟨g5, 0, none⟩) ((TK k).length + 1) cp5) (TK k ++ [fsg false])) := ho5; have HK5 : Hid (Kept (fun i => u3.ownBlock = some i) wr w5) := hk5; clear ho5 hk5 hg5))
        go_roundw
        case rel => exact ⟨k + 1, by omega, by go_num, by rw [HNX.out]; exact HO5.out, HB.out.trans (HK5.out.below (fun i hi => (HO.out.lt i hi).1) HB.out.size)⟩
        case measure => simp [intOf]; omega
      · go_wp2_with (at_builtin; go_must (refine app_byte _ rfl _ _ rfl w.heap.size u3 (TK k) (fsg true) _ rfl rfl rfl HO.out HB.out.size (by rw [HTL.out k (by omega)]; omega) ?_; intro g5 cp5 w5 ho5 hk5 hg5; have HO5 : Hid (Owu w5 w.heap.size (.slice (some ⟨g5, 0, none⟩) ((TK k).length + 1) cp5) (TK k ++ [fsg true])) := ho5; have HK5 : Hid (Kept (fun i => u3.ownBlock = some i) wr w5) := hk5; clear ho5 hk5 hg5))
        go_roundw
        case rel => exact ⟨k + 1, by omega, by go_num, by rw [HNX.out]; exact HO5.out, HB.out.trans (HK5.out.below (fun i hi => (HO.out.lt i hi).1) HB.out.size)⟩
        case measure => simp [intOf]; omega
    · have hlz : ¬ (k : Int) < (n : Int) := by omega
      have e : k = n := by omega
      subst e
      have hT : TK k = l.map fsg := by
        rw [HTK.out, HN.out]
        show (l.take l.length).map fsg = _
        rw [List.take_length]
      obtain ⟨av, cv, hv, hwb⟩ := HO.out.form
      have hln : (TK k).length = k := HTL.out k (Nat.le_refl _)
      rw [hln] at hv
      subst hv
      by_cases h0 : l = []
      · have hk0 : k = 0 := by rw [HN.out, h0]; rfl
        have HR : Hid (⟨#[45]⟩ = bs (rowT l)) := by show _ = _; rw [h0]; rfl
        subst hk0
        clear hT hwb hln h0
        go_wp2
        go_ret
        exact ⟨ret_str HR.out, HB.out⟩
      · have hk0 : ((k : Int) == 0) = false := beq_eq_false_iff_ne.2 (by have := HN.out; have := List.length_pos_iff.2 h0; omega)
        have hk1 : ¬ k = 0 := by have := HN.out; have := List.length_pos_iff.2 h0; omega
        have hT2 : TK k = rowT l := by rw [hT]; unfold rowT; exact (if_neg h0).symm
        have ho := HO.out
        rw [hT2] at ho
        have hcv := ho.text (rowT_pos l)
        clear hT ho hT2 hwb hln h0
        obtain ⟨R, hR⟩ : ∃ R, R = bs (rowT l) := ⟨_, rfl⟩
        rw [← hR] at hcv
        have HR : Hid (R = bs (rowT l)) := hR
        clear hR
        go_wp2
        go_ret
        exact ⟨ret_str HR.out, HB.out⟩
end Go.Proofs.YtmjmnfegaoegjaaGreatDoor.Za0
