/- A row read from its text: both sides' ReadRow. Written by tools/mkza1.py. -/
import Derived.Test.YtmjmnfegaoegjaaGreatDoorPkLD24
import Derived.Test.YtmjmnfegaoegjaaGreatDoorPkLD1
namespace Go.Proofs.YtmjmnfegaoegjaaGreatDoor.Za1
open Go.RowKit
open Ap1 Za0
open Nd0 (Kept lt_of_cell)
open Ss1 (tl tl_length tl_take tl_get)
open Tc2 (sInT sInF)
set_option linter.unusedVariables false

def rrB (s : List UInt8) : Bool := decide (s = [45] ∨ (1 ≤ s.length ∧ s.length ≤ 12 ∧ ∀ c ∈ s, c = 97 ∨ c = 115))
def rrL (s : List UInt8) : List Bool := if s ≠ [45] ∧ rrB s = true then s.map (fun x => x == 97) else []
theorem rrL_bad {s : List UInt8} (h : rrB s = false) : rrL s = [] := by
  unfold rrL
  rw [h]
  simp
theorem rr_len {s : List UInt8} (h0 : s ≠ [45]) (h : ¬ (1 ≤ s.length ∧ s.length ≤ 12)) : rrB s = false := by
  unfold rrB
  refine decide_eq_false ?_
  rintro (e | ⟨h1, h2, _⟩)
  · exact h0 e
  · exact h ⟨h1, h2⟩
theorem rr_good {s : List UInt8} (h0 : s ≠ [45]) (h1 : 1 ≤ s.length) (h2 : s.length ≤ 12) (h : ∀ c ∈ s, c = 97 ∨ c = 115) : rrB s = true ∧ rrL s = s.map fun x => x == 97 := by
  have e : rrB s = true := decide_eq_true (.inr ⟨h1, h2, h⟩)
  refine ⟨e, ?_⟩
  unfold rrL
  exact if_pos ⟨h0, e⟩
theorem rr_bad {s : List UInt8} (h0 : s ≠ [45]) {c : UInt8} (hc : c ∈ s) (h1 : c ≠ 97) (h2 : c ≠ 115) : rrB s = false ∧ rrL s = [] := by
  have e : rrB s = false := decide_eq_false (by
    rintro (e | ⟨_, _, h⟩)
    · exact h0 e
    · rcases h c hc with e | e
      · exact h1 e
      · exact h2 e)
  exact ⟨e, rrL_bad e⟩
theorem rr_row (l : List Bool) (h : l.length ≤ 12) : rrB (rowT l) = true ∧ rrL (rowT l) = l := by
  by_cases h0 : l = []
  · subst h0; exact ⟨rfl, rfl⟩
  · have e : rowT l = l.map fsg := if_neg h0
    have hp := List.length_pos_iff.2 h0
    have hne : l.map fsg ≠ [45] := by
      intro e
      obtain ⟨b, r, rfl⟩ := List.exists_cons_of_ne_nil h0
      rw [List.map_cons] at e
      have := (List.cons.inj e).1
      cases b <;> cases this
    rw [e]
    obtain ⟨h1, h2⟩ := rr_good hne (by rw [List.length_map]; exact hp) (by rw [List.length_map]; exact h) (fun c hc => by
      obtain ⟨b, _, rfl⟩ := List.mem_map.1 hc
      cases b
      · exact .inr rfl
      · exact .inl rfl)
    refine ⟨h1, ?_⟩
    rw [h2, List.map_map]
    have : ((fun x => x == 97) ∘ fsg) = id := by funext b; cases b <;> rfl
    rw [this, List.map_id]

set_option maxRecDepth 100000 in
set_option maxHeartbeats 4000000 in
theorem iReadRow (S : ByteArray) (w : World) (hS : S.size ≤ 1048576) :
    Calls Tryz.prog 19 #[.string S] w fun e w' => ∃ v, e = .returned (.tuple #[v, .bool (rrB (tl S))]) ∧ Owb w' w.heap.size v (rrL (tl S)) ∧ Below w.heap.size w w' := by
  have hlen := tl_length S
  by_cases h45 : tl S = [45]
  · have hq : (S.toList == [45]) = true := Ss1.eql_true h45
    have HRL : Hid (rrL (tl S) = []) := by show _ = _; rw [h45]; rfl
    have HRB : Hid (rrB (tl S) = true) := by show _ = _; rw [h45]; rfl
    clear h45 hlen
    go_enter Tryz.func19, Tryz.ntmps19
    go_wp2
    go_ret2
    exact ⟨_, by rw [HRB.out]; rfl, by rw [HRL.out]; exact Owb.lit _ _ (Nat.le_refl _), (Below.refl _ _).alloc (Nat.le_refl _) _⟩
  have hq : (S.toList == [45]) = false := Ss1.eql_false h45
  by_cases hz : 1 ≤ S.size ∧ S.size ≤ 12
  rotate_left
  · have HRB : Hid (rrB (tl S) = false) := rr_len h45 (by rw [hlen]; exact hz)
    have HRL : Hid (rrL (tl S) = []) := rrL_bad HRB.out
    have hin : ¬ ((1 : Int) ≤ (S.size : Int) ∧ (S.size : Int) ≤ 12) := by omega
    by_cases h0 : S.size = 0
    · have hq0 : (S.toList == []) = true := Ss1.eql_true (List.eq_nil_of_length_eq_zero (by rw [hlen]; exact h0))
      clear h45 hlen hz h0
      go_enter Tryz.func19, Tryz.ntmps19
      go_wp2
      go_ret2
      exact ⟨_, by rw [HRB.out]; rfl, by rw [HRL.out]; exact Owb.lit _ _ (Nat.le_refl _), (Below.refl _ _).alloc (Nat.le_refl _) _⟩
    · have hq0 : (S.toList == []) = false := Ss1.eql_false (fun e => h0 (by rw [← hlen, e]; rfl))
      have hq1 : (12 : Int) < (S.size : Int) := by omega
      clear h45 hlen hz h0
      go_enter Tryz.func19, Tryz.ntmps19
      go_wp2
      go_ret2
      exact ⟨_, by rw [HRB.out]; rfl, by rw [HRL.out]; exact Owb.lit _ _ (Nat.le_refl _), (Below.refl _ _).alloc (Nat.le_refl _) _⟩
  have hin : (1 : Int) ≤ (S.size : Int) ∧ (S.size : Int) ≤ 12 := by omega
  have hq0 : (S.toList == []) = false := Ss1.eql_false (fun e => by rw [e] at hlen; simp at hlen; omega)
  have hq1 : ¬ (12 : Int) < (S.size : Int) := by omega
  have hs12 : S.size ≤ 12 := hz.2
  have HRT : Hid ((∀ c ∈ tl S, c = 97 ∨ c = 115) → rrB (tl S) = true ∧ rrL (tl S) = (tl S).map fun x => x == 97) := fun h => rr_good h45 (by omega) (by omega) h
  have HRF : Hid (∀ c ∈ tl S, c ≠ 97 → c ≠ 115 → rrB (tl S) = false ∧ rrL (tl S) = []) := fun c hc h1 h2 => rr_bad h45 hc h1 h2
  clear h45 hz
  obtain ⟨TK, hTK⟩ : ∃ TK : Nat → List Bool, TK = fun k => ((tl S).take k).map fun x => x == 97 := ⟨_, rfl⟩
  have HTK : Hid (TK = fun k => ((tl S).take k).map fun x => x == 97) := hTK
  have HTL : Hid (∀ k, k ≤ S.size → (TK k).length = k) := by intro k hk; rw [hTK]; simp; omega
  have HT0 : Hid (TK 0 = []) := by show _ = _; rw [hTK]; rfl
  have HLEN : Hid ((tl S).length = S.size) := hlen
  clear hTK hlen
  go_enter Tryz.func19, Tryz.ntmps19
  go_wp2
  go_loopw [4, 20] (fun v i wr => ∃ k : Nat, k ≤ S.size ∧ i = .int .i64 k ∧ Owb wr w.heap.size v (TK k) ∧ Below w.heap.size w wr ∧ ∀ c ∈ (tl S).take k, c = 97 ∨ c = 115) (fun _ i _ => S.size - (intOf i).toNat)
  case atStart => exact ⟨0, Nat.zero_le _, rfl, by rw [HT0.out]; exact Owb.lit _ _ (Nat.le_refl _), (Below.refl _ _).alloc (Nat.le_refl _) _, fun c hc => by simp at hc⟩
  case round =>
    obtain ⟨k, hk, rfl, ho, hbr, hg⟩ := hrel
    have HO : Hid (Owb wr w.heap.size u4 (TK k)) := ho
    have HB : Hid (Below w.heap.size w wr) := hbr
    have HG : Hid (∀ c ∈ (tl S).take k, c = 97 ∨ c = 115) := hg
    clear ho hbr hg
    by_cases hlt : k < S.size
    · have hlz : (k : Int) < (S.size : Int) := by omega
      have HX : Hid ((tl S).take (k + 1) = (tl S).take k ++ [S[k]]) := tl_take S k hlt
      have HM : Hid (S[k] ∈ tl S) := by
        show _ ∈ _
        rw [tl_get S k hlt]; exact List.getElem_mem _
      have HNX : Hid (TK (k + 1) = TK k ++ [S[k] == 97]) := by
        show _ = _
        rw [HTK.out]
        show ((tl S).take (k + 1)).map (fun x => x == 97) = ((tl S).take k).map (fun x => x == 97) ++ [_]
        rw [HX.out, List.map_append]
        rfl
      by_cases h8 : S[k] = 97
      · have b8 : ((S[k].toNat : Int) != 97) = false := by rw [h8]; rfl
        have c8 : ((S[k].toNat : Int) == 97) = true := by rw [h8]; rfl
        have H8 : Hid (S[k] = 97 ∨ S[k] = 115) := .inl h8
        have HE : Hid ((S[k] == 97) = true) := by show _ = _; rw [h8]; rfl
        rw [HE.out] at HNX
        clear h8
        go_wp2_with (at_builtin; go_must (refine app_bool _ rfl _ _ rfl w.heap.size u4 (TK k) true rfl rfl HO.out HB.out.size (by rw [HTL.out k hk]; omega) ?_; intro g5 cp5 w5 ho5 hk5 hg5; have HO5 : Hid (Owb w5 w.heap.size (.slice (some ⟨g5, 0, none⟩) ((TK k).length + 1) cp5) (TK k ++ [true])) := ho5; have HK5 : Hid (Kept (fun i => u4.ownBlock = some i) wr w5) := hk5; clear ho5 hk5 hg5))
        go_roundw
        case rel => exact ⟨k + 1, by omega, by go_num, by rw [HNX.out]; exact HO5.out, HB.out.trans (HK5.out.below (fun i hi => (HO.out.lt i hi).1) HB.out.size), fun c hc => by
          rw [HX.out] at hc
          rcases List.mem_append.1 hc with h | h
          · exact HG.out c h
          · rw [List.mem_singleton.1 h]; exact H8.out⟩
        case measure => simp [intOf]; omega
      · have b8 : ((S[k].toNat : Int) != 97) = true := bne_iff_ne.2 fun e => h8 (UInt8.toNat_inj.1 (by have : (97 : UInt8).toNat = 97 := rfl; omega))
        have c8 : ((S[k].toNat : Int) == 97) = false := beq_eq_false_iff_ne.2 fun e => h8 (UInt8.toNat_inj.1 (by have : (97 : UInt8).toNat = 97 := rfl; omega))
        by_cases h9 : S[k] = 115
        · have b9 : ((S[k].toNat : Int) != 115) = false := by rw [h9]; rfl
          have H8 : Hid (S[k] = 97 ∨ S[k] = 115) := .inr h9
          have HE : Hid ((S[k] == 97) = false) := beq_eq_false_iff_ne.2 h8
          rw [HE.out] at HNX
          clear h8 h9
          go_wp2_with (at_builtin; go_must (refine app_bool _ rfl _ _ rfl w.heap.size u4 (TK k) false rfl rfl HO.out HB.out.size (by rw [HTL.out k hk]; omega) ?_; intro g5 cp5 w5 ho5 hk5 hg5; have HO5 : Hid (Owb w5 w.heap.size (.slice (some ⟨g5, 0, none⟩) ((TK k).length + 1) cp5) (TK k ++ [false])) := ho5; have HK5 : Hid (Kept (fun i => u4.ownBlock = some i) wr w5) := hk5; clear ho5 hk5 hg5))
          go_roundw
          case rel => exact ⟨k + 1, by omega, by go_num, by rw [HNX.out]; exact HO5.out, HB.out.trans (HK5.out.below (fun i hi => (HO.out.lt i hi).1) HB.out.size), fun c hc => by
            rw [HX.out] at hc
            rcases List.mem_append.1 hc with h | h
            · exact HG.out c h
            · rw [List.mem_singleton.1 h]; exact H8.out⟩
          case measure => simp [intOf]; omega
        · have b9 : ((S[k].toNat : Int) != 115) = true := bne_iff_ne.2 fun e => h9 (UInt8.toNat_inj.1 (by have : (115 : UInt8).toNat = 115 := rfl; omega))
          have HF : Hid (rrB (tl S) = false ∧ rrL (tl S) = []) := HRF.out _ HM.out h8 h9
          clear h8 h9
          go_wp2
          go_ret2
          exact ⟨_, by rw [HF.out.1]; rfl, by rw [HF.out.2]; exact Owb.lit _ _ HB.out.size, HB.out.alloc HB.out.size _⟩
    · have hlz : ¬ (k : Int) < (S.size : Int) := by omega
      have HF : Hid (rrB (tl S) = true ∧ rrL (tl S) = TK k) := by
        show _ ∧ _
        have e : (tl S).take k = tl S := List.take_of_length_le (by have := HLEN.out; omega)
        have hg := HG.out
        rw [e] at hg
        obtain ⟨h1, h2⟩ := HRT.out hg
        refine ⟨h1, ?_⟩
        rw [h2, HTK.out]
        show _ = ((tl S).take k).map fun x => x == 97
        rw [e]
      go_wp2
      go_ret2
      exact ⟨_, by rw [HF.out.1]; rfl, by rw [HF.out.2]; exact HO.out, HB.out⟩

set_option maxRecDepth 100000 in
set_option maxHeartbeats 4000000 in
theorem sReadRow (S : ByteArray) (w : World) (hS : S.size ≤ 1048576) :
    Calls Tryz.prog 58 #[.string S] w fun e w' => ∃ v, e = .returned (.tuple #[v, .bool (rrB (tl S))]) ∧ Owb w' w.heap.size v (rrL (tl S)) ∧ Below w.heap.size w w' := by
  have hlen := tl_length S
  by_cases h45 : tl S = [45]
  · have hq : (S.toList == [45]) = true := Ss1.eql_true h45
    have HRL : Hid (rrL (tl S) = []) := by show _ = _; rw [h45]; rfl
    have HRB : Hid (rrB (tl S) = true) := by show _ = _; rw [h45]; rfl
    clear h45 hlen
    go_enter Tryz.func58, Tryz.ntmps58
    go_wp2
    go_ret2
    exact ⟨_, by rw [HRB.out]; rfl, by rw [HRL.out]; exact Owb.lit _ _ (Nat.le_refl _), (Below.refl _ _).alloc (Nat.le_refl _) _⟩
  have hq : (S.toList == [45]) = false := Ss1.eql_false h45
  by_cases hz : 1 ≤ S.size ∧ S.size ≤ 12
  rotate_left
  · have HRB : Hid (rrB (tl S) = false) := rr_len h45 (by rw [hlen]; exact hz)
    have HRL : Hid (rrL (tl S) = []) := rrL_bad HRB.out
    have hin : ¬ ((1 : Int) ≤ (S.size : Int) ∧ (S.size : Int) ≤ 12) := by omega
    by_cases h0 : S.size = 0
    · have hq0 : (S.toList == []) = true := Ss1.eql_true (List.eq_nil_of_length_eq_zero (by rw [hlen]; exact h0))
      clear h45 hlen hz h0
      go_enter Tryz.func58, Tryz.ntmps58
      go_wp2_with (go_at_call 32; refine (sInF _ hin).mono ?_; rintro e w2 ⟨rfl, hw2⟩; have hw2' := hw2.symm; clear hw2; subst hw2')
      go_ret2
      exact ⟨_, by rw [HRB.out]; rfl, by rw [HRL.out]; exact Owb.lit _ _ (Nat.le_refl _), (Below.refl _ _).alloc (Nat.le_refl _) _⟩
    · have hq0 : (S.toList == []) = false := Ss1.eql_false (fun e => h0 (by rw [← hlen, e]; rfl))
      have hq1 : (12 : Int) < (S.size : Int) := by omega
      clear h45 hlen hz h0
      go_enter Tryz.func58, Tryz.ntmps58
      go_wp2_with (go_at_call 32; refine (sInF _ hin).mono ?_; rintro e w2 ⟨rfl, hw2⟩; have hw2' := hw2.symm; clear hw2; subst hw2')
      go_ret2
      exact ⟨_, by rw [HRB.out]; rfl, by rw [HRL.out]; exact Owb.lit _ _ (Nat.le_refl _), (Below.refl _ _).alloc (Nat.le_refl _) _⟩
  have hin : (1 : Int) ≤ (S.size : Int) ∧ (S.size : Int) ≤ 12 := by omega
  have hq0 : (S.toList == []) = false := Ss1.eql_false (fun e => by rw [e] at hlen; simp at hlen; omega)
  have hq1 : ¬ (12 : Int) < (S.size : Int) := by omega
  have hs12 : S.size ≤ 12 := hz.2
  have HRT : Hid ((∀ c ∈ tl S, c = 97 ∨ c = 115) → rrB (tl S) = true ∧ rrL (tl S) = (tl S).map fun x => x == 97) := fun h => rr_good h45 (by omega) (by omega) h
  have HRF : Hid (∀ c ∈ tl S, c ≠ 97 → c ≠ 115 → rrB (tl S) = false ∧ rrL (tl S) = []) := fun c hc h1 h2 => rr_bad h45 hc h1 h2
  clear h45 hz
  obtain ⟨TK, hTK⟩ : ∃ TK : Nat → List Bool, TK = fun k => ((tl S).take k).map fun x => x == 97 := ⟨_, rfl⟩
  have HTK : Hid (TK = fun k => ((tl S).take k).map fun x => x == 97) := hTK
  have HTL : Hid (∀ k, k ≤ S.size → (TK k).length = k) := by intro k hk; rw [hTK]; simp; omega
  have HT0 : Hid (TK 0 = []) := by show _ = _; rw [hTK]; rfl
  have HLEN : Hid ((tl S).length = S.size) := hlen
  clear hTK hlen
  go_enter Tryz.func58, Tryz.ntmps58
  go_wp2_with (go_at_call 32; refine (sInT _ hin).mono ?_; rintro e w2 ⟨rfl, hw2⟩; have hw2' := hw2.symm; clear hw2; subst hw2')
  go_loopw [4, 5] (fun v i wr => ∃ k : Nat, k ≤ S.size ∧ i = .int .i64 k ∧ Owb wr w.heap.size v (TK k) ∧ Below w.heap.size w wr ∧ ∀ c ∈ (tl S).take k, c = 97 ∨ c = 115) (fun _ i _ => S.size - (intOf i).toNat)
  case atStart => exact ⟨0, Nat.zero_le _, rfl, by rw [HT0.out]; exact Owb.lit _ _ (Nat.le_refl _), (Below.refl _ _).alloc (Nat.le_refl _) _, fun c hc => by simp at hc⟩
  case round =>
    obtain ⟨k, hk, rfl, ho, hbr, hg⟩ := hrel
    have HO : Hid (Owb wr w.heap.size u4 (TK k)) := ho
    have HB : Hid (Below w.heap.size w wr) := hbr
    have HG : Hid (∀ c ∈ (tl S).take k, c = 97 ∨ c = 115) := hg
    clear ho hbr hg
    by_cases hlt : k < S.size
    · have hlz : (k : Int) < (S.size : Int) := by omega
      have HX : Hid ((tl S).take (k + 1) = (tl S).take k ++ [S[k]]) := tl_take S k hlt
      have HM : Hid (S[k] ∈ tl S) := by
        show _ ∈ _
        rw [tl_get S k hlt]; exact List.getElem_mem _
      have HNX : Hid (TK (k + 1) = TK k ++ [S[k] == 97]) := by
        show _ = _
        rw [HTK.out]
        show ((tl S).take (k + 1)).map (fun x => x == 97) = ((tl S).take k).map (fun x => x == 97) ++ [_]
        rw [HX.out, List.map_append]
        rfl
      by_cases h8 : S[k] = 97
      · have b8 : ((S[k].toNat : Int) != 97) = false := by rw [h8]; rfl
        have c8 : ((S[k].toNat : Int) == 97) = true := by rw [h8]; rfl
        have H8 : Hid (S[k] = 97 ∨ S[k] = 115) := .inl h8
        have HE : Hid ((S[k] == 97) = true) := by show _ = _; rw [h8]; rfl
        rw [HE.out] at HNX
        clear h8
        go_wp2_with (at_builtin; go_must (refine app_bool _ rfl _ _ rfl w.heap.size u4 (TK k) true rfl rfl HO.out HB.out.size (by rw [HTL.out k hk]; omega) ?_; intro g5 cp5 w5 ho5 hk5 hg5; have HO5 : Hid (Owb w5 w.heap.size (.slice (some ⟨g5, 0, none⟩) ((TK k).length + 1) cp5) (TK k ++ [true])) := ho5; have HK5 : Hid (Kept (fun i => u4.ownBlock = some i) wr w5) := hk5; clear ho5 hk5 hg5))
        go_roundw
        case rel => exact ⟨k + 1, by omega, by go_num, by rw [HNX.out]; exact HO5.out, HB.out.trans (HK5.out.below (fun i hi => (HO.out.lt i hi).1) HB.out.size), fun c hc => by
          rw [HX.out] at hc
          rcases List.mem_append.1 hc with h | h
          · exact HG.out c h
          · rw [List.mem_singleton.1 h]; exact H8.out⟩
        case measure => simp [intOf]; omega
      · have b8 : ((S[k].toNat : Int) != 97) = true := bne_iff_ne.2 fun e => h8 (UInt8.toNat_inj.1 (by have : (97 : UInt8).toNat = 97 := rfl; omega))
        have c8 : ((S[k].toNat : Int) == 97) = false := beq_eq_false_iff_ne.2 fun e => h8 (UInt8.toNat_inj.1 (by have : (97 : UInt8).toNat = 97 := rfl; omega))
        by_cases h9 : S[k] = 115
        · have b9 : ((S[k].toNat : Int) != 115) = false := by rw [h9]; rfl
          have H8 : Hid (S[k] = 97 ∨ S[k] = 115) := .inr h9
          have HE : Hid ((S[k] == 97) = false) := beq_eq_false_iff_ne.2 h8
          rw [HE.out] at HNX
          clear h8 h9
          go_wp2_with (at_builtin; go_must (refine app_bool _ rfl _ _ rfl w.heap.size u4 (TK k) false rfl rfl HO.out HB.out.size (by rw [HTL.out k hk]; omega) ?_; intro g5 cp5 w5 ho5 hk5 hg5; have HO5 : Hid (Owb w5 w.heap.size (.slice (some ⟨g5, 0, none⟩) ((TK k).length + 1) cp5) (TK k ++ [false])) := ho5; have HK5 : Hid (Kept (fun i => u4.ownBlock = some i) wr w5) := hk5; clear ho5 hk5 hg5))
          go_roundw
          case rel => exact ⟨k + 1, by omega, by go_num, by rw [HNX.out]; exact HO5.out, HB.out.trans (HK5.out.below (fun i hi => (HO.out.lt i hi).1) HB.out.size), fun c hc => by
            rw [HX.out] at hc
            rcases List.mem_append.1 hc with h | h
            · exact HG.out c h
            · rw [List.mem_singleton.1 h]; exact H8.out⟩
          case measure => simp [intOf]; omega
        · have b9 : ((S[k].toNat : Int) != 115) = true := bne_iff_ne.2 fun e => h9 (UInt8.toNat_inj.1 (by have : (115 : UInt8).toNat = 115 := rfl; omega))
          have HF : Hid (rrB (tl S) = false ∧ rrL (tl S) = []) := HRF.out _ HM.out h8 h9
          clear h8 h9
          go_wp2
          go_ret2
          exact ⟨_, by rw [HF.out.1]; rfl, by rw [HF.out.2]; exact Owb.lit _ _ HB.out.size, HB.out.alloc HB.out.size _⟩
    · have hlz : ¬ (k : Int) < (S.size : Int) := by omega
      have HF : Hid (rrB (tl S) = true ∧ rrL (tl S) = TK k) := by
        show _ ∧ _
        have e : (tl S).take k = tl S := List.take_of_length_le (by have := HLEN.out; omega)
        have hg := HG.out
        rw [e] at hg
        obtain ⟨h1, h2⟩ := HRT.out hg
        refine ⟨h1, ?_⟩
        rw [h2, HTK.out]
        show _ = ((tl S).take k).map fun x => x == 97
        rw [e]
      go_wp2
      go_ret2
      exact ⟨_, by rw [HF.out.1]; rfl, by rw [HF.out.2]; exact HO.out, HB.out⟩

end Go.Proofs.YtmjmnfegaoegjaaGreatDoor.Za1
