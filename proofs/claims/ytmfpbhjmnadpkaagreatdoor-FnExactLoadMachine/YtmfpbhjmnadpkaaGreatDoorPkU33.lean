/- Small texts of mine, one behind the other. -/
import Derived.Test.YtmfpbhjmnadpkaaGreatDoorPkU32
import Derived.Test.YtmfpbhjmnadpkaaGreatDoorPkU20
import Derived.Test.YtmfpbhjmnadpkaaGreatDoorMx0
/- The model's l11Lines, l11Words, l11Int. Written by tools/mkzl4.py. -/
namespace Go.Proofs.YtmfpbhjmnadpkaaGreatDoor.Zl4
open Go.RowKit
open Nd0 (Kept lt_of_cell)
open Ap4 Ap5
open Ss0 (bs bs_size)
open Ss1 (tl tl_bs bs_tl tl_length tl_take tl_get tl_ext numI sNum)
open Zl0 (wds)
open Zl2 (lns int2)
open Zl3
set_option linter.unusedVariables false

theorem spl_len (d : UInt8) (s : List UInt8) : (spl d s).length ≤ s.length + 1 := by
  induction s with
  | nil => exact Nat.le_refl _
  | cons c r ih =>
    by_cases e : c = d
    · subst e; rw [spl_cons_eq]; simp; omega
    · rw [spl_cons_ne e]
      cases hx : spl d r with
      | nil => exact absurd hx (spl_ne d r)
      | cons x t => rw [hx] at ih; simp at ih ⊢; omega
set_option maxRecDepth 100000 in
set_option maxHeartbeats 4000000 in
theorem sLines (S : ByteArray) (w : World) (hS : S.size ≤ 1048576) :
    Calls Tryz.prog 63 #[.string S] w fun e w' => (∃ g cp, e = .returned (.slice (some ⟨g, 0, none⟩) (lns (tl S)).length cp) ∧ Ost w' w.heap.size (.slice (some ⟨g, 0, none⟩) (lns (tl S)).length cp) (lns (tl S))) ∧ Below w.heap.size w w' := by
  have HLEN : Hid ((tl S).length = S.size) := tl_length S
  go_enter Tryz.func63, Tryz.ntmps63
  go_wp2
  go_loopw [3, 4, 5] (fun v fr i wr => ∃ k f g cp : Nat, k ≤ S.size ∧ f ≤ k ∧ i = .int .i64 k ∧ fr = .int .i64 f ∧ v = .slice (some ⟨g, 0, none⟩) (spl 10 ((tl S).take k)).dropLast.length cp ∧ Ost wr w.heap.size v (spl 10 ((tl S).take k)).dropLast ∧ lastP 10 ((tl S).take k) = ((tl S).take k).drop f ∧ Below w.heap.size w wr) (fun _ _ i _ => S.size - (intOf i).toNat)
  case atStart => exact ⟨0, 0, w.heap.size, 0, Nat.zero_le _, Nat.le_refl _, rfl, rfl, rfl, Ost.lit _ _ (Nat.le_refl _), rfl, (Below.refl _ _).alloc (Nat.le_refl _) _⟩
  case round =>
    obtain ⟨k, f, g, cp, hk, hf, rfl, rfl, rfl, ho, hla, hbr⟩ := hrel
    obtain ⟨L, hL⟩ : ∃ L, L = (spl 10 ((tl S).take k)).dropLast := ⟨_, rfl⟩
    rw [← hL] at ho ⊢
    have hll : L.length ≤ k := by
      rw [hL, List.length_dropLast]
      have := spl_len 10 ((tl S).take k)
      rw [List.length_take] at this
      omega
    obtain ⟨n, hn⟩ : ∃ n, n = L.length := ⟨_, rfl⟩
    rw [← hn] at ho ⊢ hll
    have HN : Hid (L.length = n) := hn.symm
    have HL : Hid (L = (spl 10 ((tl S).take k)).dropLast) := hL
    have HO : Hid (Ost wr w.heap.size (.slice (some ⟨g, 0, none⟩) n cp) L) := ho
    have HLA : Hid (lastP 10 ((tl S).take k) = ((tl S).take k).drop f) := hla
    have HB : Hid (Below w.heap.size w wr) := hbr
    clear ho hla hbr hL hn
    obtain ⟨lp, hlp⟩ : ∃ l, l = lastP 10 ((tl S).take k) := ⟨_, rfl⟩
    have HLP : Hid (lp = lastP 10 ((tl S).take k)) := hlp
    have HSP : Hid (L ++ [lp] = spl 10 ((tl S).take k)) := by show _ = _; rw [HL.out, hlp]; exact spl_last _ _
    have HX0 : Hid (tl (S.extract f k) = lp) := by show _ = _; rw [hlp, tl_ext, HLA.out]
    clear hlp
    have hw1 : wrap64 ((k : Int) + 1) = (k : Int) + 1 := by unfold wrap64; omega
    by_cases hlt : k < S.size
    · have hlz : (k : Int) < (S.size : Int) := by omega
      have HX : Hid ((tl S).take (k + 1) = (tl S).take k ++ [S[k]]) := tl_take S k hlt
      by_cases h8 : S[k] = 10
      · have b8 : ((S[k].toNat : Int) == 10) = true := by rw [h8]; rfl
        have HSN : Hid (spl 10 ((tl S).take (k + 1)) = L ++ [lp] ++ [[]]) := by show _ = _; rw [HX.out, h8, spl_snoc_d, HSP.out]
        have hex : S.extract f k = bs lp := by rw [← bs_tl (S.extract f k), HX0.out]
        clear h8
        go_wp2_with (at_builtin; go_must (refine app_str _ rfl _ _ rfl w.heap.size (.slice (some ⟨g, 0, none⟩) n cp) L lp rfl rfl HO.out HB.out.size (by rw [HN.out]; omega) ?_; rw [HN.out]; intro g5 cp5 w5 ho5 hk5 hg5; have HO5 : Hid (Ost w5 w.heap.size (.slice (some ⟨g5, 0, none⟩) (n + 1) cp5) (L ++ [lp])) := ho5; have HK5 : Hid (Kept (fun i => (Value.slice (some ⟨g, 0, none⟩) n cp).ownBlock = some i) wr w5) := hk5; clear ho5 hk5 hg5))
        go_roundw
        case rel =>
          have e1 : (spl 10 ((tl S).take (k + 1))).dropLast = L ++ [lp] := by rw [HSN.out, List.dropLast_concat]
          refine ⟨k + 1, k + 1, g5, cp5, by omega, Nat.le_refl _, by go_num, by go_num, ?_, ?_, ?_, HB.out.trans (HK5.out.below (fun i hi => (HO.out.lt i hi).1) HB.out.size)⟩
          · rw [e1, List.length_append, HN.out]; rfl
          · rw [e1]; exact HO5.out
          · unfold lastP
            simp only [HSN.out]
            rw [List.getLast_concat, List.drop_of_length_le (by rw [List.length_take]; omega)]
        case measure => simp [intOf]; omega
      · have b8 : ((S[k].toNat : Int) == 10) = false := beq_eq_false_iff_ne.2 fun e => h8 (UInt8.toNat_inj.1 (by have : (10 : UInt8).toNat = 10 := rfl; omega))
        have HSN : Hid (spl 10 ((tl S).take (k + 1)) = L ++ [lp ++ [S[k]]]) := by show _ = _; rw [HX.out, spl_snoc 10 h8, HL.out, HLP.out]
        have HDR : Hid (lp ++ [S[k]] = ((tl S).take (k + 1)).drop f) := by
          show _ = _
          rw [HX.out, HLP.out, HLA.out, List.drop_append_of_le_length (by rw [List.length_take, HLEN.out]; omega)]
        clear h8
        go_wp2
        go_roundw
        case rel =>
          have e1 : (spl 10 ((tl S).take (k + 1))).dropLast = L := by rw [HSN.out, List.dropLast_concat]
          refine ⟨k + 1, f, g, cp, by omega, by omega, by go_num, rfl, ?_, ?_, ?_, HB.out⟩
          · rw [e1, HN.out]
          · rw [e1]; exact HO.out
          · unfold lastP
            simp only [HSN.out]
            rw [List.getLast_concat, HDR.out]
        case measure => simp [intOf]; omega
    · have hlz : ¬ (k : Int) < (S.size : Int) := by omega
      have HTK : Hid ((tl S).take k = tl S) := List.take_of_length_le (by have := HLEN.out; omega)
      have HG : Hid (lns (tl S) = L) := by show _ = _; unfold lns; rw [split_eq, HL.out, HTK.out]
      go_wp2
      go_ret
      exact ⟨⟨g, cp, by rw [HG.out, HN.out]; rfl, by rw [HG.out, HN.out]; exact HO.out⟩, HB.out⟩
set_option maxRecDepth 100000 in
set_option maxHeartbeats 4000000 in
theorem sWords (S : ByteArray) (w : World) (hS : S.size ≤ 1048576) :
    Calls Tryz.prog 64 #[.string S] w fun e w' => (∃ g cp, e = .returned (.slice (some ⟨g, 0, none⟩) (wds (tl S)).length cp) ∧ Ost w' w.heap.size (.slice (some ⟨g, 0, none⟩) (wds (tl S)).length cp) (wds (tl S))) ∧ Below w.heap.size w w' := by
  have HLEN : Hid ((tl S).length = S.size) := tl_length S
  go_enter Tryz.func64, Tryz.ntmps64
  go_wp2
  go_loopw [3, 4, 5] (fun v fr i wr => ∃ k f g cp : Nat, k ≤ S.size ∧ f ≤ k ∧ i = .int .i64 k ∧ fr = .int .i64 f ∧ v = .slice (some ⟨g, 0, none⟩) (spl 32 ((tl S).take k)).dropLast.length cp ∧ Ost wr w.heap.size v (spl 32 ((tl S).take k)).dropLast ∧ lastP 32 ((tl S).take k) = ((tl S).take k).drop f ∧ Below w.heap.size w wr) (fun _ _ i _ => S.size - (intOf i).toNat)
  case atStart => exact ⟨0, 0, w.heap.size, 0, Nat.zero_le _, Nat.le_refl _, rfl, rfl, rfl, Ost.lit _ _ (Nat.le_refl _), rfl, (Below.refl _ _).alloc (Nat.le_refl _) _⟩
  case round =>
    obtain ⟨k, f, g, cp, hk, hf, rfl, rfl, rfl, ho, hla, hbr⟩ := hrel
    obtain ⟨L, hL⟩ : ∃ L, L = (spl 32 ((tl S).take k)).dropLast := ⟨_, rfl⟩
    rw [← hL] at ho ⊢
    have hll : L.length ≤ k := by
      rw [hL, List.length_dropLast]
      have := spl_len 32 ((tl S).take k)
      rw [List.length_take] at this
      omega
    obtain ⟨n, hn⟩ : ∃ n, n = L.length := ⟨_, rfl⟩
    rw [← hn] at ho ⊢ hll
    have HN : Hid (L.length = n) := hn.symm
    have HL : Hid (L = (spl 32 ((tl S).take k)).dropLast) := hL
    have HO : Hid (Ost wr w.heap.size (.slice (some ⟨g, 0, none⟩) n cp) L) := ho
    have HLA : Hid (lastP 32 ((tl S).take k) = ((tl S).take k).drop f) := hla
    have HB : Hid (Below w.heap.size w wr) := hbr
    clear ho hla hbr hL hn
    obtain ⟨lp, hlp⟩ : ∃ l, l = lastP 32 ((tl S).take k) := ⟨_, rfl⟩
    have HLP : Hid (lp = lastP 32 ((tl S).take k)) := hlp
    have HSP : Hid (L ++ [lp] = spl 32 ((tl S).take k)) := by show _ = _; rw [HL.out, hlp]; exact spl_last _ _
    have HX0 : Hid (tl (S.extract f k) = lp) := by show _ = _; rw [hlp, tl_ext, HLA.out]
    clear hlp
    have hw1 : wrap64 ((k : Int) + 1) = (k : Int) + 1 := by unfold wrap64; omega
    by_cases hlt : k < S.size
    · have hlz : (k : Int) < (S.size : Int) := by omega
      have HX : Hid ((tl S).take (k + 1) = (tl S).take k ++ [S[k]]) := tl_take S k hlt
      by_cases h8 : S[k] = 32
      · have b8 : ((S[k].toNat : Int) == 32) = true := by rw [h8]; rfl
        have HSN : Hid (spl 32 ((tl S).take (k + 1)) = L ++ [lp] ++ [[]]) := by show _ = _; rw [HX.out, h8, spl_snoc_d, HSP.out]
        have hex : S.extract f k = bs lp := by rw [← bs_tl (S.extract f k), HX0.out]
        clear h8
        go_wp2_with (at_builtin; go_must (refine app_str _ rfl _ _ rfl w.heap.size (.slice (some ⟨g, 0, none⟩) n cp) L lp rfl rfl HO.out HB.out.size (by rw [HN.out]; omega) ?_; rw [HN.out]; intro g5 cp5 w5 ho5 hk5 hg5; have HO5 : Hid (Ost w5 w.heap.size (.slice (some ⟨g5, 0, none⟩) (n + 1) cp5) (L ++ [lp])) := ho5; have HK5 : Hid (Kept (fun i => (Value.slice (some ⟨g, 0, none⟩) n cp).ownBlock = some i) wr w5) := hk5; clear ho5 hk5 hg5))
        go_roundw
        case rel =>
          have e1 : (spl 32 ((tl S).take (k + 1))).dropLast = L ++ [lp] := by rw [HSN.out, List.dropLast_concat]
          refine ⟨k + 1, k + 1, g5, cp5, by omega, Nat.le_refl _, by go_num, by go_num, ?_, ?_, ?_, HB.out.trans (HK5.out.below (fun i hi => (HO.out.lt i hi).1) HB.out.size)⟩
          · rw [e1, List.length_append, HN.out]; rfl
          · rw [e1]; exact HO5.out
          · unfold lastP
            simp only [HSN.out]
            rw [List.getLast_concat, List.drop_of_length_le (by rw [List.length_take]; omega)]
        case measure => simp [intOf]; omega
      · have b8 : ((S[k].toNat : Int) == 32) = false := beq_eq_false_iff_ne.2 fun e => h8 (UInt8.toNat_inj.1 (by have : (32 : UInt8).toNat = 32 := rfl; omega))
        have HSN : Hid (spl 32 ((tl S).take (k + 1)) = L ++ [lp ++ [S[k]]]) := by show _ = _; rw [HX.out, spl_snoc 32 h8, HL.out, HLP.out]
        have HDR : Hid (lp ++ [S[k]] = ((tl S).take (k + 1)).drop f) := by
          show _ = _
          rw [HX.out, HLP.out, HLA.out, List.drop_append_of_le_length (by rw [List.length_take, HLEN.out]; omega)]
        clear h8
        go_wp2
        go_roundw
        case rel =>
          have e1 : (spl 32 ((tl S).take (k + 1))).dropLast = L := by rw [HSN.out, List.dropLast_concat]
          refine ⟨k + 1, f, g, cp, by omega, by omega, by go_num, rfl, ?_, ?_, ?_, HB.out⟩
          · rw [e1, HN.out]
          · rw [e1]; exact HO.out
          · unfold lastP
            simp only [HSN.out]
            rw [List.getLast_concat, HDR.out]
        case measure => simp [intOf]; omega
    · have hlz : ¬ (k : Int) < (S.size : Int) := by omega
      have HTK : Hid ((tl S).take k = tl S) := List.take_of_length_le (by have := HLEN.out; omega)
      have HG : Hid (wds (tl S) = L ++ [lp]) := by show _ = _; unfold wds; rw [split_eq, HSP.out, HTK.out]
      have hex : S.extract f S.size = bs lp := by
        rw [← bs_tl (S.extract f S.size), show S.size = k by omega, HX0.out]
      go_wp2_with (at_builtin; go_must (refine app_str _ rfl _ _ rfl w.heap.size (.slice (some ⟨g, 0, none⟩) n cp) L lp rfl rfl HO.out HB.out.size (by rw [HN.out]; omega) ?_; rw [HN.out]; intro g5 cp5 w5 ho5 hk5 hg5; have HO5 : Hid (Ost w5 w.heap.size (.slice (some ⟨g5, 0, none⟩) (n + 1) cp5) (L ++ [lp])) := ho5; have HK5 : Hid (Kept (fun i => (Value.slice (some ⟨g, 0, none⟩) n cp).ownBlock = some i) wr w5) := hk5; clear ho5 hk5 hg5))
      go_ret
      exact ⟨⟨g5, cp5, by rw [HG.out, List.length_append, HN.out]; rfl, by rw [HG.out, List.length_append, HN.out]; exact HO5.out⟩, HB.out.trans (HK5.out.below (fun i hi => (HO.out.lt i hi).1) HB.out.size)⟩
set_option maxHeartbeats 1000000 in
theorem sInt (S : ByteArray) (w : World) (hS : S.size ≤ 100000) :
    Calls Tryz.prog 67 #[.string S] w fun e w' => e = .returned (.int .i64 (int2 (tl S))) ∧ w' = w := by
  by_cases h1 : tl S = [45, 49]
  · have q1 : (S.toList == [45, 49]) = true := Ss1.eql_true h1
    have HR : Hid (int2 (tl S) = -1) := by show _ = _; rw [h1]; rfl
    clear h1
    go_enter Tryz.func67, Tryz.ntmps67
    go_wp2
    go_ret
    exact ⟨by rw [HR.out]; rfl, rfl⟩
  have q1 : (S.toList == [45, 49]) = false := Ss1.eql_false h1
  by_cases h2 : tl S = [49, 48, 48, 48, 48, 48, 48, 48, 48, 48]
  · have q2 : (S.toList == [49, 48, 48, 48, 48, 48, 48, 48, 48, 48]) = true := Ss1.eql_true h2
    have HR : Hid (int2 (tl S) = 1000000000) := by show _ = _; rw [h2]; rfl
    clear h1 h2
    go_enter Tryz.func67, Tryz.ntmps67
    go_wp2
    go_ret
    exact ⟨by rw [HR.out]; rfl, rfl⟩
  have q2 : (S.toList == [49, 48, 48, 48, 48, 48, 48, 48, 48, 48]) = false := Ss1.eql_false h2
  have HR : Hid (int2 (tl S) = if numI (tl S) < 0 then -2 else numI (tl S)) := by show _ = _; unfold int2; rw [if_neg h1, if_neg h2]
  have HNU : Hid _ := sNum S w hS
  clear h1 h2
  obtain ⟨x, hx⟩ : ∃ x, x = numI (tl S) := ⟨_, rfl⟩
  rw [← hx] at HNU HR
  clear hx
  by_cases hn : x < 0
  · go_enter Tryz.func67, Tryz.ntmps67
    go_wp2_with (go_at_call 123; refine Calls.mono HNU.out ?_; rintro e w2 ⟨rfl, hw2⟩; have hw2' := hw2.symm; clear hw2; subst hw2')
    go_ret
    exact ⟨by rw [HR.out, if_pos (by omega)]; rfl, rfl⟩
  · go_enter Tryz.func67, Tryz.ntmps67
    go_wp2_with (go_at_call 123; refine Calls.mono HNU.out ?_; rintro e w2 ⟨rfl, hw2⟩; have hw2' := hw2.symm; clear hw2; subst hw2')
    go_ret
    exact ⟨by rw [HR.out, if_neg (by omega)]; rfl, rfl⟩
end Go.Proofs.YtmfpbhjmnadpkaaGreatDoor.Zl4

/- The model's words of lines in memory: a list of lists of texts. -/
namespace Go.Proofs.YtmfpbhjmnadpkaaGreatDoor.Zw0
open Go.RowKit
open Nd0 (Kept lt_of_cell)
open Tx0
open Ap4 (Ost)
open Mx0 (Mf)
open Ss0 (bs bs_size)
open Ss1 (tl tl_bs bs_tl tl_length numI num_bad_len sNum)
open Ws1 (ret_int)
open Zl2 (int2 wat lns fitW)
open Zl4 (sInt)
set_option linter.unusedVariables false

theorem infoRow : (Tryz.prog.info? 100).map (fun i => (i.zero, i.size, i.bytes)) = some (some (.slice none 0 0), 1, 24) := by kernel_rfl

/-- The slice v, in a block from B on, is the slices xs and may be appended to. -/
def Owv (w : World) (B : Nat) (v : Value) (xs : List Value) : Prop := w.ownsRow B 100 1 v xs.length xs
theorem Owv.lit (w : World) (B : Nat) (hB : B ≤ w.heap.size) : Owv (w.alloc (.cells #[] 100)) B (.slice (some ⟨w.heap.size, 0, none⟩) 0 0) [] :=
  World.ownsRow_lit w #[] 0 hB (Nat.zero_le _) rfl
theorem Owv.lt {w : World} {B : Nat} {v : Value} {l : List Value} (h : Owv w B v l) : ∀ k, v.ownBlock = some k → B ≤ k ∧ k < w.heap.size := World.ownsRow.lt h
theorem Owv.kept {w w' : World} {B : Nat} {v : Value} {l : List Value} (h : Owv w B v l) {S : Nat → Prop} (k : Kept S w w') (hs : ∀ i, v.ownBlock = some i → ¬ S i) : Owv w' B v l := by
  refine ⟨h.1, ?_⟩
  rcases h.2 with hn | ⟨g, cap, cur, rfl, hb, hgg, rest⟩
  · exact .inl hn
  · refine .inr ⟨g, cap, cur, rfl, hb, ?_, rest⟩
    rw [k.block g (Array.getElem?_eq_some_iff.1 hgg).1 (hs g rfl)]
    exact hgg
theorem Owv.at {w : World} {B : Nat} {v : Value} {l : List Value} (h : Owv w B v l) (hl : 1 ≤ l.length) : ∃ g c, v = .slice (some ⟨g, 0, none⟩) l.length c ∧ (∀ i, i < l.length → w.cell? ⟨g, i, none⟩ = l[i]?) := by
  rcases h.2 with ⟨rfl, h0⟩ | ⟨g, cap, cur, rfl, hb, hg, hn, hm, hs, ht⟩
  · omega
  · refine ⟨g, cap, rfl, fun i hi => ?_⟩
    rw [cell_of_row w g i cur _ _ hg]
    have e : (cur.toList.take (l.length * 1))[i]? = l[i]? := by rw [ht]
    rw [List.getElem?_take_of_lt (by omega)] at e
    simpa using e

/-- One slice more. -/
theorem app_row {ops : Array Oper} {rest : List Oper} {o : Oper} {a : Act} {Q : Exit → Act → World → Prop} (W : World) (hgd : o.guard = none) (s x : Operand)
    (ho : o.op = .call { callee := .builtin .append, args := #[s, x], argTypes := #[102, 102] })
    (B : Nat) (v : Value) (l : List Value) (ya : Option Addr) (yn yc : Nat) (hs : a.eval s = v) (hx : a.eval x = .slice (some ⟨W.heap.size, 0, none⟩) 1 1)
    (hown : Owv W B v l) (hB : B ≤ W.heap.size) (hlen : l.length ≤ 1048576)
    (h : ∀ g cap w', Owv w' B (.slice (some ⟨g, 0, none⟩) (l.length + 1) cap) (l ++ [.slice ya yn yc]) → Kept (fun k => v.ownBlock = some k) W w' → (v.ownBlock = some g ∨ W.heap.size ≤ g) → wpList Tryz.prog ops Q rest (a.put o.dst (.slice (some ⟨g, 0, none⟩) (l.length + 1) cap)) w') :
    wpList Tryz.prog ops Q (o :: rest) a (W.alloc (.cells #[.slice ya yn yc] 100)) := by
  obtain ⟨i, hi, hzz⟩ := Option.map_eq_some_iff.1 infoRow
  simp only [Prod.mk.injEq] at hzz
  obtain ⟨hz, hsz, hb⟩ := hzz
  refine wpList_append_lies (W.alloc (.cells #[.slice ya yn yc] 100)) hgd s x 102 ho B 100 i (.slice none 0 0) 1 24 Tryz.underlying102 hi hz hsz hb rfl (by omega) v l.length l hs (World.ownsRow.alloc hown _)
    ⟨W.heap.size, 0, none⟩ 1 1 [.slice ya yn yc] hx rfl ?_ ?_ (by omega) (by unfold maxLen; omega) (by omega) (by simp; omega) _ rfl ?_
  · intro j u hu
    exact World.news_of_block (heap_alloc_new W _) j u hu
  · intro u hu
    simp at hu
    subst hu
    rfl
  · intro g cap w' h1 h2 h3 h4
    refine h g cap w' ?_ ?_ ?_
    · unfold Owv
      simpa using h1
    · have k1 : Kept (fun k => v.ownBlock = some k) W (W.alloc (.cells #[.slice ya yn yc] 100)) := (Kept.refl _ W).alloc _
      exact k1.trans ⟨h2.os, h2.tape, h2.output, h2.size, fun k hk hn => h2.block k hk (fun e => hn e.symm)⟩
    · rcases h3 with h3 | h3
      · exact .inl h3
      · exact .inr (by rw [h3]; simp)


/-- The words of k lines. -/
structure Gw (w : World) (B gw cp k : Nat) (gr cr : Nat → Nat) (WW : List (List (List UInt8))) : Prop where
  own : Owv w B (.slice (some ⟨gw, 0, none⟩) k cp) ((List.range k).map fun j => .slice (some ⟨gr j, 0, none⟩) (WW.getD j []).length (cr j))
  wrd : ∀ j x, j < k → x < (WW.getD j []).length → w.cell? ⟨gr j, x, none⟩ = some (.string (bs (wat WW j x)))
  lo : ∀ j, j < k → B ≤ gr j ∧ gr j < w.heap.size ∧ gr j ≠ gw
theorem Gw.lt {w : World} {B gw cp k : Nat} {gr cr : Nat → Nat} {WW : List (List (List UInt8))} (h : Gw w B gw cp k gr cr WW) : B ≤ gw ∧ gw < w.heap.size := h.own.lt gw rfl
theorem Gw.kept {w w' : World} {B gw cp k : Nat} {gr cr : Nat → Nat} {WW : List (List (List UInt8))} (h : Gw w B gw cp k gr cr WW) {S : Nat → Prop} (kp : Kept S w w') (hs : ∀ b, B ≤ b → b < w.heap.size → ¬ S b) : Gw w' B gw cp k gr cr WW :=
  ⟨h.own.kept kp (fun i hi => hs i (h.own.lt i hi).1 (h.own.lt i hi).2), fun j x hj hx => by rw [kp.cell (p := ⟨gr j, x, none⟩) (h.lo j hj).2.1 (hs _ (h.lo j hj).1 (h.lo j hj).2.1)]; exact h.wrd j x hj hx, fun j hj => ⟨(h.lo j hj).1, Nat.lt_of_lt_of_le (h.lo j hj).2.1 kp.size, (h.lo j hj).2.2⟩⟩
theorem Gw.below {w w' : World} {B gw cp k : Nat} {gr cr : Nat → Nat} {WW : List (List (List UInt8))} (h : Gw w B gw cp k gr cr WW) (kp : Below w.heap.size w w') : Gw w' B gw cp k gr cr WW := h.kept (S := fun _ => False) (Kept.ofBelow kp) (fun _ _ _ h => h)
theorem Gw.row {w : World} {B gw cp k : Nat} {gr cr : Nat → Nat} {WW : List (List (List UInt8))} (h : Gw w B gw cp k gr cr WW) {j : Nat} (hj : j < k) : w.cell? ⟨gw, j, none⟩ = some (.slice (some ⟨gr j, 0, none⟩) (WW.getD j []).length (cr j)) := by
  have hl : ((List.range k).map fun j => Value.slice (some ⟨gr j, 0, none⟩) (WW.getD j []).length (cr j)).length = k := by simp
  obtain ⟨g, c, e, hc⟩ := h.own.at (by rw [hl]; omega)
  have e1 : gw = g := by injection e with h1 h2 h3; injection h1 with h1; injection h1
  subst e1
  rw [hc j (by rw [hl]; exact hj), List.getElem?_map, List.getElem?_range hj]
  rfl
theorem Gw.zero (w : World) (B : Nat) (hB : B ≤ w.heap.size) (WW : List (List (List UInt8))) : Gw (w.alloc (.cells #[] 100)) B w.heap.size 0 0 (fun _ => 0) (fun _ => 0) WW :=
  ⟨Owv.lit w B hB, fun j x hj => by omega, fun j hj => by omega⟩
theorem Gw.more {W w' : World} {B gw cp k g c g' cp' : Nat} {gr cr : Nat → Nat} {WW : List (List (List UInt8))} (h : Gw W B gw cp k gr cr WW) 
    (hgl : g < W.heap.size) (hgw : g ≠ gw) (hB : B ≤ g) (hst : ∀ x, x < (WW.getD k []).length → W.cell? ⟨g, x, none⟩ = some (.string (bs (wat WW k x))))
    (ho : Owv w' B (.slice (some ⟨g', 0, none⟩) (k + 1) cp') (((List.range k).map fun j => .slice (some ⟨gr j, 0, none⟩) (WW.getD j []).length (cr j)) ++ [.slice (some ⟨g, 0, none⟩) (WW.getD k []).length c]))
    (hk : Kept (fun i => i = gw) W w') (hgg : g' = gw ∨ W.heap.size ≤ g') : Gw w' B g' cp' (k + 1) (fun j => if j = k then g else gr j) (fun j => if j = k then c else cr j) WW := by
  have hgwl := h.lt
  refine ⟨?_, ?_, ?_⟩
  · have e : ((List.range (k + 1)).map fun j => Value.slice (some ⟨if j = k then g else gr j, 0, none⟩) (WW.getD j []).length (if j = k then c else cr j)) = ((List.range k).map fun j => .slice (some ⟨gr j, 0, none⟩) (WW.getD j []).length (cr j)) ++ [.slice (some ⟨g, 0, none⟩) (WW.getD k []).length c] := by
      rw [List.range_succ, List.map_append]
      congr 1
      · refine List.map_congr_left fun j hj => ?_
        have : j ≠ k := by have := List.mem_range.1 hj; omega
        rw [if_neg this, if_neg this]
      · simp
    rw [e]; exact ho
  · intro j x hj hx
    by_cases e : j = k
    · subst e
      simp only [if_true]
      rw [hk.cell (p := ⟨g, x, none⟩) hgl hgw]
      exact hst x hx
    · simp only [if_neg e]
      have hl := h.lo j (by omega)
      rw [hk.cell (p := ⟨gr j, x, none⟩) hl.2.1 hl.2.2]
      exact h.wrd j x (by omega) hx
  · intro j hj
    by_cases e : j = k
    · subst e
      simp only [if_true]
      exact ⟨hB, Nat.lt_of_lt_of_le hgl hk.size, by omega⟩
    · simp only [if_neg e]
      have hl := h.lo j (by omega)
      exact ⟨hl.1, Nat.lt_of_lt_of_le hl.2.1 hk.size, by omega⟩

set_option maxHeartbeats 1000000 in
theorem sNumB (S : ByteArray) (w : World) (hs : S.size ≤ 1048576) :
    Calls Tryz.prog 123 #[.string S] w fun e w' => e = .returned (.int .i64 (numI (tl S))) ∧ w' = w := by
  by_cases h : S.size ≤ 100000
  · exact sNum S w h
  · have HF : Hid (numI (tl S) = -1) := num_bad_len (.inr (by rw [tl_length]; omega))
    have hz : ((S.size : Int) == 0) = false := beq_eq_false_iff_ne.2 (by omega)
    have h9 : 9 < (S.size : Int) := by omega
    go_enter Tryz.func123, Tryz.ntmps123
    go_wp2
    go_ret
    exact ⟨ret_int HF.out.symm, rfl⟩
set_option maxHeartbeats 1000000 in
theorem sIntB (S : ByteArray) (w : World) (hs : S.size ≤ 1048576) :
    Calls Tryz.prog 67 #[.string S] w fun e w' => e = .returned (.int .i64 (int2 (tl S))) ∧ w' = w := by
  by_cases h : S.size ≤ 100000
  · exact sInt S w h
  · have hl : 100000 < (tl S).length := by rw [tl_length]; omega
    have n1 : tl S ≠ [45, 49] := fun e => by rw [e] at hl; simp at hl
    have n2 : tl S ≠ [49, 48, 48, 48, 48, 48, 48, 48, 48, 48] := fun e => by rw [e] at hl; simp at hl
    have hN : numI (tl S) = -1 := num_bad_len (.inr (by omega))
    have HR : Hid (int2 (tl S) = -2) := by show _ = _; unfold int2; rw [if_neg n1, if_neg n2, hN]; rfl
    have q1 : (S.toList == [45, 49]) = false := Ss1.eql_false n1
    have q2 : (S.toList == [49, 48, 48, 48, 48, 48, 48, 48, 48, 48]) = false := Ss1.eql_false n2
    have HNU := sNumB S w hs
    rw [hN] at HNU
    have HN : Hid _ := HNU
    clear hN HNU n1 n2 hl
    go_enter Tryz.func67, Tryz.ntmps67
    go_wp2_with fail
    refine Calls.mono HN.out ?_
    rintro e w1 ⟨rfl, rfl⟩
    go_wp2
    go_ret
    exact ⟨ret_int HR.out.symm, rfl⟩

theorem past {S T : Nat → Prop} {u v w : World} (h : Kept S u v) (k : Kept T v w) (hT : ∀ b, T b → S b ∨ u.heap.size ≤ b) : Kept S u w :=
  ⟨k.os.trans h.os, k.tape.trans h.tape, k.output.trans h.output, Nat.le_trans h.size k.size, fun i hi hb => (k.block i (Nat.lt_of_lt_of_le hi h.size) (fun t => by
    rcases hT i t with e | e
    · exact hb e
    · omega)).trans (h.block i hi hb)⟩
/-- A machine stored into the answer's block. -/
theorem fin11 {w W : World} {r : Nat} {a0 a1 a2 a3 a4 a5 a6 a7 a8 a9 a10 : Value} (hr : Mf W r [a0, a1, a2, a3, a4, a5, a6, a7, a8, a9, a10]) (hb : Below w.heap.size w W) (hw : w.heap.size ≤ r) (x0 x1 x2 x3 x4 x5 x6 x7 x8 x9 x10 : Value) :
    ∃ W', W' = ((((((((((W.setCell ⟨r, 0, none⟩ x0).setCell ⟨r, 1, none⟩ x1).setCell ⟨r, 2, none⟩ x2).setCell ⟨r, 3, none⟩ x3).setCell ⟨r, 4, none⟩ x4).setCell ⟨r, 5, none⟩ x5).setCell ⟨r, 6, none⟩ x6).setCell ⟨r, 7, none⟩ x7).setCell ⟨r, 8, none⟩ x8).setCell ⟨r, 9, none⟩ x9).setCell ⟨r, 10, none⟩ x10 ∧ Mf W' r [x0, x1, x2, x3, x4, x5, x6, x7, x8, x9, x10] ∧ Below w.heap.size w W' ∧ Kept (fun b => b = r) W W' := by
  refine ⟨_, rfl, ?_, ?_, ?_⟩
  · exact (((((((((((hr.set 0 x0).set 1 x1).set 2 x2).set 3 x3).set 4 x4).set 5 x5).set 6 x6).set 7 x7).set 8 x8).set 9 x9).set 10 x10)
  · have K : Kept (fun b => b = r) W (((((((((((W.setCell ⟨r, 0, none⟩ x0).setCell ⟨r, 1, none⟩ x1).setCell ⟨r, 2, none⟩ x2).setCell ⟨r, 3, none⟩ x3).setCell ⟨r, 4, none⟩ x4).setCell ⟨r, 5, none⟩ x5).setCell ⟨r, 6, none⟩ x6).setCell ⟨r, 7, none⟩ x7).setCell ⟨r, 8, none⟩ x8).setCell ⟨r, 9, none⟩ x9).setCell ⟨r, 10, none⟩ x10) := (((((((((((Kept.refl (fun b => b = r) W).setCell (p := ⟨r, 0, none⟩) rfl _).setCell (p := ⟨r, 1, none⟩) rfl _).setCell (p := ⟨r, 2, none⟩) rfl _).setCell (p := ⟨r, 3, none⟩) rfl _).setCell (p := ⟨r, 4, none⟩) rfl _).setCell (p := ⟨r, 5, none⟩) rfl _).setCell (p := ⟨r, 6, none⟩) rfl _).setCell (p := ⟨r, 7, none⟩) rfl _).setCell (p := ⟨r, 8, none⟩) rfl _).setCell (p := ⟨r, 9, none⟩) rfl _).setCell (p := ⟨r, 10, none⟩) rfl _
    exact hb.trans (K.below (fun b hb => by omega) hb.size)
  · exact (((((((((((Kept.refl (fun b => b = r) W).setCell (p := ⟨r, 0, none⟩) rfl _).setCell (p := ⟨r, 1, none⟩) rfl _).setCell (p := ⟨r, 2, none⟩) rfl _).setCell (p := ⟨r, 3, none⟩) rfl _).setCell (p := ⟨r, 4, none⟩) rfl _).setCell (p := ⟨r, 5, none⟩) rfl _).setCell (p := ⟨r, 6, none⟩) rfl _).setCell (p := ⟨r, 7, none⟩) rfl _).setCell (p := ⟨r, 8, none⟩) rfl _).setCell (p := ⟨r, 9, none⟩) rfl _).setCell (p := ⟨r, 10, none⟩) rfl _
end Go.Proofs.YtmfpbhjmnadpkaaGreatDoor.Zw0
