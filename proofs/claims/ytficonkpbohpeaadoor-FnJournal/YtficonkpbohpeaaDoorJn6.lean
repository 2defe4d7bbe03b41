/- The model's Records, Last and Tidy. -/
import Derived.Test.YtficonkpbohpeaaDoorJn5
import Derived.Test.YtficonkpbohpeaaDoorPkT25
namespace Go.Proofs.YtficonkpbohpeaaDoor.Jn6
open Go.RowKit
open Tx0 Zk0 Jn0 Jn5 Ap4
open Nd0 (Kept)
open Ss0 (bs bs_size bs_ext ret_str)
open Ss1 (tl tl_bs bs_tl tl_length tl_ext)
open Ss2 (Strs)
set_option linter.unusedVariables false

/-- The state of reading: the texts so far. -/
structure Rd (S : ByteArray) (L : List (List UInt8)) (p : Nat) : Prop where
  sm : Small L
  eq : ∃ r, tl S = cat L ++ r
  at_ : p = (cat L).length
theorem Rd.zero (S : ByteArray) : Rd S [] 0 := ⟨(fun s hs => by cases hs), ⟨tl S, rfl⟩, rfl⟩
theorem Rd.le {S : ByteArray} {L : List (List UInt8)} {p : Nat} (h : Rd S L p) : p ≤ S.size := by
  obtain ⟨r, e⟩ := h.eq
  have := congrArg List.length e
  rw [List.length_append, tl_length] at this
  have := h.at_
  omega
theorem Rd.few {S : ByteArray} {L : List (List UInt8)} {p : Nat} (h : Rd S L p) : 3 * L.length ≤ p := by rw [h.at_]; exact cat_len L
theorem Rd.drop {S : ByteArray} {L : List (List UInt8)} {p : Nat} (h : Rd S L p) {r : List UInt8} (e : tl S = cat L ++ r) : (tl S).drop p = r := by rw [h.at_]; exact drop_of e
theorem Rd.end_ {S : ByteArray} {L : List (List UInt8)} {p : Nat} (h : Rd S L p) (hn : recN ((tl S).drop p) = none) : rcs (tl S) = L ∧ endN (tl S) = p := by
  obtain ⟨r, e⟩ := h.eq
  rw [h.drop e] at hn
  have e2 : rcs (tl S) = L := by rw [e]; exact rcs_eq h.sm hn
  exact ⟨e2, by unfold endN; rw [e2, h.at_]⟩
theorem Rd.more {S : ByteArray} {L : List (List UInt8)} {p : Nat} (h : Rd S L p) {s : List UInt8} {k : Nat} (hn : recN ((tl S).drop p) = some (s, k)) : Rd S (L ++ [s]) (p + k) ∧ 3 ≤ k ∧ p + k ≤ S.size := by
  obtain ⟨r, e⟩ := h.eq
  rw [h.drop e] at hn
  obtain ⟨h1, h2, h3⟩ := recN_of hn
  have hR : Rd S (L ++ [s]) (p + k) := by
    refine ⟨?_, ⟨r.drop k, ?_⟩, ?_⟩
    · intro t ht
      rcases List.mem_append.1 ht with ht | ht
      · exact h.sm t ht
      · have : t = s := by simpa using ht
        rw [this]; exact h1
    · rw [cat_snoc, List.append_assoc, ← h3]; exact e
    · rw [cat_snoc, List.length_append, ← h.at_, ← h2]
  exact ⟨hR, (recN_pos hn).1, hR.le⟩

/-- What Records answers. -/
def RcP (B : Nat) (w' : World) (S : ByteArray) (e : Ending) : Prop :=
  ∃ g c, e = .returned (.tuple #[.slice (some ⟨g, 0, none⟩) (rcs (tl S)).length c, .int .i64 (endN (tl S) : Int)]) ∧ Ost w' B (.slice (some ⟨g, 0, none⟩) (rcs (tl S)).length c) (rcs (tl S))
theorem RcP.of {B : Nat} {w' : World} {S : ByteArray} {L : List (List UInt8)} {p g c n : Nat} (h : rcs (tl S) = L ∧ endN (tl S) = p) (hn : n = L.length) (ho : Ost w' B (.slice (some ⟨g, 0, none⟩) n c) L) : RcP B w' S (.returned (.tuple #[.slice (some ⟨g, 0, none⟩) n c, .int .i64 (p : Int)])) := by
  subst hn
  exact ⟨g, c, by rw [h.1, h.2], by rw [h.1]; exact ho⟩

set_option maxRecDepth 100000 in
set_option maxHeartbeats 4000000 in
theorem sRecords (S : ByteArray) (w : World) (hs : S.size ≤ 2000000) :
    Calls Tryd.prog 13 #[.string S] w fun e w' => RcP w.heap.size w' S e ∧ Below w.heap.size w w' := by
  have hsz : (S.size : Int) ≤ 2000000 := by omega
  go_enter Tryd.func13, Tryd.ntmps13
  go_wp2
  go_loopw [4, 5] (fun v i wr => ∃ (L : List (List UInt8)) (p g cp : Nat), i = .int .i64 p ∧ v = .slice (some ⟨g, 0, none⟩) L.length cp ∧ Ost wr w.heap.size v L ∧ Rd S L p ∧ Below w.heap.size w wr) (fun _ i _ => S.size - (intOf i).toNat)
  case atStart => exact ⟨[], 0, w.heap.size, 0, rfl, rfl, Ost.lit _ _ (Nat.le_refl _), Rd.zero S, (Below.refl _ _).alloc (Nat.le_refl _) _⟩
  case round =>
    obtain ⟨L, p, g, cp, rfl, rfl, ho, hrd, hbr⟩ := hrel
    obtain ⟨n, hn⟩ : ∃ n, n = L.length := ⟨_, rfl⟩
    have hll : n ≤ 1000000 := by have := hrd.few; have := hrd.le; omega
    have hple := hrd.le
    rw [← hn] at ho ⊢
    have HN : Hid (L.length = n) := hn.symm
    have HRD : Hid (Rd S L p) := hrd
    have HO : Hid (Ost wr w.heap.size (.slice (some ⟨g, 0, none⟩) n cp) L) := ho
    have HB : Hid (Below w.heap.size w wr) := hbr
    have HNX : Hid _ := sNext wr S p (by omega) hple
    clear ho hbr hn hrd
    cases hc : recN ((tl S).drop p) with
    | none =>
      have HF : Hid (rcs (tl S) = L ∧ endN (tl S) = p) := HRD.out.end_ hc
      have HC : Hid (recN ((tl S).drop p) = none) := hc
      clear hc
      go_wp2_with fail
      refine Calls.mono HNX.out ?_
      rintro e w1 ⟨hP, rfl⟩
      obtain rfl := hP.1 HC.out
      clear hP
      go_wp2
      go_ret2
      exact ⟨RcP.of HF.out HN.out.symm HO.out, HB.out⟩
    | some x =>
      obtain ⟨s, k⟩ := x
      have HM : Hid _ := HRD.out.more hc
      have hk0 : ¬ ((p + k : Nat) : Int) < 0 := by omega
      have HC : Hid (recN ((tl S).drop p) = some (s, k)) := hc
      clear hc
      obtain ⟨q, hq⟩ : ∃ q, q = p + k := ⟨_, rfl⟩
      have HQ : Hid (q = p + k) := hq
      rw [← hq] at hk0
      go_wp2_with fail
      refine Calls.mono HNX.out ?_
      rintro e w1 ⟨hP, rfl⟩
      obtain rfl := hP.2 s k HC.out
      rw [← hq]
      clear hP hq
      go_wp2_with (at_builtin; go_must (refine app_str _ rfl _ _ rfl w.heap.size (.slice (some ⟨g, 0, none⟩) n cp) L s rfl rfl HO.out HB.out.size (by rw [HN.out]; omega) ?_; rw [HN.out]; intro g5 cp5 w5 ho5 hk5 hg5; have HO5 : Hid (Ost w5 w.heap.size (.slice (some ⟨g5, 0, none⟩) (n + 1) cp5) (L ++ [s])) := ho5; have HK5 : Hid (Kept (fun i => (Value.slice (some ⟨g, 0, none⟩) n cp).ownBlock = some i) w1 w5) := hk5; clear ho5 hk5 hg5))
      go_roundw
      case rel =>
        refine ⟨L ++ [s], q, g5, cp5, rfl, ?_, HO5.out, by rw [HQ.out]; exact HM.out.1, HB.out.trans (HK5.out.below (fun i hi => (HO.out.lt i hi).1) HB.out.size)⟩
        rw [List.length_append, HN.out]; rfl
      case measure =>
        have := HM.out.2
        have := HQ.out
        simp [intOf]; omega

/-- The last text, or none. -/
def lst (l : List (List UInt8)) : List UInt8 := l.getLast?.getD []
theorem lst_at {l : List (List UInt8)} (h : 0 < l.length) : lst l = l[l.length - 1] := by
  unfold lst
  rw [List.getLast?_eq_getElem?, List.getElem?_eq_getElem (by omega)]
  rfl
theorem strs_at {w : World} {a : Option Addr} {l : List (List UInt8)} (h : Strs w a l) {i : Nat} (hi : i < l.length) : ∃ g o, a = some ⟨g, o, none⟩ ∧ w.cell? ⟨g, o + i, none⟩ = some (.string (bs l[i])) := by
  obtain ⟨_, h2⟩ := h
  rcases h2 with h2 | ⟨g, o, e, hc⟩
  · omega
  · exact ⟨g, o, e, hc i hi⟩
set_option maxRecDepth 100000 in
set_option maxHeartbeats 2000000 in
theorem sLast (S : ByteArray) (w : World) (hs : S.size ≤ 2000000) :
    Calls Tryd.prog 26 #[.string S] w fun e w' => e = .returned (.tuple #[.string (bs (lst (rcs (tl S)))), .bool (decide (0 < (rcs (tl S)).length))]) ∧ Below w.heap.size w w' := by
  have HR : Hid _ := sRecords S w hs
  go_enter Tryd.func26, Tryd.ntmps26
  go_wp2_with fail
  refine Calls.mono HR.out ?_
  rintro e w1 ⟨⟨g, c, rfl, ho⟩, hb⟩
  have HB : Hid (Below w.heap.size w w1) := hb
  clear hb HR
  by_cases h0 : 0 < (rcs (tl S)).length
  · obtain ⟨a, c2, ea, hst⟩ := ho.form
    cases ea
    have hcell := strs_at hst (i := (rcs (tl S)).length - 1) (by omega)
    obtain ⟨g2, o2, e2, hcl⟩ := hcell
    cases e2
    have HF : Hid (lst (rcs (tl S)) = (rcs (tl S))[(rcs (tl S)).length - 1]) := lst_at h0
    have HD : Hid (decide (0 < (rcs (tl S)).length) = true) := decide_eq_true h0
    have hle : (rcs (tl S)).length ≤ 1000000 := by have := cat_len (rcs (tl S)); have h3 := end_le (tl S); rw [tl_length] at h3; unfold endN at h3; omega
    obtain ⟨T, hT⟩ : ∃ T, T = bs (rcs (tl S))[(rcs (tl S)).length - 1] := ⟨_, rfl⟩
    have HT : Hid (T = bs (rcs (tl S))[(rcs (tl S)).length - 1]) := hT
    rw [← hT] at hcl
    obtain ⟨n, hn⟩ : ∃ n, n = (rcs (tl S)).length := ⟨_, rfl⟩
    have HFE : Hid (Ending.returned (.tuple #[.string T, .bool true]) = .returned (.tuple #[.string (bs (lst (rcs (tl S)))), .bool (decide (0 < (rcs (tl S)).length))])) := by show _ = _; rw [HD.out, HF.out, hT]
    rw [← hn] at h0 hcl hle ⊢
    rw [Nat.zero_add] at hcl
    clear hT hn ho hst HF HD HT
    have hz : ((n : Int) == 0) = false := beq_eq_false_iff_ne.2 (by omega)
    obtain ⟨m, rfl⟩ : ∃ m, n = m + 1 := ⟨n - 1, by omega⟩
    have hw1 : wrap64 (((m + 1 : Nat) : Int) - 1) = (m : Int) := by unfold wrap64; omega
    rw [show m + 1 - 1 = m by omega] at hcl
    go_wp2
    go_ret2
    exact ⟨HFE.out, HB.out⟩
  · have hz : (rcs (tl S)).length = 0 := by omega
    have he : rcs (tl S) = [] := List.eq_nil_of_length_eq_zero hz
    have HFE : Hid (Ending.returned (.tuple #[.string ⟨#[]⟩, .bool false]) = .returned (.tuple #[.string (bs (lst (rcs (tl S)))), .bool (decide (0 < (rcs (tl S)).length))])) := by show _ = _; rw [he]; rfl
    rw [hz]
    clear ho hz he
    go_wp2
    go_ret2
    exact ⟨HFE.out, HB.out⟩
set_option maxRecDepth 100000 in
set_option maxHeartbeats 2000000 in
theorem sTidy (S : ByteArray) (w : World) (hs : S.size ≤ 2000000) :
    Calls Tryd.prog 27 #[.string S] w fun e w' => e = .returned (.string (bs (cat (rcs (tl S))))) ∧ Below w.heap.size w w' := by
  have HR : Hid _ := sRecords S w hs
  have HE : Hid (S.extract 0 (endN (tl S)) = bs (cat (rcs (tl S)))) := by
    show _ = _
    rw [← bs_tl (S.extract 0 (endN (tl S))), tl_ext, List.drop_zero, take_end]
  have hle : (endN (tl S) : Int) ≤ (S.size : Int) := by have := end_le (tl S); rw [tl_length] at this; omega
  go_enter Tryd.func27, Tryd.ntmps27
  go_wp2_with fail
  refine Calls.mono HR.out ?_
  rintro e w1 ⟨⟨g, c, rfl, ho⟩, hb⟩
  have HB : Hid (Below w.heap.size w w1) := hb
  clear hb HR ho
  go_wp2
  go_ret
  exact ⟨ret_str HE.out, HB.out⟩
end Go.Proofs.YtficonkpbohpeaaDoor.Jn6
