/- The program's ReadPick. -/
import Derived.Deep.CutBlock
import Derived.Test.YtlpbfbghgacjiaaWp4
import Derived.Test.YtlpbfbghgacjiaaShelf2
import Derived.Test.YtlpbfbghgacjiaaTc5
namespace Go.Proofs.Ytlpbfbghgacjiaa.Wp5
open Go.RowKit
open Nd0 (Kept Ints WInts IntsIn lt_of_cell)
open Ap0
open Ss0 (bs bs_size)
open Ss1 (tl tl_length)
open Tc5 (Lay)
open Wp0 Wp1 Wp3 Wp4
set_option linter.unusedVariables false

theorem cut_at (s : List UInt8) : (if 0 ≤ Lib.index s [32] then s.take (Lib.index s [32]).toNat else s) = fstT s ∧ (if 0 ≤ Lib.index s [32] then s.drop ((Lib.index s [32]).toNat + 1) else []) = sndT s := by
  unfold fstT sndT
  induction s with
  | nil => simp [Lib.index]
  | cons c l ih =>
    by_cases h : c = 32
    · subst h
      have e : Lib.index (32 :: l) [32] = 0 := by unfold Lib.index; rw [if_pos (by simp [List.isPrefixOf])]
      rw [e]
      constructor
      · simp
      · simp
    · have hc : (c != 32) = true := by simp [h]
      rw [List.takeWhile_cons_of_pos (p := fun c => c != 32) hc, List.dropWhile_cons_of_pos (p := fun c => c != 32) hc, ← ih.1, ← ih.2]
      have e : Lib.index (c :: l) [32] = if Lib.index l [32] == -1 then -1 else Lib.index l [32] + 1 := by
        conv => lhs; unfold Lib.index
        rw [if_neg (by simp [List.isPrefixOf]; exact fun z => h z.symm)]
      have hg := Lib.index_ge l [32]
      by_cases e1 : Lib.index l [32] = -1
      · rw [e, e1]; simp
      · have h0 : 0 ≤ Lib.index l [32] := by omega
        have e2 : Lib.index (c :: l) [32] = Lib.index l [32] + 1 := by rw [e, if_neg (by simpa using e1)]
        rw [e2, if_pos (by omega), if_pos h0, if_pos (by omega), if_pos h0, show (Lib.index l [32] + 1).toNat = (Lib.index l [32]).toNat + 1 by omega, List.take_succ_cons, List.drop_succ_cons]
        exact ⟨rfl, rfl⟩
def cX (S : ByteArray) : ByteArray := ⟨(Lib.cut S.data.toList [32]).1.toArray⟩
def cY (S : ByteArray) : ByteArray := ⟨(Lib.cut S.data.toList [32]).2.1.toArray⟩
def cB (S : ByteArray) : Bool := (Lib.cut S.data.toList [32]).2.2
theorem cX_tl (S : ByteArray) : tl (cX S) = fstT (tl S) := by
  show (Lib.cut (tl S) [32]).1 = _
  rw [← (cut_at (tl S)).1]
  unfold Lib.cut
  split <;> rfl
theorem cY_tl (S : ByteArray) : tl (cY S) = sndT (tl S) := by
  show (Lib.cut (tl S) [32]).2.1 = _
  rw [← (cut_at (tl S)).2]
  unfold Lib.cut
  split <;> rfl
theorem fst_le (t : List UInt8) : (fstT t).length ≤ t.length := by unfold fstT; exact (List.takeWhile_sublist _).length_le
theorem snd_le (t : List UInt8) : (sndT t).length ≤ t.length := by unfold sndT; rw [List.length_drop]; have := (List.dropWhile_sublist (l := t) (fun c => c != 32)).length_le; omega
theorem iCut (S : ByteArray) (w : World) (hm : ∃ m, w.cell? ⟨0, 0, none⟩ = some (.int .i64 m)) (hs : S.size ≤ 1048576) :
    Calls Try.prog 74 #[.string S, .string ⟨#[32]⟩] w fun e w' => e = .returned (.tuple #[.string (cX S), .string (cY S), .bool (cB S)]) ∧ ∃ n, w' = w.drewN n := by
  obtain ⟨m, hm⟩ := hm
  exact Try.strings_Cut S ⟨#[32]⟩ m w (by omega) hm
/-- What reading comes to. -/
def RdOut (w : World) (l : List Int) (v : Int) (ok : Bool) (e : Ending) (w' : World) : Prop :=
  ∃ a c, e = .returned (.tuple #[pv a l.length c v, .bool ok]) ∧ IntsIn w' w.heap.size w'.heap.size a l ∧ Below w.heap.size w w'
theorem ows_in {w w' : World} {B B' : Nat} {a : Option Addr} {n c : Nat} {l : List Int} (h : Ows w B (.slice a n c) l) (hB : B' ≤ B) {S : Nat → Prop} (k : Kept S w w') (hs : ∀ b, B ≤ b → ¬ S b) : n = l.length ∧ IntsIn w' B' w'.heap.size a l := by
  obtain ⟨a2, c2, e2, f2⟩ := h.form
  cases e2
  refine ⟨rfl, f2.1, ?_⟩
  rcases f2.2 with e | ⟨b, o, ha, hb, hc⟩
  · exact .inl e
  · by_cases e : l.length = 0
    · exact .inl e
    have hlt : b < w.heap.size := lt_of_cell (hc 0 (by omega)).1
    have := k.size
    exact .inr ⟨b, o, ha, by omega, by omega, fun i hi => ⟨by rw [k.cell (p := ⟨b, o + i, none⟩) hlt (hs b hb)]; exact (hc i hi).1, by rw [k.frozen (p := ⟨b, o + i, none⟩) hlt (hs b hb)]; exact (hc i hi).2⟩⟩

def RdP (w : World) (t : List UInt8) (e : Ending) (w' : World) : Prop := if okP t = true then RdOut w (rvL (fstT t)) ((rvL (sndT t)).getD 0 0) true e w' else RdOut w [] 0 false e w'
set_option maxRecDepth 100000 in
set_option maxHeartbeats 4000000 in
theorem iReadPick (S : ByteArray) (w : World) (hS : S.size ≤ 1048576) (hm : ∃ m, w.cell? ⟨0, 0, none⟩ = some (.int .i64 m)) :
    Calls Try.prog 38 #[.string S] w (RdP w (tl S)) := by
  obtain ⟨X0, hX0⟩ : ∃ X, X = w.alloc (.cells #[.slice none 0 0, .int .i64 0] 60) := ⟨_, rfl⟩
  have HB0 : Hid (Below w.heap.size w X0) := by rw [hX0]; exact (Below.refl _ _).alloc (Nat.le_refl _) _
  have HL0 : Hid (Lay X0 w.heap.size (.slice none 0 0) (.int .i64 0)) := by rw [hX0]; exact Lay.made _ _ _ _
  have HM0 : Hid (∃ m, X0.cell? ⟨0, 0, none⟩ = some (.int .i64 m)) := by
    obtain ⟨m, hm⟩ := hm
    exact ⟨m, by rw [HB0.out.cell (p := ⟨_, 0, none⟩) (lt_of_cell hm)]; exact hm⟩
  have hE : w.alloc (.cells #[.slice none 0 0, .int .i64 0] 60) = X0 := hX0.symm
  have hlen := tl_length S
  have HCX : Hid (tl (cX S) = fstT (tl S)) := cX_tl S
  have HCY : Hid (tl (cY S) = sndT (tl S)) := cY_tl S
  have HSX : Hid ((cX S).size ≤ 1048576) := by
    show _ ≤ _
    rw [← tl_length, HCX.out]
    have := fst_le (tl S)
    omega
  have HSY : Hid ((cY S).size ≤ 1048576) := by
    show _ ≤ _
    rw [← tl_length, HCY.out]
    have := snd_le (tl S)
    omega
  have HS : Hid (S.size ≤ 1048576) := hS
  clear hX0 hm hlen hS
  go_enter Try.func38, Try.ntmps38
  go_wp2_with fail
  clear hE
  refine (iCut S X0 HM0.out HS.out).mono ?_
  rintro e x1 ⟨rfl, nn, rfl⟩
  have hd : Below X0.heap.size X0 (X0.drewN nn) := ⟨rfl, rfl, rfl, Nat.le_refl _, fun _ _ => rfl⟩
  have HB1 : Hid (Below w.heap.size w (X0.drewN nn)) := HB0.out.trans (hd.mono HB0.out.size)
  have HL1 : Hid (Lay (X0.drewN nn) w.heap.size (.slice none 0 0) (.int .i64 0)) := HL0.out.below hd
  generalize X0.drewN nn = X1 at *
  clear hd HB0 HL0 HM0
  generalize cX S = SX at *
  generalize cY S = SY at *
  generalize cB S = SB at *
  go_wp2_with fail
  refine (iReadVals SX X1 HSX.out).mono ?_
  rintro e x2 ⟨v2, rfl, ho2, hb2⟩
  have HB2 : Hid (Below w.heap.size w x2) := HB1.out.trans (hb2.mono HB1.out.size)
  have HL2 : Hid (Lay x2 w.heap.size (.slice none 0 0) (.int .i64 0)) := HL1.out.below hb2
  have hx1 : w.heap.size < X1.heap.size := HL1.out.lt
  have HO2 : Hid (Ows x2 (w.heap.size + 1) v2 (rvL (tl SX))) := by
    refine ⟨ho2.1, ?_⟩
    rcases ho2.2 with e | ⟨g, cap, cur, e, hb, r⟩
    · exact .inl e
    · exact .inr ⟨g, cap, cur, e, by omega, r⟩
  obtain ⟨a2, c2, e2, _⟩ := HO2.out.form
  subst e2
  clear ho2 hb2 HB1 HL1 hx1
  go_wp2_with fail
  refine (iReadVals SY x2 HSY.out).mono ?_
  rintro e x3 ⟨v3, rfl, ho3, hb3⟩
  have HB3 : Hid (Below w.heap.size w x3) := HB2.out.trans (hb3.mono HB2.out.size)
  have HL3 : Hid (Lay x3 w.heap.size (.slice none 0 0) (.int .i64 0)) := HL2.out.below hb3
  have HO3 : Hid (Ows x3 (w.heap.size + 1) (.slice a2 (rvL (tl SX)).length c2) (rvL (tl SX))) := HO2.out.kept (S := fun _ => False) (Kept.ofBelow hb3) (fun _ _ h => h)
  obtain ⟨a3, c3, e3, f3⟩ := ho3.form
  subst e3
  have HI3 : Hid (Ints x3 a3 (rvL (tl SY))) := f3.ints
  clear ho3 hb3 HB2 HL2 HO2 f3
  rw [HCX.out, HCY.out] at *
  rw [HCX.out] at HO3
  rw [HCY.out] at HI3
  clear HCX HCY HSX HSY HS
  obtain ⟨L1, hL1⟩ : ∃ L, L = rvL (fstT (tl S)) := ⟨_, rfl⟩
  obtain ⟨L2, hL2⟩ : ∃ L, L = rvL (sndT (tl S)) := ⟨_, rfl⟩
  have fin : ∀ W' : World, Below w.heap.size w W' → okP (tl S) = false → RdP w (tl S) (.returned (.tuple #[pv none 0 0 0, .bool false])) W' := fun W' hb ho => by
    unfold RdP
    rw [ho, if_neg (by simp)]
    exact ⟨none, 0, rfl, ⟨Nat.zero_le _, .inl rfl⟩, hb⟩
  have HFIN : Hid _ := fin
  have HL1 : Hid (L1 = rvL (fstT (tl S))) := hL1
  have HL2 : Hid (L2 = rvL (sndT (tl S))) := hL2
  rw [← hL1] at HO3
  rw [← hL2] at HI3
  rw [← hL1, ← hL2]
  clear fin hL1 hL2
  cases hb1 : rvB (fstT (tl S))
  · have HO : Hid (okP (tl S) = false) := by show _ = _; unfold okP; rw [hb1]; rfl
    clear hb1
    obtain ⟨d0, d1, d2, d3⟩ := HL3.out
    have hd := HL3.out.lt
    go_wp2
    clear d0 d1 d2 d3 hd
    have L := HL3.out.put (.slice none 0 0) (.int .i64 0)
    have K : Kept (fun b => b = w.heap.size) x3 ((x3.setCell ⟨w.heap.size, 0, none⟩ (.slice none 0 0)).setCell ⟨w.heap.size, 1, none⟩ (.int .i64 0)) := ((Kept.refl (fun b => b = w.heap.size) x3).setCell (p := ⟨w.heap.size, 0, none⟩) rfl _).setCell (p := ⟨w.heap.size, 1, none⟩) rfl _
    obtain ⟨d0, d1, _, _⟩ := L
    exact bodyPost_ret (v := .tuple #[pv none 0 0 0, .bool false]) (by simp [results, Try.results38, go_sem, d0, d1]) rfl (HFIN.out _ (HB3.out.trans (K.below (fun b hb => by omega) HB3.out.size)) HO.out)
  cases hb2 : rvB (sndT (tl S))
  · have HO : Hid (okP (tl S) = false) := by show _ = _; unfold okP; rw [hb1, hb2]; rfl
    clear hb1 hb2
    obtain ⟨d0, d1, d2, d3⟩ := HL3.out
    have hd := HL3.out.lt
    go_wp2
    clear d0 d1 d2 d3 hd
    have L := HL3.out.put (.slice none 0 0) (.int .i64 0)
    have K : Kept (fun b => b = w.heap.size) x3 ((x3.setCell ⟨w.heap.size, 0, none⟩ (.slice none 0 0)).setCell ⟨w.heap.size, 1, none⟩ (.int .i64 0)) := ((Kept.refl (fun b => b = w.heap.size) x3).setCell (p := ⟨w.heap.size, 0, none⟩) rfl _).setCell (p := ⟨w.heap.size, 1, none⟩) rfl _
    obtain ⟨d0, d1, _, _⟩ := L
    exact bodyPost_ret (v := .tuple #[pv none 0 0 0, .bool false]) (by simp [results, Try.results38, go_sem, d0, d1]) rfl (HFIN.out _ (HB3.out.trans (K.below (fun b hb => by omega) HB3.out.size)) HO.out)
  by_cases hn : L2.length = 1
  rotate_left
  · have HO : Hid (okP (tl S) = false) := by show _ = _; unfold okP; rw [hb1, hb2, ← HL2.out, decide_eq_false hn]; rfl
    have hn2 : ((L2.length : Int) != 1) = true := by simp; omega
    have hn3 : ¬ (L2.length : Int) = 1 := by omega
    clear hb1 hb2
    obtain ⟨d0, d1, d2, d3⟩ := HL3.out
    have hd := HL3.out.lt
    go_wp2
    clear d0 d1 d2 d3 hd
    have L := HL3.out.put (.slice none 0 0) (.int .i64 0)
    have K : Kept (fun b => b = w.heap.size) x3 ((x3.setCell ⟨w.heap.size, 0, none⟩ (.slice none 0 0)).setCell ⟨w.heap.size, 1, none⟩ (.int .i64 0)) := ((Kept.refl (fun b => b = w.heap.size) x3).setCell (p := ⟨w.heap.size, 0, none⟩) rfl _).setCell (p := ⟨w.heap.size, 1, none⟩) rfl _
    obtain ⟨d0, d1, _, _⟩ := L
    exact bodyPost_ret (v := .tuple #[pv none 0 0 0, .bool false]) (by simp [results, Try.results38, go_sem, d0, d1]) rfl (HFIN.out _ (HB3.out.trans (K.below (fun b hb => by omega) HB3.out.size)) HO.out)
  have HO : Hid (okP (tl S) = true) := by show _ = _; unfold okP; rw [hb1, hb2, ← HL2.out, decide_eq_true hn]; rfl
  obtain ⟨x, hx⟩ : ∃ x, L2 = [x] := ⟨L2.getD 0 0, one_of hn⟩
  have HX : Hid (x = (rvL (sndT (tl S))).getD 0 0) := by show _ = _; rw [← HL2.out, hx]; rfl
  obtain ⟨b, o, ha, hc⟩ : ∃ b o, a3 = some ⟨b, o, none⟩ ∧ x3.cell? ⟨b, o, none⟩ = some (.int .i64 x) := by
    have hi := HI3.out
    rw [hx] at hi
    rcases hi.2 with e | ⟨b, o, e, hc⟩
    · simp at e
    · exact ⟨b, o, e, by simpa using hc 0 (by simp)⟩
  subst ha
  have hbl := lt_of_cell hc
  clear hb1 hb2 HI3
  have hln : (L2.length : Int) = 1 := by omega
  clear hx
  obtain ⟨n2, hn2⟩ : ∃ n2, n2 = L2.length := ⟨_, rfl⟩
  rw [← hn2] at hn ⊢
  clear hn2 hln
  subst hn
  obtain ⟨d0, d1, d2, d3⟩ := HL3.out
  have hd := HL3.out.lt
  go_wp2
  clear d0 d1 d2 d3 hd
  have L := HL3.out.put (.slice a2 L1.length c2) (.int .i64 x)
  have K : Kept (fun b => b = w.heap.size) x3 ((x3.setCell ⟨w.heap.size, 0, none⟩ (.slice a2 L1.length c2)).setCell ⟨w.heap.size, 1, none⟩ (.int .i64 x)) := ((Kept.refl (fun b => b = w.heap.size) x3).setCell (p := ⟨w.heap.size, 0, none⟩) rfl _).setCell (p := ⟨w.heap.size, 1, none⟩) rfl _
  obtain ⟨d0, d1, _, _⟩ := L
  obtain ⟨_, hin⟩ := ows_in (B' := w.heap.size) HO3.out (by omega) K (fun b hb => by omega)
  refine bodyPost_ret (v := .tuple #[pv a2 L1.length c2 x, .bool true]) (by simp [results, Try.results38, go_sem, d0, d1]) rfl ?_
  unfold RdP
  rw [HO.out, if_pos rfl, ← HL1.out, ← HX.out]
  exact ⟨a2, c2, rfl, hin, HB3.out.trans (K.below (fun b hb => by omega) HB3.out.size)⟩
end Go.Proofs.Ytlpbfbghgacjiaa.Wp5
