/- The walks of the model's ShowTerm, Canon and Same. -/
import Derived.Test.YtmghkeahlhlclaaDoorSs9
import Derived.Test.YtmghkeahlhlclaaDoorSs8
import Derived.Test.YtmghkeahlhlclaaDoorPkF
import Derived.Test.YtmghkeahlhlclaaDoorSp4
import Derived.Test.YtmghkeahlhlclaaDoorPkE
namespace Go.Proofs.YtmghkeahlhlclaaDoor.Ss10
open Go.RowKit
open Nd0 Nd3 Tm0 Tx0 Tx2 Tx3 Tx4 Ss0 Ss1 Ss2 Ss8 Ss9 Ap4
open Tm8 (down_of)
open Sp4 (sTermOk)
open Ws1 (ret_bool)
set_option linter.unusedVariables false

theorem showTo_get (l : List Nd) {k i : Nat} (hi : i < (showTo l k).length) (hk : k ≤ l.length) : (showTo l k)[i] = X l i := by
  have hi' : i < k := by rw [showTo_length] at hi; exact hi
  unfold X
  rw [show_prefix l (k := k) (n := l.length) hi' hk, txt_nat, List.getD_eq_getElem?_getD, List.getElem?_eq_getElem hi]; rfl
theorem showTo_short {l : List Nd} (hT : termOk l = true) {k : Nat} (hk : k ≤ l.length) : ∀ t ∈ showTo l k, t.length ≤ 4000 := by
  intro t ht
  obtain ⟨i, hi, rfl⟩ := List.getElem_of_mem ht
  have hi' : i < k := by rw [showTo_length] at hi; exact hi
  rw [showTo_get l hi hk]
  exact X_len (term_all hT) (down_of hT) (by omega)
theorem ret_sb {a c : ByteArray} {b d : Bool} (h : a = c) (h2 : b = d) : Ending.returned (.tuple #[.string a, .bool b]) = .returned (.tuple #[.string c, .bool d]) := by rw [h, h2]
/-- Whether a term has a text. -/
def hasB (l : List Nd) : Bool := decide (¬ (showL l).length = 0)
theorem show_no {l : List Nd} (h : termOk l = false) : showL l = [] := by unfold showL; rw [h]; rfl

set_option maxRecDepth 100000 in
set_option maxHeartbeats 2000000 in
theorem sShowTerm (w : World) (a : Option Addr) (l : List Nd) (c : Nat) (hN : Nodes w a l) :
    Calls Tryd.prog 7 #[.slice a l.length c] w fun e w' => e = .returned (.tuple #[.string (bs (showL l)), .bool (hasB l)]) ∧ Below w.heap.size w w' := by
  have HN : Hid (Nodes w a l) := hN
  clear hN
  go_enter Tryd.func7, Tryd.ntmps7
  go_wp2_with fail
  refine (sTermOk _ a l c HN.out).mono ?_
  rintro e w1 ⟨rfl, hb1⟩
  have HB1 : Hid (Below w.heap.size w w1) := hb1
  have HN1 : Hid (Nodes w1 a l) := HN.out.below hb1
  clear hb1
  cases hT : termOk l
  · have HE : Hid (showL l = []) := show_no hT
    clear hT
    go_wp2
    go_ret2
    exact ⟨ret_sb (by rw [HE.out]; rfl) (by unfold hasB; rw [HE.out]; rfl), HB1.out⟩
  · have HT : Hid (termOk l = true) := hT
    obtain ⟨hl1, hl2⟩ := term_len hT
    have hbel : Below w1.heap.size w1 (w1.alloc (.cells #[] 9)) := (Below.refl _ _).alloc (Nat.le_refl _) _
    have HO : Hid (Ost (w1.alloc (.cells #[] 9)) w1.heap.size (.slice (some ⟨w1.heap.size, 0, none⟩) 0 0) []) := Ost.lit w1 _ (Nat.le_refl _)
    have HB2 : Hid (Below w1.heap.size w1 (w1.alloc (.cells #[] 9))) := hbel
    clear hT hbel
    go_wp2_with fail
    go_loopw [4, 5] (fun v q wr => ∃ k : Nat, k ≤ l.length ∧ q = .int .i64 k ∧ Ost wr w1.heap.size v (showTo l k) ∧ Below w1.heap.size w1 wr) (fun _ q _ => l.length - (intOf q).toNat)
    case atStart => exact ⟨0, Nat.zero_le _, rfl, HO.out, HB2.out⟩
    case round =>
      clear HO HB2
      obtain ⟨k, hk, rfl, ho, hb⟩ := hrel
      have HO : Hid (Ost wr w1.heap.size u4 (showTo l k)) := ho
      have HBR : Hid (Below w1.heap.size w1 wr) := hb
      have hBs : w1.heap.size ≤ wr.heap.size := hb.size
      by_cases hlt : k < l.length
      · have hkz : (k : Int) < (l.length : Int) := by omega
        have HNR : Hid (Nodes wr a l) := HN1.out.below hb
        rcases HNR.out.2 with h0 | ⟨xb, xo, rfl, hc⟩
        · omega
        obtain ⟨p0, p1, p2, p3, p4, p5⟩ := hc k hlt
        rw [nth_get hlt] at p0 p1 p2 p3 p4 p5
        clear hc
        obtain ⟨ua, uc, hu, hst⟩ := ho.form
        rw [showTo_length] at hu
        have HST : Hid (Strs wr ua (showTo l k)) := hst
        have HWR : Hid (Wr (nth l k) k) := wr_of (fun j hj => (node_width (term_node HT.out (by omega))).2) (term_node HT.out hlt)
        have hsl : (showTo l k).length = k := showTo_length l k
        have HSL : Hid ((showTo l k).length = k) := hsl
        have HSN : Hid (showTo l (k + 1) = showTo l k ++ [showN (nth l k) (showTo l k)]) := rfl
        subst hu
        clear ho hb hst hsl
        generalize nth l k = n at p0 p1 p2 p3 p4 p5 HWR HSN
        go_wp2_with fail
        have hcall := sShow n wr ua (showTo l k) uc HST.out (by rw [HSL.out]; exact HWR.out) (showTo_short HT.out hk)
        rw [HSL.out] at hcall
        refine hcall.mono ?_
        clear hcall
        rintro e w3 ⟨rfl, hb3⟩
        have HO3 : Hid (Ost w3 w1.heap.size (.slice ua k uc) (showTo l k)) := HO.out.kept (S := fun _ => False) (Kept.ofBelow hb3) (fun _ _ h => h)
        have HB3 : Hid (Below w1.heap.size w1 w3) := HBR.out.trans (hb3.mono hBs)
        have hB3 : w1.heap.size ≤ w3.heap.size := HB3.out.size
        clear hb3 p0 p1 p2 p3 p4 p5
        go_wp2_with (at_builtin; go_must (refine app_str w3 rfl _ _ rfl w1.heap.size (.slice ua k uc) (showTo l k) (showN n (showTo l k)) rfl rfl HO3.out hB3 (by rw [HSL.out]; omega) ?_; intro g9 cp9 w9 ho9 hk9 hg9))
        have HO9 : Hid (Ost w9 w1.heap.size (.slice (some ⟨g9, 0, none⟩) ((showTo l k).length + 1) cp9) (showTo l (k + 1))) := by
          show Ost _ _ _ _
          rw [HSN.out]; exact ho9
        have HB9 : Hid (Below w1.heap.size w1 w9) := HB3.out.trans (hk9.below (fun j hj => (HO3.out.lt j hj).1) hB3)
        clear ho9 hk9 hg9
        go_roundw
        case rel => exact ⟨k + 1, by omega, by go_num, HO9.out, HB9.out⟩
        case measure => simp [intOf]; omega
      · have hkz : ¬ (k : Int) < (l.length : Int) := by omega
        obtain rfl : k = l.length := by omega
        obtain ⟨ua, uc, hu, hst⟩ := ho.form
        rw [showTo_length] at hu
        subst hu
        have HBE : Hid (Below w.heap.size w wr) := HB1.out.trans (hb.mono HB1.out.size)
        rcases hst.2 with h0 | ⟨tb, tq, rfl, htc⟩
        · rw [showTo_length] at h0; omega
        have hq := htc (l.length - 1) (by rw [showTo_length]; omega)
        rw [showTo_get l _ (Nat.le_refl _), ← show_X HT.out] at hq
        clear htc hst ho hb HO HBR
        have g1 : (0 : Int) ≤ (l.length : Int) - 1 := by omega
        have g2 : (l.length : Int) - 1 < (l.length : Int) := by omega
        by_cases he : showL l = []
        · have hqe : ((bs (showL l)).toList == []) = true := eql_true (by rw [tl_bs]; exact he)
          have HH : Hid (hasB l = false) := by show _ = _; unfold hasB; rw [he]; rfl
          clear he
          go_wp2
          go_ret2
          exact ⟨ret_sb rfl HH.out.symm, HBE.out⟩
        · have hqe : ((bs (showL l)).toList == []) = false := eql_false (by rw [tl_bs]; exact he)
          have HH : Hid (hasB l = true) := by
            show _ = _
            unfold hasB
            exact decide_eq_true (fun e => he (List.eq_nil_of_length_eq_zero e))
          clear he
          go_wp2
          go_ret2
          exact ⟨ret_sb rfl HH.out.symm, HBE.out⟩

theorem same_of {l m : List Nd} (h1 : hasB l = true) (h2 : hasB m = true) : sameB l m = decide (showL l = showL m) := by
  have e1 : decide (¬ (showL l).length = 0) = true := h1
  have e2 : decide (¬ (showL m).length = 0) = true := h2
  unfold sameB; rw [e1, e2]; rfl
theorem same_no {l m : List Nd} (h : hasB l = false ∨ hasB m = false) : sameB l m = false := by
  rcases h with h | h
  · have e1 : decide (¬ (showL l).length = 0) = false := h
    unfold sameB; rw [e1]; rfl
  · have e1 : decide (¬ (showL m).length = 0) = false := h
    unfold sameB; rw [e1]; simp

set_option maxHeartbeats 1000000 in
theorem sSame (w : World) (a a' : Option Addr) (l m : List Nd) (c c' : Nat) (hN : Nodes w a l) (hM : Nodes w a' m) :
    Calls Tryd.prog 15 #[.slice a l.length c, .slice a' m.length c'] w fun e w' => e = .returned (.bool (sameB l m)) ∧ Below w.heap.size w w' := by
  have HN : Hid (Nodes w a l) := hN
  have HM : Hid (Nodes w a' m) := hM
  clear hN hM
  go_enter Tryd.func15, Tryd.ntmps15
  go_wp2_with fail
  refine (sShowTerm _ a l c HN.out).mono ?_
  rintro e w1 ⟨rfl, hb1⟩
  have HB1 : Hid (Below w.heap.size w w1) := hb1
  have HM1 : Hid (Nodes w1 a' m) := HM.out.below hb1
  clear hb1
  go_wp2_with fail
  refine (sShowTerm _ a' m c' HM1.out).mono ?_
  rintro e w2 ⟨rfl, hb2⟩
  have HB2 : Hid (Below w.heap.size w w2) := HB1.out.trans (hb2.mono HB1.out.size)
  clear hb2
  cases h1 : hasB l
  · have HS : Hid (sameB l m = false) := same_no (.inl h1)
    go_wp2
    go_ret
    exact ⟨ret_bool HS.out.symm, HB2.out⟩
  · cases h2 : hasB m
    · have HS : Hid (sameB l m = false) := same_no (.inr h2)
      go_wp2
      go_ret
      exact ⟨ret_bool HS.out.symm, HB2.out⟩
    · have HS : Hid (sameB l m = decide (showL l = showL m)) := same_of h1 h2
      have HQ : Hid (((bs (showL l)).toList == (bs (showL m)).toList) = decide (showL l = showL m)) := by show _ = _; rw [eqb, tl_bs, tl_bs]
      go_wp2
      go_ret
      exact ⟨ret_bool (by rw [HS.out, ← HQ.out]), HB2.out⟩

end Go.Proofs.YtmghkeahlhlclaaDoor.Ss10
