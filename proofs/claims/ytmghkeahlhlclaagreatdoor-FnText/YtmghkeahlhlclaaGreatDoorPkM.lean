/- Small texts of mine, one behind the other. -/
import Derived.Test.YtmghkeahlhlclaaGreatDoorPkL
import Derived.Test.YtmghkeahlhlclaaGreatDoorIc3
import Derived.Test.YtmghkeahlhlclaaGreatDoorPkK
import Derived.Test.YtmghkeahlhlclaaGreatDoorPkD
import Derived.Test.YtmghkeahlhlclaaGreatDoorPkB
/- The walk of the law FnFault, out of a contract of the program's ReadTerm. -/
namespace Go.Proofs.YtmghkeahlhlclaaGreatDoor.Lt1
open Go.RowKit
open Nd0 Nd3 Tm0 Tx0 Tx1 Ss0 Ss1 Ss8 Ss10 Dx2 Lw4 Tb0 Tb1 Ic3
open Dr0 (Bytes)
open Ws1 (ret_int ret_bool)
set_option linter.unusedVariables false

set_option maxRecDepth 100000 in
set_option maxHeartbeats 4000000 in
theorem lawFault (hRT : IReadTerm) (w : World) (hT : TabR w) (a : Option Addr) (len cap : Nat) (hb : Bytes w a len) :
    Calls Tryz.prog 4 #[.slice a len cap] w fun e w' => e = .returned (.bool true) ∧ Below w.heap.size w w' := by
  have HB : Hid (Bytes w a len) := hb
  have HRT : Hid IReadTerm := hRT
  have HTB : Hid (TabR w) := hT
  clear hb hRT hT
  by_cases hs : 1048576 < len
  · go_enter Tryz.func4, Tryz.ntmps4
    go_wp2_with fail
    refine (lbig _ a len cap true (by simp; omega)).mono ?_
    rintro e w' ⟨rfl, rfl⟩
    go_wp2
    go_ret
    exact ⟨rfl, Below.refl _ _⟩
  go_enter Tryz.func4, Tryz.ntmps4
  go_wp2_with fail
  refine (lbig _ a len cap false (by simp; omega)).mono ?_
  rintro e w0 ⟨rfl, rfl⟩
  go_wp2_with fail
  refine (drawRead _ a len cap HB.out).mono ?_
  rintro e w1 ⟨⟨S, rfl, hS⟩, hb1⟩
  have HB1 : Hid (Below w0.heap.size w0 w1) := hb1
  clear hb1
  go_wp2_with fail
  refine (HRT.out _ S (HTB.out.below HB1.out) (by omega)).mono ?_
  rintro e w2 ⟨a2, c2, rfl, _, hb2, _⟩
  have HB2 : Hid (Below w0.heap.size w0 w2) := HB1.out.trans (hb2.mono HB1.out.size)
  clear hb2
  go_wp2_with fail
  refine (sReadTerm _ S (by omega)).mono ?_
  rintro e w3 ⟨a3, c3, rfl, _, hb3⟩
  have HB3 : Hid (Below w0.heap.size w0 w3) := HB2.out.trans (hb3.mono HB2.out.size)
  clear hb3
  obtain ⟨u, cd, pp, hr⟩ : ∃ u cd pp, readL (tl S) = (u, cd, pp) := ⟨_, _, _, rfl⟩
  have hrb := read_byte (tl S)
  rw [hr] at hrb
  rw [hr]
  simp only at hrb ⊢
  obtain ⟨hb0, hb1, hb2, hb3⟩ := hrb
  rw [tl_length] at hb1
  have HR : Hid (readL (tl S) = (u, cd, pp)) := hr
  clear hr
  by_cases h5 : cd = 5
  · subst h5
    obtain ⟨v, hv, hvl, hp0, hpl⟩ := read_rest HR.out
    have hpz : pp ≤ (S.size : Int) := hb1
    have HE : Hid (readL (tl (S.extract 0 pp.toNat)) = (v, 0, 0)) := by
      show _ = _
      rw [tl_ext, List.drop_zero]; exact hv
    have hz : (S.extract 0 pp.toNat).size ≤ 2097152 := by rw [ByteArray.size_extract]; omega
    clear hv
    go_wp2_with fail
    refine (HRT.out _ _ (HTB.out.below HB3.out) hz).mono ?_
    rintro e w4 ⟨a4, c4, rfl, _, hb4, _⟩
    rw [HE.out]
    have HB4 : Hid (Below w0.heap.size w0 w4) := HB3.out.trans (hb4.mono HB3.out.size)
    have hvz : (0 : Int) < (v.length : Int) := by omega
    clear hb4
    go_wp2
    go_ret
    exact ⟨rfl, HB4.out⟩
  · have h5q : (cd == 5) = false := beq_eq_false_iff_ne.2 h5
    by_cases h0 : cd = 0
    · subst h0
      have hz : (S ++ ByteArray.mk #[41]).size ≤ 2097152 := by
        rw [ByteArray.size_append]; show S.size + 1 ≤ _; omega
      have HT : Hid (tl (S ++ ByteArray.mk #[41]) = tl S ++ [41]) := by show _ = _; rw [tl_app]; rfl
      have hSz : (S.size : Int) ≤ 4100 := by omega
      have HLE : Hid (S.size ≤ 4000) := by
        show _ ≤ _
        apply Classical.byContradiction
        intro hn
        have e := read_long (s := tl S) (by rw [tl_length]; omega)
        rw [HR.out] at e
        simp only [Prod.mk.injEq] at e
        omega
      go_wp2_with fail
      refine (HRT.out _ _ (HTB.out.below HB3.out) hz).mono ?_
      rintro e w4 ⟨a4, c4, rfl, _, hb4, _⟩
      have HB4 : Hid (Below w0.heap.size w0 w4) := HB3.out.trans (hb4.mono HB3.out.size)
      clear hb4
      rw [HT.out]
      by_cases h4 : S.size = 4000
      · have hl := read_long (s := tl S ++ [41]) (by rw [List.length_append, tl_length]; simp; omega)
        rw [hl]
        have h4z : ((S.size : Int) == 4000) = true := by rw [h4]; rfl
        clear hl
        go_wp2
        go_ret
        exact ⟨rfl, HB4.out⟩
      · have HM : Hid (readL (tl S ++ [41]) = ([], 5, (S.size : Int))) := by
          have := read_more HR.out (by rw [tl_length]; have := HLE.out; omega) 41 rfl
          rw [tl_length] at this
          exact this
        rw [HM.out]
        go_wp2
        go_ret
        exact ⟨rfl, HB4.out⟩
    · have h0q : (cd == 0) = false := beq_eq_false_iff_ne.2 h0
      go_wp2
      go_ret
      exact ⟨ret_bool (by simp), HB3.out⟩

end Go.Proofs.YtmghkeahlhlclaaGreatDoor.Lt1

/- The walk of the law FnText, out of contracts of the program's ShowTerm, ReadTerm, Canon and Same. -/
namespace Go.Proofs.YtmghkeahlhlclaaGreatDoor.Lt2
open Go.RowKit
open Nd0 Nd3 Tm0 Tx0 Tx1 Tx4 Ss0 Ss1 Ss8 Ss10 Dx2 Lw4 Lw5 Tb0 Tb1 Ic3 Lt1
open Dr0 (Bytes)
open Ws1 (ret_int ret_bool)
set_option linter.unusedVariables false

theorem has_ok {l : List Nd} (h : hasB l = true) : termOk l = true ∧ showL l ≠ [] := by
  have hne : showL l ≠ [] := by
    intro e
    unfold hasB at h
    rw [e] at h
    cases h
  refine ⟨?_, hne⟩
  cases hT : termOk l
  · exact absurd (show_no hT) hne
  · rfl
theorem has_no {l : List Nd} (h : hasB l = false) : (showL l).length = 0 := by
  unfold hasB at h
  have := of_decide_eq_false h
  omega

theorem head_is {s : List UInt8} (h : 0 < (bs s).size) : opens s = true ↔ (bs s)[0] = 40 := by
  cases s with
  | nil => rw [bs_size] at h; simp at h
  | cons c r =>
    have e : (bs (c :: r))[0] = c := rfl
    rw [e]
    simp [opens]

set_option maxRecDepth 100000 in
set_option maxHeartbeats 8000000 in
theorem lawText (hST : IShowTerm) (hRT : IReadTerm) (hCA : ICanon) (hSA : ISame) (w : World) (hT : TabR w) (a : Option Addr) (len cap : Nat) (hb : Bytes w a len) :
    Calls Tryz.prog 3 #[.slice a len cap] w fun e w' => e = .returned (.bool true) ∧ Below w.heap.size w w' := by
  have HB : Hid (Bytes w a len) := hb
  have HST : Hid IShowTerm := hST
  have HRT : Hid IReadTerm := hRT
  have HCA : Hid ICanon := hCA
  have HSA : Hid ISame := hSA
  have HTB : Hid (TabR w) := hT
  clear hb hST hRT hCA hSA hT
  by_cases hs : 1048576 < len
  · go_enter Tryz.func3, Tryz.ntmps3
    go_wp2_with fail
    refine (lbig _ a len cap true (by simp; omega)).mono ?_
    rintro e w' ⟨rfl, rfl⟩
    go_wp2
    go_ret
    exact ⟨rfl, Below.refl _ _⟩
  have hsl : len ≤ 1048576 := by omega
  go_enter Tryz.func3, Tryz.ntmps3
  go_wp2_with fail
  refine (lbig _ a len cap false (by simp; omega)).mono ?_
  rintro e w0 ⟨rfl, rfl⟩
  go_wp2_with fail
  refine (drawShow _ a len cap HB.out).mono ?_
  rintro e w1 ⟨g, c, L, rfl, hn, hb1, hl1, hl2, hcL⟩
  have HCL : Hid (L.length ≤ c) := hcL
  clear hcL
  have HN1 : Hid (Nodes w1 (some ⟨g, 0, none⟩) L) := hn
  have HB1 : Hid (Below w0.heap.size w0 w1) := hb1
  clear hn hb1
  go_wp2_with fail
  refine (HST.out _ _ L c (HTB.out.below HB1.out).tabs HN1.out HCL.out (by omega)).mono ?_
  rintro e w2 ⟨rfl, hb2⟩
  have HN2 : Hid (Nodes w2 (some ⟨g, 0, none⟩) L) := HN1.out.below hb2
  have HB2 : Hid (Below w0.heap.size w0 w2) := HB1.out.trans (hb2.mono HB1.out.size)
  clear hb2 HN1 HB1
  go_wp2_with fail
  refine (sShowTerm _ _ L c HN2.out).mono ?_
  rintro e w3 ⟨rfl, hb3⟩
  have HN3 : Hid (Nodes w3 (some ⟨g, 0, none⟩) L) := HN2.out.below hb3
  have HB3 : Hid (Below w0.heap.size w0 w3) := HB2.out.trans (hb3.mono HB2.out.size)
  clear hb3 HN2 HB2
  cases hH : hasB L
  · have he0 := has_no hH
    have HCN : Hid (canonL L = []) := by show _ = _; unfold canonL; rw [if_pos he0]
    have HSM : Hid (sameB L L = false) := same_no (.inl hH)
    clear hH he0
    go_wp2_with fail
    refine (HCA.out _ _ L c (HTB.out.below HB3.out) HN3.out HCL.out (by omega)).mono ?_
    rw [HCN.out]
    rintro e w4 ⟨⟨a4, c4, rfl, _⟩, hb4⟩
    have HN4 : Hid (Nodes w4 (some ⟨g, 0, none⟩) L) := HN3.out.below hb4
    have HB4 : Hid (Below w0.heap.size w0 w4) := HB3.out.trans (hb4.mono HB3.out.size)
    clear hb4
    rw [List.length_nil]
    go_wp2_with fail
    refine (HSA.out _ _ _ L L c c (HTB.out.below HB4.out).tabs HN4.out HN4.out HCL.out HCL.out (by omega) (by omega)).mono ?_
    rw [HSM.out]
    rintro e w5 ⟨rfl, hb5⟩
    have HB5 : Hid (Below w0.heap.size w0 w5) := HB4.out.trans (hb5.mono HB4.out.size)
    clear hb5
    go_wp2
    go_ret
    exact ⟨rfl, HB5.out⟩
  · obtain ⟨hT, hS⟩ := has_ok hH
    obtain ⟨u, hu, hTu, hsu⟩ := canon_all hT hS
    have hul := (term_len hTu).2
    have hsz := show_len hT
    have hs1 : 1 ≤ (showL L).length := by
      cases hq : showL L with
      | nil => exact absurd hq hS
      | cons x y => simp
    have HU : Hid (readL (showL L) = (u, 0, 0)) := hu
    have HCN : Hid (canonL L = u) := by show _ = _; unfold canonL; rw [if_neg (by omega), hu]
    have HSU : Hid (showL u = showL L) := hsu
    have HHU : Hid (hasB u = true) := by show _ = _; unfold hasB; rw [hsu]; exact hH
    have HSM : Hid (sameB L u = true) := by
      show _ = _
      rw [same_of hH (by unfold hasB; rw [hsu]; exact hH)]
      exact decide_eq_true hsu.symm
    have HT : Hid (termOk L = true) := hT
    have HS : Hid (showL L ≠ []) := hS
    have hbz : (bs (showL L)).size = (showL L).length := bs_size _
    have HBZ : Hid ((bs (showL L)).size = (showL L).length) := hbz
    clear hH hT hS hu hTu hsu
    obtain ⟨s, hse⟩ : ∃ s : List UInt8, s = showL L := ⟨_, rfl⟩
    have HSE : Hid (s = showL L) := hse
    rw [← hse] at hsz hs1 hbz HBZ ⊢
    clear hse
    have hz : (bs s).size ≤ 4000 := by omega
    have hz1 : 1 ≤ (bs s).size := by omega
    clear hbz
    go_wp2_with fail
    refine (HRT.out _ (bs s) (HTB.out.below HB3.out) (by omega)).mono ?_
    rw [tl_bs, HSE.out]
    rintro e w4 ⟨a4, c4, rfl, hn4, hb4, hc4⟩
    rw [HU.out] at hn4 hc4 ⊢
    simp only at hn4 hc4 ⊢
    have HCU : Hid (u.length ≤ c4) := hc4
    clear hc4
    have HU4 : Hid (Nodes w4 a4 u) := hn4.nodes
    have HN4 : Hid (Nodes w4 (some ⟨g, 0, none⟩) L) := HN3.out.below hb4
    have HB4 : Hid (Below w0.heap.size w0 w4) := HB3.out.trans (hb4.mono HB3.out.size)
    clear hn4 hb4 HN3 HB3
    go_wp2_with fail
    rw [← HSE.out]
    refine (sReadTerm _ (bs s) (by omega)).mono ?_
    rw [tl_bs, HSE.out]
    rintro e w5 ⟨a5, c5, rfl, hn5, hb5⟩
    rw [HU.out] at hn5 ⊢
    simp only at hn5 ⊢
    have HM5 : Hid (Nodes w5 a5 u) := hn5
    have HU5 : Hid (Nodes w5 a4 u) := HU4.out.below hb5
    have HN5 : Hid (Nodes w5 (some ⟨g, 0, none⟩) L) := HN4.out.below hb5
    have HB5 : Hid (Below w0.heap.size w0 w5) := HB4.out.trans (hb5.mono HB4.out.size)
    clear hn5 hb5 HU4 HN4 HB4
    go_wp2_with fail
    refine (sameNodes _ a4 a5 u c4 c5 HU5.out HM5.out).mono ?_
    rintro e w6 ⟨rfl, m6, rfl⟩
    have hd6 : Below w5.heap.size w5 (w5.drewN m6) := below_drewN (Below.refl _ _) _
    have HU6 : Hid (Nodes (w5.drewN m6) a4 u) := HU5.out.below hd6
    have HN6 : Hid (Nodes (w5.drewN m6) (some ⟨g, 0, none⟩) L) := HN5.out.below hd6
    have HB6 : Hid (Below w0.heap.size w0 (w5.drewN m6)) := HB5.out.trans (hd6.mono HB5.out.size)
    clear hd6 HM5 HU5 HN5 HB5
    generalize w5.drewN m6 = w6 at HU6 HN6 HB6 ⊢
    go_wp2_with fail
    refine (HCA.out _ _ L c (HTB.out.below HB6.out) HN6.out HCL.out (by omega)).mono ?_
    rw [HCN.out]
    rintro e w7 ⟨⟨a7, c7, rfl, hn7⟩, hb7⟩
    have HM7 : Hid (Nodes w7 a7 u) := hn7.nodes
    have HU7 : Hid (Nodes w7 a4 u) := HU6.out.below hb7
    have HN7 : Hid (Nodes w7 (some ⟨g, 0, none⟩) L) := HN6.out.below hb7
    have HB7 : Hid (Below w0.heap.size w0 w7) := HB6.out.trans (hb7.mono HB6.out.size)
    clear hn7 hb7 HU6 HN6 HB6
    go_wp2_with fail
    refine (sameNodes _ a7 a4 u c7 c4 HM7.out HU7.out).mono ?_
    rintro e w8 ⟨rfl, m8, rfl⟩
    have hd8 : Below w7.heap.size w7 (w7.drewN m8) := below_drewN (Below.refl _ _) _
    have HU8 : Hid (Nodes (w7.drewN m8) a4 u) := HU7.out.below hd8
    have HN8 : Hid (Nodes (w7.drewN m8) (some ⟨g, 0, none⟩) L) := HN7.out.below hd8
    have HB8 : Hid (Below w0.heap.size w0 (w7.drewN m8)) := HB7.out.trans (hd8.mono HB7.out.size)
    clear hd8 HM7 HU7 HN7 HB7
    generalize w7.drewN m8 = w8 at HU8 HN8 HB8 ⊢
    go_wp2_with fail
    refine (HSA.out _ _ _ L u c c4 (HTB.out.below HB8.out).tabs HN8.out HU8.out HCL.out HCU.out (by omega) (by omega)).mono ?_
    rw [HSM.out]
    rintro e w9 ⟨rfl, hb9⟩
    have HU9 : Hid (Nodes w9 a4 u) := HU8.out.below hb9
    have HB9 : Hid (Below w0.heap.size w0 w9) := HB8.out.trans (hb9.mono HB8.out.size)
    clear hb9 HU8 HN8 HB8
    have HBy : Hid (Bytes w9 a len) := HB.out.below HB9.out
    rw [← HSE.out]
    go_wp2_with fail
    refine (lat _ a len cap 3 (by omega) (by omega) HBy.out hsl).mono ?_
    rintro e wa ⟨⟨x, rfl, hx0, hx1⟩, rfl⟩
    obtain ⟨m, hm⟩ : ∃ m : Nat, x % ((bs s).size : Int) = (m : Int) := ⟨(x % ((bs s).size : Int)).toNat, by have := Int.emod_nonneg x (show ((bs s).size : Int) ≠ 0 by omega); omega⟩
    have hml : m < (bs s).size := by have := Int.emod_lt_of_pos x (show (0 : Int) < ((bs s).size : Int) by omega); omega
    have hnz : ¬ ((bs s).size : Int) = 0 := by omega
    have hmz : (m : Int) ≤ ((bs s).size : Int) := by omega
    have HTK : Hid (tl ((bs s).extract 0 m) = s.take m) := by show _ = _; rw [tl_ext, tl_bs, List.drop_zero]
    have HCT : Hid (opens s = true → (readL (s.take m)).2.1 ≠ 0) := by
      show opens s = true → _
      intro ho
      rw [HSE.out] at ho ⊢
      exact cut_none HT.out HS.out ho (by rw [← HSE.out, ← HBZ.out]; exact hml)
    have hze : ((bs s).extract 0 m).size ≤ 2097152 := by rw [ByteArray.size_extract]; omega
    go_wp2_with fail
    refine (HRT.out _ _ (HTB.out.below HB9.out) hze).mono ?_
    rw [HTK.out]
    rintro e wb ⟨ab, cb, rfl, _, hbb, _⟩
    have HUb : Hid (Nodes wb a4 u) := HU9.out.below hbb
    have HBb : Hid (Below w0.heap.size w0 wb) := HB9.out.trans (hbb.mono HB9.out.size)
    clear hbb HU9 HB9
    generalize (readL (s.take m)).2.1 = ec at HCT ⊢
    generalize (readL (s.take m)).2.2 = ep
    generalize (readL (s.take m)).1.length = el
    have HT2 : Hid (tl (bs s ++ ByteArray.mk #[32]) = s ++ [32]) := by show _ = _; rw [tl_app, tl_bs]; rfl
    have hz2 : (bs s ++ ByteArray.mk #[32]).size ≤ 2097152 := by rw [ByteArray.size_append]; show (bs s).size + 1 ≤ _; omega
    go_wp2_with fail
    refine (HRT.out _ _ (HTB.out.below HBb.out) hz2).mono ?_
    rw [HT2.out]
    rintro e wc ⟨ac, cc, rfl, _, hbc, _⟩
    have HUc : Hid (Nodes wc a4 u) := HUb.out.below hbc
    have HBc : Hid (Below w0.heap.size w0 wc) := HBb.out.trans (hbc.mono HBb.out.size)
    clear hbc HUb HBb
    have hp0 : 0 < (bs s).size := by omega
    by_cases h4 : (bs s).size = 4000
    · have h4z : (((bs s).size : Int) == 4000) = true := by rw [h4]; rfl
      have HRL : Hid (readL (s ++ [32]) = ([], 1, 0)) := read_long (by rw [List.length_append, ← HBZ.out, h4]; decide)
      rw [HRL.out]
      clear h4
      by_cases ho : opens s = true
      · have hh : (bs s)[0] = 40 := (head_is hp0).1 ho
        have hh1 : (((bs s)[0].toNat : Int) == 40) = true := by rw [hh]; rfl
        have hec : (ec == 0) = false := beq_eq_false_iff_ne.2 (HCT.out ho)
        clear hh ho
        go_wp2_with fail
        refine (HST.out _ _ u c4 (HTB.out.below HBc.out).tabs HUc.out HCU.out (by omega)).mono ?_
        rw [HSU.out, HHU.out, ← HSE.out]
        rintro e wd ⟨rfl, hbd⟩
        have HBd : Hid (Below w0.heap.size w0 wd) := HBc.out.trans (hbd.mono HBc.out.size)
        clear hbd
        go_wp2
        go_ret
        exact ⟨ret_bool (by simp), HBd.out⟩
      · have hh1 : (((bs s)[0].toNat : Int) == 40) = false := by
          have hh : (bs s)[0] ≠ 40 := fun e => ho ((head_is hp0).2 e)
          have : (bs s)[0].toNat ≠ 40 := fun e => hh (UInt8.toNat_inj.1 e)
          simp; omega
        clear ho
        go_wp2_with fail
        refine (HST.out _ _ u c4 (HTB.out.below HBc.out).tabs HUc.out HCU.out (by omega)).mono ?_
        rw [HSU.out, HHU.out, ← HSE.out]
        rintro e wd ⟨rfl, hbd⟩
        have HBd : Hid (Below w0.heap.size w0 wd) := HBc.out.trans (hbd.mono HBc.out.size)
        clear hbd
        go_wp2
        go_ret
        exact ⟨ret_bool (by simp), HBd.out⟩
    · have h4z : (((bs s).size : Int) == 4000) = false := beq_eq_false_iff_ne.2 (by omega)
      have HMR : Hid (readL (s ++ [32]) = ([], 5, ((bs s).size : Int))) := by
        show _ = _
        have h8 : readL s = (u, 0, 0) := by rw [HSE.out]; exact HU.out
        have h9 := read_more h8 (by rw [← HBZ.out]; omega) 32 rfl
        rw [← HBZ.out] at h9
        exact h9
      rw [HMR.out]
      by_cases ho : opens s = true
      · have hh : (bs s)[0] = 40 := (head_is hp0).1 ho
        have hh1 : (((bs s)[0].toNat : Int) == 40) = true := by rw [hh]; rfl
        have hec : (ec == 0) = false := beq_eq_false_iff_ne.2 (HCT.out ho)
        clear hh ho
        go_wp2_with fail
        refine (HST.out _ _ u c4 (HTB.out.below HBc.out).tabs HUc.out HCU.out (by omega)).mono ?_
        rw [HSU.out, HHU.out, ← HSE.out]
        rintro e wd ⟨rfl, hbd⟩
        have HBd : Hid (Below w0.heap.size w0 wd) := HBc.out.trans (hbd.mono HBc.out.size)
        clear hbd
        go_wp2
        go_ret
        exact ⟨ret_bool (by simp), HBd.out⟩
      · have hh1 : (((bs s)[0].toNat : Int) == 40) = false := by
          have hh : (bs s)[0] ≠ 40 := fun e => ho ((head_is hp0).2 e)
          have : (bs s)[0].toNat ≠ 40 := fun e => hh (UInt8.toNat_inj.1 e)
          simp; omega
        clear ho
        go_wp2_with fail
        refine (HST.out _ _ u c4 (HTB.out.below HBc.out).tabs HUc.out HCU.out (by omega)).mono ?_
        rw [HSU.out, HHU.out, ← HSE.out]
        rintro e wd ⟨rfl, hbd⟩
        have HBd : Hid (Below w0.heap.size w0 wd) := HBc.out.trans (hbd.mono HBc.out.size)
        clear hbd
        go_wp2
        go_ret
        exact ⟨ret_bool (by simp), HBd.out⟩

end Go.Proofs.YtmghkeahlhlclaaGreatDoor.Lt2
