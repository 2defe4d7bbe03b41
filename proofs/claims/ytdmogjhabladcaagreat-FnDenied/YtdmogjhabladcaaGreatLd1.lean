/- The law of a sentence that is denied, out of contracts of the program's. -/
import Derived.Test.YtdmogjhabladcaaGreatAp7
import Derived.Test.YtdmogjhabladcaaGreatDw8
import Derived.Test.YtdmogjhabladcaaGreatPkD
import Derived.Test.YtdmogjhabladcaaGreatPkM
import Derived.Test.YtdmogjhabladcaaGreatPkH
namespace Go.Proofs.YtdmogjhabladcaaGreat.Ld1
open Go.RowKit
open Nd0 Nd3 Tm0 Tm6 Tm11 Ap2 Ap7 Vl1 Vl2 Vl5 Ic4 Dr0 Dr1 Dr4 Dw0 Dw1 Dw5 Dw8 Lw4
open Lx6 (IBits)
open Sv6 (vRes)
open Sv7 (sHolds)
open Ws1 (ret_int ret_bool)
set_option linter.unusedVariables false

set_option maxHeartbeats 1000000 in
theorem drawSaid (w : World) (a : Option Addr) (len cap : Nat) (hb : Bytes w a len) :
    Calls Tryz.prog 18 #[.slice a len cap] w (NPost w) := by
  have HB : Hid (Bytes w a len) := hb
  clear hb
  go_enter Tryz.func18, Tryz.ntmps18
  go_wp2_with fail
  refine (Dr4.new _ a len cap HB.out).mono ?_
  rintro e w1 ⟨rfl, hc, hb1⟩
  have HC : Hid (Cur w1 w.heap.size a len cap) := hc
  have HB1 : Hid (Below w.heap.size w w1) := hb1
  clear hc hb1
  go_wp2_with fail
  refine (sentence _ w.heap.size a len cap 8 HC.out (low_of HB.out) (by omega) (by omega)).mono ?_
  rintro e w2 ⟨g, c, L, rfl, hd, hk, h1, h2, h3⟩
  have HP : Hid (Nodes w2 (some ⟨g, 0, none⟩) L ∧ Below w.heap.size w w2) := by
    obtain ⟨a9, c9, hv9, hw9⟩ := hd.own.form
    cases hv9
    exact ⟨hw9.nodes, HB1.out.trans (hk.below (fun k (e : k = w.heap.size) => by omega) HB1.out.size)⟩
  have hcc : L.length ≤ c := (own_cap hd.own).2
  clear hd hk
  go_wp2
  go_ret
  exact ⟨g, c, L, rfl, HP.out.1, HP.out.2, h1, by omega, hcc⟩

theorem holds_not {t : List Nd} {x : Int} (h : holdsL t = some x) (hl : t.length < 80) : holdsL (t ++ [notN t]) = some (1 - x) ∧ bitsL (t ++ [notN t]) = bitsL t := by
  unfold holdsL at h
  cases hS : sentB t with
  | false => rw [hS] at h; cases h
  | true =>
    rw [hS] at h
    have hT := sent_ok hS
    have hw : (nth t (t.length - 1)).w = 1 := by
      obtain ⟨_, h2, _⟩ := (Tm14.sent_iff t).1 hS
      exact h2
    refine ⟨?_, bits_not hS hl⟩
    unfold holdsL
    rw [sent_not hS hl]
    exact value_not hT hw hl h

set_option maxRecDepth 100000 in
set_option maxHeartbeats 8000000 in
theorem lawDenied (hHO : IHolds) (hBI : IBits) (w : World) (a : Option Addr) (len cap : Nat) (hb : Bytes w a len) :
    Calls Tryz.prog 4 #[.slice a len cap] w fun e w' => e = .returned (.bool true) ∧ Below w.heap.size w w' := by
  have HB : Hid (Bytes w a len) := hb
  have HHO : Hid IHolds := hHO
  have HBI : Hid IBits := hBI
  clear hb hHO hBI
  by_cases hs : 1048576 < len
  · go_enter Tryz.func4, Tryz.ntmps4
    go_wp2_with fail
    refine (lbig _ a len cap true (by simp; omega)).mono ?_
    rintro e w' ⟨rfl, rfl⟩
    go_wp2
    go_ret
    exact ⟨rfl, Below.refl _ _⟩
  have hsl : len ≤ 1048576 := by omega
  go_enter Tryz.func4, Tryz.ntmps4
  go_wp2_with fail
  refine (lbig _ a len cap false (by simp; omega)).mono ?_
  rintro e w0 ⟨rfl, rfl⟩
  go_wp2_with fail
  refine (drawSaid _ a len cap HB.out).mono ?_
  rintro e w1 ⟨g, c, L, rfl, hn, hb1, hl1, hl2, hcL⟩
  have HCL : Hid (L.length ≤ c) := hcL
  have HN1 : Hid (Nodes w1 (some ⟨g, 0, none⟩) L) := hn
  have HB1 : Hid (Below w0.heap.size w0 w1) := hb1
  clear hn hb1 hcL
  go_wp2_with fail
  refine (HHO.out _ _ L c HN1.out HCL.out (by omega)).mono ?_
  rintro e w2 ⟨rfl, hb2⟩
  have HN2 : Hid (Nodes w2 (some ⟨g, 0, none⟩) L) := HN1.out.below hb2
  have HB2 : Hid (Below w0.heap.size w0 w2) := HB1.out.trans (hb2.mono HB1.out.size)
  clear hb2 HN1
  go_wp2_with fail
  refine (sHolds _ _ L c HN2.out).mono ?_
  rintro e w3 ⟨rfl, hb3⟩
  have HN3 : Hid (Nodes w3 (some ⟨g, 0, none⟩) L) := HN2.out.below hb3
  have HB3 : Hid (Below w0.heap.size w0 w3) := HB2.out.trans (hb3.mono HB2.out.size)
  clear hb3 HN2
  unfold vRes
  cases hH : holdsL L with
  | none =>
    simp only [Option.getD_none, Option.isSome_none]
    go_wp2
    go_ret
    exact ⟨rfl, HB3.out⟩
  | some x =>
    simp only [Option.getD_some, Option.isSome_some]
    have hxx : (x != x) = false := by simp
    by_cases h80 : 80 ≤ L.length
    · have h81 : (80 : Int) ≤ (L.length : Int) := by omega
      go_wp2
      go_ret
      exact ⟨rfl, HB3.out⟩
    · have h81 : ¬ (80 : Int) ≤ (L.length : Int) := by omega
      obtain ⟨hh1, hh2⟩ := holds_not hH (by omega)
      obtain ⟨nq, hnq⟩ : ∃ nq : Nd, nq = notN L := ⟨_, rfl⟩
      rw [← hnq] at hh1 hh2
      have HH1 : Hid (holdsL (L ++ [nq]) = some (1 - x)) := hh1
      have HH2 : Hid (bitsL (L ++ [nq]) = bitsL L) := hh2
      have hx01 : -10 ≤ x ∧ x ≤ 300 := by
        have h1 : valueL L (List.replicate 8 0) = some x := by
          unfold holdsL at hH
          cases hS : sentB L with
          | false => rw [hS] at hH; cases hH
          | true => rw [hS] at hH; exact hH
        have h2 := Pl1.wok_iff.1 (value_wok h1)
        have h3 := Pl1.p2_mono (show (nth L (L.length - 1)).w.toNat ≤ 8 by omega)
        have h4 : Pl1.p2 8 = 256 := rfl
        omega
      obtain ⟨hx0, hx1⟩ := hx01
      have HNQ : Hid (nq = ⟨2, 1, 0, (L.length : Int) - 1, 0, 0⟩) := hnq
      clear hh1 hh2 hnq hH
      rcases HN3.out.2 with h0 | ⟨b', o', he, hcn⟩
      · omega
      cases he
      have hwal : Below w3.heap.size w3 (w3.alloc (.cells #[] 31)) := (Below.refl _ _).alloc (Nat.le_refl _) _
      have HHY : Hid (∀ i (h : i < L.length), NodeAt (w3.alloc (.cells #[] 31)) g (0 + i * 6) L[i]) := fun i hi => (hcn i hi).below hwal (hcn i hi).lt
      clear hcn
      go_wp2_with (at_builtin; first | (refine app_nodes _ rfl _ _ rfl w3.heap.size (.slice (some ⟨w3.heap.size, 0, none⟩) 0 0) [] L g 0 c rfl rfl HHY.out hl1 (Own.lit w3 _ (Nat.le_refl _)) (by simp) (by simp; omega) ?_; intro g4 cp4 w4 ho4 hk4 hg4; simp only [List.length_nil, Nat.zero_add, List.nil_append] at ho4; have HO4 : Hid (Own w4 w3.heap.size (.slice (some ⟨g4, 0, none⟩) L.length cp4) L) := ho4; have HB4 : Hid (Below w3.heap.size w3 w4) := hwal.trans (hk4.below (fun k hk => by cases hk; exact Nat.le_refl _) (by simp)); have hs4 : w3.heap.size ≤ w4.heap.size := HB4.out.size; clear ho4 hk4 hg4) | (refine app_node w4 rfl _ _ rfl w3.heap.size (.slice (some ⟨g4, 0, none⟩) L.length cp4) L ⟨2, 1, 0, (L.length : Int) - 1, 0, 0⟩ rfl w4.heap.size rfl rfl HO4.out hs4 (by omega) ?_; intro g7 cp7 w7 ho7 hk7 hg7; rw [← HNQ.out] at ho7; have HO7 : Hid (Own w7 w3.heap.size (.slice (some ⟨g7, 0, none⟩) (L.length + 1) cp7) (L ++ [nq])) := ho7; have HB7 : Hid (Below w3.heap.size w3 w7) := HB4.out.trans (hk7.below (fun k hk => (HO4.out.lt k hk).1) hs4); clear ho7 hk7 hg7))
      have HN7 : Hid (Nodes w7 (some ⟨g, 0, none⟩) L) := HN3.out.below HB7.out
      have HB07 : Hid (Below w0.heap.size w0 w7) := HB3.out.trans (HB7.out.mono HB3.out.size)
      have HE1 : Hid ((L ++ [nq]).length = L.length + 1) := by show _ = _; simp
      have HUN : Hid (Nodes w7 (some ⟨g7, 0, none⟩) (L ++ [nq])) := by
        obtain ⟨a9, c9, hv9, hw9⟩ := HO7.out.form
        have ha9 : a9 = some ⟨g7, 0, none⟩ := by injection hv9 with h1 h2 h3; exact h1.symm
        rw [ha9] at hw9
        exact hw9.nodes
      have HCU : Hid ((L ++ [nq]).length ≤ cp7) := (own_cap HO7.out).2
      clear HO7 HB7 hwal HNQ
      generalize hU : L ++ [nq] = U at HH1 HH2 HUN HCU HE1
      clear hU
      have hul : U.length ≤ 1048576 := by have := HE1.out; omega
      have hc7 := HHO.out w7 _ U cp7 HUN.out HCU.out hul
      rw [HE1.out, HH1.out] at hc7
      refine hc7.mono ?_
      simp only [Option.getD_some, Option.isSome_some]
      rintro e w8 ⟨rfl, hb8⟩
      have HN8 : Hid (Nodes w8 (some ⟨g, 0, none⟩) L) := HN7.out.below hb8
      have HU8 : Hid (Nodes w8 (some ⟨g7, 0, none⟩) U) := HUN.out.below hb8
      have HB8 : Hid (Below w0.heap.size w0 w8) := HB07.out.trans (hb8.mono HB07.out.size)
      clear hb8 hc7
      go_wp2_with fail
      have hc8 := HBI.out w8 _ U cp7 HU8.out HCU.out hul
      rw [HE1.out, HH2.out] at hc8
      refine hc8.mono ?_
      rintro e w9 ⟨rfl, hb9⟩
      have HN9 : Hid (Nodes w9 (some ⟨g, 0, none⟩) L) := HN8.out.below hb9
      have HB9 : Hid (Below w0.heap.size w0 w9) := HB8.out.trans (hb9.mono HB8.out.size)
      clear hb9 hc8
      go_wp2_with fail
      refine (HBI.out w9 _ L c HN9.out HCL.out (by omega)).mono ?_
      rintro e wa ⟨rfl, hba⟩
      have HBa : Hid (Below w0.heap.size w0 wa) := HB9.out.trans (hba.mono HB9.out.size)
      clear hba
      generalize bitsL L = bz
      go_wp2
      go_ret
      exact ⟨ret_bool (by simp), HBa.out⟩

end Go.Proofs.YtdmogjhabladcaaGreat.Ld1
