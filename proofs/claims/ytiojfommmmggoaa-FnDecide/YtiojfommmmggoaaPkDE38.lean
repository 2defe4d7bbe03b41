/- Small texts of mine, one behind the other. -/
import Derived.Laws.IdiomCopy
import Derived.Test.YtiojfommmmggoaaPkDE35
import Derived.Test.YtiojfommmmggoaaPkDE30
import Derived.Test.YtiojfommmmggoaaPkDE34
/- Packed tables: what is not. -/
namespace Go.Proofs.Ytiojfommmmggoaa.Tc8
open Go.RowKit
open Ta0 Ta1 Tc2 Tc4 Tc5 Tc7
open Nd0 (Kept set_other set_same lt_of_cell)
set_option linter.unusedVariables false

def Wdk (W : World) (g m k : Nat) (H : Nat → Bool) : Prop := ∀ j, j < m → (∃ v : Int, W.cell? ⟨g, j, none⟩ = some (.int .u64 v) ∧ (j < k → v = (wd H j : Int))) ∧ W.frozen? ⟨g, j, none⟩ = false
theorem Wdk.kept {W W' : World} {c P k : Nat} {G : Nat → Bool} (h : Wdk W c P k G) {S : Nat → Prop} (q : Kept S W W') (hs : ¬ S c) : Wdk W' c P k G := fun j hj => by
  obtain ⟨⟨v, h1, h2⟩, h3⟩ := h j hj
  have hg : c < W.heap.size := World.block_lt_of_cell? _ _ h1
  exact ⟨⟨v, by rw [q.cell (p := ⟨c, j, none⟩) hg hs]; exact h1, h2⟩, by rw [q.frozen (p := ⟨c, j, none⟩) hg hs]; exact h3⟩
theorem Wdk.below {W W' : World} {c P k : Nat} {G : Nat → Bool} (h : Wdk W c P k G) (q : Below W.heap.size W W') : Wdk W' c P k G := h.kept (S := fun _ => False) (Kept.ofBelow q) (fun h => h)
theorem Wdk.set {W : World} {c P k : Nat} {G : Nat → Bool} (h : Wdk W c P k G) (v : Int) (hv : v = (wd G k : Int)) : Wdk (W.setCell ⟨c, k, none⟩ (.int .u64 v)) c P (k + 1) G := fun j hj => by
  obtain ⟨⟨u, h1, h2⟩, h3⟩ := h j hj
  by_cases e : j = k
  · subst e
    exact ⟨⟨v, set_same h1, fun _ => hv⟩, by rw [World.frozen?_setCell]; exact h3⟩
  · exact ⟨⟨u, by rw [set_other (by simp <;> omega)]; exact h1, fun x => h2 (by omega)⟩, by rw [World.frozen?_setCell]; exact h3⟩
theorem Wdk.start {W : World} {g m : Nat} {F : Nat → Bool} (h : Wds W g m F) (H : Nat → Bool) : Wdk W g m 0 H := fun j hj => ⟨⟨_, (h j hj).1, fun x => by omega⟩, (h j hj).2⟩
theorem Wdk.done {W : World} {g m : Nat} {H : Nat → Bool} (h : Wdk W g m m H) : Wds W g m H := fun j hj => by
  obtain ⟨⟨v, h1, h2⟩, h3⟩ := h j hj
  rw [h2 hj] at h1
  exact ⟨h1, h3⟩

theorem flip64 {x : Nat} (h : x < 18446744073709551616) : 18446744073709551615 ^^^ x = 18446744073709551615 - x := by
  refine Nat.eq_of_testBit_eq fun j => ?_
  have h2 := Nat.testBit_two_pow_sub_succ (n := 64) (x := x) h j
  have h1 := Nat.testBit_two_pow_sub_one 64 j
  rw [show (2 : Nat) ^ 64 - 1 = 18446744073709551615 from rfl] at h1
  rw [show 18446744073709551615 - x = 2 ^ 64 - (x + 1) by omega, h2, Nat.testBit_xor, h1]
  by_cases hj : j < 64
  · simp [hj]
  · have : x.testBit j = false := Nat.testBit_lt_two_pow (Nat.lt_of_lt_of_le h (Nat.le_trans (by decide : 18446744073709551616 ≤ 2 ^ 64) (Nat.pow_le_pow_right (by omega) (by omega))))
    simp [hj, this]
theorem sother {W : World} {b c o p : Nat} {u v : Value} (h : W.cell? ⟨b, o, none⟩ = some u) (hb : c ≠ b) : (W.setCell ⟨c, p, none⟩ v).cell? ⟨b, o, none⟩ = some u := by
  rw [set_other (fun e => hb (congrArg Addr.block e))]; exact h

structure WN (w : World) (n m g q g2 : Nat) (F H : Nat → Bool) (k : Nat) (W : World) : Prop where
  lay : Lay W w.heap.size (.int .i64 (n : Int)) (.slice (some ⟨g, 0, none⟩) m m)
  res : Lay W (w.heap.size + 1) (.int .i64 0) (.slice none 0 0)
  new : Lay W q (.int .i64 (n : Int)) (.slice (some ⟨g2, 0, none⟩) m m)
  wds : Wds W g m F
  wdk : Wdk W g2 m k H
  bel : Below w.heap.size w W
theorem WN.below {w : World} {n m g q g2 k : Nat} {F H : Nat → Bool} {W W' : World} (h : WN w n m g q g2 F H k W) (b : Below W.heap.size W W') : WN w n m g q g2 F H k W' :=
  ⟨h.lay.below b, h.res.below b, h.new.below b, h.wds.below b, h.wdk.below b, h.bel.trans (b.mono h.bel.size)⟩
theorem WN.drew {w : World} {n m g q g2 k : Nat} {F H : Nat → Bool} {W : World} (h : WN w n m g q g2 F H k W) : WN w n m g q g2 F H k W.drew :=
  h.below (below_drewN (Below.refl _ _) 1)
theorem WN.set {w : World} {n m g q g2 k : Nat} {F H : Nat → Bool} {W : World} (h : WN w n m g q g2 F H k W) (hg : g ≠ g2) (h0 : w.heap.size + 2 ≤ g2) (hq : g2 ≠ q) (v : Int) (hv : v = (wd H k : Int)) : WN w n m g q g2 F H (k + 1) (W.setCell ⟨g2, k, none⟩ (.int .u64 v)) := by
  have K := kset (S := fun b => b = g2) (Kept.refl (fun b => b = g2) W) (b := g2) (o := k) rfl (.int .u64 v)
  exact ⟨h.lay.kept K (by omega), h.res.kept K (by omega), h.new.kept K (fun e => hq e.symm), h.wds.kept K hg, h.wdk.set v hv, h.bel.trans (K.below (fun b hb => by omega) h.bel.size)⟩

set_option maxRecDepth 100000 in
set_option maxHeartbeats 2000000 in
theorem not_ (n g : Nat) (F : Nat → Bool) (w : World) (hn : n ≤ 12) (hW : Wds w g (nw n) (upto (2 ^ n) F)) :
    Calls Try.prog 36 #[pv n (nw n) g] w fun e w' => ∃ g2, e = .returned (pv n (nw n) g2) ∧ w.heap.size ≤ g2 ∧ Wds w' g2 (nw n) (upto (2 ^ n) fun p => !F p) ∧ Below w.heap.size w w' := by
  have hnw := nw_le hn
  have hgl := hW.lt (by omega)
  have HW : Hid (Wds w g (nw n) (upto (2 ^ n) F)) := hW
  have HNP : Hid (∀ W, Calls Try.prog 54 #[.int .i64 (n : Int)] W fun e w' => ∃ g, e = .returned (pv n (nw n) g) ∧ W.heap.size ≤ g ∧ Wds w' g (nw n) (fun _ => false) ∧ Below W.heap.size W w') := fun W => newPacked n W hn
  have HIU : Hid (∀ W, Calls Try.prog 57 #[pv n (nw n) g] W fun e w' => e = .returned (.int .u64 ((use (2 ^ n) : Nat) : Int)) ∧ Below W.heap.size W w') := fun W => inUse n (nw n) g W hn rfl
  have HNO : Hid (∀ i, i < nw n → (18446744073709551615 - wd (upto (2 ^ n) F) i) &&& use (2 ^ n) = wd (upto (2 ^ n) fun p => !F p) i) := fun i hi => wd_not F n i hi
  have hus : use (2 ^ n) < 18446744073709551616 := by
    unfold use; split
    · rename_i h; exact Nat.lt_of_le_of_lt (Nat.sub_le _ _) (Nat.lt_of_lt_of_le (Nat.pow_lt_pow_right (by omega) h) (by decide))
    · decide
  clear hW
  generalize use (2 ^ n) = us at *
  generalize (upto (2 ^ n) fun p => !F p) = H at *
  generalize upto (2 ^ n) F = F at *
  generalize nw n = m at *
  go_enter Try.func36, Try.ntmps36
  go_wp2_with fail
  refine (HNP.out _).mono ?_
  rintro e w1 ⟨g2, rfl, hg, hw1, hb1⟩
  have HX0 : Lay w1 w.heap.size (.int .i64 (n : Int)) (.slice (some ⟨g, 0, none⟩) m m) := (((Lay.made w _ _ _).alloc _).below hb1)
  have HR0 : Lay w1 (w.heap.size + 1) (.int .i64 0) (.slice none 0 0) := by
    have := (Lay.made (w.alloc (.cells #[.int .i64 (n : Int), .slice (some ⟨g, 0, none⟩) m m] 64)) (.int .i64 0) (.slice none 0 0) 64).below hb1
    simpa using this
  have hsz1 : w.heap.size + 2 ≤ g2 := by simpa using hg
  have hg2l := hw1.lt (by omega)
  have HBA := ((Below.refl w.heap.size w).alloc (Nat.le_refl _) (.cells #[.int .i64 (n : Int), .slice (some ⟨g, 0, none⟩) m m] 64)).alloc (by simp) (.cells #[.int .i64 0, .slice none 0 0] 64)
  have HB1 : Below w.heap.size w w1 := HBA.trans (hb1.mono (by simp; omega))
  have HS0 : Hid (WN w n m g w1.heap.size g2 F H 0 (w1.alloc (.cells #[.int .i64 (n : Int), .slice (some ⟨g2, 0, none⟩) m m] 64))) :=
    ⟨HX0.alloc _, HR0.alloc _, Lay.made _ _ _ _, (HW.out.below HB1).kept (S := fun _ => False) ((Kept.refl _ _).alloc _) (fun h => h), (Wdk.start hw1 H).kept (S := fun _ => False) ((Kept.refl _ _).alloc _) (fun h => h), HB1.alloc HB1.size _⟩
  have hgw1 : w.heap.size ≤ w1.heap.size := HB1.size
  have hww : w.heap.size < w1.heap.size := by omega
  obtain ⟨y0, y1, _, _⟩ := HX0
  clear hb1 hw1 hg HR0 HBA HB1
  go_wp2_with fail
  clear y0 y1
  go_loopw [12] (fun i wr => ∃ k : Nat, k ≤ m ∧ i = .int .i64 k ∧ WN w n m g w1.heap.size g2 F H k wr) (fun i _ => m - (intOf i).toNat)
  case atStart => exact ⟨0, Nat.zero_le _, rfl, HS0.out⟩
  case round =>
    obtain ⟨k, hk, rfl, hS⟩ := hrel
    have HS : Hid (WN w n m g w1.heap.size g2 F H k wr) := hS
    clear hS
    by_cases hlt : k < m
    · have hkz : (k : Int) < (m : Int) := by omega
      obtain ⟨x0, x1, _, _⟩ := HS.out.lay
      obtain ⟨q0, q1, _, _⟩ := HS.out.new
      have v0 := (HS.out.wds k hlt).1
      have hvl := wd_lt F k
      have HNk := HNO.out k hlt
      have HNK : Hid ((18446744073709551615 - wd F k) &&& us = wd H k) := HNk
      clear HNk
      generalize hX : wd F k = x at *
      clear hX
      have HV : Hid (bits .and .u64 (bits .xor .u64 IntKind.u64.max (x : Int)) (us : Int) = (wd H k : Int)) := by
        show _ = _
        rw [show IntKind.u64.max = ((18446744073709551615 : Nat) : Int) from rfl, bits_xor_u64_nat _ _ (by omega) hvl, flip64 hvl, bits_and_u64_nat _ _ (by omega) hus, HNK.out]
      go_wp2_with fail
      go_region_held3 (fun w' => w'.cell? ⟨w1.heap.size, 1, none⟩ = some (.slice (some ⟨g2, 0, none⟩) m m) ∧ w'.cell? ⟨w.heap.size, 0, none⟩ = some (.int .i64 (n : Int)) ∧ w'.cell? ⟨w.heap.size, 1, none⟩ = some (.slice (some ⟨g, 0, none⟩) m m)) ((first | exact ⟨q1, x0, x1⟩ | exact ⟨hS3.new.c1, hS3.lay.c0, hS3.lay.c1⟩ | exact ⟨sother hS3.new.c1 (by omega), sother hS3.lay.c0 (by omega), sother hS3.lay.c1 (by omega)⟩)) ((go_at_call 57; refine (HIU.out _).mono ?_; rintro e w3 ⟨rfl, hb3⟩; have hS3 := HS.out.drew.below hb3; obtain ⟨⟨vv, vc, _⟩, vf⟩ := hS3.wdk k hlt))
      go_wp2
      go_roundw
      case rel => exact ⟨k + 1, by omega, by go_num, hS3.set (by omega) hsz1 (by omega) _ HV.out⟩
      case measure => simp [intOf]; omega
    · have hkm : k = m := by omega
      have HS2 : Hid (WN w n m g w1.heap.size g2 F H m wr) := by have h := HS.out; rw [hkm] at h; exact h
      clear hkm HS
      obtain ⟨r0, r1, r2, r3⟩ := HS2.out.res
      obtain ⟨q0, q1, _, _⟩ := HS2.out.new
      have HZ := HS2.out.res.put (.int .i64 (n : Int)) (.slice (some ⟨g2, 0, none⟩) m m)
      have HK : Kept (fun b => b = w.heap.size + 1) wr ((wr.setCell ⟨w.heap.size + 1, 0, none⟩ (.int .i64 (n : Int))).setCell ⟨w.heap.size + 1, 1, none⟩ (.slice (some ⟨g2, 0, none⟩) m m)) := kset (S := fun b => b = w.heap.size + 1) (kset (S := fun b => b = w.heap.size + 1) (Kept.refl (fun b => b = w.heap.size + 1) wr) rfl _) rfl _
      have HWZ := HS2.out.wdk.done.kept HK (by omega)
      have HBZ := HS2.out.bel.trans (HK.below (B := w.heap.size) (fun b hb => by omega) HS2.out.bel.size)
      have HH : Hid (∃ W, W = (wr.setCell ⟨w.heap.size + 1, 0, none⟩ (.int .i64 (n : Int))).setCell ⟨w.heap.size + 1, 1, none⟩ (.slice (some ⟨g2, 0, none⟩) m m) ∧ Lay W (w.heap.size + 1) (.int .i64 (n : Int)) (.slice (some ⟨g2, 0, none⟩) m m) ∧ Wds W g2 m H ∧ Below w.heap.size w W) := ⟨_, rfl, HZ, HWZ, HBZ⟩
      clear HZ HK HWZ HBZ
      go_wp2
      obtain ⟨W, hW, hz, hwz, hbz⟩ := HH.out
      rw [← hW]
      obtain ⟨z0, z1, _, _⟩ := hz
      exact bodyPost_ret (v := pv n m g2) (by simp [results, Try.results36, go_sem, z0, z1]) rfl ⟨g2, rfl, by omega, hwz, hbz⟩

end Go.Proofs.Ytiojfommmmggoaa.Tc8

/- Packed tables: two put together, by and or by exclusive or. -/
namespace Go.Proofs.Ytiojfommmmggoaa.Tc9
open Go.RowKit
open Ta0 Ta1 Tc2 Tc4 Tc5 Tc7 Tc8
open Nd0 (Kept set_other set_same lt_of_cell)
set_option linter.unusedVariables false

end Go.Proofs.Ytiojfommmmggoaa.Tc9

/- Packed tables: a half. -/
namespace Go.Proofs.Ytiojfommmmggoaa.Tc10
open Go.RowKit
open Ta0 Ta1 Tc2 Tc4 Tc5 Tc7 Tc8
open Nd0 (Kept set_other set_same lt_of_cell)
set_option linter.unusedVariables false

end Go.Proofs.Ytiojfommmmggoaa.Tc10

/- The program's functions over tables: count, known, not. -/
namespace Go.Proofs.Ytiojfommmmggoaa.Te1
open Go.RowKit
open Ta0 Ta1 Ta2 Tc2 Tc4 Tc5 Tc6 Tc7 Tc8 Td1 Td2
open Nd0 (Kept Ints set_other set_same lt_of_cell)
open Ss0 (bs bs_size bs_ext)
open Ss1 (tl tl_length tl_get tl_take tl_bs)
set_option linter.unusedVariables false

theorem iOk1 (n : Nat) (F : Nat → Bool) (w : World) (hn : n ≤ 12) :
    Calls Try.prog 34 #[tv (n : Int) (bs (tab n F))] w fun e w' => e = .returned (.bool true) ∧ Below w.heap.size w w' := by
  have := iTableOk (n : Int) (bs (tab n F)) w (by rw [bs_size, tab_length]; have := p12 hn; omega)
  rwa [tl_bs, tab_tok F hn] at this
theorem iOk0 {N : Int} {S : ByteArray} (w : World) (hS : S.size ≤ 1048576) (h : tokB N (tl S) = false) :
    Calls Try.prog 34 #[tv N S] w fun e w' => e = .returned (.bool false) ∧ Below w.heap.size w w' := by
  have := iTableOk N S w hS
  rwa [h] at this
theorem tab_upto (n : Nat) (F : Nat → Bool) : tab n (upto (2 ^ n) F) = tab n F := tab_ext fun i hi => by simp [upto, hi]

set_option maxHeartbeats 1000000 in
theorem iNot (n : Nat) (F : Nat → Bool) (w : World) (hn : n ≤ 12) :
    Calls Try.prog 13 #[tv (n : Int) (bs (tab n F))] w fun e w' => e = .returned (tv (n : Int) (bs (tab n fun p => !F p))) ∧ Below w.heap.size w w' := by
  have HO : Hid (∀ W, Calls Try.prog 34 #[tv (n : Int) (bs (tab n F))] W fun e w' => e = .returned (.bool true) ∧ Below W.heap.size W w') := fun W => iOk1 n F W hn
  have HPK : Hid (∀ W, Calls Try.prog 35 #[tv (n : Int) (bs (tab n F))] W fun e w' => ∃ g, e = .returned (pv n (nw n) g) ∧ W.heap.size ≤ g ∧ Wds w' g (nw n) (upto (2 ^ n) F) ∧ Below W.heap.size W w') := fun W => pack n F W hn
  have HNT : Hid (∀ W g, Wds W g (nw n) (upto (2 ^ n) F) → Calls Try.prog 36 #[pv n (nw n) g] W fun e w' => ∃ g2, e = .returned (pv n (nw n) g2) ∧ W.heap.size ≤ g2 ∧ Wds w' g2 (nw n) (upto (2 ^ n) fun p => !F p) ∧ Below W.heap.size W w') := fun W g h => not_ n g F W hn h
  have HTB : Hid (∀ W g, Wds W g (nw n) (upto (2 ^ n) fun p => !F p) → Calls Try.prog 37 #[pv n (nw n) g] W fun e w' => e = .returned (tv (n : Int) (bs (tab n fun p => !F p))) ∧ Below W.heap.size W w') := fun W g h => by
    have := table n g _ W hn h
    rwa [tab_upto] at this
  generalize bs (tab n fun p => !F p) = RS at *
  generalize (upto (2 ^ n) fun p => !F p) = H at *
  generalize bs (tab n F) = S at *
  generalize upto (2 ^ n) F = F at *
  generalize nw n = m at *
  have HA : Hid (Below w.heap.size w ((w.alloc (.cells #[.int .i64 (n : Int), .string S] 30)).alloc (.cells #[.int .i64 0, .string ByteArray.empty] 30))) := ((Below.refl _ _).alloc (Nat.le_refl _) _).alloc (by simp) _
  have HX : Hid (Lay ((w.alloc (.cells #[.int .i64 (n : Int), .string S] 30)).alloc (.cells #[.int .i64 0, .string ByteArray.empty] 30)) w.heap.size (.int .i64 (n : Int)) (.string S)) := (Lay.made _ _ _ _).alloc _
  have HR : Hid (Lay ((w.alloc (.cells #[.int .i64 (n : Int), .string S] 30)).alloc (.cells #[.int .i64 0, .string ByteArray.empty] 30)) (w.heap.size + 1) (.int .i64 0) (.string ByteArray.empty)) := by
    have := Lay.made (w.alloc (.cells #[.int .i64 (n : Int), .string S] 30)) (.int .i64 0) (.string ByteArray.empty) 30
    show Lay _ _ _ _
    simpa using this
  go_enter Try.func13, Try.ntmps13
  go_wp2_with fail
  refine (HO.out _).mono ?_
  rintro e w1 ⟨rfl, hb⟩
  have HA1 : Hid (Below w.heap.size w w1) := HA.out.trans (hb.mono HA.out.size)
  have HR1 : Hid (Lay w1 (w.heap.size + 1) (.int .i64 0) (.string ByteArray.empty)) := HR.out.below hb
  obtain ⟨x0, x1, _, _⟩ := HX.out.below hb
  clear hb
  go_wp2_with fail
  refine (HPK.out _).mono ?_
  rintro e w2 ⟨g, rfl, hg, hw, hb⟩
  have HA2 : Hid (Below w.heap.size w w2) := HA1.out.trans (hb.mono HA1.out.size)
  have HR2 : Hid (Lay w2 (w.heap.size + 1) (.int .i64 0) (.string ByteArray.empty)) := HR1.out.below hb
  clear hb x0 x1
  go_wp2_with fail
  refine (HNT.out _ g hw).mono ?_
  rintro e w3 ⟨g2, rfl, hg2, hw2, hb⟩
  have HA3 : Hid (Below w.heap.size w w3) := HA2.out.trans (hb.mono HA2.out.size)
  have HR3 : Hid (Lay w3 (w.heap.size + 1) (.int .i64 0) (.string ByteArray.empty)) := HR2.out.below hb
  clear hb hw
  go_wp2_with fail
  refine (HTB.out _ g2 hw2).mono ?_
  rintro e w4 ⟨rfl, hb⟩
  have HA4 : Hid (Below w.heap.size w w4) := HA3.out.trans (hb.mono HA3.out.size)
  have HR4 : Hid (Lay w4 (w.heap.size + 1) (.int .i64 0) (.string ByteArray.empty)) := HR3.out.below hb
  clear hb hw2
  obtain ⟨r0, r1, r2, r3⟩ := HR4.out
  have HFN : Hid _ := finT HR4.out HA4.out (by omega) (.int .i64 (n : Int)) (.string RS)
  go_wp2
  obtain ⟨W, hW, hz, hbz⟩ := HFN.out
  rw [← hW]
  obtain ⟨z0, z1, _, _⟩ := hz
  exact bodyPost_ret (v := tv (n : Int) RS) (by simp [results, Try.results13, go_sem, z0, z1]) rfl ⟨rfl, hbz⟩

end Go.Proofs.Ytiojfommmmggoaa.Te1

/- The model's functions over tables: both. -/
namespace Go.Proofs.Ytiojfommmmggoaa.Td3
open Go.RowKit
open Ta0 Ta1 Tc2 Tc5 Ap9 Td1 Td2
open Nd0 (Kept set_other set_same lt_of_cell)
open Ss0 (bs bs_size bs_ext)
open Ss1 (tl tl_length tl_get tl_take tl_bs)
set_option linter.unusedVariables false

end Go.Proofs.Ytiojfommmmggoaa.Td3

/- The model's functions over tables: half, at. -/
namespace Go.Proofs.Ytiojfommmmggoaa.Td4
open Go.RowKit
open Ta0 Ta1 Ta2 Tc2 Tc5 Ap9 Td1 Td2
open Nd0 (Kept Ints set_other set_same lt_of_cell)
open Ss0 (bs bs_size bs_ext)
open Ss1 (tl tl_length tl_get tl_take tl_bs)
set_option linter.unusedVariables false

set_option maxRecDepth 100000 in
set_option maxHeartbeats 4000000 in
theorem sHalf (n b : Nat) (F : Nat → Bool) (w : World) (hn : n ≤ 11) (hb : b ≤ 1) :
    Calls Try.prog 59 #[tv ((n + 1 : Nat) : Int) (bs (tab (n + 1) F)), .int .i64 (b : Int)] w fun e w' => e = .returned (.tuple #[tv (n : Int) (bs (tab n fun p => F (b * 2 ^ n + p))), .bool true]) ∧ Below w.heap.size w w' := by
  have HO : Hid (∀ W, Calls Try.prog 58 #[tv ((n + 1 : Nat) : Int) (bs (tab (n + 1) F))] W fun e w' => e = .returned (.bool true) ∧ Below W.heap.size W w') := fun W => sOk1 (n + 1) F W (by omega)
  have HI : Hid (∀ W, Calls Try.prog 46 #[.int .i64 (b : Int), .int .i64 0, .int .i64 1] W fun e w' => e = .returned (.bool true) ∧ w' = W) := fun W => sInT W ⟨by omega, by omega⟩
  obtain ⟨hp, hl⟩ := p12 (n := n) (by omega)
  have hp1 : 2 ^ (n + 1) = 2 * 2 ^ n := by rw [Nat.pow_succ]; omega
  have hSz : (bs (tab (n + 1) F)).size = 2 * 2 ^ n := by rw [bs_size, tab_length, hp1]
  have HT : Hid ((bs (tab (n + 1) F)).extract (b * 2 ^ n) (b * 2 ^ n + 2 ^ n) = bs (tab n fun p => F (b * 2 ^ n + p))) := half_text n b F hb
  have e1 : ((n + 1 : Nat) : Int) - 1 = (n : Int) := by omega
  have hNb : (((n + 1 : Nat) : Int) == 0) = false := beq_eq_false_iff_ne.2 (by omega)
  clear hp1
  generalize bs (tab n fun p => F (b * 2 ^ n + p)) = RS at *
  generalize bs (tab (n + 1) F) = S at *
  generalize 2 ^ n = P at *
  have hSP : (S.size : Int) / 2 = (P : Int) := by omega
  have HSz : Hid (S.size = 2 * P) := hSz
  have hSl : S.size ≤ 8192 := by omega
  clear hSz
  generalize n + 1 = N at *
  have HA : Hid (Below w.heap.size w ((w.alloc (.cells #[.int .i64 (N : Int), .string S] 30)).alloc (.cells #[.int .i64 0, .string ByteArray.empty] 30))) := ((Below.refl _ _).alloc (Nat.le_refl _) _).alloc (by simp) _
  have HX : Hid (Lay ((w.alloc (.cells #[.int .i64 (N : Int), .string S] 30)).alloc (.cells #[.int .i64 0, .string ByteArray.empty] 30)) w.heap.size (.int .i64 (N : Int)) (.string S)) := (Lay.made _ _ _ _).alloc _
  have HR : Hid (Lay ((w.alloc (.cells #[.int .i64 (N : Int), .string S] 30)).alloc (.cells #[.int .i64 0, .string ByteArray.empty] 30)) (w.heap.size + 1) (.int .i64 0) (.string ByteArray.empty)) := by
    have := Lay.made (w.alloc (.cells #[.int .i64 (N : Int), .string S] 30)) (.int .i64 0) (.string ByteArray.empty) 30
    show Lay _ _ _ _
    simpa using this
  rcases (by omega : b = 0 ∨ b = 1) with rfl | rfl
  all_goals
    go_enter Try.func59, Try.ntmps59
    go_wp2_with fail
    refine (HO.out _).mono ?_
    rintro e w1 ⟨rfl, hb⟩
    have HA1 : Hid (Below w.heap.size w w1) := HA.out.trans (hb.mono HA.out.size)
    have HR1 : Hid (Lay w1 (w.heap.size + 1) (.int .i64 0) (.string ByteArray.empty)) := HR.out.below hb
    obtain ⟨x0, x1, _, _⟩ := HX.out.below hb
    clear hb
    obtain ⟨r0, r1, r2, r3⟩ := HR1.out
    have hext := HT.out
    go_wp2_with (go_at_call 46; refine (HI.out _).mono ?_; rintro e w' ⟨rfl, rfl⟩)
  · simp only [Nat.zero_mul, Nat.zero_add] at hext
    have hPS : (P : Int) ≤ (S.size : Int) := by have := HSz.out; omega
    go_region
    go_wp2
    obtain ⟨W, hW, hz, hbz⟩ := finT HR1.out HA1.out (by omega) (.int .i64 (n : Int)) (.string RS)
    rw [← hW]
    obtain ⟨z0, z1, _, _⟩ := hz
    exact bodyPost_ret (v := .tuple #[tv (n : Int) RS, .bool true]) (by simp [results, Try.results59, go_sem, z0, z1]) rfl ⟨rfl, below_drewN hbz 1⟩
  · simp only [Nat.one_mul] at hext
    have hPS : (P : Int) + (P : Int) ≤ (S.size : Int) := by have := HSz.out; omega
    go_region
    go_wp2
    obtain ⟨W, hW, hz, hbz⟩ := finT HR1.out HA1.out (by omega) (.int .i64 (n : Int)) (.string RS)
    rw [← hW]
    obtain ⟨z0, z1, _, _⟩ := hz
    exact bodyPost_ret (v := .tuple #[tv (n : Int) RS, .bool true]) (by simp [results, Try.results59, go_sem, z0, z1]) rfl ⟨rfl, below_drewN hbz 1⟩

end Go.Proofs.Ytiojfommmmggoaa.Td4
