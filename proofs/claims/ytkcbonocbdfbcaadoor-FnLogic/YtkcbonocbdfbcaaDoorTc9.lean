/- Packed tables: two put together, by and or by exclusive or. -/
import Derived.Test.YtkcbonocbdfbcaaDoorTc8
namespace Go.Proofs.YtkcbonocbdfbcaaDoor.Tc9
open Go.RowKit
open Ta0 Ta1 Tc2 Tc4 Tc5 Tc7 Tc8
open Nd0 (Kept set_other set_same lt_of_cell)
set_option linter.unusedVariables false

/-- What stands while the words of two are put together. -/
structure WT (w : World) (n m g h q g2 : Nat) (F G H : Nat → Bool) (k : Nat) (W : World) : Prop where
  lay : Lay W w.heap.size (.int .i64 (n : Int)) (.slice (some ⟨g, 0, none⟩) m m)
  lay2 : Lay W (w.heap.size + 1) (.int .i64 (n : Int)) (.slice (some ⟨h, 0, none⟩) m m)
  res : Lay W (w.heap.size + 2) (.int .i64 0) (.slice none 0 0)
  new : Lay W q (.int .i64 (n : Int)) (.slice (some ⟨g2, 0, none⟩) m m)
  wds : Wds W g m F
  wds2 : Wds W h m G
  wdk : Wdk W g2 m k H
  bel : Below w.heap.size w W
theorem WT.below {w : World} {n m g h q g2 k : Nat} {F G H : Nat → Bool} {W W' : World} (s : WT w n m g h q g2 F G H k W) (b : Below W.heap.size W W') : WT w n m g h q g2 F G H k W' :=
  ⟨s.lay.below b, s.lay2.below b, s.res.below b, s.new.below b, s.wds.below b, s.wds2.below b, s.wdk.below b, s.bel.trans (b.mono s.bel.size)⟩
theorem WT.drew {w : World} {n m g h q g2 k : Nat} {F G H : Nat → Bool} {W : World} (s : WT w n m g h q g2 F G H k W) : WT w n m g h q g2 F G H k W.drew :=
  s.below (below_drewN (Below.refl _ _) 1)
theorem WT.set {w : World} {n m g h q g2 k : Nat} {F G H : Nat → Bool} {W : World} (s : WT w n m g h q g2 F G H k W) (hg : g ≠ g2) (hh : h ≠ g2) (h0 : w.heap.size + 3 ≤ g2) (hq : g2 ≠ q) (v : Int) (hv : v = (wd H k : Int)) : WT w n m g h q g2 F G H (k + 1) (W.setCell ⟨g2, k, none⟩ (.int .u64 v)) := by
  have K := kset (S := fun b => b = g2) (Kept.refl (fun b => b = g2) W) (b := g2) (o := k) rfl (.int .u64 v)
  exact ⟨s.lay.kept K (by omega), s.lay2.kept K (by omega), s.res.kept K (by omega), s.new.kept K (fun e => hq e.symm), s.wds.kept K hg, s.wds2.kept K hh, s.wdk.set v hv, s.bel.trans (K.below (fun b hb => by omega) s.bel.size)⟩

set_option maxHeartbeats 400000 in
theorem fand (x y : Nat) (hx : x < 18446744073709551616) (hy : y < 18446744073709551616) (w : World) :
    Calls Tryd.prog 37 #[.int .u64 (x : Int), .int .u64 (y : Int)] w fun e w' => e = .returned (.int .u64 ((x &&& y : Nat) : Int)) ∧ w' = w := by
  have he := bits_and_u64_nat x y hx hy
  generalize x &&& y = z at *
  go_enter Tryd.func37, Tryd.ntmps37
  go_wp2
  go_ret
  exact ⟨rfl, rfl⟩

set_option maxRecDepth 100000 in
set_option maxHeartbeats 2000000 in
theorem withAnd (n g h : Nat) (F G : Nat → Bool) (w : World) (hn : n ≤ 12) (hW : Wds w g (nw n) F) (hV : Wds w h (nw n) G) :
    Calls Tryd.prog 52 #[pv n (nw n) g, pv n (nw n) h, .func (.func 37) #[] #[]] w fun e w' => ∃ g2, e = .returned (pv n (nw n) g2) ∧ w.heap.size ≤ g2 ∧ Wds w' g2 (nw n) (fun p => F p && G p) ∧ Below w.heap.size w w' := by
  have hnw := nw_le hn
  have hgl := hW.lt (by omega)
  have hhl := hV.lt (by omega)
  have HW : Hid (Wds w g (nw n) F) := hW
  have HV : Hid (Wds w h (nw n) G) := hV
  have HNP : Hid (∀ W, Calls Tryd.prog 45 #[.int .i64 (n : Int)] W fun e w' => ∃ g, e = .returned (pv n (nw n) g) ∧ W.heap.size ≤ g ∧ Wds w' g (nw n) (fun _ => false) ∧ Below W.heap.size W w') := fun W => newPacked n W hn
  have HNO : Hid (∀ i, wd F i &&& wd G i = wd (fun p => F p && G p) i) := fun i => wd_and F G i
  clear hW hV
  generalize (fun p => F p && G p) = H at *
  generalize nw n = m at *
  go_enter Tryd.func52, Tryd.ntmps52
  go_wp2_with fail
  refine (HNP.out _).mono ?_
  rintro e w1 ⟨g2, rfl, hg, hw1, hb1⟩
  have HX0 : Lay w1 w.heap.size (.int .i64 (n : Int)) (.slice (some ⟨g, 0, none⟩) m m) := ((((Lay.made w _ _ _).alloc _).alloc _).below hb1)
  have HY0 : Lay w1 (w.heap.size + 1) (.int .i64 (n : Int)) (.slice (some ⟨h, 0, none⟩) m m) := by
    have := ((Lay.made (w.alloc (.cells #[.int .i64 (n : Int), .slice (some ⟨g, 0, none⟩) m m] 49)) (.int .i64 (n : Int)) (.slice (some ⟨h, 0, none⟩) m m) 49).alloc _).below hb1
    simpa using this
  have HR0 : Lay w1 (w.heap.size + 2) (.int .i64 0) (.slice none 0 0) := by
    have := (Lay.made ((w.alloc (.cells #[.int .i64 (n : Int), .slice (some ⟨g, 0, none⟩) m m] 49)).alloc (.cells #[.int .i64 (n : Int), .slice (some ⟨h, 0, none⟩) m m] 49)) (.int .i64 0) (.slice none 0 0) 49).below hb1
    simpa using this
  have hsz1 : w.heap.size + 3 ≤ g2 := by simpa using hg
  have hg2l := hw1.lt (by omega)
  have HBA := (((Below.refl w.heap.size w).alloc (Nat.le_refl _) (.cells #[.int .i64 (n : Int), .slice (some ⟨g, 0, none⟩) m m] 49)).alloc (by simp) (.cells #[.int .i64 (n : Int), .slice (some ⟨h, 0, none⟩) m m] 49)).alloc (by simp; omega) (.cells #[.int .i64 0, .slice none 0 0] 49)
  have HB1 : Below w.heap.size w w1 := HBA.trans (hb1.mono (by simp; omega))
  have HS0 : Hid (WT w n m g h w1.heap.size g2 F G H 0 (w1.alloc (.cells #[.int .i64 (n : Int), .slice (some ⟨g2, 0, none⟩) m m] 49))) :=
    ⟨HX0.alloc _, HY0.alloc _, HR0.alloc _, Lay.made _ _ _ _, (HW.out.below HB1).kept (S := fun _ => False) ((Kept.refl _ _).alloc _) (fun h => h), (HV.out.below HB1).kept (S := fun _ => False) ((Kept.refl _ _).alloc _) (fun h => h), (Wdk.start hw1 H).kept (S := fun _ => False) ((Kept.refl _ _).alloc _) (fun h => h), HB1.alloc HB1.size _⟩
  have hgw1 : w.heap.size ≤ w1.heap.size := HB1.size
  have hww : w.heap.size < w1.heap.size := by omega
  obtain ⟨y0, y1, _, _⟩ := HX0
  clear hb1 hw1 hg HR0 HY0 HBA HB1
  go_wp2_with fail
  clear y0 y1
  go_loopw [16] (fun i wr => ∃ k : Nat, k ≤ m ∧ i = .int .i64 k ∧ WT w n m g h w1.heap.size g2 F G H k wr) (fun i _ => m - (intOf i).toNat)
  case atStart => exact ⟨0, Nat.zero_le _, rfl, HS0.out⟩
  case round =>
    obtain ⟨k, hk, rfl, hS⟩ := hrel
    have HS : Hid (WT w n m g h w1.heap.size g2 F G H k wr) := hS
    clear hS
    by_cases hlt : k < m
    · have hkz : (k : Int) < (m : Int) := by omega
      have hk0 : (0 : Int) ≤ (k : Int) := by omega
      obtain ⟨x0, x1, _, _⟩ := HS.out.lay
      obtain ⟨z0, z1, _, _⟩ := HS.out.lay2
      obtain ⟨q0, q1, _, _⟩ := HS.out.new
      have v0 := (HS.out.wds k hlt).1
      have v1 := (HS.out.wds2 k hlt).1
      have HNK : Hid (wd F k &&& wd G k = wd H k) := HNO.out k
      have HFC : Hid (∀ W, Calls Tryd.prog 37 #[.int .u64 (wd F k : Int), .int .u64 (wd G k : Int)] W fun e w' => e = .returned (.int .u64 ((wd H k : Nat) : Int)) ∧ w' = W) := fun W => by
        have := fand _ _ (wd_lt F k) (wd_lt G k) W
        rwa [HNK.out] at this
      have HWV : Hid (∀ W, WT w n m g h w1.heap.size g2 F G H k W → W.cell? ⟨h, k, none⟩ = some (.int .u64 (wd G k : Int))) := fun W s => (s.wds2 k hlt).1
      generalize wd F k = x at *
      generalize wd G k = y at *
      go_wp2_with fail
      go_region_held3 (fun w' => w'.cell? ⟨w1.heap.size, 1, none⟩ = some (.slice (some ⟨g2, 0, none⟩) m m) ∧ w'.cell? ⟨w.heap.size + 1, 1, none⟩ = some (.slice (some ⟨h, 0, none⟩) m m) ∧ w'.cell? ⟨h, k, none⟩ = some (.int .u64 (y : Int))) ((first | exact ⟨q1, z1, v1⟩ | exact ⟨hS3.new.c1, hS3.lay2.c1, HWV.out _ hS3⟩ | exact ⟨sother q1 (by omega), sother z1 (by omega), sother v1 (by omega)⟩)) ((go_at_call 37; refine (HFC.out _).mono ?_; rintro e w3 ⟨rfl, hb3⟩; have hb3' := hb3.symm; clear hb3; subst hb3'; have hS3 := HS.out.drew; obtain ⟨⟨vv, vc, _⟩, vf⟩ := hS3.wdk k hlt))
      go_wp2
      go_roundw
      case rel => exact ⟨k + 1, by omega, by go_num, (HS.out.set (by omega) (by omega) hsz1 (by omega) _ rfl).drew⟩
      case measure => simp [intOf]; omega
    · have hkm : k = m := by omega
      have HS2 : Hid (WT w n m g h w1.heap.size g2 F G H m wr) := by have h := HS.out; rw [hkm] at h; exact h
      clear hkm HS
      obtain ⟨r0, r1, r2, r3⟩ := HS2.out.res
      obtain ⟨q0, q1, _, _⟩ := HS2.out.new
      have HZ := HS2.out.res.put (.int .i64 (n : Int)) (.slice (some ⟨g2, 0, none⟩) m m)
      have HK : Kept (fun b => b = w.heap.size + 2) wr ((wr.setCell ⟨w.heap.size + 2, 0, none⟩ (.int .i64 (n : Int))).setCell ⟨w.heap.size + 2, 1, none⟩ (.slice (some ⟨g2, 0, none⟩) m m)) := kset (S := fun b => b = w.heap.size + 2) (kset (S := fun b => b = w.heap.size + 2) (Kept.refl (fun b => b = w.heap.size + 2) wr) rfl _) rfl _
      have HWZ := HS2.out.wdk.done.kept HK (by omega)
      have HBZ := HS2.out.bel.trans (HK.below (B := w.heap.size) (fun b hb => by omega) HS2.out.bel.size)
      have HH : Hid (∃ W, W = (wr.setCell ⟨w.heap.size + 2, 0, none⟩ (.int .i64 (n : Int))).setCell ⟨w.heap.size + 2, 1, none⟩ (.slice (some ⟨g2, 0, none⟩) m m) ∧ Lay W (w.heap.size + 2) (.int .i64 (n : Int)) (.slice (some ⟨g2, 0, none⟩) m m) ∧ Wds W g2 m H ∧ Below w.heap.size w W) := ⟨_, rfl, HZ, HWZ, HBZ⟩
      clear HZ HK HWZ HBZ
      go_wp2
      obtain ⟨W, hW, hz, hwz, hbz⟩ := HH.out
      have hW2 : (wr.setCell ⟨w.heap.size + 1 + 1, 0, none⟩ (.int .i64 (n : Int))).setCell ⟨w.heap.size + 1 + 1, 1, none⟩ (.slice (some ⟨g2, 0, none⟩) m m) = W := hW.symm
      rw [hW2]
      obtain ⟨z0, z1, _, _⟩ := hz
      exact bodyPost_ret (v := pv n m g2) (by simp [results, Tryd.results52, go_sem, z0, z1]) rfl ⟨g2, rfl, by omega, hwz, hbz⟩

set_option maxHeartbeats 400000 in
theorem fxor (x y : Nat) (hx : x < 18446744073709551616) (hy : y < 18446744073709551616) (w : World) :
    Calls Tryd.prog 38 #[.int .u64 (x : Int), .int .u64 (y : Int)] w fun e w' => e = .returned (.int .u64 ((x ^^^ y : Nat) : Int)) ∧ w' = w := by
  have he := bits_xor_u64_nat x y hx hy
  generalize x ^^^ y = z at *
  go_enter Tryd.func38, Tryd.ntmps38
  go_wp2
  go_ret
  exact ⟨rfl, rfl⟩

set_option maxRecDepth 100000 in
set_option maxHeartbeats 2000000 in
theorem withXor (n g h : Nat) (F G : Nat → Bool) (w : World) (hn : n ≤ 12) (hW : Wds w g (nw n) F) (hV : Wds w h (nw n) G) :
    Calls Tryd.prog 52 #[pv n (nw n) g, pv n (nw n) h, .func (.func 38) #[] #[]] w fun e w' => ∃ g2, e = .returned (pv n (nw n) g2) ∧ w.heap.size ≤ g2 ∧ Wds w' g2 (nw n) (fun p => F p ^^ G p) ∧ Below w.heap.size w w' := by
  have hnw := nw_le hn
  have hgl := hW.lt (by omega)
  have hhl := hV.lt (by omega)
  have HW : Hid (Wds w g (nw n) F) := hW
  have HV : Hid (Wds w h (nw n) G) := hV
  have HNP : Hid (∀ W, Calls Tryd.prog 45 #[.int .i64 (n : Int)] W fun e w' => ∃ g, e = .returned (pv n (nw n) g) ∧ W.heap.size ≤ g ∧ Wds w' g (nw n) (fun _ => false) ∧ Below W.heap.size W w') := fun W => newPacked n W hn
  have HNO : Hid (∀ i, wd F i ^^^ wd G i = wd (fun p => F p ^^ G p) i) := fun i => wd_xor F G i
  clear hW hV
  generalize (fun p => F p ^^ G p) = H at *
  generalize nw n = m at *
  go_enter Tryd.func52, Tryd.ntmps52
  go_wp2_with fail
  refine (HNP.out _).mono ?_
  rintro e w1 ⟨g2, rfl, hg, hw1, hb1⟩
  have HX0 : Lay w1 w.heap.size (.int .i64 (n : Int)) (.slice (some ⟨g, 0, none⟩) m m) := ((((Lay.made w _ _ _).alloc _).alloc _).below hb1)
  have HY0 : Lay w1 (w.heap.size + 1) (.int .i64 (n : Int)) (.slice (some ⟨h, 0, none⟩) m m) := by
    have := ((Lay.made (w.alloc (.cells #[.int .i64 (n : Int), .slice (some ⟨g, 0, none⟩) m m] 49)) (.int .i64 (n : Int)) (.slice (some ⟨h, 0, none⟩) m m) 49).alloc _).below hb1
    simpa using this
  have HR0 : Lay w1 (w.heap.size + 2) (.int .i64 0) (.slice none 0 0) := by
    have := (Lay.made ((w.alloc (.cells #[.int .i64 (n : Int), .slice (some ⟨g, 0, none⟩) m m] 49)).alloc (.cells #[.int .i64 (n : Int), .slice (some ⟨h, 0, none⟩) m m] 49)) (.int .i64 0) (.slice none 0 0) 49).below hb1
    simpa using this
  have hsz1 : w.heap.size + 3 ≤ g2 := by simpa using hg
  have hg2l := hw1.lt (by omega)
  have HBA := (((Below.refl w.heap.size w).alloc (Nat.le_refl _) (.cells #[.int .i64 (n : Int), .slice (some ⟨g, 0, none⟩) m m] 49)).alloc (by simp) (.cells #[.int .i64 (n : Int), .slice (some ⟨h, 0, none⟩) m m] 49)).alloc (by simp; omega) (.cells #[.int .i64 0, .slice none 0 0] 49)
  have HB1 : Below w.heap.size w w1 := HBA.trans (hb1.mono (by simp; omega))
  have HS0 : Hid (WT w n m g h w1.heap.size g2 F G H 0 (w1.alloc (.cells #[.int .i64 (n : Int), .slice (some ⟨g2, 0, none⟩) m m] 49))) :=
    ⟨HX0.alloc _, HY0.alloc _, HR0.alloc _, Lay.made _ _ _ _, (HW.out.below HB1).kept (S := fun _ => False) ((Kept.refl _ _).alloc _) (fun h => h), (HV.out.below HB1).kept (S := fun _ => False) ((Kept.refl _ _).alloc _) (fun h => h), (Wdk.start hw1 H).kept (S := fun _ => False) ((Kept.refl _ _).alloc _) (fun h => h), HB1.alloc HB1.size _⟩
  have hgw1 : w.heap.size ≤ w1.heap.size := HB1.size
  have hww : w.heap.size < w1.heap.size := by omega
  obtain ⟨y0, y1, _, _⟩ := HX0
  clear hb1 hw1 hg HR0 HY0 HBA HB1
  go_wp2_with fail
  clear y0 y1
  go_loopw [16] (fun i wr => ∃ k : Nat, k ≤ m ∧ i = .int .i64 k ∧ WT w n m g h w1.heap.size g2 F G H k wr) (fun i _ => m - (intOf i).toNat)
  case atStart => exact ⟨0, Nat.zero_le _, rfl, HS0.out⟩
  case round =>
    obtain ⟨k, hk, rfl, hS⟩ := hrel
    have HS : Hid (WT w n m g h w1.heap.size g2 F G H k wr) := hS
    clear hS
    by_cases hlt : k < m
    · have hkz : (k : Int) < (m : Int) := by omega
      have hk0 : (0 : Int) ≤ (k : Int) := by omega
      obtain ⟨x0, x1, _, _⟩ := HS.out.lay
      obtain ⟨z0, z1, _, _⟩ := HS.out.lay2
      obtain ⟨q0, q1, _, _⟩ := HS.out.new
      have v0 := (HS.out.wds k hlt).1
      have v1 := (HS.out.wds2 k hlt).1
      have HNK : Hid (wd F k ^^^ wd G k = wd H k) := HNO.out k
      have HFC : Hid (∀ W, Calls Tryd.prog 38 #[.int .u64 (wd F k : Int), .int .u64 (wd G k : Int)] W fun e w' => e = .returned (.int .u64 ((wd H k : Nat) : Int)) ∧ w' = W) := fun W => by
        have := fxor _ _ (wd_lt F k) (wd_lt G k) W
        rwa [HNK.out] at this
      have HWV : Hid (∀ W, WT w n m g h w1.heap.size g2 F G H k W → W.cell? ⟨h, k, none⟩ = some (.int .u64 (wd G k : Int))) := fun W s => (s.wds2 k hlt).1
      generalize wd F k = x at *
      generalize wd G k = y at *
      go_wp2_with fail
      go_region_held3 (fun w' => w'.cell? ⟨w1.heap.size, 1, none⟩ = some (.slice (some ⟨g2, 0, none⟩) m m) ∧ w'.cell? ⟨w.heap.size + 1, 1, none⟩ = some (.slice (some ⟨h, 0, none⟩) m m) ∧ w'.cell? ⟨h, k, none⟩ = some (.int .u64 (y : Int))) ((first | exact ⟨q1, z1, v1⟩ | exact ⟨hS3.new.c1, hS3.lay2.c1, HWV.out _ hS3⟩ | exact ⟨sother q1 (by omega), sother z1 (by omega), sother v1 (by omega)⟩)) ((go_at_call 38; refine (HFC.out _).mono ?_; rintro e w3 ⟨rfl, hb3⟩; have hb3' := hb3.symm; clear hb3; subst hb3'; have hS3 := HS.out.drew; obtain ⟨⟨vv, vc, _⟩, vf⟩ := hS3.wdk k hlt))
      go_wp2
      go_roundw
      case rel => exact ⟨k + 1, by omega, by go_num, (HS.out.set (by omega) (by omega) hsz1 (by omega) _ rfl).drew⟩
      case measure => simp [intOf]; omega
    · have hkm : k = m := by omega
      have HS2 : Hid (WT w n m g h w1.heap.size g2 F G H m wr) := by have h := HS.out; rw [hkm] at h; exact h
      clear hkm HS
      obtain ⟨r0, r1, r2, r3⟩ := HS2.out.res
      obtain ⟨q0, q1, _, _⟩ := HS2.out.new
      have HZ := HS2.out.res.put (.int .i64 (n : Int)) (.slice (some ⟨g2, 0, none⟩) m m)
      have HK : Kept (fun b => b = w.heap.size + 2) wr ((wr.setCell ⟨w.heap.size + 2, 0, none⟩ (.int .i64 (n : Int))).setCell ⟨w.heap.size + 2, 1, none⟩ (.slice (some ⟨g2, 0, none⟩) m m)) := kset (S := fun b => b = w.heap.size + 2) (kset (S := fun b => b = w.heap.size + 2) (Kept.refl (fun b => b = w.heap.size + 2) wr) rfl _) rfl _
      have HWZ := HS2.out.wdk.done.kept HK (by omega)
      have HBZ := HS2.out.bel.trans (HK.below (B := w.heap.size) (fun b hb => by omega) HS2.out.bel.size)
      have HH : Hid (∃ W, W = (wr.setCell ⟨w.heap.size + 2, 0, none⟩ (.int .i64 (n : Int))).setCell ⟨w.heap.size + 2, 1, none⟩ (.slice (some ⟨g2, 0, none⟩) m m) ∧ Lay W (w.heap.size + 2) (.int .i64 (n : Int)) (.slice (some ⟨g2, 0, none⟩) m m) ∧ Wds W g2 m H ∧ Below w.heap.size w W) := ⟨_, rfl, HZ, HWZ, HBZ⟩
      clear HZ HK HWZ HBZ
      go_wp2
      obtain ⟨W, hW, hz, hwz, hbz⟩ := HH.out
      have hW2 : (wr.setCell ⟨w.heap.size + 1 + 1, 0, none⟩ (.int .i64 (n : Int))).setCell ⟨w.heap.size + 1 + 1, 1, none⟩ (.slice (some ⟨g2, 0, none⟩) m m) = W := hW.symm
      rw [hW2]
      obtain ⟨z0, z1, _, _⟩ := hz
      exact bodyPost_ret (v := pv n m g2) (by simp [results, Tryd.results52, go_sem, z0, z1]) rfl ⟨g2, rfl, by omega, hwz, hbz⟩

end Go.Proofs.YtkcbonocbdfbcaaDoor.Tc9
