/- The exact law of Merge. Written by tools/mkdx3.py. -/
import Derived.Deep.CutRange
import Derived.Deep.RegionHeld3
import Derived.Deep.CutBlock
import Derived.Test.YteplffphkakliaaDm5
import Derived.Test.YteplffphkakliaaDp8
import Derived.Test.YteplffphkakliaaTc3
namespace Go.Proofs.Yteplffphkakliaa.Lx33
open Go.RowKit
open Nd0 Nd1 Nd6 Ap1 Dq0
open Ta0 Ta1 Tc2
open Tc3 (Tbx szTable toTable eqTable)
open Ss0 (bs bs_size)
open Ss1 (tl bs_tl)
open Tc5 (Lay kset)
open Tc8 (sother)
open Dp8 (iMerge0 iMergeK iMerge)
open Dm5 (sMerge0 sMergeK sMerge)
set_option linter.unusedVariables false

theorem tok_str {N : Int} {S : ByteArray} (h : tokB N (tl S) = true) : ∃ (n : Nat) (F : Nat → Bool), n ≤ 12 ∧ N = (n : Int) ∧ S = bs (tab n F) := by
  obtain ⟨n, F, h1, h2, h3⟩ := tok_tab h
  exact ⟨n, F, h1, h2, by rw [← bs_tl S, h3]⟩
theorem toBoolE (w : World) (a : Option Addr) (l : List Bool) (c : Nat) (h : Bools w a l) (hl : l.length ≤ 1048576) :
    Calls Try.prog 24 #[.slice a l.length c] w fun e w' => ∃ g, e = .returned (.slice (some ⟨g, 0, none⟩) l.length l.length) ∧ w.heap.size ≤ g ∧ WBools w' w.heap.size (some ⟨g, 0, none⟩) l ∧ Below w.heap.size w w' :=
  (toBoolS w a l c h hl).mono fun e w' h => ⟨w.heap.size, h.1, Nat.le_refl _, h.2.1, h.2.2⟩
theorem Tbx.drew {W : World} {g : Nat} {N : Int} {S : ByteArray} (h : Tbx W g N S) : Tbx W.drew g N S := ⟨h.c0, h.c1⟩
theorem boolsDrew {W : World} {a : Option Addr} {l : List Bool} (h : Bools W a l) : Bools W.drew a l := h

theorem bMerge (row : List Bool) (N : Int) (S : ByteArray) (k : Int) (hS : S.size ≤ 1048576) : ∃ (R : Int) (U : ByteArray) (ok : Bool), (∀ (W : World) (a : Option Addr) (c : Nat), Bools W a row → Calls Try.prog 37 #[.slice a row.length c, tv N S, .int .i64 k] W fun e w' => e = .returned (.tuple #[tv R U, .bool ok]) ∧ Below W.heap.size W w') ∧ ∀ (W : World) (a : Option Addr) (c : Nat), Bools W a row → Calls Try.prog 16 #[.slice a row.length c, tv N S, .int .i64 k] W fun e w' => e = .returned (.tuple #[tv R U, .bool ok]) ∧ Below W.heap.size W w' := by
  by_cases h : tokB N (tl S) = true ∧ (row.length : Int) = N
  · obtain ⟨h1, h2⟩ := h
    obtain ⟨n, F, hn, rfl, rfl⟩ := tok_str h1
    have hrn : row.length = n := by omega
    by_cases hk : 0 ≤ k ∧ k < (n : Int)
    · obtain ⟨k, rfl⟩ := Int.eq_ofNat_of_zero_le hk.1
      obtain ⟨n, rfl⟩ : ∃ m, n = m + 1 := ⟨n - 1, by omega⟩
      rw [hrn, show ((n + 1 : Nat) : Int) = (n : Int) + 1 by push_cast; rfl]
      exact ⟨_, _, true, fun W a c hB => sMerge n F a row c k W (by omega) hrn (by omega) hB, fun W a c hB => iMerge n F a row c k W (by omega) hrn (by omega) hB⟩
    · rw [hrn]
      exact ⟨0, ByteArray.empty, false, fun W a c _ => sMergeK n F a c k W hn hk, fun W a c _ => iMergeK n F a c k W hn hk⟩
  · exact ⟨0, ByteArray.empty, false, fun W a c _ => sMerge0 a row.length c k W hS h, fun W a c _ => iMerge0 a row.length c k W hS h⟩
theorem _root_.Go.Proofs.Yteplffphkakliaa.Tc5.Lay.madeE (W : World) (x y : Value) (T : Nat) : Lay (W.alloc (.cells #[x, y] T)).drew W.heap.size x y := (Lay.made W x y T).kept (S := fun _ => False) (Kept.refl _ _).drew (fun h => h)
/-- What stands of the table that is handed in. -/
structure TA (w : World) (N : Int) (S : ByteArray) (W : World) : Prop where
  x : Tbx W w.heap.size N S
  bel : Below w.heap.size w W
theorem TA.below {w : World} {N : Int} {S : ByteArray} {W W' : World} (h : TA w N S W) (k : Below W.heap.size W W') : TA w N S W' := ⟨h.x.below k, h.bel.trans (k.mono h.bel.size)⟩
theorem TA.alloc {w : World} {N : Int} {S : ByteArray} {W : World} (h : TA w N S W) (o : Obj) : TA w N S (W.alloc o) := h.below ((Below.refl _ _).alloc (Nat.le_refl _) _)
theorem TA.drew {w : World} {N : Int} {S : ByteArray} {W : World} (h : TA w N S W) : TA w N S W.drew := h.below (below_drewN (Below.refl _ _) 1)
theorem put2 {W : World} {z b o : Nat} {x y u : Value} (h : W.cell? ⟨b, o, none⟩ = some u) (hz : z ≠ b) : ((W.setCell ⟨z, 0, none⟩ x).setCell ⟨z, 1, none⟩ y).cell? ⟨b, o, none⟩ = some u := sother (sother h hz) hz
theorem TA.put {w : World} {N : Int} {S : ByteArray} {W : World} {z : Nat} {a b : Value} (h : TA w N S W) (hL : Lay W z a b) (hz : w.heap.size < z) (x y : Value) : TA w N S ((W.setCell ⟨z, 0, none⟩ x).setCell ⟨z, 1, none⟩ y) := by
  have K : Kept (fun b => b = z) W ((W.setCell ⟨z, 0, none⟩ x).setCell ⟨z, 1, none⟩ y) := kset (S := fun b => b = z) (kset (S := fun b => b = z) (Kept.refl (fun b => b = z) W) rfl _) rfl _
  exact ⟨⟨put2 h.x.c0 (by omega), put2 h.x.c1 (by omega)⟩, h.bel.trans (K.below (fun b hb => by omega) h.bel.size)⟩
theorem bal {W : World} {a : Option Addr} {l : List Bool} (h : Bools W a l) (o : Obj) : Bools (W.alloc o) a l := h.below ((Below.refl _ _).alloc (Nat.le_refl _) _)

set_option maxRecDepth 100000 in
set_option maxHeartbeats 8000000 in
theorem exMerge (w : World) (a0 : Option Addr) (l0 : List Bool) (c0 : Nat) (N : Int) (S : ByteArray) (k : Int) (hN0 : Bools w a0 l0) (hS : S.size ≤ maxLen) :
    Calls Try.prog 10 #[.slice a0 l0.length c0, tv N S, .int .i64 k] w fun e w' => e = .returned (.bool true) ∧ Below w.heap.size w w' := by
  have HN0 : Hid (Bools w a0 l0) := hN0
  have hm0 := hN0.1
  clear hN0
  have HA : Hid (Below w.heap.size w (w.alloc (.cells #[.int .i64 N, .string S] 40))) := (Below.refl _ _).alloc (Nat.le_refl _) _
  have HT : Hid (Tbx (w.alloc (.cells #[.int .i64 N, .string S] 40)) w.heap.size N S) := Tbx.made _ _ _ _
  by_cases hl0 : l0.length ≤ 1048576
  rotate_left
  · have hlz : (1048576 : Int) < (l0.length : Int) := by omega
    go_enter Try.func10, Try.ntmps10
    go_wp2
    go_ret
    exact ⟨rfl, HA.out⟩
  have hlz : ¬ (1048576 : Int) < (l0.length : Int) := by omega
  have HSZ : Hid (S.size ≤ maxLen) := hS
  by_cases hs0 : S.size ≤ 1048576
  rotate_left
  · go_enter Try.func10, Try.ntmps10
    go_wp2_with fail
    refine (szTable N S _ _ (by omega) (by omega) hS).mono ?_
    rw [if_neg (by omega)]
    rintro e x1 ⟨rfl, hb⟩
    have HB1 : Hid (Below w.heap.size w x1) := HA.out.trans (hb.mono HA.out.size)
    clear hb
    go_wp2
    go_ret
    exact ⟨rfl, HB1.out⟩
  obtain ⟨R, U, ok, hsp, him⟩ := bMerge l0 N S k hs0
  have HSP : Hid _ := hsp
  have HIM : Hid _ := him
  clear hsp him
  obtain ⟨x0, hx0⟩ : ∃ x0, x0 = w.alloc (.cells #[.int .i64 N, .string S] 40) := ⟨_, rfl⟩
  have HB0 : Hid (Below w.heap.size w x0) := by rw [hx0]; exact HA.out
  have HX0 : Hid (Tbx x0 w.heap.size N S) := by rw [hx0]; exact HT.out
  have hzw : w.heap.size < x0.heap.size := by rw [hx0]; simp
  have HE0 : Hid (w.alloc (.cells #[.int .i64 N, .string S] 40) = x0) := hx0.symm
  clear hx0 HA HT
  go_enter Try.func10, Try.ntmps10
  go_upto_region 4 with fail
  rw [HE0.out]
  clear HE0
  obtain ⟨c0T, c1T⟩ := HX0.out
  go_wp2_with fail
  refine (szTable N S _ _ (by omega) (by omega) hS).mono ?_
  rw [if_pos (by omega)]
  rintro e x1 ⟨rfl, hb⟩
  have HB1 : Hid (Below w.heap.size w x1) := HB0.out.trans (hb.mono HB0.out.size)
  have HX1 : Hid (Tbx x1 w.heap.size N S) := HX0.out.below hb
  have hz1 : x0.heap.size ≤ x1.heap.size := hb.size
  clear hb c0T c1T
  have hp0 : ¬ (1048576 : Int) - (S.size : Int) < 0 := by omega
  clear hS
  have hok : (ok != ok) = false := by cases ok <;> rfl
  have HS : Hid (TA w N S x1) := ⟨HX1.out, HB1.out⟩
  have hN0 : w.heap.size < x1.heap.size := World.block_lt_of_cell? _ _ HS.out.x.c0
  go_upto_region 7 with fail
  go_cut [8, 9] from 21 to 29 (fun s8 s9 wc => ∃ q : Nat, s8 = .pointer (some ⟨q, 0, none⟩) ∧ s9 = .bool ok ∧ TA w N S wc ∧ Tbx wc q R U)
  case first =>
    obtain ⟨c0T, c1T⟩ := HX1.out
    go_wp2_with fail
    go_region_held3 (fun w' => w'.cell? ⟨w.heap.size, 0, none⟩ = some (.int .i64 N) ∧ w'.cell? ⟨w.heap.size, 1, none⟩ = some (.string S)) ((first | exact ⟨HS.out.x.c0, HS.out.x.c1⟩ | exact ⟨hS3.x.c0, hS3.x.c1⟩ | exact ⟨(hS3.alloc _).x.c0, (hS3.alloc _).x.c1⟩ | exact ⟨(HS.out.alloc _).x.c0, (HS.out.alloc _).x.c1⟩ | exact ⟨sother (sother hS3.x.c0 (by omega)) (by omega), sother (sother hS3.x.c1 (by omega)) (by omega)⟩)) ((first | (go_at_call 24; (first | with_reducible refine (toBoolE _ a0 l0 c0 (HN0.out.below hS3.bel) hl0).mono ?_ | with_reducible refine (toBoolE _ a0 l0 c0 (HN0.out.below (hS3.alloc _).bel) hl0).mono ?_ | with_reducible refine (toBoolE _ a0 l0 c0 (HN0.out.below HS.out.drew.bel) hl0).mono ?_ | with_reducible refine (toBoolE _ a0 l0 c0 (HN0.out.below (HS.out.drew.alloc _).bel) hl0).mono ?_ | with_reducible refine (toBoolE _ a0 l0 c0 (HN0.out.below (HS.out.alloc _).drew.bel) hl0).mono ?_); rintro e xa ⟨gr, rfl, hg, hw, hb⟩; (first | have hS3 := hS3.below hb | have hS3 := (hS3.alloc _).below hb | have hS3 := HS.out.drew.below hb | have hS3 := (HS.out.drew.alloc _).below hb | have hS3 := (HS.out.alloc _).drew.below hb); (have hN := World.block_lt_of_cell? _ _ hS3.x.c0); (first | have hL := hL.below hb | have hL := (Lay.madeE _ _ _ _).below hb | have hL := (Lay.made _ _ _ _).below hb | skip); (first | (have hLc := hL; obtain ⟨l0c, l1c, l2c, l3c⟩ := hLc) | skip); have ER : Hid (Bools xa (some ⟨gr, 0, none⟩) l0) := WBools.plain hw; clear hb hg hw) | (go_at_call 25; (with_reducible refine (toTable N S _).mono ?_); rintro e xa ⟨rfl, hb⟩; (first | have ER : Hid (Bools xa (some ⟨gr, 0, none⟩) l0) := ER.out.below hb | have ER : Hid (Bools xa (some ⟨gr, 0, none⟩) l0) := (bal ER.out _).below hb | skip); (first | have hS3 := hS3.below hb | have hS3 := (hS3.alloc _).below hb | have hS3 := HS.out.drew.below hb | have hS3 := (HS.out.drew.alloc _).below hb | have hS3 := (HS.out.alloc _).drew.below hb); (have hN := World.block_lt_of_cell? _ _ hS3.x.c0); (first | have hL := hL.below hb | have hL := (Lay.madeE _ _ _ _).below hb | have hL := (Lay.made _ _ _ _).below hb | skip); (first | (have hLc := hL; obtain ⟨l0c, l1c, l2c, l3c⟩ := hLc) | skip); clear hb) | (go_at_call 37; (first | with_reducible refine (HSP.out _ _ l0.length ER.out).mono ?_ | with_reducible refine (HSP.out _ _ l0.length (bal ER.out _)).mono ?_); rintro e xa ⟨rfl, hb⟩; (first | have hS3 := hS3.below hb | have hS3 := (hS3.alloc _).below hb | have hS3 := HS.out.drew.below hb | have hS3 := (HS.out.drew.alloc _).below hb | have hS3 := (HS.out.alloc _).drew.below hb); (have hN := World.block_lt_of_cell? _ _ hS3.x.c0); (first | have hL := hL.below hb | have hL := (Lay.madeE _ _ _ _).below hb | have hL := (Lay.made _ _ _ _).below hb | skip); (first | (have hLc := hL; obtain ⟨l0c, l1c, l2c, l3c⟩ := hLc) | skip); clear hb)))
    all_goals
      go_wp2_with fail
      go_meet
      case rel => first | exact ⟨_, rfl, rfl, hS3.alloc _, Tbx.made _ _ _ _⟩ | exact ⟨_, rfl, rfl, TA.put hS3 hL (by omega) _ _, ⟨(hL.put _ _).c0, (hL.put _ _).c1⟩⟩
  case rest =>
    obtain ⟨q, rfl, rfl, hc1, hc2⟩ := hcut
    have HB2 : Hid (Below w.heap.size w wc) := hc1.bel
    have HX2 : Hid (Tbx wc w.heap.size N S) := hc1.x
    have HQ2 : Hid (Tbx wc q R U) := hc2
    clear hc1 hc2 HX1 HB1 HS hN0 HSP
    generalize wc = x2 at *
    go_wp2_with fail
    refine (toBoolE _ a0 l0 c0 (HN0.out.below HB2.out) hl0).mono ?_
    rintro e x3 ⟨gx, rfl, hg, hw, hb⟩
    have HB3 : Hid (Below w.heap.size w x3) := HB2.out.trans (hb.mono HB2.out.size)
    have HX3 : Hid (Tbx x3 w.heap.size N S) := HX2.out.below hb
    have hz3 : x2.heap.size ≤ x3.heap.size := hb.size
    have HQ3 : Hid (Tbx x3 q R U) := HQ2.out.below hb
    have Hx_3 : Hid (BoolsIn x3 x2.heap.size x3.heap.size (some ⟨gx, 0, none⟩) l0) := WBools.within hw
    clear hb hw hg
    obtain ⟨c0T, c1T⟩ := HX3.out
    go_wp2_with fail
    refine (toTable N S _).mono ?_
    rintro e x4 ⟨rfl, hb⟩
    have HB4 : Hid (Below w.heap.size w x4) := HB3.out.trans (hb.mono HB3.out.size)
    have HX4 : Hid (Tbx x4 w.heap.size N S) := HX3.out.below hb
    have hz4 : x3.heap.size ≤ x4.heap.size := hb.size
    have Hx_4 : Hid (BoolsIn x4 x2.heap.size x3.heap.size (some ⟨gx, 0, none⟩) l0) := Hx_3.out.below hb
    have HQ4 : Hid (Tbx x4 q R U) := HQ3.out.below hb
    clear hb c0T c1T
    go_wp2_with fail
    refine (HIM.out _ _ l0.length Hx_4.out.plain).mono ?_
    rintro e x5 ⟨rfl, hb⟩
    have HB5 : Hid (Below w.heap.size w x5) := HB4.out.trans (hb.mono HB4.out.size)
    have HX5 : Hid (Tbx x5 w.heap.size N S) := HX4.out.below hb
    have hz5 : x4.heap.size ≤ x5.heap.size := hb.size
    have Hx_5 : Hid (BoolsIn x5 x2.heap.size x3.heap.size (some ⟨gx, 0, none⟩) l0) := Hx_4.out.below hb
    have HQ5 : Hid (Tbx x5 q R U) := HQ4.out.below hb
    clear hb
    go_upto_region 10 with fail
    obtain ⟨x6, hx⟩ : ∃ x, x = x5.alloc (.cells #[.int .i64 R, .string U] 26) := ⟨_, rfl⟩
    have hb : Below x5.heap.size x5 x6 := by rw [hx]; exact (Below.refl _ _).alloc (Nat.le_refl _) _
    have HG6 : Hid (Tbx x6 x5.heap.size R U) := by rw [hx]; exact Tbx.made _ _ _ _
    have HB6 : Hid (Below w.heap.size w x6) := HB5.out.trans (hb.mono HB5.out.size)
    have HX6 : Hid (Tbx x6 w.heap.size N S) := HX5.out.below hb
    have hz6 : x5.heap.size ≤ x6.heap.size := hb.size
    have Hx_6 : Hid (BoolsIn x6 x2.heap.size x3.heap.size (some ⟨gx, 0, none⟩) l0) := Hx_5.out.below hb
    have HQ6 : Hid (Tbx x6 q R U) := HQ5.out.below hb
    rw [← hx]
    clear hx hb
    obtain ⟨t0, t1⟩ := HQ6.out
    obtain ⟨v0, v1⟩ := HG6.out
    go_wp2_with fail
    refine (eqTable R R U U _).mono ?_
    rw [decide_eq_true (⟨rfl, rfl⟩ : R = R ∧ U = U)]
    rintro e x7 ⟨rfl, hb⟩
    have HB7 : Hid (Below w.heap.size w x7) := HB6.out.trans (hb.mono HB6.out.size)
    have HX7 : Hid (Tbx x7 w.heap.size N S) := HX6.out.below hb
    have hz7 : x6.heap.size ≤ x7.heap.size := hb.size
    have Hx_7 : Hid (BoolsIn x7 x2.heap.size x3.heap.size (some ⟨gx, 0, none⟩) l0) := Hx_6.out.below hb
    have HQ7 : Hid (Tbx x7 q R U) := HQ6.out.below hb
    clear hb t0 t1 v0 v1
    go_wp2_with fail
    refine (toBoolE _ a0 l0 c0 (HN0.out.below HB7.out) hl0).mono ?_
    rintro e x8 ⟨gy, rfl, hg, hw, hb⟩
    have HB8 : Hid (Below w.heap.size w x8) := HB7.out.trans (hb.mono HB7.out.size)
    have HX8 : Hid (Tbx x8 w.heap.size N S) := HX7.out.below hb
    have hz8 : x7.heap.size ≤ x8.heap.size := hb.size
    have Hx_8 : Hid (BoolsIn x8 x2.heap.size x3.heap.size (some ⟨gx, 0, none⟩) l0) := Hx_7.out.below hb
    have HQ8 : Hid (Tbx x8 q R U) := HQ7.out.below hb
    have Hy_8 : Hid (BoolsIn x8 x7.heap.size x8.heap.size (some ⟨gy, 0, none⟩) l0) := WBools.within hw
    clear hb hw hg
    go_wp2_with fail
    refine (eqBoolS _ _ _ l0 _ _ Hx_8.out.plain Hy_8.out.plain).mono ?_
    rintro e x9 ⟨rfl, hb⟩
    have HB9 : Hid (Below w.heap.size w x9) := HB8.out.trans (hb.mono HB8.out.size)
    have HX9 : Hid (Tbx x9 w.heap.size N S) := HX8.out.below hb
    have hz9 : x8.heap.size ≤ x9.heap.size := hb.size
    have Hx_9 : Hid (BoolsIn x9 x2.heap.size x3.heap.size (some ⟨gx, 0, none⟩) l0) := Hx_8.out.below hb
    have Hy_9 : Hid (BoolsIn x9 x7.heap.size x8.heap.size (some ⟨gy, 0, none⟩) l0) := Hy_8.out.below hb
    have HQ9 : Hid (Tbx x9 q R U) := HQ8.out.below hb
    clear hb
    clear hok
    go_wp2
    go_ret
    exact ⟨rfl, HB9.out⟩

end Go.Proofs.Yteplffphkakliaa.Lx33
