/- The exact laws of TableAnd and TableXor. -/
import Derived.Deep.CutBlock
import Derived.Deep.CutRange
import Derived.Test.YtammepilfimlcaaTe2
import Derived.Test.YtammepilfimlcaaTd3
import Derived.Test.YtammepilfimlcaaTc3
import Derived.Test.YtammepilfimlcaaLx20
namespace Go.Proofs.Ytammepilfimlcaa.Lx21
open Go.RowKit
open Ta0 Ta1 Tc2 Tc3 Tc5 Td1 Td2 Td3 Te1 Te2 Lx20
open Tc4 (pv)
open Nd0 (Kept)
open Tc8 (sother)
open Ss0 (bs bs_size)
open Ss1 (tl bs_tl)
set_option linter.unusedVariables false

theorem _root_.Go.Proofs.Ytammepilfimlcaa.Tc5.Lay.madeD (W : World) (x y : Value) (T : Nat) : Lay (W.alloc (.cells #[x, y] T)).drew W.heap.size x y := (Lay.made W x y T).kept (S := fun _ => False) (Kept.refl _ _).drew (fun h => h)
/-- What stands of the two tables that are handed in. -/
structure TA (w : World) (N M : Int) (S T : ByteArray) (W : World) : Prop where
  x : Tbx W w.heap.size N S
  y : Tbx W (w.heap.size + 1) M T
  bel : Below w.heap.size w W
theorem TA.below {w : World} {N M : Int} {S T : ByteArray} {W W' : World} (h : TA w N M S T W) (k : Below W.heap.size W W') : TA w N M S T W' := ⟨h.x.below k, h.y.below k, h.bel.trans (k.mono h.bel.size)⟩
theorem TA.alloc {w : World} {N M : Int} {S T : ByteArray} {W : World} (h : TA w N M S T W) (o : Obj) : TA w N M S T (W.alloc o) := h.below ((Below.refl _ _).alloc (Nat.le_refl _) _)
theorem TA.drew {w : World} {N M : Int} {S T : ByteArray} {W : World} (h : TA w N M S T W) : TA w N M S T W.drew := h.below (below_drewN (Below.refl _ _) 1)
/-- With an answer's box. -/
structure TB (w : World) (N M : Int) (S T : ByteArray) (q : Nat) (R : Int) (U : ByteArray) (W : World) : Prop where
  ta : TA w N M S T W
  b : Tbx W q R U
theorem TB.below {w : World} {N M R : Int} {S T U : ByteArray} {q : Nat} {W W' : World} (h : TB w N M S T q R U W) (k : Below W.heap.size W W') : TB w N M S T q R U W' := ⟨h.ta.below k, h.b.below k⟩
theorem TB.alloc {w : World} {N M R : Int} {S T U : ByteArray} {q : Nat} {W : World} (h : TB w N M S T q R U W) (o : Obj) : TB w N M S T q R U (W.alloc o) := h.below ((Below.refl _ _).alloc (Nat.le_refl _) _)
theorem TB.drew {w : World} {N M R : Int} {S T U : ByteArray} {q : Nat} {W : World} (h : TB w N M S T q R U W) : TB w N M S T q R U W.drew := h.below (below_drewN (Below.refl _ _) 1)
theorem put2 {W : World} {z b o : Nat} {x y u : Value} (h : W.cell? ⟨b, o, none⟩ = some u) (hz : z ≠ b) : ((W.setCell ⟨z, 0, none⟩ x).setCell ⟨z, 1, none⟩ y).cell? ⟨b, o, none⟩ = some u := sother (sother h hz) hz
theorem TA.put {w : World} {N M : Int} {S T : ByteArray} {W : World} {z : Nat} {a b : Value} (h : TA w N M S T W) (hL : Lay W z a b) (hz : w.heap.size + 1 < z) (x y : Value) : TA w N M S T ((W.setCell ⟨z, 0, none⟩ x).setCell ⟨z, 1, none⟩ y) := by
  have K : Kept (fun b => b = z) W ((W.setCell ⟨z, 0, none⟩ x).setCell ⟨z, 1, none⟩ y) := kset (S := fun b => b = z) (kset (S := fun b => b = z) (Kept.refl (fun b => b = z) W) rfl _) rfl _
  exact ⟨⟨put2 h.x.c0 (by omega), put2 h.x.c1 (by omega)⟩, ⟨put2 h.y.c0 (by omega), put2 h.y.c1 (by omega)⟩, h.bel.trans (K.below (fun b hb => by omega) h.bel.size)⟩
theorem TB.ofPut {w : World} {N M R : Int} {S T U : ByteArray} {W : World} {z : Nat} {a b : Value} (h : TA w N M S T W) (hL : Lay W z a b) (hz : w.heap.size + 1 < z) : TB w N M S T z R U ((W.setCell ⟨z, 0, none⟩ (.int .i64 R)).setCell ⟨z, 1, none⟩ (.string U)) :=
  ⟨h.put hL hz _ _, ⟨(hL.put _ _).c0, (hL.put _ _).c1⟩⟩
theorem TB.put {w : World} {N M R : Int} {S T U : ByteArray} {W : World} {q z : Nat} {a b : Value} (h : TB w N M S T q R U W) (hL : Lay W z a b) (hz : w.heap.size + 1 < z) (hq : z ≠ q) (x y : Value) : TB w N M S T q R U ((W.setCell ⟨z, 0, none⟩ x).setCell ⟨z, 1, none⟩ y) :=
  ⟨h.ta.put hL hz _ _, ⟨put2 h.b.c0 hq, put2 h.b.c1 hq⟩⟩

theorem bAnd (N M : Int) (S T : ByteArray) (hS : S.size ≤ 1048576) (hT : T.size ≤ 1048576) : ∃ (R : Int) (U : ByteArray) (ok : Bool), (∀ W, Calls Try.prog 31 #[tv N S, tv M T] W fun e w' => e = .returned (.tuple #[tv R U, .bool ok]) ∧ Below W.heap.size W w') ∧ ∀ W, Calls Try.prog 32 #[tv N S, tv M T] W fun e w' => e = .returned (.tuple #[tv R U, .bool ok]) ∧ Below W.heap.size W w' := by
  by_cases h : tokB N (tl S) = true ∧ tokB M (tl T) = true ∧ N = M
  · obtain ⟨h1, h2, h3⟩ := h
    obtain ⟨n, F, hn, rfl, rfl⟩ := tok_str h1
    obtain ⟨k, G, hk, hk2, rfl⟩ := tok_str h2
    obtain rfl : n = k := by omega
    rw [← h3]
    exact ⟨_, _, _, fun W => sAnd n F G W hn, fun W => iAnd n F G W hn⟩
  · exact ⟨0, ByteArray.empty, false, fun W => sAnd0 W hS hT h, fun W => iAnd0 W hS hT h⟩

set_option maxRecDepth 100000 in
set_option maxHeartbeats 4000000 in
theorem exTableAnd (N : Int) (S : ByteArray) (M : Int) (T : ByteArray) (w : World) (hS : S.size ≤ maxLen) (hT : T.size ≤ maxLen) :
    Calls Try.prog 9 #[tv N S, tv M T] w fun e w' => e = .returned (.bool true) ∧ Below w.heap.size w w' := by
  have HB0 : Hid (Below w.heap.size w ((w.alloc (.cells #[.int .i64 N, .string S] 23)).alloc (.cells #[.int .i64 M, .string T] 23))) := ((Below.refl _ _).alloc (Nat.le_refl _) _).alloc (by simp) _
  have HX0_0 : Hid (Tbx ((w.alloc (.cells #[.int .i64 N, .string S] 23)).alloc (.cells #[.int .i64 M, .string T] 23)) w.heap.size N S) := (Tbx.made _ _ _ _).alloc _
  have HX1_0 : Hid (Tbx ((w.alloc (.cells #[.int .i64 N, .string S] 23)).alloc (.cells #[.int .i64 M, .string T] 23)) (w.heap.size + 1) M T) := by
    have := Tbx.made (w.alloc (.cells #[.int .i64 N, .string S] 23)) M T 23
    show Tbx _ _ _ _
    simpa using this
  by_cases hl0 : S.size ≤ 1048576
  rotate_left
  · have hlz : (-1 : Int) < 0 := by omega
    go_enter Try.func9, Try.ntmps9
    go_wp2_with fail
    refine (szTable N S _ _ (by omega) (by omega) hS).mono ?_
    rw [if_neg (by omega)]
    rintro e y1 ⟨rfl, hb⟩
    have HC1 : Hid (Below w.heap.size w y1) := HB0.out.trans (hb.mono HB0.out.size)
    clear hb
    go_wp2
    go_ret
    exact ⟨rfl, HC1.out⟩
  by_cases hl1 : S.size + T.size ≤ 1048576
  rotate_left
  · have hlz : (-1 : Int) < 0 := by omega
    go_enter Try.func9, Try.ntmps9
    go_wp2_with fail
    refine (szTable N S _ _ (by omega) (by omega) hS).mono ?_
    rw [if_pos (by omega)]
    rintro e y1 ⟨rfl, hb⟩
    have HC1 : Hid (Below w.heap.size w y1) := HB0.out.trans (hb.mono HB0.out.size)
    have HY0_1 : Hid (Tbx y1 w.heap.size N S) := HX0_0.out.below hb
    have HY1_1 : Hid (Tbx y1 (w.heap.size + 1) M T) := HX1_0.out.below hb
    obtain ⟨d00, d01⟩ := HY0_1.out
    obtain ⟨d10, d11⟩ := HY1_1.out
    have hq0 : ¬ (1048576 : Int) - (S.size : Int) < 0 := by omega
    clear hb
    go_wp2_with fail
    refine (szTable M T _ _ (by omega) (by omega) hT).mono ?_
    rw [if_neg (by omega)]
    rintro e y2 ⟨rfl, hb⟩
    have HC2 : Hid (Below w.heap.size w y2) := HC1.out.trans (hb.mono HC1.out.size)
    clear hb
    go_wp2
    go_ret
    exact ⟨rfl, HC2.out⟩
  have hz0 : S.size ≤ 1048576 := by omega
  have hz1 : T.size ≤ 1048576 := by omega
  obtain ⟨R, U, ok, hsp, him⟩ := bAnd N M S T hz0 hz1
  have HSP : Hid _ := hsp
  have HIM : Hid _ := him
  clear hsp him
  have hok : (ok != ok) = false := by cases ok <;> rfl
  go_enter Try.func9, Try.ntmps9
  go_wp2_with fail
  refine (szTable N S _ _ (by omega) (by omega) hS).mono ?_
  rw [if_pos (by omega)]
  rintro e x1 ⟨rfl, hb⟩
  have HB1 : Hid (Below w.heap.size w x1) := HB0.out.trans (hb.mono HB0.out.size)
  have HX0_1 : Hid (Tbx x1 w.heap.size N S) := HX0_0.out.below hb
  have HX1_1 : Hid (Tbx x1 (w.heap.size + 1) M T) := HX1_0.out.below hb
  clear hb
  have hp0 : ¬ (1048576 : Int) - (S.size : Int) < 0 := by omega
  obtain ⟨c00, c01⟩ := HX0_1.out
  obtain ⟨c10, c11⟩ := HX1_1.out
  go_wp2_with fail
  refine (szTable M T _ _ (by omega) (by omega) hT).mono ?_
  rw [if_pos (by omega)]
  rintro e x2 ⟨rfl, hb⟩
  have HB2 : Hid (Below w.heap.size w x2) := HB1.out.trans (hb.mono HB1.out.size)
  have HX0_2 : Hid (Tbx x2 w.heap.size N S) := HX0_1.out.below hb
  have HX1_2 : Hid (Tbx x2 (w.heap.size + 1) M T) := HX1_1.out.below hb
  clear hb c00 c01 c10 c11
  have hp1 : ¬ (1048576 : Int) - (S.size : Int) - (T.size : Int) < 0 := by omega
  obtain ⟨c00, c01⟩ := HX0_2.out
  obtain ⟨c10, c11⟩ := HX1_2.out
  have HS : Hid (TA w N M S T x2) := ⟨HX0_2.out, HX1_2.out, HB2.out⟩
  have hN0 : w.heap.size + 1 < x2.heap.size := World.block_lt_of_cell? _ _ HS.out.y.c0
  go_upto_region 8 with fail
  clear c00 c01 c10 c11
  go_cut [6, 7] from 20 to 27 (fun s6 s7 wc => ∃ q : Nat, s6 = .pointer (some ⟨q, 0, none⟩) ∧ s7 = .bool ok ∧ TB w N M S T q R U wc)
  case first =>
    go_wp2_with fail
    go_region_held3 (fun w' => w'.cell? ⟨w.heap.size, 0, none⟩ = some (.int .i64 N) ∧ w'.cell? ⟨w.heap.size, 1, none⟩ = some (.string S) ∧ w'.cell? ⟨w.heap.size + 1, 0, none⟩ = some (.int .i64 M) ∧ w'.cell? ⟨w.heap.size + 1, 1, none⟩ = some (.string T)) ((first | exact ⟨HS.out.x.c0, HS.out.x.c1, HS.out.y.c0, HS.out.y.c1⟩ | exact ⟨hS3.x.c0, hS3.x.c1, hS3.y.c0, hS3.y.c1⟩ | exact ⟨(hS3.alloc _).x.c0, (hS3.alloc _).x.c1, (hS3.alloc _).y.c0, (hS3.alloc _).y.c1⟩ | exact ⟨(HS.out.alloc _).x.c0, (HS.out.alloc _).x.c1, (HS.out.alloc _).y.c0, (HS.out.alloc _).y.c1⟩ | exact ⟨sother (sother hS3.x.c0 (by omega)) (by omega), sother (sother hS3.x.c1 (by omega)) (by omega), sother (sother hS3.y.c0 (by omega)) (by omega), sother (sother hS3.y.c1 (by omega)) (by omega)⟩)) ((first | (go_at_call 14; refine (toTable _ _ _).mono ?_; rintro e xa ⟨rfl, hb⟩; (first | have hS3 := hS3.below hb | have hS3 := (hS3.alloc _).below hb | have hS3 := HS.out.drew.below hb | have hS3 := (HS.out.drew.alloc _).below hb | have hS3 := (HS.out.alloc _).drew.below hb); (have hN := World.block_lt_of_cell? _ _ hS3.y.c0); (first | have hL := hL.below hb | have hL := (Lay.madeD _ _ _ _).below hb | have hL := (Lay.made _ _ _ _).below hb | skip); (first | (have hLc := hL; obtain ⟨l0, l1, l2, l3⟩ := hLc) | skip); clear hb) | (go_at_call 31; refine (HSP.out _).mono ?_; rintro e xa ⟨rfl, hb⟩; (first | have hS3 := hS3.below hb | have hS3 := (hS3.alloc _).below hb); (have hN := World.block_lt_of_cell? _ _ hS3.y.c0); (first | have hL := hL.below hb | have hL := (Lay.madeD _ _ _ _).below hb | have hL := (Lay.made _ _ _ _).below hb | skip); (first | (have hLc := hL; obtain ⟨l0, l1, l2, l3⟩ := hLc) | skip); clear hb)))
    all_goals
      go_wp2_with fail
      go_meet
      case rel => first | exact ⟨_, rfl, rfl, ⟨hS3.alloc _, Tbx.made _ _ _ _⟩⟩ | exact ⟨_, rfl, rfl, TB.ofPut hS3 hL (by omega)⟩
  case rest =>
    obtain ⟨q, rfl, rfl, hcut1⟩ := hcut
    have HSb : Hid (TB w N M S T q R U wc) := hcut1
    have hN1 : w.heap.size + 1 < wc.heap.size := World.block_lt_of_cell? _ _ hcut1.ta.y.c0
    have hq1 : q < wc.heap.size := World.block_lt_of_cell? _ _ hcut1.b.c0
    clear hcut1
    go_upto_region 9 with fail
    go_cut [8, 9] from 28 to 35 (fun s8 s9 wd => ∃ q2 : Nat, s8 = .pointer (some ⟨q2, 0, none⟩) ∧ s9 = .bool ok ∧ TB w N M S T q R U wd ∧ Tbx wd q2 R U)
    case first =>
      go_wp2_with fail
      go_region_held3 (fun w' => w'.cell? ⟨w.heap.size, 0, none⟩ = some (.int .i64 N) ∧ w'.cell? ⟨w.heap.size, 1, none⟩ = some (.string S) ∧ w'.cell? ⟨w.heap.size + 1, 0, none⟩ = some (.int .i64 M) ∧ w'.cell? ⟨w.heap.size + 1, 1, none⟩ = some (.string T)) ((first | exact ⟨HSb.out.ta.x.c0, HSb.out.ta.x.c1, HSb.out.ta.y.c0, HSb.out.ta.y.c1⟩ | exact ⟨hS3.ta.x.c0, hS3.ta.x.c1, hS3.ta.y.c0, hS3.ta.y.c1⟩ | exact ⟨(hS3.alloc _).ta.x.c0, (hS3.alloc _).ta.x.c1, (hS3.alloc _).ta.y.c0, (hS3.alloc _).ta.y.c1⟩ | exact ⟨(HSb.out.alloc _).ta.x.c0, (HSb.out.alloc _).ta.x.c1, (HSb.out.alloc _).ta.y.c0, (HSb.out.alloc _).ta.y.c1⟩ | exact ⟨sother (sother hS3.ta.x.c0 (by omega)) (by omega), sother (sother hS3.ta.x.c1 (by omega)) (by omega), sother (sother hS3.ta.y.c0 (by omega)) (by omega), sother (sother hS3.ta.y.c1 (by omega)) (by omega)⟩)) ((first | (go_at_call 14; refine (toTable _ _ _).mono ?_; rintro e xa ⟨rfl, hb⟩; (first | have hS3 := hS3.below hb | have hS3 := (hS3.alloc _).below hb | have hS3 := HSb.out.drew.below hb | have hS3 := (HSb.out.drew.alloc _).below hb | have hS3 := (HSb.out.alloc _).drew.below hb); (have hN := World.block_lt_of_cell? _ _ hS3.ta.y.c0); (have hQ := World.block_lt_of_cell? _ _ hS3.b.c0); (first | have hL := hL.below hb | have hL := (Lay.madeD _ _ _ _).below hb | have hL := (Lay.made _ _ _ _).below hb | skip); (first | (have hLc := hL; obtain ⟨l0, l1, l2, l3⟩ := hLc) | skip); clear hb) | (go_at_call 32; refine (HIM.out _).mono ?_; rintro e xa ⟨rfl, hb⟩; (first | have hS3 := hS3.below hb | have hS3 := (hS3.alloc _).below hb); (have hN := World.block_lt_of_cell? _ _ hS3.ta.y.c0); (have hQ := World.block_lt_of_cell? _ _ hS3.b.c0); (first | have hL := hL.below hb | have hL := (Lay.madeD _ _ _ _).below hb | have hL := (Lay.made _ _ _ _).below hb | skip); (first | (have hLc := hL; obtain ⟨l0, l1, l2, l3⟩ := hLc) | skip); clear hb)))
      all_goals
        go_wp2_with fail
        go_meet
        case rel => first | exact ⟨_, rfl, rfl, hS3.alloc _, Tbx.made _ _ _ _⟩ | exact ⟨_, rfl, rfl, TB.put hS3 hL (by omega) (by omega) _ _, ⟨(hL.put _ _).c0, (hL.put _ _).c1⟩⟩
    case rest =>
      obtain ⟨q2, rfl, rfl, hc1, hc2⟩ := hcut
      have HBf : Hid (Below w.heap.size w wc) := hc1.ta.bel
      obtain ⟨t0, t1⟩ := hc1.b
      obtain ⟨v0, v1⟩ := hc2
      clear hc1
      go_wp2_with fail
      refine (eqTable R R U U _).mono ?_
      rw [decide_eq_true (⟨rfl, rfl⟩ : R = R ∧ U = U)]
      rintro e xz ⟨rfl, hb⟩
      have HBe : Hid (Below w.heap.size w xz) := HBf.out.trans (hb.mono HBf.out.size)
      clear hb t0 t1 v0 v1
      go_wp2
      go_ret
      exact ⟨rfl, HBe.out⟩

theorem bXor (N M : Int) (S T : ByteArray) (hS : S.size ≤ 1048576) (hT : T.size ≤ 1048576) : ∃ (R : Int) (U : ByteArray) (ok : Bool), (∀ W, Calls Try.prog 33 #[tv N S, tv M T] W fun e w' => e = .returned (.tuple #[tv R U, .bool ok]) ∧ Below W.heap.size W w') ∧ ∀ W, Calls Try.prog 34 #[tv N S, tv M T] W fun e w' => e = .returned (.tuple #[tv R U, .bool ok]) ∧ Below W.heap.size W w' := by
  by_cases h : tokB N (tl S) = true ∧ tokB M (tl T) = true ∧ N = M
  · obtain ⟨h1, h2, h3⟩ := h
    obtain ⟨n, F, hn, rfl, rfl⟩ := tok_str h1
    obtain ⟨k, G, hk, hk2, rfl⟩ := tok_str h2
    obtain rfl : n = k := by omega
    rw [← h3]
    exact ⟨_, _, _, fun W => sXor n F G W hn, fun W => iXor n F G W hn⟩
  · exact ⟨0, ByteArray.empty, false, fun W => sXor0 W hS hT h, fun W => iXor0 W hS hT h⟩

set_option maxRecDepth 100000 in
set_option maxHeartbeats 4000000 in
theorem exTableXor (N : Int) (S : ByteArray) (M : Int) (T : ByteArray) (w : World) (hS : S.size ≤ maxLen) (hT : T.size ≤ maxLen) :
    Calls Try.prog 10 #[tv N S, tv M T] w fun e w' => e = .returned (.bool true) ∧ Below w.heap.size w w' := by
  have HB0 : Hid (Below w.heap.size w ((w.alloc (.cells #[.int .i64 N, .string S] 23)).alloc (.cells #[.int .i64 M, .string T] 23))) := ((Below.refl _ _).alloc (Nat.le_refl _) _).alloc (by simp) _
  have HX0_0 : Hid (Tbx ((w.alloc (.cells #[.int .i64 N, .string S] 23)).alloc (.cells #[.int .i64 M, .string T] 23)) w.heap.size N S) := (Tbx.made _ _ _ _).alloc _
  have HX1_0 : Hid (Tbx ((w.alloc (.cells #[.int .i64 N, .string S] 23)).alloc (.cells #[.int .i64 M, .string T] 23)) (w.heap.size + 1) M T) := by
    have := Tbx.made (w.alloc (.cells #[.int .i64 N, .string S] 23)) M T 23
    show Tbx _ _ _ _
    simpa using this
  by_cases hl0 : S.size ≤ 1048576
  rotate_left
  · have hlz : (-1 : Int) < 0 := by omega
    go_enter Try.func10, Try.ntmps10
    go_wp2_with fail
    refine (szTable N S _ _ (by omega) (by omega) hS).mono ?_
    rw [if_neg (by omega)]
    rintro e y1 ⟨rfl, hb⟩
    have HC1 : Hid (Below w.heap.size w y1) := HB0.out.trans (hb.mono HB0.out.size)
    clear hb
    go_wp2
    go_ret
    exact ⟨rfl, HC1.out⟩
  by_cases hl1 : S.size + T.size ≤ 1048576
  rotate_left
  · have hlz : (-1 : Int) < 0 := by omega
    go_enter Try.func10, Try.ntmps10
    go_wp2_with fail
    refine (szTable N S _ _ (by omega) (by omega) hS).mono ?_
    rw [if_pos (by omega)]
    rintro e y1 ⟨rfl, hb⟩
    have HC1 : Hid (Below w.heap.size w y1) := HB0.out.trans (hb.mono HB0.out.size)
    have HY0_1 : Hid (Tbx y1 w.heap.size N S) := HX0_0.out.below hb
    have HY1_1 : Hid (Tbx y1 (w.heap.size + 1) M T) := HX1_0.out.below hb
    obtain ⟨d00, d01⟩ := HY0_1.out
    obtain ⟨d10, d11⟩ := HY1_1.out
    have hq0 : ¬ (1048576 : Int) - (S.size : Int) < 0 := by omega
    clear hb
    go_wp2_with fail
    refine (szTable M T _ _ (by omega) (by omega) hT).mono ?_
    rw [if_neg (by omega)]
    rintro e y2 ⟨rfl, hb⟩
    have HC2 : Hid (Below w.heap.size w y2) := HC1.out.trans (hb.mono HC1.out.size)
    clear hb
    go_wp2
    go_ret
    exact ⟨rfl, HC2.out⟩
  have hz0 : S.size ≤ 1048576 := by omega
  have hz1 : T.size ≤ 1048576 := by omega
  obtain ⟨R, U, ok, hsp, him⟩ := bXor N M S T hz0 hz1
  have HSP : Hid _ := hsp
  have HIM : Hid _ := him
  clear hsp him
  have hok : (ok != ok) = false := by cases ok <;> rfl
  go_enter Try.func10, Try.ntmps10
  go_wp2_with fail
  refine (szTable N S _ _ (by omega) (by omega) hS).mono ?_
  rw [if_pos (by omega)]
  rintro e x1 ⟨rfl, hb⟩
  have HB1 : Hid (Below w.heap.size w x1) := HB0.out.trans (hb.mono HB0.out.size)
  have HX0_1 : Hid (Tbx x1 w.heap.size N S) := HX0_0.out.below hb
  have HX1_1 : Hid (Tbx x1 (w.heap.size + 1) M T) := HX1_0.out.below hb
  clear hb
  have hp0 : ¬ (1048576 : Int) - (S.size : Int) < 0 := by omega
  obtain ⟨c00, c01⟩ := HX0_1.out
  obtain ⟨c10, c11⟩ := HX1_1.out
  go_wp2_with fail
  refine (szTable M T _ _ (by omega) (by omega) hT).mono ?_
  rw [if_pos (by omega)]
  rintro e x2 ⟨rfl, hb⟩
  have HB2 : Hid (Below w.heap.size w x2) := HB1.out.trans (hb.mono HB1.out.size)
  have HX0_2 : Hid (Tbx x2 w.heap.size N S) := HX0_1.out.below hb
  have HX1_2 : Hid (Tbx x2 (w.heap.size + 1) M T) := HX1_1.out.below hb
  clear hb c00 c01 c10 c11
  have hp1 : ¬ (1048576 : Int) - (S.size : Int) - (T.size : Int) < 0 := by omega
  obtain ⟨c00, c01⟩ := HX0_2.out
  obtain ⟨c10, c11⟩ := HX1_2.out
  have HS : Hid (TA w N M S T x2) := ⟨HX0_2.out, HX1_2.out, HB2.out⟩
  have hN0 : w.heap.size + 1 < x2.heap.size := World.block_lt_of_cell? _ _ HS.out.y.c0
  go_upto_region 8 with fail
  clear c00 c01 c10 c11
  go_cut [6, 7] from 20 to 27 (fun s6 s7 wc => ∃ q : Nat, s6 = .pointer (some ⟨q, 0, none⟩) ∧ s7 = .bool ok ∧ TB w N M S T q R U wc)
  case first =>
    go_wp2_with fail
    go_region_held3 (fun w' => w'.cell? ⟨w.heap.size, 0, none⟩ = some (.int .i64 N) ∧ w'.cell? ⟨w.heap.size, 1, none⟩ = some (.string S) ∧ w'.cell? ⟨w.heap.size + 1, 0, none⟩ = some (.int .i64 M) ∧ w'.cell? ⟨w.heap.size + 1, 1, none⟩ = some (.string T)) ((first | exact ⟨HS.out.x.c0, HS.out.x.c1, HS.out.y.c0, HS.out.y.c1⟩ | exact ⟨hS3.x.c0, hS3.x.c1, hS3.y.c0, hS3.y.c1⟩ | exact ⟨(hS3.alloc _).x.c0, (hS3.alloc _).x.c1, (hS3.alloc _).y.c0, (hS3.alloc _).y.c1⟩ | exact ⟨(HS.out.alloc _).x.c0, (HS.out.alloc _).x.c1, (HS.out.alloc _).y.c0, (HS.out.alloc _).y.c1⟩ | exact ⟨sother (sother hS3.x.c0 (by omega)) (by omega), sother (sother hS3.x.c1 (by omega)) (by omega), sother (sother hS3.y.c0 (by omega)) (by omega), sother (sother hS3.y.c1 (by omega)) (by omega)⟩)) ((first | (go_at_call 14; refine (toTable _ _ _).mono ?_; rintro e xa ⟨rfl, hb⟩; (first | have hS3 := hS3.below hb | have hS3 := (hS3.alloc _).below hb | have hS3 := HS.out.drew.below hb | have hS3 := (HS.out.drew.alloc _).below hb | have hS3 := (HS.out.alloc _).drew.below hb); (have hN := World.block_lt_of_cell? _ _ hS3.y.c0); (first | have hL := hL.below hb | have hL := (Lay.madeD _ _ _ _).below hb | have hL := (Lay.made _ _ _ _).below hb | skip); (first | (have hLc := hL; obtain ⟨l0, l1, l2, l3⟩ := hLc) | skip); clear hb) | (go_at_call 33; refine (HSP.out _).mono ?_; rintro e xa ⟨rfl, hb⟩; (first | have hS3 := hS3.below hb | have hS3 := (hS3.alloc _).below hb); (have hN := World.block_lt_of_cell? _ _ hS3.y.c0); (first | have hL := hL.below hb | have hL := (Lay.madeD _ _ _ _).below hb | have hL := (Lay.made _ _ _ _).below hb | skip); (first | (have hLc := hL; obtain ⟨l0, l1, l2, l3⟩ := hLc) | skip); clear hb)))
    all_goals
      go_wp2_with fail
      go_meet
      case rel => first | exact ⟨_, rfl, rfl, ⟨hS3.alloc _, Tbx.made _ _ _ _⟩⟩ | exact ⟨_, rfl, rfl, TB.ofPut hS3 hL (by omega)⟩
  case rest =>
    obtain ⟨q, rfl, rfl, hcut1⟩ := hcut
    have HSb : Hid (TB w N M S T q R U wc) := hcut1
    have hN1 : w.heap.size + 1 < wc.heap.size := World.block_lt_of_cell? _ _ hcut1.ta.y.c0
    have hq1 : q < wc.heap.size := World.block_lt_of_cell? _ _ hcut1.b.c0
    clear hcut1
    go_upto_region 9 with fail
    go_cut [8, 9] from 28 to 35 (fun s8 s9 wd => ∃ q2 : Nat, s8 = .pointer (some ⟨q2, 0, none⟩) ∧ s9 = .bool ok ∧ TB w N M S T q R U wd ∧ Tbx wd q2 R U)
    case first =>
      go_wp2_with fail
      go_region_held3 (fun w' => w'.cell? ⟨w.heap.size, 0, none⟩ = some (.int .i64 N) ∧ w'.cell? ⟨w.heap.size, 1, none⟩ = some (.string S) ∧ w'.cell? ⟨w.heap.size + 1, 0, none⟩ = some (.int .i64 M) ∧ w'.cell? ⟨w.heap.size + 1, 1, none⟩ = some (.string T)) ((first | exact ⟨HSb.out.ta.x.c0, HSb.out.ta.x.c1, HSb.out.ta.y.c0, HSb.out.ta.y.c1⟩ | exact ⟨hS3.ta.x.c0, hS3.ta.x.c1, hS3.ta.y.c0, hS3.ta.y.c1⟩ | exact ⟨(hS3.alloc _).ta.x.c0, (hS3.alloc _).ta.x.c1, (hS3.alloc _).ta.y.c0, (hS3.alloc _).ta.y.c1⟩ | exact ⟨(HSb.out.alloc _).ta.x.c0, (HSb.out.alloc _).ta.x.c1, (HSb.out.alloc _).ta.y.c0, (HSb.out.alloc _).ta.y.c1⟩ | exact ⟨sother (sother hS3.ta.x.c0 (by omega)) (by omega), sother (sother hS3.ta.x.c1 (by omega)) (by omega), sother (sother hS3.ta.y.c0 (by omega)) (by omega), sother (sother hS3.ta.y.c1 (by omega)) (by omega)⟩)) ((first | (go_at_call 14; refine (toTable _ _ _).mono ?_; rintro e xa ⟨rfl, hb⟩; (first | have hS3 := hS3.below hb | have hS3 := (hS3.alloc _).below hb | have hS3 := HSb.out.drew.below hb | have hS3 := (HSb.out.drew.alloc _).below hb | have hS3 := (HSb.out.alloc _).drew.below hb); (have hN := World.block_lt_of_cell? _ _ hS3.ta.y.c0); (have hQ := World.block_lt_of_cell? _ _ hS3.b.c0); (first | have hL := hL.below hb | have hL := (Lay.madeD _ _ _ _).below hb | have hL := (Lay.made _ _ _ _).below hb | skip); (first | (have hLc := hL; obtain ⟨l0, l1, l2, l3⟩ := hLc) | skip); clear hb) | (go_at_call 34; refine (HIM.out _).mono ?_; rintro e xa ⟨rfl, hb⟩; (first | have hS3 := hS3.below hb | have hS3 := (hS3.alloc _).below hb); (have hN := World.block_lt_of_cell? _ _ hS3.ta.y.c0); (have hQ := World.block_lt_of_cell? _ _ hS3.b.c0); (first | have hL := hL.below hb | have hL := (Lay.madeD _ _ _ _).below hb | have hL := (Lay.made _ _ _ _).below hb | skip); (first | (have hLc := hL; obtain ⟨l0, l1, l2, l3⟩ := hLc) | skip); clear hb)))
      all_goals
        go_wp2_with fail
        go_meet
        case rel => first | exact ⟨_, rfl, rfl, hS3.alloc _, Tbx.made _ _ _ _⟩ | exact ⟨_, rfl, rfl, TB.put hS3 hL (by omega) (by omega) _ _, ⟨(hL.put _ _).c0, (hL.put _ _).c1⟩⟩
    case rest =>
      obtain ⟨q2, rfl, rfl, hc1, hc2⟩ := hcut
      have HBf : Hid (Below w.heap.size w wc) := hc1.ta.bel
      obtain ⟨t0, t1⟩ := hc1.b
      obtain ⟨v0, v1⟩ := hc2
      clear hc1
      go_wp2_with fail
      refine (eqTable R R U U _).mono ?_
      rw [decide_eq_true (⟨rfl, rfl⟩ : R = R ∧ U = U)]
      rintro e xz ⟨rfl, hb⟩
      have HBe : Hid (Below w.heap.size w xz) := HBf.out.trans (hb.mono HBf.out.size)
      clear hb t0 t1 v0 v1
      go_wp2
      go_ret
      exact ⟨rfl, HBe.out⟩

end Go.Proofs.Ytammepilfimlcaa.Lx21
