/- The exact law of Idle. Written by tools/mkdx2.py. -/
import Derived.Deep.RegionHeld3
import Derived.Deep.CutBlock
import Derived.Test.YteplffphkakliaaDm4
import Derived.Test.YteplffphkakliaaDp6
import Derived.Test.YteplffphkakliaaTc3
namespace Go.Proofs.Yteplffphkakliaa.Lx32
open Go.RowKit
open Nd0 Nd1 Nd6 Ap1 Dq0
open Ta0 Ta1 Tc2
open Tc3 (Tbx szTable toTable eqTable)
open Ss0 (bs bs_size)
open Ss1 (tl bs_tl)
open Nd2 Nd3
open Dp6 (iIdle0 iIdle idTo_le)
open Dm4 (sIdle0 sIdle)
set_option linter.unusedVariables false

theorem tok_str {N : Int} {S : ByteArray} (h : tokB N (tl S) = true) : ∃ (n : Nat) (F : Nat → Bool), n ≤ 12 ∧ N = (n : Int) ∧ S = bs (tab n F) := by
  obtain ⟨n, F, h1, h2, h3⟩ := tok_tab h
  exact ⟨n, F, h1, h2, by rw [← bs_tl S, h3]⟩
theorem toBoolE (w : World) (a : Option Addr) (l : List Bool) (c : Nat) (h : Bools w a l) (hl : l.length ≤ 1048576) :
    Calls Try.prog 24 #[.slice a l.length c] w fun e w' => ∃ g, e = .returned (.slice (some ⟨g, 0, none⟩) l.length l.length) ∧ w.heap.size ≤ g ∧ WBools w' w.heap.size (some ⟨g, 0, none⟩) l ∧ Below w.heap.size w w' :=
  (toBoolS w a l c h hl).mono fun e w' h => ⟨w.heap.size, h.1, Nat.le_refl _, h.2.1, h.2.2⟩
theorem Tbx.drew {W : World} {g : Nat} {N : Int} {S : ByteArray} (h : Tbx W g N S) : Tbx W.drew g N S := ⟨h.c0, h.c1⟩
theorem boolsDrew {W : World} {a : Option Addr} {l : List Bool} (h : Bools W a l) : Bools W.drew a l := h

theorem wlow {w : World} {B B' : Nat} {a : Option Addr} {l : List Int} (h : WInts w B a l) (hB : B' ≤ B) : WInts w B' a l := by
  refine ⟨h.1, ?_⟩
  rcases h.2 with h0 | ⟨b, o, ha, hb, hc⟩
  · exact .inl h0
  · exact .inr ⟨b, o, ha, by omega, hc⟩
theorem Tbx.kept {W W' : World} {g : Nat} {N : Int} {S : ByteArray} (h : Tbx W g N S) {K : Nat → Prop} (k : Kept K W W') (hs : ¬ K g) : Tbx W' g N S := by
  have hg : g < W.heap.size := World.block_lt_of_cell? _ _ h.c0
  exact ⟨by rw [k.cell (p := ⟨g, 0, none⟩) hg hs]; exact h.c0, by rw [k.cell (p := ⟨g, 1, none⟩) hg hs]; exact h.c1⟩

theorem bIdle (row : List Bool) (N : Int) (S : ByteArray) (hS : S.size ≤ 1048576) : ∃ (R : List Int), R.length ≤ 1048576 ∧ (∀ (W : World) (a : Option Addr) (c : Nat), Bools W a row → Calls Try.prog 31 #[.slice a row.length c, tv N S] W fun e w' => (∃ a' c', e = .returned (.slice a' R.length c') ∧ WInts w' W.heap.size a' R) ∧ Below W.heap.size W w') ∧ ∀ (W : World) (a : Option Addr) (c : Nat), Bools W a row → Calls Try.prog 14 #[.slice a row.length c, tv N S] W fun e w' => (∃ a' c', e = .returned (.slice a' R.length c') ∧ WInts w' W.heap.size a' R) ∧ Below W.heap.size W w' := by
  by_cases h : tokB N (tl S) = true ∧ (row.length : Int) = N
  · obtain ⟨h1, h2⟩ := h
    obtain ⟨n, F, hn, rfl, rfl⟩ := tok_str h1
    have hrn : row.length = n := by omega
    rw [hrn]
    exact ⟨_, by have := idTo_le n n F; omega, fun W a c _ => sIdle n F a c W hn, fun W a c _ => iIdle n F a c W hn⟩
  · exact ⟨[], Nat.zero_le _, fun W a c _ => sIdle0 a row.length c W hS h, fun W a c _ => iIdle0 a row.length c W hS h⟩

set_option maxRecDepth 100000 in
set_option maxHeartbeats 8000000 in
theorem exIdle (w : World) (a0 : Option Addr) (l0 : List Bool) (c0 : Nat) (N : Int) (S : ByteArray) (hN0 : Bools w a0 l0) (hS : S.size ≤ maxLen) :
    Calls Try.prog 8 #[.slice a0 l0.length c0, tv N S] w fun e w' => e = .returned (.bool true) ∧ Below w.heap.size w w' := by
  have HN0 : Hid (Bools w a0 l0) := hN0
  have hm0 := hN0.1
  clear hN0
  have HA : Hid (Below w.heap.size w (w.alloc (.cells #[.int .i64 N, .string S] 40))) := (Below.refl _ _).alloc (Nat.le_refl _) _
  have HT : Hid (Tbx (w.alloc (.cells #[.int .i64 N, .string S] 40)) w.heap.size N S) := Tbx.made _ _ _ _
  by_cases hl0 : l0.length ≤ 1048576
  rotate_left
  · have hlz : (1048576 : Int) < (l0.length : Int) := by omega
    go_enter Try.func8, Try.ntmps8
    go_wp2
    go_ret
    exact ⟨rfl, HA.out⟩
  have hlz : ¬ (1048576 : Int) < (l0.length : Int) := by omega
  have HSZ : Hid (S.size ≤ maxLen) := hS
  by_cases hs0 : S.size ≤ 1048576
  rotate_left
  · go_enter Try.func8, Try.ntmps8
    go_wp2_with fail
    refine (szTable N S _ _ (by omega) (by omega) hS).mono ?_
    rw [if_neg (by omega)]
    rintro e x1 ⟨rfl, hb⟩
    have HB1 : Hid (Below w.heap.size w x1) := HA.out.trans (hb.mono HA.out.size)
    clear hb
    go_wp2
    go_ret
    exact ⟨rfl, HB1.out⟩
  obtain ⟨R, hR, hsp, him⟩ := bIdle l0 N S hs0
  have HSP : Hid _ := hsp
  have HIM : Hid _ := him
  clear hsp him
  obtain ⟨x0, hx0⟩ : ∃ x0, x0 = w.alloc (.cells #[.int .i64 N, .string S] 40) := ⟨_, rfl⟩
  have HB0 : Hid (Below w.heap.size w x0) := by rw [hx0]; exact HA.out
  have HX0 : Hid (Tbx x0 w.heap.size N S) := by rw [hx0]; exact HT.out
  have hzw : w.heap.size < x0.heap.size := by rw [hx0]; simp
  have HE0 : Hid (w.alloc (.cells #[.int .i64 N, .string S] 40) = x0) := hx0.symm
  clear hx0 HA HT
  go_enter Try.func8, Try.ntmps8
  go_upto_region 4 with fail
  rw [HE0.out]
  clear HE0
  obtain ⟨c0T, c1T⟩ := HX0.out
  go_wp2_with fail
  refine (szTable N S _ _ (by omega) (by omega) hS).mono ?_
  rw [if_pos (by omega)]
  rintro e x1 ⟨rfl, hb⟩
  have HB1 : Hid (Below w.heap.size w x1) := HB0.out.trans (hb.mono HB0.out.size)
  have HX1 : Hid (Tbx x1 w.heap.size N S) := HX0.out.below hb
  have hz1 : x0.heap.size ≤ x1.heap.size := hb.size
  clear hb c0T c1T
  have hp0 : ¬ (1048576 : Int) - (S.size : Int) < 0 := by omega
  clear hS
  obtain ⟨c0T, c1T⟩ := HX1.out
  go_wp2_with fail
  have DX : Tbx x1.drew w.heap.size N S := Tbx.drew HX1.out
  have HBD : Hid (Below w.heap.size w x1.drew) := HB1.out.drew
  have hzD : x1.heap.size ≤ x1.drew.heap.size := Nat.le_refl _
  go_region_held3 (fun w' => w'.cell? ⟨w.heap.size, 0, none⟩ = some (.int .i64 N) ∧ w'.cell? ⟨w.heap.size, 1, none⟩ = some (.string S)) ((first | exact ⟨EX.c0, EX.c1⟩ | exact ⟨DX.c0, DX.c1⟩)) ((first | (go_at_call 24; (first | with_reducible refine (toBoolE _ a0 l0 c0 (HN0.out.below HBE.out) hl0).mono ?_ | with_reducible refine (toBoolE _ a0 l0 c0 (HN0.out.below HBD.out) hl0).mono ?_); rintro e w5 ⟨gr, rfl, hg, hw, hb⟩; have EX : Tbx w5 w.heap.size N S := (by first | exact EX.below hb | exact DX.below hb); have HBE : Hid (Below w.heap.size w w5) := (by first | exact HBE.out.trans (hb.mono HBE.out.size) | exact HBD.out.trans (hb.mono HBD.out.size)); have HBC : Hid (Below x1.heap.size x1 w5) := (by first | exact HBC.out.trans (hb.mono HBC.out.size) | exact (Below.refl _ x1).drew.trans (hb.mono hzD)); have ER : Hid (Bools w5 (some ⟨gr, 0, none⟩) l0) := WBools.plain hw; clear hg hw hb) | (go_at_call 31; (with_reducible refine (HSP.out _ _ l0.length ER.out).mono ?_); rintro e w5 ⟨⟨ads, cds, rfl, hr⟩, hb⟩; have HS : Hid (WInts w5 x1.heap.size ads R) := (by first | exact wlow hr HBC.out.size | exact wlow hr hzD); have EX : Tbx w5 w.heap.size N S := (by first | exact EX.below hb | exact DX.below hb); have HBE : Hid (Below w.heap.size w w5) := (by first | exact HBE.out.trans (hb.mono HBE.out.size) | exact HBD.out.trans (hb.mono HBD.out.size)); have HBC : Hid (Below x1.heap.size x1 w5) := (by first | exact HBC.out.trans (hb.mono HBC.out.size) | exact (Below.refl _ x1).drew.trans (hb.mono hzD)); clear hb hr) | (go_at_call 25; (with_reducible refine (toTable N S _).mono ?_); rintro e w5 ⟨rfl, hb⟩; (try have ER : Hid (Bools w5 (some ⟨gr, 0, none⟩) l0) := ER.out.below hb); have EX : Tbx w5 w.heap.size N S := (by first | exact EX.below hb | exact DX.below hb); have HBE : Hid (Below w.heap.size w w5) := (by first | exact HBE.out.trans (hb.mono HBE.out.size) | exact HBD.out.trans (hb.mono HBD.out.size)); have HBC : Hid (Below x1.heap.size x1 w5) := (by first | exact HBC.out.trans (hb.mono HBC.out.size) | exact (Below.refl _ x1).drew.trans (hb.mono hzD)); clear hb)))
  all_goals
    have HB2 : Hid (Below w.heap.size w w5) := HBE.out
    have HX2 : Hid (Tbx w5 w.heap.size N S) := EX
    have hb : Below x1.heap.size x1 w5 := HBC.out
    have hz2 : x1.heap.size ≤ w5.heap.size := hb.size
    have Hs_2 : Hid (IntsIn w5 x1.heap.size w5.heap.size ads R) := WInts.within HS.out
    clear c0T c1T DX HBD hzD ER HBE HBC EX HS hb
    generalize w5 = x2 at *
    go_wp2_with fail
    refine (toBoolE _ a0 l0 c0 (HN0.out.below HB2.out) hl0).mono ?_
    rintro e x3 ⟨gx, rfl, hg, hw, hb⟩
    have HB3 : Hid (Below w.heap.size w x3) := HB2.out.trans (hb.mono HB2.out.size)
    have HX3 : Hid (Tbx x3 w.heap.size N S) := HX2.out.below hb
    have hz3 : x2.heap.size ≤ x3.heap.size := hb.size
    have Hs_3 : Hid (IntsIn x3 x1.heap.size x2.heap.size ads R) := Hs_2.out.below hb
    have Hx_3 : Hid (BoolsIn x3 x2.heap.size x3.heap.size (some ⟨gx, 0, none⟩) l0) := WBools.within hw
    clear hb hw hg
    obtain ⟨c0T, c1T⟩ := HX3.out
    go_wp2_with fail
    refine (toTable N S _).mono ?_
    rintro e x4 ⟨rfl, hb⟩
    have HB4 : Hid (Below w.heap.size w x4) := HB3.out.trans (hb.mono HB3.out.size)
    have HX4 : Hid (Tbx x4 w.heap.size N S) := HX3.out.below hb
    have hz4 : x3.heap.size ≤ x4.heap.size := hb.size
    have Hs_4 : Hid (IntsIn x4 x1.heap.size x2.heap.size ads R) := Hs_3.out.below hb
    have Hx_4 : Hid (BoolsIn x4 x2.heap.size x3.heap.size (some ⟨gx, 0, none⟩) l0) := Hx_3.out.below hb
    clear hb c0T c1T
    go_wp2_with fail
    refine (HIM.out _ _ l0.length Hx_4.out.plain).mono ?_
    rintro e x5 ⟨⟨ag, cg, rfl, hr⟩, hb⟩
    have HB5 : Hid (Below w.heap.size w x5) := HB4.out.trans (hb.mono HB4.out.size)
    have HX5 : Hid (Tbx x5 w.heap.size N S) := HX4.out.below hb
    have hz5 : x4.heap.size ≤ x5.heap.size := hb.size
    have Hs_5 : Hid (IntsIn x5 x1.heap.size x2.heap.size ads R) := Hs_4.out.below hb
    have Hx_5 : Hid (BoolsIn x5 x2.heap.size x3.heap.size (some ⟨gx, 0, none⟩) l0) := Hx_4.out.below hb
    have Hg_5 : Hid (IntsIn x5 x4.heap.size x5.heap.size ag R) := WInts.within hr
    clear hb hr
    go_wp2_with fail
    refine (eqIntB _ _ _ R _ _ Hg_5.out.ints Hs_5.out.ints).mono ?_
    rintro e x6 ⟨rfl, hb⟩
    have HB6 : Hid (Below w.heap.size w x6) := HB5.out.trans (hb.mono HB5.out.size)
    have HX6 : Hid (Tbx x6 w.heap.size N S) := HX5.out.below hb
    have hz6 : x5.heap.size ≤ x6.heap.size := hb.size
    have Hs_6 : Hid (IntsIn x6 x1.heap.size x2.heap.size ads R) := Hs_5.out.below hb
    have Hx_6 : Hid (BoolsIn x6 x2.heap.size x3.heap.size (some ⟨gx, 0, none⟩) l0) := Hx_5.out.below hb
    have Hg_6 : Hid (IntsIn x6 x4.heap.size x5.heap.size ag R) := Hg_5.out.below hb
    clear hb
    go_wp2_with fail
    refine (toBoolE _ a0 l0 c0 (HN0.out.below HB6.out) hl0).mono ?_
    rintro e x7 ⟨gy, rfl, hg, hw, hb⟩
    have HB7 : Hid (Below w.heap.size w x7) := HB6.out.trans (hb.mono HB6.out.size)
    have HX7 : Hid (Tbx x7 w.heap.size N S) := HX6.out.below hb
    have hz7 : x6.heap.size ≤ x7.heap.size := hb.size
    have Hs_7 : Hid (IntsIn x7 x1.heap.size x2.heap.size ads R) := Hs_6.out.below hb
    have Hx_7 : Hid (BoolsIn x7 x2.heap.size x3.heap.size (some ⟨gx, 0, none⟩) l0) := Hx_6.out.below hb
    have Hg_7 : Hid (IntsIn x7 x4.heap.size x5.heap.size ag R) := Hg_6.out.below hb
    have Hy_7 : Hid (BoolsIn x7 x6.heap.size x7.heap.size (some ⟨gy, 0, none⟩) l0) := WBools.within hw
    clear hb hw hg
    go_wp2_with fail
    refine (eqBoolS _ _ _ l0 _ _ Hx_7.out.plain Hy_7.out.plain).mono ?_
    rintro e x8 ⟨rfl, hb⟩
    have HB8 : Hid (Below w.heap.size w x8) := HB7.out.trans (hb.mono HB7.out.size)
    have HX8 : Hid (Tbx x8 w.heap.size N S) := HX7.out.below hb
    have hz8 : x7.heap.size ≤ x8.heap.size := hb.size
    have Hs_8 : Hid (IntsIn x8 x1.heap.size x2.heap.size ads R) := Hs_7.out.below hb
    have Hx_8 : Hid (BoolsIn x8 x2.heap.size x3.heap.size (some ⟨gx, 0, none⟩) l0) := Hx_7.out.below hb
    have Hg_8 : Hid (IntsIn x8 x4.heap.size x5.heap.size ag R) := Hg_7.out.below hb
    have Hy_8 : Hid (BoolsIn x8 x6.heap.size x7.heap.size (some ⟨gy, 0, none⟩) l0) := Hy_7.out.below hb
    clear hb
    go_wp2_with fail
    refine (markBoolS _ _ _ l0 _ Hx_8.out.wr _ (by omega) (by omega) hl0).mono ?_
    rintro e x9 ⟨rfl, hw, hk⟩
    have HB9 : Hid (Below w.heap.size w x9) := HB8.out.trans (hk.below (fun b hb => by have := Hx_8.out.ats hb; omega) HB8.out.size)
    have HX9 : Hid (Tbx x9 w.heap.size N S) := Tbx.kept HX8.out hk (fun h3 => by have := Hx_8.out.ats h3; omega)
    have hz9 : x8.heap.size ≤ x9.heap.size := hk.size
    have Hs_9 : Hid (IntsIn x9 x1.heap.size x2.heap.size ads R) := Hs_8.out.kept hk (fun b h1 h2 h3 => by have := Hx_8.out.ats h3; omega)
    have Hg_9 : Hid (IntsIn x9 x4.heap.size x5.heap.size ag R) := Hg_8.out.kept hk (fun b h1 h2 h3 => by have := Hx_8.out.ats h3; omega)
    have Hx_9 : Hid (BoolsIn x9 x2.heap.size x3.heap.size (some ⟨gx, 0, none⟩) (markB l0.length (1 : Int))) := Hx_8.out.again hw (markB_length _ _)
    clear hw hk
    have hk1 : ¬ (1 : Int) + (l0.length : Int) < 0 := by omega
    go_wp2_with fail
    refine (eqIntB _ _ _ R _ _ Hg_9.out.ints Hs_9.out.ints).mono ?_
    rintro e x10 ⟨rfl, hb⟩
    have HB10 : Hid (Below w.heap.size w x10) := HB9.out.trans (hb.mono HB9.out.size)
    have HX10 : Hid (Tbx x10 w.heap.size N S) := HX9.out.below hb
    have hz10 : x9.heap.size ≤ x10.heap.size := hb.size
    have Hs_10 : Hid (IntsIn x10 x1.heap.size x2.heap.size ads R) := Hs_9.out.below hb
    have Hg_10 : Hid (IntsIn x10 x4.heap.size x5.heap.size ag R) := Hg_9.out.below hb
    clear hb
    go_wp2_with fail
    refine (markIntB _ _ _ R _ Hg_10.out.wints _ (by omega) (by omega) hR).mono ?_
    rintro e x11 ⟨rfl, hw, hk⟩
    have HB11 : Hid (Below w.heap.size w x11) := HB10.out.trans (hk.below (fun b hb => by have := Hg_10.out.ats hb; omega) HB10.out.size)
    have HX11 : Hid (Tbx x11 w.heap.size N S) := Tbx.kept HX10.out hk (fun h3 => by have := Hg_10.out.ats h3; omega)
    have hz11 : x10.heap.size ≤ x11.heap.size := hk.size
    have Hs_11 : Hid (IntsIn x11 x1.heap.size x2.heap.size ads R) := Hs_10.out.kept hk (fun b h1 h2 h3 => by have := Hg_10.out.ats h3; omega)
    have Hg_11 : Hid (IntsIn x11 x4.heap.size x5.heap.size ag (marks R.length (1 : Int))) := Hg_10.out.again hw (marks_length _ _)
    clear hw hk
    go_wp2_with fail
    refine (heldIntB _ _ R.length _ (1 : Int) Hg_11.out.ints (by omega) (by omega) hR).mono ?_
    rintro e wz ⟨rfl, hz⟩
    have hz' := hz.symm
    clear hz
    subst hz'
    have hq0 : ¬ ((1 : Int) + (R.length : Int)) < 0 := by omega
    obtain ⟨c0T, c1T⟩ := HX11.out
    go_wp2_with fail
    have DX : Tbx x11.drew w.heap.size N S := Tbx.drew HX11.out
    have HBD : Hid (Below w.heap.size w x11.drew) := HB11.out.drew
    have hzD : x11.heap.size ≤ x11.drew.heap.size := Nat.le_refl _
    go_region_held3 (fun w' => w'.cell? ⟨w.heap.size, 0, none⟩ = some (.int .i64 N) ∧ w'.cell? ⟨w.heap.size, 1, none⟩ = some (.string S)) ((first | exact ⟨EX.c0, EX.c1⟩ | exact ⟨DX.c0, DX.c1⟩)) ((first | (go_at_call 24; (first | with_reducible refine (toBoolE _ a0 l0 c0 (HN0.out.below HBE.out) hl0).mono ?_ | with_reducible refine (toBoolE _ a0 l0 c0 (HN0.out.below HBD.out) hl0).mono ?_); rintro e w5 ⟨gr, rfl, hg, hw, hb⟩; have EX : Tbx w5 w.heap.size N S := (by first | exact EX.below hb | exact DX.below hb); have HBE : Hid (Below w.heap.size w w5) := (by first | exact HBE.out.trans (hb.mono HBE.out.size) | exact HBD.out.trans (hb.mono HBD.out.size)); have HBC : Hid (Below x11.heap.size x11 w5) := (by first | exact HBC.out.trans (hb.mono HBC.out.size) | exact (Below.refl _ x11).drew.trans (hb.mono hzD)); have ER : Hid (Bools w5 (some ⟨gr, 0, none⟩) l0) := WBools.plain hw; clear hg hw hb) | (go_at_call 14; (with_reducible refine (HIM.out _ _ l0.length ER.out).mono ?_); rintro e w5 ⟨⟨adh, cdh, rfl, hr⟩, hb⟩; have HS : Hid (WInts w5 x11.heap.size adh R) := (by first | exact wlow hr HBC.out.size | exact wlow hr hzD); have EX : Tbx w5 w.heap.size N S := (by first | exact EX.below hb | exact DX.below hb); have HBE : Hid (Below w.heap.size w w5) := (by first | exact HBE.out.trans (hb.mono HBE.out.size) | exact HBD.out.trans (hb.mono HBD.out.size)); have HBC : Hid (Below x11.heap.size x11 w5) := (by first | exact HBC.out.trans (hb.mono HBC.out.size) | exact (Below.refl _ x11).drew.trans (hb.mono hzD)); clear hb hr) | (go_at_call 25; (with_reducible refine (toTable N S _).mono ?_); rintro e w5 ⟨rfl, hb⟩; (try have ER : Hid (Bools w5 (some ⟨gr, 0, none⟩) l0) := ER.out.below hb); have EX : Tbx w5 w.heap.size N S := (by first | exact EX.below hb | exact DX.below hb); have HBE : Hid (Below w.heap.size w w5) := (by first | exact HBE.out.trans (hb.mono HBE.out.size) | exact HBD.out.trans (hb.mono HBD.out.size)); have HBC : Hid (Below x11.heap.size x11 w5) := (by first | exact HBC.out.trans (hb.mono HBC.out.size) | exact (Below.refl _ x11).drew.trans (hb.mono hzD)); clear hb)))
    all_goals
      have HB12 : Hid (Below w.heap.size w w5) := HBE.out
      have HX12 : Hid (Tbx w5 w.heap.size N S) := EX
      have hb : Below x11.heap.size x11 w5 := HBC.out
      have hz12 : x11.heap.size ≤ w5.heap.size := hb.size
      have Hs_12 : Hid (IntsIn w5 x1.heap.size x2.heap.size ads R) := Hs_11.out.below hb
      have Hg_12 : Hid (IntsIn w5 x4.heap.size x5.heap.size ag (marks R.length (1 : Int))) := Hg_11.out.below hb
      have Hh_12 : Hid (IntsIn w5 x11.heap.size w5.heap.size adh R) := WInts.within HS.out
      clear c0T c1T DX HBD hzD ER HBE HBC EX HS hb
      generalize w5 = x12 at *
      go_wp2_with fail
      refine (eqIntB _ _ _ R _ _ Hh_12.out.ints Hs_12.out.ints).mono ?_
      rintro e x13 ⟨rfl, hb⟩
      have HB13 : Hid (Below w.heap.size w x13) := HB12.out.trans (hb.mono HB12.out.size)
      have HX13 : Hid (Tbx x13 w.heap.size N S) := HX12.out.below hb
      have hz13 : x12.heap.size ≤ x13.heap.size := hb.size
      have Hs_13 : Hid (IntsIn x13 x1.heap.size x2.heap.size ads R) := Hs_12.out.below hb
      have Hg_13 : Hid (IntsIn x13 x4.heap.size x5.heap.size ag (marks R.length (1 : Int))) := Hg_12.out.below hb
      have Hh_13 : Hid (IntsIn x13 x11.heap.size x12.heap.size adh R) := Hh_12.out.below hb
      clear hb
      go_wp2_with fail
      refine (heldIntB _ _ R.length _ (1 : Int) Hg_13.out.ints (by omega) (by omega) hR).mono ?_
      rintro e wz ⟨rfl, hz⟩
      have hz' := hz.symm
      clear hz
      subst hz'
      have hq1 : ¬ ((1 : Int) + (R.length : Int)) < 0 := by omega
      go_wp2
      go_ret
      exact ⟨rfl, HB13.out⟩

end Go.Proofs.Yteplffphkakliaa.Lx32
