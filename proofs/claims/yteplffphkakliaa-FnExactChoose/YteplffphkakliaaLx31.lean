/- The exact laws of Decide and Choose. Written by tools/mkdx2.py. -/
import Derived.Deep.RegionHeld3
import Derived.Deep.CutBlock
import Derived.Test.YteplffphkakliaaDm3
import Derived.Test.YteplffphkakliaaDp5
import Derived.Test.YteplffphkakliaaTc3
namespace Go.Proofs.Yteplffphkakliaa.Lx31
open Go.RowKit
open Nd0 Nd1 Nd6 Ap1 Dq0
open Ta0 Ta1 Tc2
open Tc3 (Tbx szTable toTable eqTable)
open Ss0 (bs bs_size)
open Ss1 (tl bs_tl)
open Dp4 (iDecide0 iDecide)
open Dp5 (iChoose0 iChooseN iChoose chV)
open Dm3 (sDecide0 sDecide sChoose0 sChooseN sChoose)
set_option linter.unusedVariables false

theorem tok_str {N : Int} {S : ByteArray} (h : tokB N (tl S) = true) : ∃ (n : Nat) (F : Nat → Bool), n ≤ 12 ∧ N = (n : Int) ∧ S = bs (tab n F) := by
  obtain ⟨n, F, h1, h2, h3⟩ := tok_tab h
  exact ⟨n, F, h1, h2, by rw [← bs_tl S, h3]⟩
theorem toBoolE (w : World) (a : Option Addr) (l : List Bool) (c : Nat) (h : Bools w a l) (hl : l.length ≤ 1048576) :
    Calls Try.prog 24 #[.slice a l.length c] w fun e w' => ∃ g, e = .returned (.slice (some ⟨g, 0, none⟩) l.length l.length) ∧ w.heap.size ≤ g ∧ WBools w' w.heap.size (some ⟨g, 0, none⟩) l ∧ Below w.heap.size w w' :=
  (toBoolS w a l c h hl).mono fun e w' h => ⟨w.heap.size, h.1, Nat.le_refl _, h.2.1, h.2.2⟩
theorem Tbx.drew {W : World} {g : Nat} {N : Int} {S : ByteArray} (h : Tbx W g N S) : Tbx W.drew g N S := ⟨h.c0, h.c1⟩
theorem boolsDrew {W : World} {a : Option Addr} {l : List Bool} (h : Bools W a l) : Bools W.drew a l := h

theorem bDecide (row : List Bool) (N : Int) (S : ByteArray) (hS : S.size ≤ 1048576) : ∃ (v : Int) (b : Bool), (∀ (W : World) (a : Option Addr) (c : Nat), Bools W a row → row.length ≤ c → Calls Try.prog 23 #[.slice a row.length c, tv N S] W fun e w' => e = .returned (.tuple #[.int .i64 v, .bool b]) ∧ Below W.heap.size W w') ∧ ∀ (W : World) (a : Option Addr) (c : Nat), Bools W a row → Calls Try.prog 13 #[.slice a row.length c, tv N S] W fun e w' => e = .returned (.tuple #[.int .i64 v, .bool b]) ∧ Below W.heap.size W w' := by
  by_cases h : tokB N (tl S) = true ∧ (row.length : Int) = N
  · obtain ⟨h1, h2⟩ := h
    obtain ⟨n, F, hn, rfl, rfl⟩ := tok_str h1
    have hrn : row.length = n := by omega
    rw [hrn]
    exact ⟨_, true, fun W a c hB hc => sDecide n F a row c W hn hrn hB (by omega), fun W a c hB => iDecide n F a row c W hn hrn hB⟩
  · exact ⟨0, false, fun W a c _ _ => sDecide0 a row.length c W hS h, fun W a c _ => iDecide0 a row.length c W hS h⟩

theorem bChoose (row : List Bool) (N : Int) (S : ByteArray) (hS : S.size ≤ 1048576) : ∃ (v : Int) (b : Bool), (∀ (W : World) (a : Option Addr) (c : Nat), Bools W a row → row.length ≤ c → Calls Try.prog 27 #[.slice a row.length c, tv N S] W fun e w' => e = .returned (.tuple #[.int .i64 v, .bool b]) ∧ Below W.heap.size W w') ∧ ∀ (W : World) (a : Option Addr) (c : Nat), Bools W a row → Calls Try.prog 19 #[.slice a row.length c, tv N S] W fun e w' => e = .returned (.tuple #[.int .i64 v, .bool b]) ∧ Below W.heap.size W w' := by
  by_cases h : tokB N (tl S) = true ∧ (row.length : Int) = N
  · obtain ⟨h1, h2⟩ := h
    obtain ⟨n, F, hn, rfl, rfl⟩ := tok_str h1
    have hrn : row.length = n := by omega
    rw [hrn]
    by_cases hn1 : 1 ≤ n
    · exact ⟨_, true, fun W a c hB hc => sChoose n F a row c W hn hn1 hrn hB (by omega), fun W a c hB => iChoose n F a row c W hn hn1 hrn hB⟩
    · obtain rfl : n = 0 := by omega
      exact ⟨0, false, fun W a c _ _ => sChooseN F a c W, fun W a c _ => iChooseN F a c W⟩
  · exact ⟨0, false, fun W a c _ _ => sChoose0 a row.length c W hS h, fun W a c _ => iChoose0 a row.length c W hS h⟩

set_option maxRecDepth 100000 in
set_option maxHeartbeats 8000000 in
theorem exDecide (w : World) (a0 : Option Addr) (l0 : List Bool) (c0 : Nat) (N : Int) (S : ByteArray) (hN0 : Bools w a0 l0) (hS : S.size ≤ maxLen) :
    Calls Try.prog 5 #[.slice a0 l0.length c0, tv N S] w fun e w' => e = .returned (.bool true) ∧ Below w.heap.size w w' := by
  have HN0 : Hid (Bools w a0 l0) := hN0
  have hm0 := hN0.1
  clear hN0
  have HA : Hid (Below w.heap.size w (w.alloc (.cells #[.int .i64 N, .string S] 40))) := (Below.refl _ _).alloc (Nat.le_refl _) _
  have HT : Hid (Tbx (w.alloc (.cells #[.int .i64 N, .string S] 40)) w.heap.size N S) := Tbx.made _ _ _ _
  by_cases hl0 : l0.length ≤ 1048576
  rotate_left
  · have hlz : (1048576 : Int) < (l0.length : Int) := by omega
    go_enter Try.func5, Try.ntmps5
    go_wp2
    go_ret
    exact ⟨rfl, HA.out⟩
  have hlz : ¬ (1048576 : Int) < (l0.length : Int) := by omega
  have HSZ : Hid (S.size ≤ maxLen) := hS
  by_cases hs0 : S.size ≤ 1048576
  rotate_left
  · go_enter Try.func5, Try.ntmps5
    go_wp2_with fail
    refine (szTable N S _ _ (by omega) (by omega) hS).mono ?_
    rw [if_neg (by omega)]
    rintro e x1 ⟨rfl, hb⟩
    have HB1 : Hid (Below w.heap.size w x1) := HA.out.trans (hb.mono HA.out.size)
    clear hb
    go_wp2
    go_ret
    exact ⟨rfl, HB1.out⟩
  obtain ⟨v, bb, hsp, him⟩ := bDecide l0 N S hs0
  have HSP : Hid _ := hsp
  have HIM : Hid _ := him
  clear hsp him
  obtain ⟨x0, hx0⟩ : ∃ x0, x0 = w.alloc (.cells #[.int .i64 N, .string S] 40) := ⟨_, rfl⟩
  have HB0 : Hid (Below w.heap.size w x0) := by rw [hx0]; exact HA.out
  have HX0 : Hid (Tbx x0 w.heap.size N S) := by rw [hx0]; exact HT.out
  have HE0 : Hid (w.alloc (.cells #[.int .i64 N, .string S] 40) = x0) := hx0.symm
  clear hx0 HA HT
  go_enter Try.func5, Try.ntmps5
  go_upto_region 4 with fail
  rw [HE0.out]
  clear HE0
  obtain ⟨c0T, c1T⟩ := HX0.out
  go_wp2_with fail
  refine (szTable N S _ _ (by omega) (by omega) hS).mono ?_
  rw [if_pos (by omega)]
  rintro e x1 ⟨rfl, hb⟩
  have HB1 : Hid (Below w.heap.size w x1) := HB0.out.trans (hb.mono HB0.out.size)
  have HX1 : Hid (Tbx x1 w.heap.size N S) := HX0.out.below hb
  have hz1 : x0.heap.size ≤ x1.heap.size := hb.size
  clear hb c0T c1T
  have hp0 : ¬ (1048576 : Int) - (S.size : Int) < 0 := by omega
  clear hS
  obtain ⟨c0T, c1T⟩ := HX1.out
  go_wp2_with fail
  have DX : Tbx x1.drew w.heap.size N S := Tbx.drew HX1.out
  have HBD : Hid (Below w.heap.size w x1.drew) := HB1.out.drew
  have hzD : x1.heap.size ≤ x1.drew.heap.size := Nat.le_refl _
  go_region_held3 (fun w' => w'.cell? ⟨w.heap.size, 0, none⟩ = some (.int .i64 N) ∧ w'.cell? ⟨w.heap.size, 1, none⟩ = some (.string S)) ((first | exact ⟨EX.c0, EX.c1⟩ | exact ⟨DX.c0, DX.c1⟩)) ((first | (go_at_call 24; (first | with_reducible refine (toBoolE _ a0 l0 c0 (HN0.out.below HBE.out) hl0).mono ?_ | with_reducible refine (toBoolE _ a0 l0 c0 (HN0.out.below HBD.out) hl0).mono ?_); rintro e w5 ⟨gr, rfl, hg, hw, hb⟩; have EX : Tbx w5 w.heap.size N S := (by first | exact EX.below hb | exact DX.below hb); have HBE : Hid (Below w.heap.size w w5) := (by first | exact HBE.out.trans (hb.mono HBE.out.size) | exact HBD.out.trans (hb.mono HBD.out.size)); have HBC : Hid (Below x1.heap.size x1 w5) := (by first | exact HBC.out.trans (hb.mono HBC.out.size) | exact (Below.refl _ x1).drew.trans (hb.mono hzD)); have ER : Hid (Bools w5 (some ⟨gr, 0, none⟩) l0) := WBools.plain hw; clear hg hw hb) | (go_at_call 23; (with_reducible refine (HSP.out _ _ l0.length ER.out (Nat.le_refl _)).mono ?_); rintro e w5 ⟨rfl, hb⟩; have EX : Tbx w5 w.heap.size N S := (by first | exact EX.below hb | exact DX.below hb); have HBE : Hid (Below w.heap.size w w5) := (by first | exact HBE.out.trans (hb.mono HBE.out.size) | exact HBD.out.trans (hb.mono HBD.out.size)); have HBC : Hid (Below x1.heap.size x1 w5) := (by first | exact HBC.out.trans (hb.mono HBC.out.size) | exact (Below.refl _ x1).drew.trans (hb.mono hzD)); clear hb) | (go_at_call 25; (with_reducible refine (toTable N S _).mono ?_); rintro e w5 ⟨rfl, hb⟩; (try have ER : Hid (Bools w5 (some ⟨gr, 0, none⟩) l0) := ER.out.below hb); have EX : Tbx w5 w.heap.size N S := (by first | exact EX.below hb | exact DX.below hb); have HBE : Hid (Below w.heap.size w w5) := (by first | exact HBE.out.trans (hb.mono HBE.out.size) | exact HBD.out.trans (hb.mono HBD.out.size)); have HBC : Hid (Below x1.heap.size x1 w5) := (by first | exact HBC.out.trans (hb.mono HBC.out.size) | exact (Below.refl _ x1).drew.trans (hb.mono hzD)); clear hb)))
  all_goals
    have HB2 : Hid (Below w.heap.size w w5) := HBE.out
    have HX2 : Hid (Tbx w5 w.heap.size N S) := EX
    have hb : Below x1.heap.size x1 w5 := HBC.out
    clear c0T c1T DX HBD hzD ER HBE HBC EX HSP
    generalize w5 = x2 at *
    clear hb
    go_wp2_with fail
    refine (toBoolE _ a0 l0 c0 (HN0.out.below HB2.out) hl0).mono ?_
    rintro e x3 ⟨gx, rfl, hg, hw, hb⟩
    have HB3 : Hid (Below w.heap.size w x3) := HB2.out.trans (hb.mono HB2.out.size)
    have HX3 : Hid (Tbx x3 w.heap.size N S) := HX2.out.below hb
    have hz3 : x2.heap.size ≤ x3.heap.size := hb.size
    have Hx_3 : Hid (BoolsIn x3 x2.heap.size x3.heap.size (some ⟨gx, 0, none⟩) l0) := WBools.within hw
    clear hb hw hg
    obtain ⟨c0T, c1T⟩ := HX3.out
    go_wp2_with fail
    refine (toTable N S _).mono ?_
    rintro e x4 ⟨rfl, hb⟩
    have HB4 : Hid (Below w.heap.size w x4) := HB3.out.trans (hb.mono HB3.out.size)
    have HX4 : Hid (Tbx x4 w.heap.size N S) := HX3.out.below hb
    have hz4 : x3.heap.size ≤ x4.heap.size := hb.size
    have Hx_4 : Hid (BoolsIn x4 x2.heap.size x3.heap.size (some ⟨gx, 0, none⟩) l0) := Hx_3.out.below hb
    clear hb c0T c1T
    go_wp2_with fail
    refine (HIM.out _ _ l0.length Hx_4.out.plain).mono ?_
    rintro e x5 ⟨rfl, hb⟩
    have HB5 : Hid (Below w.heap.size w x5) := HB4.out.trans (hb.mono HB4.out.size)
    have HX5 : Hid (Tbx x5 w.heap.size N S) := HX4.out.below hb
    have hz5 : x4.heap.size ≤ x5.heap.size := hb.size
    have Hx_5 : Hid (BoolsIn x5 x2.heap.size x3.heap.size (some ⟨gx, 0, none⟩) l0) := Hx_4.out.below hb
    clear hb
    have hv : (v != v) = false := by simp
    have hbb : (bb != bb) = false := by simp
    go_wp2_with fail
    refine (toBoolE _ a0 l0 c0 (HN0.out.below HB5.out) hl0).mono ?_
    rintro e x6 ⟨gy, rfl, hg, hw, hb⟩
    have HB6 : Hid (Below w.heap.size w x6) := HB5.out.trans (hb.mono HB5.out.size)
    have HX6 : Hid (Tbx x6 w.heap.size N S) := HX5.out.below hb
    have hz6 : x5.heap.size ≤ x6.heap.size := hb.size
    have Hx_6 : Hid (BoolsIn x6 x2.heap.size x3.heap.size (some ⟨gx, 0, none⟩) l0) := Hx_5.out.below hb
    have Hy_6 : Hid (BoolsIn x6 x5.heap.size x6.heap.size (some ⟨gy, 0, none⟩) l0) := WBools.within hw
    clear hb hw hg
    go_wp2_with fail
    refine (eqBoolS _ _ _ l0 _ _ Hx_6.out.plain Hy_6.out.plain).mono ?_
    rintro e x7 ⟨rfl, hb⟩
    have HB7 : Hid (Below w.heap.size w x7) := HB6.out.trans (hb.mono HB6.out.size)
    have HX7 : Hid (Tbx x7 w.heap.size N S) := HX6.out.below hb
    have hz7 : x6.heap.size ≤ x7.heap.size := hb.size
    have Hx_7 : Hid (BoolsIn x7 x2.heap.size x3.heap.size (some ⟨gx, 0, none⟩) l0) := Hx_6.out.below hb
    have Hy_7 : Hid (BoolsIn x7 x5.heap.size x6.heap.size (some ⟨gy, 0, none⟩) l0) := Hy_6.out.below hb
    clear hb
    clear hv hbb
    go_wp2
    go_ret
    exact ⟨rfl, HB7.out⟩

set_option maxRecDepth 100000 in
set_option maxHeartbeats 8000000 in
theorem exChoose (w : World) (a0 : Option Addr) (l0 : List Bool) (c0 : Nat) (N : Int) (S : ByteArray) (hN0 : Bools w a0 l0) (hS : S.size ≤ maxLen) :
    Calls Try.prog 6 #[.slice a0 l0.length c0, tv N S] w fun e w' => e = .returned (.bool true) ∧ Below w.heap.size w w' := by
  have HN0 : Hid (Bools w a0 l0) := hN0
  have hm0 := hN0.1
  clear hN0
  have HA : Hid (Below w.heap.size w (w.alloc (.cells #[.int .i64 N, .string S] 40))) := (Below.refl _ _).alloc (Nat.le_refl _) _
  have HT : Hid (Tbx (w.alloc (.cells #[.int .i64 N, .string S] 40)) w.heap.size N S) := Tbx.made _ _ _ _
  by_cases hl0 : l0.length ≤ 1048576
  rotate_left
  · have hlz : (1048576 : Int) < (l0.length : Int) := by omega
    go_enter Try.func6, Try.ntmps6
    go_wp2
    go_ret
    exact ⟨rfl, HA.out⟩
  have hlz : ¬ (1048576 : Int) < (l0.length : Int) := by omega
  have HSZ : Hid (S.size ≤ maxLen) := hS
  by_cases hs0 : S.size ≤ 1048576
  rotate_left
  · go_enter Try.func6, Try.ntmps6
    go_wp2_with fail
    refine (szTable N S _ _ (by omega) (by omega) hS).mono ?_
    rw [if_neg (by omega)]
    rintro e x1 ⟨rfl, hb⟩
    have HB1 : Hid (Below w.heap.size w x1) := HA.out.trans (hb.mono HA.out.size)
    clear hb
    go_wp2
    go_ret
    exact ⟨rfl, HB1.out⟩
  obtain ⟨v, bb, hsp, him⟩ := bChoose l0 N S hs0
  have HSP : Hid _ := hsp
  have HIM : Hid _ := him
  clear hsp him
  obtain ⟨x0, hx0⟩ : ∃ x0, x0 = w.alloc (.cells #[.int .i64 N, .string S] 40) := ⟨_, rfl⟩
  have HB0 : Hid (Below w.heap.size w x0) := by rw [hx0]; exact HA.out
  have HX0 : Hid (Tbx x0 w.heap.size N S) := by rw [hx0]; exact HT.out
  have HE0 : Hid (w.alloc (.cells #[.int .i64 N, .string S] 40) = x0) := hx0.symm
  clear hx0 HA HT
  go_enter Try.func6, Try.ntmps6
  go_upto_region 4 with fail
  rw [HE0.out]
  clear HE0
  obtain ⟨c0T, c1T⟩ := HX0.out
  go_wp2_with fail
  refine (szTable N S _ _ (by omega) (by omega) hS).mono ?_
  rw [if_pos (by omega)]
  rintro e x1 ⟨rfl, hb⟩
  have HB1 : Hid (Below w.heap.size w x1) := HB0.out.trans (hb.mono HB0.out.size)
  have HX1 : Hid (Tbx x1 w.heap.size N S) := HX0.out.below hb
  have hz1 : x0.heap.size ≤ x1.heap.size := hb.size
  clear hb c0T c1T
  have hp0 : ¬ (1048576 : Int) - (S.size : Int) < 0 := by omega
  clear hS
  obtain ⟨c0T, c1T⟩ := HX1.out
  go_wp2_with fail
  have DX : Tbx x1.drew w.heap.size N S := Tbx.drew HX1.out
  have HBD : Hid (Below w.heap.size w x1.drew) := HB1.out.drew
  have hzD : x1.heap.size ≤ x1.drew.heap.size := Nat.le_refl _
  go_region_held3 (fun w' => w'.cell? ⟨w.heap.size, 0, none⟩ = some (.int .i64 N) ∧ w'.cell? ⟨w.heap.size, 1, none⟩ = some (.string S)) ((first | exact ⟨EX.c0, EX.c1⟩ | exact ⟨DX.c0, DX.c1⟩)) ((first | (go_at_call 24; (first | with_reducible refine (toBoolE _ a0 l0 c0 (HN0.out.below HBE.out) hl0).mono ?_ | with_reducible refine (toBoolE _ a0 l0 c0 (HN0.out.below HBD.out) hl0).mono ?_); rintro e w5 ⟨gr, rfl, hg, hw, hb⟩; have EX : Tbx w5 w.heap.size N S := (by first | exact EX.below hb | exact DX.below hb); have HBE : Hid (Below w.heap.size w w5) := (by first | exact HBE.out.trans (hb.mono HBE.out.size) | exact HBD.out.trans (hb.mono HBD.out.size)); have HBC : Hid (Below x1.heap.size x1 w5) := (by first | exact HBC.out.trans (hb.mono HBC.out.size) | exact (Below.refl _ x1).drew.trans (hb.mono hzD)); have ER : Hid (Bools w5 (some ⟨gr, 0, none⟩) l0) := WBools.plain hw; clear hg hw hb) | (go_at_call 27; (with_reducible refine (HSP.out _ _ l0.length ER.out (Nat.le_refl _)).mono ?_); rintro e w5 ⟨rfl, hb⟩; have EX : Tbx w5 w.heap.size N S := (by first | exact EX.below hb | exact DX.below hb); have HBE : Hid (Below w.heap.size w w5) := (by first | exact HBE.out.trans (hb.mono HBE.out.size) | exact HBD.out.trans (hb.mono HBD.out.size)); have HBC : Hid (Below x1.heap.size x1 w5) := (by first | exact HBC.out.trans (hb.mono HBC.out.size) | exact (Below.refl _ x1).drew.trans (hb.mono hzD)); clear hb) | (go_at_call 25; (with_reducible refine (toTable N S _).mono ?_); rintro e w5 ⟨rfl, hb⟩; (try have ER : Hid (Bools w5 (some ⟨gr, 0, none⟩) l0) := ER.out.below hb); have EX : Tbx w5 w.heap.size N S := (by first | exact EX.below hb | exact DX.below hb); have HBE : Hid (Below w.heap.size w w5) := (by first | exact HBE.out.trans (hb.mono HBE.out.size) | exact HBD.out.trans (hb.mono HBD.out.size)); have HBC : Hid (Below x1.heap.size x1 w5) := (by first | exact HBC.out.trans (hb.mono HBC.out.size) | exact (Below.refl _ x1).drew.trans (hb.mono hzD)); clear hb)))
  all_goals
    have HB2 : Hid (Below w.heap.size w w5) := HBE.out
    have HX2 : Hid (Tbx w5 w.heap.size N S) := EX
    have hb : Below x1.heap.size x1 w5 := HBC.out
    clear c0T c1T DX HBD hzD ER HBE HBC EX HSP
    generalize w5 = x2 at *
    clear hb
    go_wp2_with fail
    refine (toBoolE _ a0 l0 c0 (HN0.out.below HB2.out) hl0).mono ?_
    rintro e x3 ⟨gx, rfl, hg, hw, hb⟩
    have HB3 : Hid (Below w.heap.size w x3) := HB2.out.trans (hb.mono HB2.out.size)
    have HX3 : Hid (Tbx x3 w.heap.size N S) := HX2.out.below hb
    have hz3 : x2.heap.size ≤ x3.heap.size := hb.size
    have Hx_3 : Hid (BoolsIn x3 x2.heap.size x3.heap.size (some ⟨gx, 0, none⟩) l0) := WBools.within hw
    clear hb hw hg
    obtain ⟨c0T, c1T⟩ := HX3.out
    go_wp2_with fail
    refine (toTable N S _).mono ?_
    rintro e x4 ⟨rfl, hb⟩
    have HB4 : Hid (Below w.heap.size w x4) := HB3.out.trans (hb.mono HB3.out.size)
    have HX4 : Hid (Tbx x4 w.heap.size N S) := HX3.out.below hb
    have hz4 : x3.heap.size ≤ x4.heap.size := hb.size
    have Hx_4 : Hid (BoolsIn x4 x2.heap.size x3.heap.size (some ⟨gx, 0, none⟩) l0) := Hx_3.out.below hb
    clear hb c0T c1T
    go_wp2_with fail
    refine (HIM.out _ _ l0.length Hx_4.out.plain).mono ?_
    rintro e x5 ⟨rfl, hb⟩
    have HB5 : Hid (Below w.heap.size w x5) := HB4.out.trans (hb.mono HB4.out.size)
    have HX5 : Hid (Tbx x5 w.heap.size N S) := HX4.out.below hb
    have hz5 : x4.heap.size ≤ x5.heap.size := hb.size
    have Hx_5 : Hid (BoolsIn x5 x2.heap.size x3.heap.size (some ⟨gx, 0, none⟩) l0) := Hx_4.out.below hb
    clear hb
    have hv : (v != v) = false := by simp
    have hbb : (bb != bb) = false := by simp
    go_wp2_with fail
    refine (toBoolE _ a0 l0 c0 (HN0.out.below HB5.out) hl0).mono ?_
    rintro e x6 ⟨gy, rfl, hg, hw, hb⟩
    have HB6 : Hid (Below w.heap.size w x6) := HB5.out.trans (hb.mono HB5.out.size)
    have HX6 : Hid (Tbx x6 w.heap.size N S) := HX5.out.below hb
    have hz6 : x5.heap.size ≤ x6.heap.size := hb.size
    have Hx_6 : Hid (BoolsIn x6 x2.heap.size x3.heap.size (some ⟨gx, 0, none⟩) l0) := Hx_5.out.below hb
    have Hy_6 : Hid (BoolsIn x6 x5.heap.size x6.heap.size (some ⟨gy, 0, none⟩) l0) := WBools.within hw
    clear hb hw hg
    go_wp2_with fail
    refine (eqBoolS _ _ _ l0 _ _ Hx_6.out.plain Hy_6.out.plain).mono ?_
    rintro e x7 ⟨rfl, hb⟩
    have HB7 : Hid (Below w.heap.size w x7) := HB6.out.trans (hb.mono HB6.out.size)
    have HX7 : Hid (Tbx x7 w.heap.size N S) := HX6.out.below hb
    have hz7 : x6.heap.size ≤ x7.heap.size := hb.size
    have Hx_7 : Hid (BoolsIn x7 x2.heap.size x3.heap.size (some ⟨gx, 0, none⟩) l0) := Hx_6.out.below hb
    have Hy_7 : Hid (BoolsIn x7 x5.heap.size x6.heap.size (some ⟨gy, 0, none⟩) l0) := Hy_6.out.below hb
    clear hb
    clear hv hbb
    go_wp2
    go_ret
    exact ⟨rfl, HB7.out⟩

end Go.Proofs.Yteplffphkakliaa.Lx31
