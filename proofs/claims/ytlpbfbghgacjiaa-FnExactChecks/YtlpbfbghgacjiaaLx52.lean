/- The exact law of Checks. Written by tools/mkpx3.py. -/
import Derived.Deep.RegionHeld3
import Derived.Deep.CutBlock
import Derived.Test.YtlpbfbghgacjiaaPkR26
import Derived.Test.YtlpbfbghgacjiaaWp8
import Derived.Test.YtlpbfbghgacjiaaPkR6
import Derived.Test.YtlpbfbghgacjiaaPkR17
namespace Go.Proofs.Ytlpbfbghgacjiaa.Lx52
open Go.RowKit
open Nd0 Nd1 Nd6 Ap1 Dq0
open Ta0 Ta1 Tc2
open Tc3 (Tbx szTable toTable)
open Ss0 (bs bs_size)
open Ss1 (tl bs_tl)
open Op6 (Pk Pks)
open Wp7 (szPickS eqPickS pks_below)
open Wp8 (toPickS)
open Wp23 (bChecks)
set_option linter.unusedVariables false

theorem tok_str {N : Int} {S : ByteArray} (h : tokB N (tl S) = true) : ∃ (n : Nat) (F : Nat → Bool), n ≤ 12 ∧ N = (n : Int) ∧ S = bs (tab n F) := by
  obtain ⟨n, F, h1, h2, h3⟩ := tok_tab h
  exact ⟨n, F, h1, h2, by rw [← bs_tl S, h3]⟩
theorem toBoolE (w : World) (a : Option Addr) (l : List Bool) (c : Nat) (h : Bools w a l) (hl : l.length ≤ 1048576) :
    Calls Try.prog 20 #[.slice a l.length c] w fun e w' => ∃ g, e = .returned (.slice (some ⟨g, 0, none⟩) l.length l.length) ∧ w.heap.size ≤ g ∧ WBools w' w.heap.size (some ⟨g, 0, none⟩) l ∧ Below w.heap.size w w' :=
  (toBoolS w a l c h hl).mono fun e w' h => ⟨w.heap.size, h.1, Nat.le_refl _, h.2.1, h.2.2⟩
theorem Tbx.drew {W : World} {g : Nat} {N : Int} {S : ByteArray} (h : Tbx W g N S) : Tbx W.drew g N S := ⟨h.c0, h.c1⟩
theorem boolsDrew {W : World} {a : Option Addr} {l : List Bool} (h : Bools W a l) : Bools W.drew a l := h

theorem toPickE (w : World) (a : Option Addr) (ps : List Pk) (c : Nat) (h : Pks w a ps) (hl : ps.length ≤ 1048576) (hv : ∀ p ∈ ps, p.l.length ≤ 1048576) :
    Calls Try.prog 28 #[.slice a ps.length c] w fun e w' => ∃ g, e = .returned (.slice (some ⟨g, 0, none⟩) ps.length ps.length) ∧ Pks w' (some ⟨g, 0, none⟩) ps ∧ Below w.heap.size w w' :=
  (toPickS w a ps c h hl hv).mono fun e w' k => ⟨w.heap.size, k.1, k.2.1.pks h.1, k.2.2⟩
set_option maxRecDepth 100000 in
set_option maxHeartbeats 8000000 in
theorem exChecks (w : World) (a0 : Option Addr) (l0 : List Bool) (c0 : Nat) (N : Int) (S : ByteArray) (v : Int) (pa : Option Addr) (ps : List Pk) (pc : Nat) (hN0 : Bools w a0 l0) (hS : S.size ≤ maxLen) (hP : Pks w pa ps) (hw : ∀ p ∈ ps, (Lit.int .i64 p.v).wf = true) :
    Calls Try.prog 5 #[.slice a0 l0.length c0, tv N S, .int .i64 v, .slice pa ps.length pc] w fun e w' => e = .returned (.bool true) ∧ Below w.heap.size w w' := by
  have HN0 : Hid (Bools w a0 l0) := hN0
  have HP : Hid (Pks w pa ps) := hP
  have HW : Hid (∀ p ∈ ps, (Lit.int .i64 p.v).wf = true) := hw
  have hm0 := hN0.1
  have hm1 := hP.1
  clear hN0 hP hw
  have HA : Hid (Below w.heap.size w (w.alloc (.cells #[.int .i64 N, .string S] 40))) := (Below.refl _ _).alloc (Nat.le_refl _) _
  have HT : Hid (Tbx (w.alloc (.cells #[.int .i64 N, .string S] 40)) w.heap.size N S) := Tbx.made _ _ _ _
  by_cases hl0 : l0.length ≤ 1048576
  rotate_left
  · have hlz : (1048576 : Int) < (l0.length : Int) := by omega
    go_enter Try.func5, Try.ntmps5
    go_wp2
    go_ret
    exact ⟨rfl, HA.out⟩
  have hlz : ¬ (1048576 : Int) < (l0.length : Int) := by omega
  have HSZ : Hid (S.size ≤ maxLen) := hS
  by_cases hs0 : S.size ≤ 1048576
  rotate_left
  · go_enter Try.func5, Try.ntmps5
    go_wp2_with fail
    refine (szTable N S _ _ (by omega) (by omega) hS).mono ?_
    rw [if_neg (by omega)]
    rintro e x1 ⟨rfl, hb⟩
    have HB1 : Hid (Below w.heap.size w x1) := HA.out.trans (hb.mono HA.out.size)
    clear hb
    go_wp2
    go_ret
    exact ⟨rfl, HB1.out⟩
  obtain ⟨bb, hsp, him⟩ := bChecks l0 N S v ps hs0 HW.out
  have HSP : Hid _ := hsp
  have HIM : Hid _ := him
  clear hsp him
  obtain ⟨x0, hx0⟩ : ∃ x0, x0 = w.alloc (.cells #[.int .i64 N, .string S] 40) := ⟨_, rfl⟩
  have HB0 : Hid (Below w.heap.size w x0) := by rw [hx0]; exact HA.out
  have HX0 : Hid (Tbx x0 w.heap.size N S) := by rw [hx0]; exact HT.out
  have HE0 : Hid (w.alloc (.cells #[.int .i64 N, .string S] 40) = x0) := hx0.symm
  clear hx0 HA HT
  go_enter Try.func5, Try.ntmps5
  go_upto_region 4 with fail
  rw [HE0.out]
  clear HE0
  obtain ⟨c0T, c1T⟩ := HX0.out
  go_wp2_with fail
  refine (szTable N S _ _ (by omega) (by omega) hS).mono ?_
  rw [if_pos (by omega)]
  rintro e x1 ⟨rfl, hb⟩
  have HB1 : Hid (Below w.heap.size w x1) := HB0.out.trans (hb.mono HB0.out.size)
  have HX1 : Hid (Tbx x1 w.heap.size N S) := HX0.out.below hb
  clear hb c0T c1T
  have hp0 : ¬ (1048576 : Int) - (S.size : Int) < 0 := by omega
  clear hS
  go_wp2_with fail
  refine (szPickS _ pa ps pc _ (pks_below HP.out HB1.out) (by omega) (by omega)).mono ?_
  rintro e x2 ⟨r, rfl, hr0, hr1, hr2, hb⟩
  have HB2 : Hid (Below w.heap.size w x2) := HB1.out.trans (hb.mono HB1.out.size)
  have HX2 : Hid (Tbx x2 w.heap.size N S) := HX1.out.below hb
  clear hb
  by_cases hneg : r < 0
  · clear hr2
    go_wp2
    go_ret
    exact ⟨rfl, HB2.out⟩
  obtain ⟨hp1, hp2⟩ := hr2 (by omega)
  have HV : Hid (∀ p ∈ ps, p.l.length ≤ 1048576) := hp2
  clear hr2 hp2
  obtain ⟨c0T, c1T⟩ := HX2.out
  go_wp2_with fail
  have DX : Tbx x2.drew w.heap.size N S := Tbx.drew HX2.out
  have HBD : Hid (Below w.heap.size w x2.drew) := HB2.out.drew
  have hzD : x2.heap.size ≤ x2.drew.heap.size := Nat.le_refl _
  go_region_held3 (fun w' => w'.cell? ⟨w.heap.size, 0, none⟩ = some (.int .i64 N) ∧ w'.cell? ⟨w.heap.size, 1, none⟩ = some (.string S)) ((first | exact ⟨EX.c0, EX.c1⟩ | exact ⟨DX.c0, DX.c1⟩)) ((first | (go_at_call 20; (first | with_reducible refine (toBoolE _ a0 l0 c0 (HN0.out.below HBE.out) hl0).mono ?_ | with_reducible refine (toBoolE _ a0 l0 c0 (HN0.out.below HBD.out) hl0).mono ?_); rintro e w5 ⟨gr, rfl, hg, hw, hb⟩; have EX : Tbx w5 w.heap.size N S := (by first | exact EX.below hb | exact DX.below hb); have HBE : Hid (Below w.heap.size w w5) := (by first | exact HBE.out.trans (hb.mono HBE.out.size) | exact HBD.out.trans (hb.mono HBD.out.size)); have ER : Hid (Bools w5 (some ⟨gr, 0, none⟩) l0) := WBools.plain hw; clear hg hw hb) | (go_at_call 28; (with_reducible refine (toPickE _ pa ps pc (pks_below HP.out HBE.out) hp1 HV.out).mono ?_); rintro e w5 ⟨gp, rfl, hw, hb⟩; have EX : Tbx w5 w.heap.size N S := (by first | exact EX.below hb | exact DX.below hb); have HBE : Hid (Below w.heap.size w w5) := (by first | exact HBE.out.trans (hb.mono HBE.out.size) | exact HBD.out.trans (hb.mono HBD.out.size)); have ER : Hid (Bools w5 (some ⟨gr, 0, none⟩) l0) := ER.out.below hb; have EP : Hid (Pks w5 (some ⟨gp, 0, none⟩) ps) := hw; clear hw hb) | (go_at_call 17; (with_reducible refine (HSP.out _ _ _ l0.length ps.length ER.out (Nat.le_refl _) EP.out).mono ?_); rintro e w5 ⟨rfl, hb⟩; have EX : Tbx w5 w.heap.size N S := (by first | exact EX.below hb | exact DX.below hb); have HBE : Hid (Below w.heap.size w w5) := (by first | exact HBE.out.trans (hb.mono HBE.out.size) | exact HBD.out.trans (hb.mono HBD.out.size)); clear hb) | (go_at_call 21; (with_reducible refine (toTable N S _).mono ?_); rintro e w5 ⟨rfl, hb⟩; (try have ER : Hid (Bools w5 (some ⟨gr, 0, none⟩) l0) := ER.out.below hb); have EX : Tbx w5 w.heap.size N S := (by first | exact EX.below hb | exact DX.below hb); have HBE : Hid (Below w.heap.size w w5) := (by first | exact HBE.out.trans (hb.mono HBE.out.size) | exact HBD.out.trans (hb.mono HBD.out.size)); clear hb)))
  all_goals
    have HB3 : Hid (Below w.heap.size w w5) := HBE.out
    have HX3 : Hid (Tbx w5 w.heap.size N S) := EX
    clear c0T c1T DX HBD hzD ER EP HBE EX HSP
    generalize w5 = x3 at *
    go_wp2_with fail
    refine (toBoolE _ a0 l0 c0 (HN0.out.below HB3.out) hl0).mono ?_
    rintro e x4 ⟨gx, rfl, hg, hw, hb⟩
    have HB4 : Hid (Below w.heap.size w x4) := HB3.out.trans (hb.mono HB3.out.size)
    have HX4 : Hid (Tbx x4 w.heap.size N S) := HX3.out.below hb
    have Hx_4 : Hid (Bools x4 (some ⟨gx, 0, none⟩) l0) := WBools.plain hw
    clear hb hw hg
    go_wp2_with fail
    refine (toPickE _ pa ps pc (pks_below HP.out HB4.out) hp1 HV.out).mono ?_
    rintro e x5 ⟨gp, rfl, hw, hb⟩
    have HB5 : Hid (Below w.heap.size w x5) := HB4.out.trans (hb.mono HB4.out.size)
    have HX5 : Hid (Tbx x5 w.heap.size N S) := HX4.out.below hb
    have Hx_5 : Hid (Bools x5 (some ⟨gx, 0, none⟩) l0) := Hx_4.out.below hb
    have Hp_5 : Hid (Pks x5 (some ⟨gp, 0, none⟩) ps) := hw
    clear hb hw
    obtain ⟨c0T, c1T⟩ := HX5.out
    go_wp2_with fail
    refine (toTable N S _).mono ?_
    rintro e x6 ⟨rfl, hb⟩
    have HB6 : Hid (Below w.heap.size w x6) := HB5.out.trans (hb.mono HB5.out.size)
    have HX6 : Hid (Tbx x6 w.heap.size N S) := HX5.out.below hb
    have Hx_6 : Hid (Bools x6 (some ⟨gx, 0, none⟩) l0) := Hx_5.out.below hb
    have Hp_6 : Hid (Pks x6 (some ⟨gp, 0, none⟩) ps) := pks_below Hp_5.out hb
    clear hb c0T c1T
    go_wp2_with fail
    refine (HIM.out _ _ _ l0.length ps.length Hx_6.out Hp_6.out).mono ?_
    rintro e x7 ⟨rfl, hb⟩
    have HB7 : Hid (Below w.heap.size w x7) := HB6.out.trans (hb.mono HB6.out.size)
    have HX7 : Hid (Tbx x7 w.heap.size N S) := HX6.out.below hb
    have Hx_7 : Hid (Bools x7 (some ⟨gx, 0, none⟩) l0) := Hx_6.out.below hb
    have Hp_7 : Hid (Pks x7 (some ⟨gp, 0, none⟩) ps) := pks_below Hp_6.out hb
    clear hb
    have hbb : (bb != bb) = false := by simp
    go_wp2_with fail
    refine (toBoolE _ a0 l0 c0 (HN0.out.below HB7.out) hl0).mono ?_
    rintro e x8 ⟨gy, rfl, hg, hw, hb⟩
    have HB8 : Hid (Below w.heap.size w x8) := HB7.out.trans (hb.mono HB7.out.size)
    have HX8 : Hid (Tbx x8 w.heap.size N S) := HX7.out.below hb
    have Hx_8 : Hid (Bools x8 (some ⟨gx, 0, none⟩) l0) := Hx_7.out.below hb
    have Hp_8 : Hid (Pks x8 (some ⟨gp, 0, none⟩) ps) := pks_below Hp_7.out hb
    have Hy_8 : Hid (Bools x8 (some ⟨gy, 0, none⟩) l0) := WBools.plain hw
    clear hb hw hg
    go_wp2_with fail
    refine (eqBoolS _ _ _ l0 _ _ Hx_8.out Hy_8.out).mono ?_
    rintro e x9 ⟨rfl, hb⟩
    have HB9 : Hid (Below w.heap.size w x9) := HB8.out.trans (hb.mono HB8.out.size)
    have HX9 : Hid (Tbx x9 w.heap.size N S) := HX8.out.below hb
    have Hx_9 : Hid (Bools x9 (some ⟨gx, 0, none⟩) l0) := Hx_8.out.below hb
    have Hp_9 : Hid (Pks x9 (some ⟨gp, 0, none⟩) ps) := pks_below Hp_8.out hb
    have Hy_9 : Hid (Bools x9 (some ⟨gy, 0, none⟩) l0) := Hy_8.out.below hb
    clear hb
    go_wp2_with fail
    refine (toPickE _ pa ps pc (pks_below HP.out HB9.out) hp1 HV.out).mono ?_
    rintro e x10 ⟨gq, rfl, hw, hb⟩
    have HB10 : Hid (Below w.heap.size w x10) := HB9.out.trans (hb.mono HB9.out.size)
    have HX10 : Hid (Tbx x10 w.heap.size N S) := HX9.out.below hb
    have Hx_10 : Hid (Bools x10 (some ⟨gx, 0, none⟩) l0) := Hx_9.out.below hb
    have Hp_10 : Hid (Pks x10 (some ⟨gp, 0, none⟩) ps) := pks_below Hp_9.out hb
    have Hy_10 : Hid (Bools x10 (some ⟨gy, 0, none⟩) l0) := Hy_9.out.below hb
    have Hq_10 : Hid (Pks x10 (some ⟨gq, 0, none⟩) ps) := hw
    clear hb hw
    go_wp2_with fail
    refine (eqPickS _ _ _ ps _ _ Hp_10.out Hq_10.out).mono ?_
    rintro e x11 ⟨rfl, hb⟩
    have HB11 : Hid (Below w.heap.size w x11) := HB10.out.trans (hb.mono HB10.out.size)
    have HX11 : Hid (Tbx x11 w.heap.size N S) := HX10.out.below hb
    have Hx_11 : Hid (Bools x11 (some ⟨gx, 0, none⟩) l0) := Hx_10.out.below hb
    have Hp_11 : Hid (Pks x11 (some ⟨gp, 0, none⟩) ps) := pks_below Hp_10.out hb
    have Hy_11 : Hid (Bools x11 (some ⟨gy, 0, none⟩) l0) := Hy_10.out.below hb
    have Hq_11 : Hid (Pks x11 (some ⟨gq, 0, none⟩) ps) := pks_below Hq_10.out hb
    clear hb
    clear hbb
    go_wp2
    go_ret
    exact ⟨rfl, HB11.out⟩

end Go.Proofs.Ytlpbfbghgacjiaa.Lx52
