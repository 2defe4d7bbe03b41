/- Small texts of mine, one behind the other. -/
import Derived.Test.YtnkkigoeffghdaaPk1510
import Derived.Test.YtnkkigoeffghdaaPk1513
import Derived.Test.YtnkkigoeffghdaaPk1514
import Derived.Test.YtnkkigoeffghdaaPk158
import Derived.Test.YtnkkigoeffghdaaPk157
import Derived.Test.YtnkkigoeffghdaaPk1512
/- The exact law of Vars. Written by tools/mkex.py. -/
namespace Go.Proofs.Ytnkkigoeffghdaa.Lx80
open Go.RowKit
open Nd0 Nd1 Nd2 Nd3 Nd4 Nd5 Nd6 Tm0 Tm3 Aq0 Ap0
open Am2 (sVars)
open Pb1 (iVars)
open Lx4 (IPrune)
set_option linter.unusedVariables false

set_option maxRecDepth 100000 in
set_option maxHeartbeats 8000000 in
theorem exVars (hI : IPrune) (w : World) (a0 : Option Addr) (l0 : List Nd) (c0 : Nat) (hN0 : Nodes w a0 l0) :
    Calls Try.prog 4 #[.slice a0 l0.length c0] w fun e w' => e = .returned (.bool true) ∧ Below w.heap.size w w' := by
  have HN0 : Hid (Nodes w a0 l0) := hN0
  have hm0 := hN0.1
  clear hN0
  by_cases hl0s : l0.length ≤ 1048576
  rotate_left
  · skip
    go_enter Try.func4, Try.ntmps4
    go_wp2_with fail
    refine (szNodeS _ a0 l0.length c0 _ (by omega) (by omega) hm0).mono ?_
    rw [if_neg (by omega)]
    rintro e wz ⟨rfl, hz⟩
    have hz' := hz.symm
    clear hz
    subst hz'
    go_wp2
    go_ret
    exact ⟨rfl, Below.refl _ _⟩
  have hl0 : l0.length ≤ 1048576 := by omega
  have hR0 : (varsL l0).length ≤ 1048576 := Nat.le_trans (varsTo_length _ _) (by omega)
  go_enter Try.func4, Try.ntmps4
  go_wp2_with fail
  refine (szNodeS _ a0 l0.length c0 _ (by omega) (by omega) hm0).mono ?_
  rw [if_pos (by omega)]
  rintro e wz ⟨rfl, hz⟩
  have hz' := hz.symm
  clear hz
  subst hz'
  have hp0 : 0 ≤ (1048576 : Int) - (l0.length : Int) := by omega
  have HB0 : Hid (Below w.heap.size w w) := Below.refl _ _
  go_wp2_with fail
  refine (toNodeS _ a0 l0 c0 (HN0.out.below HB0.out) hl0).mono ?_
  rintro e x1 ⟨rfl, hw, hb⟩
  have HB1 : Hid (Below w.heap.size w x1) := HB0.out.trans (hb.mono HB0.out.size)
  have hs1 : w.heap.size ≤ x1.heap.size := hb.size
  have Ht0_1 : Hid (NodesIn x1 w.heap.size x1.heap.size (some ⟨w.heap.size, 0, none⟩) l0) := WNodes.within hw
  clear hw hb
  go_wp2_with fail
  refine (sVars _ _ l0 _ Ht0_1.out.nodes).mono ?_
  rintro e x2 ⟨⟨sv0, rfl, so0⟩, hb⟩
  obtain ⟨sa0, sc0, rfl, hr0⟩ := so0.form
  have HB2 : Hid (Below w.heap.size w x2) := HB1.out.trans (hb.mono HB1.out.size)
  have hs2 : x1.heap.size ≤ x2.heap.size := hb.size
  have Hs0_2 : Hid (IntsIn x2 x1.heap.size x2.heap.size sa0 (varsL l0)) := WInts.within hr0
  clear hb hr0
  go_wp2_with fail
  refine (toNodeS _ a0 l0 c0 (HN0.out.below HB2.out) hl0).mono ?_
  rintro e x3 ⟨rfl, hw, hb⟩
  have HB3 : Hid (Below w.heap.size w x3) := HB2.out.trans (hb.mono HB2.out.size)
  have hs3 : x2.heap.size ≤ x3.heap.size := hb.size
  have Hs0_3 : Hid (IntsIn x3 x1.heap.size x2.heap.size sa0 (varsL l0)) := Hs0_2.out.below hb
  have Hx0_3 : Hid (NodesIn x3 x2.heap.size x3.heap.size (some ⟨x2.heap.size, 0, none⟩) l0) := WNodes.within hw
  clear hw hb
  go_wp2_with fail
  refine (iVars hI _ _ l0 _ Hx0_3.out.nodes (Nat.le_refl _) hl0).mono ?_
  rintro e x4 ⟨⟨ga0, gc0, rfl, hr0⟩, hb⟩
  have HB4 : Hid (Below w.heap.size w x4) := HB3.out.trans (hb.mono HB3.out.size)
  have hs4 : x3.heap.size ≤ x4.heap.size := hb.size
  have Hs0_4 : Hid (IntsIn x4 x1.heap.size x2.heap.size sa0 (varsL l0)) := Hs0_3.out.below hb
  have Hx0_4 : Hid (NodesIn x4 x2.heap.size x3.heap.size (some ⟨x2.heap.size, 0, none⟩) l0) := Hx0_3.out.below hb
  have Hg0_4 : Hid (IntsIn x4 x3.heap.size x4.heap.size ga0 (varsL l0)) := WInts.within hr0
  clear hb hr0
  go_wp2_with fail
  refine (eqIntB _ _ _ (varsL l0) _ _ Hg0_4.out.ints Hs0_4.out.ints).mono ?_
  rintro e x5 ⟨rfl, hb⟩
  have HB5 : Hid (Below w.heap.size w x5) := HB4.out.trans (hb.mono HB4.out.size)
  have hs5 : x4.heap.size ≤ x5.heap.size := hb.size
  have Hs0_5 : Hid (IntsIn x5 x1.heap.size x2.heap.size sa0 (varsL l0)) := Hs0_4.out.below hb
  have Hx0_5 : Hid (NodesIn x5 x2.heap.size x3.heap.size (some ⟨x2.heap.size, 0, none⟩) l0) := Hx0_4.out.below hb
  have Hg0_5 : Hid (IntsIn x5 x3.heap.size x4.heap.size ga0 (varsL l0)) := Hg0_4.out.below hb
  clear hb
  go_wp2_with fail
  refine (toNodeS _ a0 l0 c0 (HN0.out.below HB5.out) hl0).mono ?_
  rintro e x6 ⟨rfl, hw, hb⟩
  have HB6 : Hid (Below w.heap.size w x6) := HB5.out.trans (hb.mono HB5.out.size)
  have hs6 : x5.heap.size ≤ x6.heap.size := hb.size
  have Hs0_6 : Hid (IntsIn x6 x1.heap.size x2.heap.size sa0 (varsL l0)) := Hs0_5.out.below hb
  have Hx0_6 : Hid (NodesIn x6 x2.heap.size x3.heap.size (some ⟨x2.heap.size, 0, none⟩) l0) := Hx0_5.out.below hb
  have Hg0_6 : Hid (IntsIn x6 x3.heap.size x4.heap.size ga0 (varsL l0)) := Hg0_5.out.below hb
  have Hy0_6 : Hid (NodesIn x6 x5.heap.size x6.heap.size (some ⟨x5.heap.size, 0, none⟩) l0) := WNodes.within hw
  clear hw hb
  go_wp2_with fail
  refine (eqNodeS _ _ _ l0 _ _ Hx0_6.out.nodes Hy0_6.out.nodes).mono ?_
  rintro e x7 ⟨rfl, hb⟩
  have HB7 : Hid (Below w.heap.size w x7) := HB6.out.trans (hb.mono HB6.out.size)
  have hs7 : x6.heap.size ≤ x7.heap.size := hb.size
  have Hs0_7 : Hid (IntsIn x7 x1.heap.size x2.heap.size sa0 (varsL l0)) := Hs0_6.out.below hb
  have Hx0_7 : Hid (NodesIn x7 x2.heap.size x3.heap.size (some ⟨x2.heap.size, 0, none⟩) l0) := Hx0_6.out.below hb
  have Hg0_7 : Hid (IntsIn x7 x3.heap.size x4.heap.size ga0 (varsL l0)) := Hg0_6.out.below hb
  clear hb
  go_wp2_with fail
  refine (markNodeB _ _ _ l0 _ Hx0_7.out.wnodes _ (by omega) (by omega) hl0).mono ?_
  rintro e x8 ⟨rfl, hw, hk⟩
  have HB8 : Hid (Below w.heap.size w x8) := HB7.out.trans (hk.below (fun b hb => by have := Hx0_7.out.ats hb; omega) HB7.out.size)
  have hs8 : x7.heap.size ≤ x8.heap.size := hk.size
  have Hs0_8 : Hid (IntsIn x8 x1.heap.size x2.heap.size sa0 (varsL l0)) := Hs0_7.out.kept hk (fun b h1 h2 h3 => by have := Hx0_7.out.ats h3; omega)
  have Hg0_8 : Hid (IntsIn x8 x3.heap.size x4.heap.size ga0 (varsL l0)) := Hg0_7.out.kept hk (fun b h1 h2 h3 => by have := Hx0_7.out.ats h3; omega)
  have Hx0_8 : Hid (NodesIn x8 x2.heap.size x3.heap.size (some ⟨x2.heap.size, 0, none⟩) (markN l0.length ((1 : Int)))) := Hx0_7.out.again hw (markN_length _ _)
  clear hw hk
  have hk1 : ¬ (1 : Int) + 6 * (l0.length : Int) < 0 := by omega
  go_wp2_with fail
  refine (eqIntB _ _ _ (varsL l0) _ _ Hg0_8.out.ints Hs0_8.out.ints).mono ?_
  rintro e x9 ⟨rfl, hb⟩
  have HB9 : Hid (Below w.heap.size w x9) := HB8.out.trans (hb.mono HB8.out.size)
  have hs9 : x8.heap.size ≤ x9.heap.size := hb.size
  have Hs0_9 : Hid (IntsIn x9 x1.heap.size x2.heap.size sa0 (varsL l0)) := Hs0_8.out.below hb
  have Hg0_9 : Hid (IntsIn x9 x3.heap.size x4.heap.size ga0 (varsL l0)) := Hg0_8.out.below hb
  clear hb
  go_wp2_with fail
  refine (markIntB _ _ _ (varsL l0) _ Hg0_9.out.wints _ (by omega) (by omega) hR0).mono ?_
  rintro e x10 ⟨rfl, hw, hk⟩
  have HB10 : Hid (Below w.heap.size w x10) := HB9.out.trans (hk.below (fun b hb => by have := Hg0_9.out.ats hb; omega) HB9.out.size)
  have hs10 : x9.heap.size ≤ x10.heap.size := hk.size
  have Hs0_10 : Hid (IntsIn x10 x1.heap.size x2.heap.size sa0 (varsL l0)) := Hs0_9.out.kept hk (fun b h1 h2 h3 => by have := Hg0_9.out.ats h3; omega)
  have Hg0_10 : Hid (IntsIn x10 x3.heap.size x4.heap.size ga0 (marks (varsL l0).length ((1 : Int)))) := Hg0_9.out.again hw (marks_length _ _)
  clear hw hk
  go_wp2_with fail
  refine (heldIntB _ _ (varsL l0).length _ ((1 : Int)) Hg0_10.out.ints (by omega) (by omega) hR0).mono ?_
  rintro e wz ⟨rfl, hz⟩
  have hz' := hz.symm
  clear hz
  subst hz'
  have hq0 : ¬ ((1 : Int) + ((varsL l0).length : Int)) < 0 := by omega
  go_wp2_with fail
  refine (toNodeS _ a0 l0 c0 (HN0.out.below HB10.out) hl0).mono ?_
  rintro e x11 ⟨rfl, hw, hb⟩
  have HB11 : Hid (Below w.heap.size w x11) := HB10.out.trans (hb.mono HB10.out.size)
  have hs11 : x10.heap.size ≤ x11.heap.size := hb.size
  have Hs0_11 : Hid (IntsIn x11 x1.heap.size x2.heap.size sa0 (varsL l0)) := Hs0_10.out.below hb
  have Hg0_11 : Hid (IntsIn x11 x3.heap.size x4.heap.size ga0 (marks (varsL l0).length ((1 : Int)))) := Hg0_10.out.below hb
  have Hz0_11 : Hid (NodesIn x11 x10.heap.size x11.heap.size (some ⟨x10.heap.size, 0, none⟩) l0) := WNodes.within hw
  clear hw hb
  go_wp2_with fail
  refine (iVars hI _ _ l0 _ Hz0_11.out.nodes (Nat.le_refl _) hl0).mono ?_
  rintro e x12 ⟨⟨ha0, hc0, rfl, hr0⟩, hb⟩
  have HB12 : Hid (Below w.heap.size w x12) := HB11.out.trans (hb.mono HB11.out.size)
  have hs12 : x11.heap.size ≤ x12.heap.size := hb.size
  have Hs0_12 : Hid (IntsIn x12 x1.heap.size x2.heap.size sa0 (varsL l0)) := Hs0_11.out.below hb
  have Hg0_12 : Hid (IntsIn x12 x3.heap.size x4.heap.size ga0 (marks (varsL l0).length ((1 : Int)))) := Hg0_11.out.below hb
  have Hh0_12 : Hid (IntsIn x12 x11.heap.size x12.heap.size ha0 (varsL l0)) := WInts.within hr0
  clear hb hr0
  go_wp2_with fail
  refine (eqIntB _ _ _ (varsL l0) _ _ Hh0_12.out.ints Hs0_12.out.ints).mono ?_
  rintro e x13 ⟨rfl, hb⟩
  have HB13 : Hid (Below w.heap.size w x13) := HB12.out.trans (hb.mono HB12.out.size)
  have hs13 : x12.heap.size ≤ x13.heap.size := hb.size
  have Hg0_13 : Hid (IntsIn x13 x3.heap.size x4.heap.size ga0 (marks (varsL l0).length ((1 : Int)))) := Hg0_12.out.below hb
  clear hb
  go_wp2_with fail
  refine (heldIntB _ _ (varsL l0).length _ ((1 : Int)) Hg0_13.out.ints (by omega) (by omega) hR0).mono ?_
  rintro e wz ⟨rfl, hz⟩
  have hz' := hz.symm
  clear hz
  subst hz'
  have hq1 : ¬ ((1 : Int) + ((varsL l0).length : Int)) < 0 := by omega
  go_wp2
  go_ret
  exact ⟨rfl, HB13.out⟩

end Go.Proofs.Ytnkkigoeffghdaa.Lx80

/- The walks of the model's Level and CountOp. -/
namespace Go.Proofs.Ytnkkigoeffghdaa.Am3
open Go.RowKit
open Nd0 Nd1 Tm0 Tm1 Tm3 Tm5 Tm6 Tm8 Ap0 Sp2 Sp4 Aq0
open Sp7 (sPrune)
open Rw0 (Row)
open Rw1 (row_ints)
set_option linter.unusedVariables false

theorem ows_at {w : World} {B : Nat} {v : Value} {l : List Int} (h : Ows w B v l) (hl : 1 ≤ l.length) : ∃ g c, v = .slice (some ⟨g, 0, none⟩) l.length c ∧ B ≤ g ∧ g < w.heap.size ∧ ∀ i, i < l.length → w.cell? ⟨g, i, none⟩ = some (.int .i64 (l.getD i 0)) := by
  obtain ⟨g, c, hv, h1, h2, hr⟩ := row_ints h hl
  refine ⟨g, c, hv, h1, h2, fun i hi => ?_⟩
  have h9 := (hr i hi).1
  dsimp only at h9
  unfold wd at h9
  rw [Int.toNat_natCast] at h9
  exact h9

set_option maxRecDepth 100000 in
set_option maxHeartbeats 4000000 in
theorem sLevel (w : World) (a : Option Addr) (l : List Nd) (c : Nat) (hN : Nodes w a l) :
    Calls Try.prog 18 #[.slice a l.length c] w fun e w' => e = .returned (.int .i64 (levelL l)) ∧ Below w.heap.size w w' := by
  have HN : Hid (Nodes w a l) := hN
  clear hN
  go_enter Try.func18, Try.ntmps18
  go_wp2_with fail
  refine (sTermOk _ a l c HN.out).mono ?_
  rintro e w1 ⟨rfl, hb1⟩
  have HB1 : Hid (Below w.heap.size w w1) := hb1
  have hs1 := hb1.size
  clear hb1
  cases hT : termOk l
  · have HE : Hid (levelL l = 0) := by show _ = _; unfold levelL; rw [hT]; rfl
    go_wp2
    go_ret
    rw [HE.out]
    exact ⟨rfl, HB1.out⟩
  · have HT : Hid (termOk l = true) := hT
    obtain ⟨hl1, hl2⟩ := term_len hT
    have HE : Hid (levelL l = (levTo l l.length).getD (l.length - 1) 0) := by show _ = _; unfold levelL; rw [hT]; rfl
    have HD : Hid (Down l) := down_of hT
    clear hT
    have HO0 : Hid (Ows (w1.alloc (.cells #[] 3)) w.heap.size (.slice (some ⟨w1.heap.size, 0, none⟩) 0 0) []) := Ows.lit w1 _ hs1
    have HB0 : Hid (Below w.heap.size w (w1.alloc (.cells #[] 3))) := HB1.out.alloc hs1 _
    go_wp2_with fail
    generalize w1.alloc (.cells #[] 3) = w2 at HO0 HB0 ⊢
    go_loopw [3, 4] (fun vo q wr => ∃ k : Nat, k ≤ l.length ∧ q = .int .i64 k ∧ Below w.heap.size w wr ∧ Ows wr w.heap.size vo (levTo l k)) (fun _ q _ => l.length - (intOf q).toNat)
    case atStart => exact ⟨0, Nat.zero_le _, rfl, HB0.out, HO0.out⟩
    case round =>
      clear HO0 HB0 HB1
      obtain ⟨k, hk, rfl, hb, ho⟩ := hrel
      obtain ⟨wb, rfl⟩ : ∃ wb : World, wb = wr := ⟨_, rfl⟩
      have HB : Hid (Below w.heap.size w wb) := hb
      have hbs : w.heap.size ≤ wb.heap.size := hb.size
      have HLL : Hid ((levTo l k).length = k) := wk_length _ _ _ _
      obtain ⟨av, cv, rfl, -⟩ := ho.form
      have HO : Hid (Ows wb w.heap.size (.slice av (levTo l k).length cv) (levTo l k)) := ho
      clear ho hb
      by_cases hlt : k < l.length
      · have hlz : (k : Int) < (l.length : Int) := by omega
        rcases (HN.out.below HB.out).2 with h0 | ⟨xb, xo, rfl, hc⟩
        · omega
        obtain ⟨p0, p1, p2, p3, p4, p5⟩ := hc k hlt
        rw [nth_get hlt] at p0 p1 p2 p3 p4 p5
        clear hc
        have HDK : Hid (∀ p ∈ parts (nth l k), 0 ≤ p ∧ p < (k : Int)) := HD.out k hlt
        have HSC : Hid (levTo l (k + 1) = levTo l k ++ [most ((parts (nth l k)).map fun p => (levTo l k).getD p.toNat 0) + 1]) := rfl
        have HLB : Hid (∀ i, i < k → 1 ≤ (levTo l k).getD i 0 ∧ (levTo l k).getD i 0 ≤ (k : Int)) := fun i hi => lev_at l hi
        generalize hn : nth l k = n at p0 p1 p2 p3 p4 p5 HDK HSC
        clear hn
        generalize levTo l k = L at HO HSC HLB HLL ⊢
        have hpl := parts_le n
        go_wp2_with fail
        refine (sParts n _).mono ?_
        rintro e w4 ⟨⟨pa, pc, rfl, hpi⟩, hb4⟩
        have HP : Hid (Ints w4 pa (parts n)) := hpi.ints
        have HB4 : Hid (Below w.heap.size w w4) := HB.out.trans (hb4.mono hbs)
        have HO4 : Hid (Ows w4 w.heap.size (.slice av L.length cv) L) := HO.out.kept (S := fun _ => False) (Kept.ofBelow hb4) (fun _ _ h => h)
        have hs4 : w.heap.size ≤ w4.heap.size := HB4.out.size
        clear hpi hb4 p0 p1 p2 p3 p4 p5 HO HB
        go_wp2_with fail
        go_loop [5, 7] (fun x q => ∃ j : Nat, j ≤ (parts n).length ∧ q = .int .i64 j ∧ x = .int .i64 (most (((parts n).take j).map fun p => L.getD p.toNat 0))) (fun _ q => (parts n).length - (intOf q).toNat)
        case atStart => exact ⟨0, Nat.zero_le _, rfl, rfl⟩
        case round =>
          obtain ⟨j, hj, rfl, rfl⟩ := hrel
          have hmb := most_bound (m := (k : Int)) (by omega) (((parts n).take j).map fun p => L.getD p.toNat 0) (fun x hx => by
            obtain ⟨p, hp, rfl⟩ := List.mem_map.1 hx
            have hd := HDK.out p (List.mem_of_mem_take hp)
            exact (HLB.out p.toNat (by omega)).2)
          by_cases hlj : j < (parts n).length
          · have hjz : (j : Int) < ((parts n).length : Int) := by omega
            rcases HP.out.2 with h0 | ⟨pb, po, rfl, hpc⟩
            · omega
            have q0 := hpc j hlj
            obtain ⟨hy0, hy1⟩ := HDK.out _ (List.getElem_mem hlj)
            have HTK : Hid (most (((parts n).take (j + 1)).map fun p => L.getD p.toNat 0) = mx (most (((parts n).take j).map fun p => L.getD p.toNat 0)) (L.getD ((parts n)[j]).toNat 0)) := by
              show _ = _
              rw [List.take_succ_eq_append_getElem hlj, List.map_append, List.map_singleton, most_snoc]
            clear hpc
            generalize (parts n)[j] = y at q0 hy0 hy1 HTK
            obtain ⟨jy, rfl⟩ := Int.eq_ofNat_of_zero_le hy0
            rw [Int.toNat_natCast] at HTK
            have hLB := HLB.out jy (by omega)
            obtain ⟨g, cg, hv, -, -, hcell⟩ := ows_at HO4.out (by have := HLL.out; omega)
            obtain ⟨rfl, rfl⟩ : av = some ⟨g, 0, none⟩ ∧ cv = cg := by cases hv; exact ⟨rfl, rfl⟩
            have c0 := hcell jy (by have := HLL.out; omega)
            clear hcell hv
            generalize most (((parts n).take j).map fun p => L.getD p.toNat 0) = x at hmb HTK
            generalize L.getD jy 0 = z at c0 HTK hLB
            have hjl : (jy : Int) < (L.length : Int) := by have := HLL.out; omega
            by_cases hxz : x < z
            · have hmx : mx x z = z := if_pos hxz
              rw [hmx] at HTK
              clear hmx
              go_wp2
              go_round
              case rel => exact ⟨j + 1, by omega, by go_num, by rw [HTK.out]⟩
              case measure => simp [intOf]; omega
            · have hmx : mx x z = x := if_neg hxz
              rw [hmx] at HTK
              clear hmx
              go_wp2
              go_round
              case rel => exact ⟨j + 1, by omega, by go_num, by rw [HTK.out]⟩
              case measure => simp [intOf]; omega
          · have ej : j = (parts n).length := by omega
            subst ej
            rw [List.take_length] at hmb ⊢
            generalize most ((parts n).map fun p => L.getD p.toNat 0) = x at hmb HSC
            have hLl : L.length ≤ 1048576 := by have := HLL.out; omega
            go_wp2_with (at_builtin; go_must (refine app_int _ rfl _ _ rfl w.heap.size (.slice av L.length cv) L (x + 1) rfl rfl HO4.out hs4 hLl ?_; intro g cp w5 ho5 hk5 hg5))
            have HO5 : Hid (Ows w5 w.heap.size (.slice (some ⟨g, 0, none⟩) (L.length + 1) cp) (L ++ [x + 1])) := ho5
            have HB5 : Hid (Below w.heap.size w w5) := HB4.out.trans (hk5.below (fun b hb => (HO4.out.lt b hb).1) hs4)
            clear ho5 hk5 hg5
            go_wp2
            go_roundw
            case rel => exact ⟨k + 1, by omega, by go_num, HB5.out, by rw [HSC.out]; exact HO5.out⟩
            case measure => simp [intOf]; omega
      · have e : k = l.length := by omega
        subst e
        obtain ⟨g, cg, hv, -, -, hcell⟩ := ows_at HO.out (by have := HLL.out; omega)
        obtain ⟨rfl, rfl⟩ : av = some ⟨g, 0, none⟩ ∧ cv = cg := by cases hv; exact ⟨rfl, rfl⟩
        have c0 := hcell (l.length - 1) (by have := HLL.out; omega)
        generalize hy : levelL l = y
        have HY : Hid (levelL l = y) := hy
        have hy2 : (levTo l l.length).getD (l.length - 1) 0 = y := by rw [← HE.out]; exact hy
        rw [hy2] at c0
        rw [HLL.out]
        clear hcell hv hy hy2
        have g1 : (0 : Int) ≤ (l.length : Int) - 1 := by omega
        have g2 : (l.length : Int) - 1 < (l.length : Int) := by omega
        go_wp2
        go_ret
        rw [HY.out]
        exact ⟨rfl, HB.out⟩

set_option maxRecDepth 100000 in
set_option maxHeartbeats 2000000 in
theorem sCountOp (w : World) (a : Option Addr) (l : List Nd) (c : Nat) (op : Int) (hN : Nodes w a l) :
    Calls Try.prog 16 #[.slice a l.length c, .int .i64 op] w fun e w' => e = .returned (.int .i64 (cntL l op)) ∧ Below w.heap.size w w' := by
  have HN : Hid (Nodes w a l) := hN
  have HE : Hid (cntL l op = (cntTo (pruneL l) op (pruneL l).length : Int)) := rfl
  clear hN
  go_enter Try.func16, Try.ntmps16
  go_wp2_with fail
  refine (sPrune _ a l c HN.out).mono ?_
  rintro e w1 ⟨⟨v1, rfl, ho1⟩, hb1⟩
  obtain ⟨a1, c1, rfl, hn1⟩ := ho1.form
  have HN1 : Hid (Nodes w1 a1 (pruneL l)) := hn1.nodes
  have hml := hn1.1
  have HB1 : Hid (Below w.heap.size w w1) := hb1
  unfold maxLen at hml
  clear ho1 hn1 hb1
  generalize pruneL l = p at HN1 HE hml ⊢
  go_wp2_with fail
  go_loop [5, 7] (fun x q => ∃ k : Nat, k ≤ p.length ∧ q = .int .i64 k ∧ x = .int .i64 (cntTo p op k : Int)) (fun _ q => p.length - (intOf q).toNat)
  case atStart => exact ⟨0, Nat.zero_le _, rfl, rfl⟩
  case round =>
    obtain ⟨k, hk, rfl, rfl⟩ := hrel
    have hkb := cntTo_le p op k
    by_cases hlt : k < p.length
    · have hkz : (k : Int) < (p.length : Int) := by omega
      have HNX : Hid (cntTo p op (k + 1) = cntTo p op k + if (nth p k).op == op then 1 else 0) := cntTo_succ hlt op
      rcases HN1.out.2 with h0 | ⟨xb, xo, rfl, hc⟩
      · omega
      obtain ⟨p0, -, -, -, -, -⟩ := hc k hlt
      rw [nth_get hlt] at p0
      clear hc
      generalize (nth p k).op = z at p0 HNX
      generalize cntTo p op k = x at hkb HNX
      cases hq : (z == op)
      all_goals
        rw [hq] at HNX
        go_wp2
        go_round
        case rel => exact ⟨k + 1, by omega, by go_num, by rw [HNX.out]; first | rfl | go_num⟩
        case measure => simp [intOf]; omega
    · have e : k = p.length := by omega
      subst e
      go_wp2
      go_ret
      rw [HE.out]
      exact ⟨rfl, HB1.out⟩

end Go.Proofs.Ytnkkigoeffghdaa.Am3

/- The program's Level and CountOp. -/
namespace Go.Proofs.Ytnkkigoeffghdaa.Pb2
open Go.RowKit
open Nd0 Nd3 Pl1 Tm0 Tm1 Tm3 Tm5 Tm7 Tm8 Tm13 Rw0 Pg1 Aq0 Aw1
open Pb1 (Nm nm_prune)
open Lx1 (ITermOk)
open Lx4 (IPrune)
open Ws1 (ret_int ret_bool)
set_option linter.unusedVariables false

theorem iOneIf (b : Bool) (w : World) :
    Calls Try.prog 49 #[.bool b] w fun e w' => e = .returned (.int .i64 (if b then 1 else 0)) ∧ w' = w := by
  cases b
  all_goals
    go_enter Try.func49, Try.ntmps49
    go_wp2
    go_ret
    exact ⟨rfl, rfl⟩

set_option maxRecDepth 100000 in
set_option maxHeartbeats 2000000 in
theorem iLev (i : Int) (n : Nd) (a : Option Addr) (c : Nat) (w : World) (ps : List Int) (hI : Ints w a ps) (h3 : ps.length ≤ 3) (hb : ∀ x ∈ ps, x ≤ 1048576) (j : Nat) :
    Calls Try.prog 52 (#[.int .i64 i, nv n, .slice a ps.length c] ++ #[]) w fun e w' => e = .returned (.int .i64 (levF j n ps)) ∧ Below w.heap.size w w' := by
  have HB0 : Hid (Below w.heap.size w (w.alloc (.cells #[.int .i64 n.op, .int .i64 n.w, .int .i64 n.k, .int .i64 n.a, .int .i64 n.b, .int .i64 n.c] 55))) := (Below.refl _ _).alloc (Nat.le_refl _) _
  have HI : Hid (Ints (w.alloc (.cells #[.int .i64 n.op, .int .i64 n.w, .int .i64 n.k, .int .i64 n.a, .int .i64 n.b, .int .i64 n.c] 55)) a ps) := hI.below HB0.out
  have HLV : Hid (levF j n ps = most ps + 1) := rfl
  have HMX : Hid (∀ x ∈ ps, x ≤ 1048576) := hb
  clear hI hb
  go_enter Try.func52, Try.ntmps52
  go_wp2_with fail
  generalize w.alloc (.cells #[.int .i64 n.op, .int .i64 n.w, .int .i64 n.k, .int .i64 n.a, .int .i64 n.b, .int .i64 n.c] 55) = w1 at HB0 HI ⊢
  go_loop [7, 12] (fun x q => ∃ m : Nat, m ≤ ps.length ∧ q = .int .i64 m ∧ x = .int .i64 (most (ps.take m))) (fun _ q => ps.length - (intOf q).toNat)
  case atStart => exact ⟨0, Nat.zero_le _, rfl, rfl⟩
  case round =>
    obtain ⟨m, hm, rfl, rfl⟩ := hrel
    have hmb := most_bound (m := 1048576) (by omega) (ps.take m) (fun x hx => HMX.out x (List.mem_of_mem_take hx))
    by_cases hlt : m < ps.length
    · have hmz : (m : Int) < (ps.length : Int) := by omega
      rcases HI.out.2 with h0 | ⟨pb, po, rfl, hpc⟩
      · omega
      have q0 := hpc m hlt
      have HTK : Hid (most (ps.take (m + 1)) = mx (most (ps.take m)) ps[m]) := by show _ = _; rw [List.take_succ_eq_append_getElem hlt, most_snoc]
      clear hpc
      generalize ps[m] = y at q0 HTK
      generalize most (ps.take m) = x at hmb HTK
      by_cases hxy : x < y
      · have hmx : mx x y = y := if_pos hxy
        rw [hmx] at HTK
        clear hmx
        go_wp2
        go_round
        case rel => exact ⟨m + 1, by omega, by go_num, by rw [HTK.out]⟩
        case measure => simp [intOf]; omega
      · have hmx : mx x y = x := if_neg hxy
        rw [hmx] at HTK
        clear hmx
        go_wp2
        go_round
        case rel => exact ⟨m + 1, by omega, by go_num, by rw [HTK.out]⟩
        case measure => simp [intOf]; omega
    · have e : m = ps.length := by omega
      subst e
      rw [List.take_length] at hmb ⊢
      go_wp2
      go_ret
      rw [HLV.out]
      exact ⟨ret_int (by first | rfl | (simp; omega) | omega), HB0.out⟩

set_option maxRecDepth 100000 in
set_option maxHeartbeats 2000000 in
theorem iLevel (hTO : ITermOk) (w : World) (a : Option Addr) (l : List Nd) (c : Nat) (hN : Nodes w a l) (hcap : l.length ≤ c) (hlen : l.length ≤ 1048576) :
    Calls Try.prog 17 #[.slice a l.length c] w fun e w' => e = .returned (.int .i64 (levelL l)) ∧ Below w.heap.size w w' := by
  have HN : Hid (Nodes w a l) := hN
  have HTO : Hid ITermOk := hTO
  have HCAP : Hid (l.length ≤ c) := hcap
  clear hcap hN hTO
  go_enter Try.func17, Try.ntmps17
  go_wp2_with fail
  refine (HTO.out _ a l c HN.out HCAP.out hlen).mono ?_
  rintro e w1 ⟨rfl, hb1⟩
  have HB1 : Hid (Below w.heap.size w w1) := hb1
  clear hb1
  cases hT : termOk l
  · have HE : Hid (levelL l = 0) := by show _ = _; unfold levelL; rw [hT]; rfl
    go_wp2
    go_ret
    rw [HE.out]
    exact ⟨rfl, HB1.out⟩
  · have HT : Hid (termOk l = true) := hT
    obtain ⟨hl1, hl2⟩ := term_len hT
    have HE : Hid (levelL l = (levTo l l.length).getD (l.length - 1) 0) := by show _ = _; unfold levelL; rw [hT]; rfl
    clear hT
    have HW : Hid (∀ W : World, Nodes W a l → Calls Try.prog 46 #[.slice a l.length c, .func (.func 52) #[] #[]] W fun e w' => (∃ a', e = .returned (.slice a' l.length l.length) ∧ WInts w' W.heap.size a' (wk 0 levF l l.length)) ∧ Below W.heap.size W w') :=
      fun W h => wInt _ _ levF W a l c h (down_of HT.out) hlen (enters_of Try.func52 (by kernel_rfl) rfl) (fun W' i a' c' hi hb hI => iLev _ _ _ _ _ _ hI (by rw [said_len]; exact parts_le _) (fun x hx => by
        obtain ⟨p, hp, rfl⟩ := List.mem_map.1 hx
        have hd := down_of HT.out i hi p hp
        have := (lev_at l (i := p.toNat) (k := i) (by omega)).2
        unfold levTo at this
        omega) _)
    go_wp2_with fail
    refine (HW.out _ (HN.out.below HB1.out)).mono ?_
    rintro e w2 ⟨⟨a2, rfl, hi2⟩, hb2⟩
    have HB2 : Hid (Below w.heap.size w w2) := HB1.out.trans (hb2.mono HB1.out.size)
    have hlw : (wk 0 levF l l.length).length = l.length := wk_length _ _ _ _
    rcases hi2.2 with h0 | ⟨b, o, rfl, _, hc⟩
    · omega
    have c0 := (hc (l.length - 1) (by omega)).1
    have HX : Hid ((wk 0 levF l l.length)[l.length - 1]'(by omega) = levelL l) := by
      show _ = _
      rw [HE.out, List.getD_eq_getElem?_getD, List.getElem?_eq_getElem (by unfold levTo; omega)]
      rfl
    rw [HX.out] at c0
    clear hi2 hb2 hc HX HE HW hlw
    generalize hy : levelL l = y at c0
    have HY : Hid (levelL l = y) := hy
    clear hy
    have g1 : (0 : Int) ≤ (l.length : Int) - 1 := by omega
    have g2 : (l.length : Int) - 1 < (l.length : Int) := by omega
    go_wp2
    go_ret
    rw [HY.out]
    exact ⟨rfl, HB2.out⟩

/-- 1 where a node has the operator. -/
def opF (op : Int) (_ : Nat) (n : Nd) (_ : List Int) : Int := if n.op == op then 1 else 0
set_option maxRecDepth 100000 in
set_option maxHeartbeats 2000000 in
theorem iCnt (i : Int) (n : Nd) (a : Option Addr) (m c : Nat) (w : World) (b : Nat) (op : Int) (hb : w.cell? ⟨b, 0, none⟩ = some (.int .i64 op)) (j : Nat) (ps : List Int) :
    Calls Try.prog 48 (#[.int .i64 i, nv n, .slice a m c] ++ #[.pointer (some ⟨b, 0, none⟩)]) w fun e w' => e = .returned (.int .i64 (opF op j n ps)) ∧ Below w.heap.size w w' := by
  have hlt : b < w.heap.size := lt_of_cell (p := ⟨b, 0, none⟩) hb
  have hne : ¬ w.heap.size = b := by omega
  have HR : Hid (opF op j n ps = if n.op == op then 1 else 0) := rfl
  cases hq : (n.op == op)
  all_goals
    rw [hq] at HR
    go_enter Try.func48, Try.ntmps48
    go_wp2_with (go_at_call 49; refine (iOneIf _ _).mono ?_; rintro e w' ⟨rfl, rfl⟩)
    go_ret
    rw [HR.out]
    exact ⟨rfl, (Below.refl _ _).alloc (Nat.le_refl _) _⟩

/-- How many of the first k have it. -/
theorem cnt_int (l : List Nd) (op : Int) {k : Nat} (h : k < l.length) : ((cntTo l op (k + 1) : Nat) : Int) = (cntTo l op k : Int) + (wk 0 (opF op) l l.length).getD k 0 := by
  rw [cntTo_succ h, wk_old 0 (opF op) l (k := k + 1) (by omega) (by omega), wk_new]
  unfold opF
  split <;> simp
set_option maxRecDepth 100000 in
set_option maxHeartbeats 2000000 in
theorem iCountOp (hP : IPrune) (w : World) (a : Option Addr) (l : List Nd) (c : Nat) (op : Int) (hN : Nodes w a l) (hcap : l.length ≤ c) (hlen : l.length ≤ 1048576) :
    Calls Try.prog 15 #[.slice a l.length c, .int .i64 op] w fun e w' => e = .returned (.int .i64 (cntL l op)) ∧ Below w.heap.size w w' := by
  have HN : Hid (Nodes w a l) := hN
  have HP : Hid IPrune := hP
  have HCAP : Hid (l.length ≤ c) := hcap
  have HB0 : Hid (Below w.heap.size w (w.alloc (.cells #[.int .i64 op] 3))) := (Below.refl _ _).alloc (Nat.le_refl _) _
  have HC0 : Hid ((w.alloc (.cells #[.int .i64 op] 3)).cell? ⟨w.heap.size, 0, none⟩ = some (.int .i64 op)) := by show _ = _; simp
  clear hcap hN hP
  go_enter Try.func15, Try.ntmps15
  go_wp2_with fail
  refine (HP.out _ a l c (HN.out.below HB0.out) HCAP.out hlen).mono ?_
  rintro e w1 ⟨⟨a1, c1, rfl, hn1, _⟩, hb1⟩
  have HN1 : Hid (Nodes w1 a1 (pruneL l)) := hn1.nodes
  have HB1 : Hid (Below w.heap.size w w1) := HB0.out.trans (hb1.mono HB0.out.size)
  have HC1 : Hid (w1.cell? ⟨w.heap.size, 0, none⟩ = some (.int .i64 op)) := (hb1.cell (p := ⟨w.heap.size, 0, none⟩) (lt_of_cell HC0.out)).trans HC0.out
  have hpl := pruneL_le l
  have HM : Hid (Nm (pruneL l)) := nm_prune l
  have HE : Hid (cntL l op = (cntTo (pruneL l) op (pruneL l).length : Int)) := rfl
  clear hn1 hb1 HC0
  generalize pruneL l = p at HN1 hpl HM HE ⊢
  have HW : Hid (Calls Try.prog 46 #[.slice a1 p.length c1, .func (.func 48) #[] #[.pointer (some ⟨w.heap.size, 0, none⟩)]] w1 fun e w' => (∃ a', e = .returned (.slice a' p.length p.length) ∧ WInts w' w1.heap.size a' (wk 0 (opF op) p p.length)) ∧ Below w1.heap.size w1 w') :=
    wInt _ _ (opF op) w1 a1 p c1 HN1.out HM.out.1 (by omega) (enters_of Try.func48 (by kernel_rfl) rfl) (fun W' i a' c' hi hb hI => iCnt _ _ _ _ _ _ _ _ ((hb.cell (p := ⟨w.heap.size, 0, none⟩) (lt_of_cell HC1.out)).trans HC1.out) _ _)
  go_wp2_with fail
  refine (HW.out).mono ?_
  rintro e w2 ⟨⟨a2, rfl, hi2⟩, hb2⟩
  have HB2 : Hid (Below w.heap.size w w2) := HB1.out.trans (hb2.mono HB1.out.size)
  have HI2 : Hid (Ints w2 a2 (wk 0 (opF op) p p.length)) := hi2.ints
  clear hi2 hb2 HW
  go_wp2_with fail
  go_loop [5, 13] (fun x q => ∃ k : Nat, k ≤ p.length ∧ q = .int .i64 k ∧ x = .int .i64 (cntTo p op k : Int)) (fun _ q => p.length - (intOf q).toNat)
  case atStart => exact ⟨0, Nat.zero_le _, rfl, rfl⟩
  case round =>
    obtain ⟨k, hk, rfl, rfl⟩ := hrel
    have hkb := cntTo_le p op k
    by_cases hlt : k < p.length
    · have hkz : (k : Int) < (p.length : Int) := by omega
      have HNX : Hid (((cntTo p op (k + 1) : Nat) : Int) = (cntTo p op k : Int) + (wk 0 (opF op) p p.length).getD k 0) := cnt_int p op hlt
      have hlw : k < (wk 0 (opF op) p p.length).length := by rw [wk_length]; exact hlt
      rcases HI2.out.2 with h0 | ⟨pb, po, rfl, hpc⟩
      · rw [wk_length] at h0; omega
      have q0 := hpc k hlw
      rw [show (wk 0 (opF op) p p.length)[k] = (wk 0 (opF op) p p.length).getD k 0 by rw [List.getD_eq_getElem?_getD, List.getElem?_eq_getElem hlw]; rfl] at q0
      have hx01 : 0 ≤ (wk 0 (opF op) p p.length).getD k 0 ∧ (wk 0 (opF op) p p.length).getD k 0 ≤ 1 := by
        rw [wk_old 0 (opF op) p (k := k + 1) (by omega) (by omega), wk_new]
        unfold opF
        split <;> omega
      clear hpc hlw
      generalize (wk 0 (opF op) p p.length).getD k 0 = y at q0 HNX hx01
      generalize cntTo p op k = x at hkb HNX
      go_wp2
      go_round
      case rel => exact ⟨k + 1, by omega, by go_num, by rw [HNX.out]⟩
      case measure => simp [intOf]; omega
    · have e : k = p.length := by omega
      subst e
      go_wp2
      go_ret
      rw [HE.out]
      exact ⟨rfl, HB2.out⟩

end Go.Proofs.Ytnkkigoeffghdaa.Pb2
