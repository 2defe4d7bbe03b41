/- The model's l07Vals: the values of the nodes. -/
import Derived.Deep.RegionLaw
import Derived.Test.YtnpfegfjejfaaaaGs2
import Derived.Test.YtnpfegfjejfaaaaWv0
import Derived.Test.YtnpfegfjejfaaaaWv2
namespace Go.Proofs.Ytnpfegfjejfaaaa.Gs6
open Go.RowKit
open Nd0 Qb0 Gr0 Gr1 Gs1 Gs2 Wv0 Wv2
open Ta1 (bxor62 band62)
set_option linter.unusedVariables false

/-- The values of the nodes as numbers. -/
def vB (I : Nat → Bool) (n : Nat) (l : List An) (m : Nat) : List Nat := (vl I n l m).map Bool.toNat
theorem vB_len (I : Nat → Bool) (n : Nat) (l : List An) (m : Nat) : (vB I n l m).length = n + 1 + m := by simp [vB, vl_len]
theorem vB_get (I : Nat → Bool) (n : Nat) (l : List An) (m j : Nat) (h : j < (vB I n l m).length) : (vB I n l m)[j] = ((vl I n l m).getD j false).toNat := by
  have h' : j < (vl I n l m).length := by rw [vB, List.length_map] at h; exact h
  simp [vB, List.getD, h']
theorem vB_zero (I : Nat → Bool) (n : Nat) (l : List An) : vB I n l 0 = [0] ++ (List.range n).map fun i => (I i).toNat := by simp [vB, vl]
theorem vB_next (I : Nat → Bool) (n : Nat) (l : List An) (m : Nat) : vB I n l (m + 1) = vB I n l m ++ [(wv (vl I n l m) (nth l m).a).toNat &&& (wv (vl I n l m) (nth l m).b).toNat] := by
  unfold vB
  rw [vl, List.map_append, List.map_singleton]
  congr 2
  cases wv (vl I n l m) (nth l m).a <;> cases wv (vl I n l m) (nth l m).b <;> rfl
/-- A wire's value, worked out. -/
theorem xor_wv (vs : List Bool) (w : Int) (h : 0 ≤ w) : bits .xor .i64 (((vs.getD (w / 2).toNat false).toNat : Nat) : Int) (w % 2) = (((wv vs w).toNat : Nat) : Int) := by
  unfold wv
  rcases (by omega : w % 2 = 0 ∨ w % 2 = 1) with e | e
  · rw [e, decide_eq_false (by omega), Bool.xor_false]
    have := bxor62 (m := (vs.getD (w / 2).toNat false).toNat) (n := 0) (by cases vs.getD (w / 2).toNat false <;> decide) (by decide)
    simpa using this
  · rw [e, decide_eq_true rfl]
    have := bxor62 (m := (vs.getD (w / 2).toNat false).toNat) (n := 1) (by cases vs.getD (w / 2).toNat false <;> decide) (by decide)
    rw [show ((1 : Nat) : Int) = 1 from rfl] at this
    rw [this]
    cases vs.getD (w / 2).toNat false <;> rfl
theorem and_wv (x y : Bool) : bits .and .i64 ((x.toNat : Nat) : Int) ((y.toNat : Nat) : Int) = ((x.toNat &&& y.toNat : Nat) : Int) := band62 (by cases x <;> decide) (by cases y <;> decide)

set_option maxRecDepth 100000 in
set_option maxHeartbeats 8000000 in
theorem sVals (w : World) (n : Nat) (a : Option Addr) (c : Nat) (l : List An) (h : Ans w a l) (hn : n ≤ 12) (hl : l.length ≤ 3000) (hok : okL (n : Int) l = true) (I : Nat → Bool) (gx ox cx : Nat) (hI : Is w gx ox ((List.range n).map fun i => (I i).toNat)) :
    Calls Try.prog 84 #[.agg #[.int .i64 (n : Int), .slice a l.length c], .slice (some ⟨gx, ox, none⟩) n cx] w fun e w' => (∃ g cp, e = .returned (.slice (some ⟨g, 0, none⟩) (vB I n l l.length).length cp) ∧ OwI w' w.heap.size (.slice (some ⟨g, 0, none⟩) (vB I n l l.length).length cp) (vB I n l l.length)) ∧ Below w.heap.size w w' := by
  have HOK : Hid (okL (n : Int) l = true) := hok
  obtain ⟨W, hW⟩ : ∃ W, W = w.alloc (.cells #[.int .i64 (n : Int), .slice a l.length c] 29) := ⟨_, rfl⟩
  have HB : Hid (Below w.heap.size w W) := by rw [hW]; exact (Below.refl _ _).alloc (Nat.le_refl _) _
  obtain ⟨bg, hbg⟩ : ∃ bg, bg = w.heap.size := ⟨_, rfl⟩
  have C1 : Hid (W.cell? ⟨bg, 1, none⟩ = some (.slice a l.length c)) := by show _ = _; rw [hW, hbg, World.cell?_alloc_new]; rfl
  have hWs : bg < W.heap.size := by rw [hW, hbg]; simp
  have HA : Hid (Ans W a l) := h.below HB.out
  have HIW : Hid (Is W gx ox ((List.range n).map fun i => (I i).toNat)) := hI.kept (S := fun _ => False) (Kept.ofBelow HB.out) (fun e => e)
  have HW : Hid (W = w.alloc (.cells #[.int .i64 (n : Int), .slice a l.length c] 29)) := hW
  have HBG : Hid (bg = w.heap.size) := hbg
  clear hW hbg h hI hok
  go_enter Try.func84, Try.ntmps84
  go_upto_region 1 with fail
  rw [← HW.out, ← HBG.out]
  have HLY : Hid (((List.range n).map fun i => (I i).toNat).length = n) := by show _ = _; simp
  have HYS : Hid ([0] ++ ((List.range n).map fun i => (I i).toNat) = vB I n l 0) := (vB_zero I n l).symm
  generalize ((List.range n).map fun i => (I i).toNat) = ys at *
  obtain ⟨L0, hL0⟩ : ∃ L0, L0 = vB I n l 0 := ⟨_, rfl⟩
  have HL0 : Hid (L0 = vB I n l 0) := hL0
  have HLL : Hid ([0] ++ ys = L0) := by show _ = _; rw [HYS.out, hL0]
  have hlen1 : [0].length + ys.length ≤ 1048577 := by rw [HLY.out]; simp; omega
  clear hL0
  have HO1 : Hid (OwI (W.alloc (.cells #[.int .i64 0] 3)) W.heap.size (.slice (some ⟨W.heap.size, 0, none⟩) 1 1) [0]) := OwI.one W W.heap.size 0 (Nat.le_refl _)
  have HI1 : Hid (Is (W.alloc (.cells #[.int .i64 0] 3)) gx ox ys) := HIW.out.kept (S := fun _ => False) ((Kept.refl _ _).alloc _) (fun e => e)
  have hB1 : W.heap.size ≤ (W.alloc (.cells #[.int .i64 0] 3)).heap.size := by simp
  go_upto_region 3 with (at_builtin; refine app_is _ (by rfl) _ _ (by rfl) W.heap.size W.heap.size 1 gx ox cx [0] ys (by rfl) (by rw [HLY.out]; rfl) HO1.out HI1.out hB1 hlen1 L0 HLL.out ?_; intro g3 cp3 w3 ho3 hk3 hg3; have HO3 : Hid (OwI w3 W.heap.size (.slice (some ⟨g3, 0, none⟩) L0.length cp3) L0) := ho3; have HB3 : Hid (Below W.heap.size W w3) := ((Below.refl _ W).alloc (Nat.le_refl _) _).trans (hk3.below (fun k e => by omega) hB1); clear ho3 hk3 hg3)
  go_loopw [5, 6] (fun v i wr => ∃ (k : Nat) (L : List Nat) (g cap : Nat), k ≤ l.length ∧ i = .int .i64 k ∧ v = .slice (some ⟨g, 0, none⟩) L.length cap ∧ L = vB I n l k ∧ OwI wr W.heap.size (.slice (some ⟨g, 0, none⟩) L.length cap) L ∧ Below W.heap.size W wr) (fun _ i _ => l.length - (intOf i).toNat)
  case atStart => exact ⟨0, L0, g3, cp3, Nat.zero_le _, rfl, rfl, HL0.out, HO3.out, HB3.out⟩
  case round =>
    obtain ⟨k, L, g4, cap4, hk, rfl, rfl, hL, hO, hbw⟩ := hrel
    have HL : Hid (L = vB I n l k) := hL
    have HO : Hid (OwI wr W.heap.size (.slice (some ⟨g4, 0, none⟩) L.length cap4) L) := hO
    have HBW : Hid (Below W.heap.size W wr) := hbw
    have c1 : wr.cell? ⟨bg, 1, none⟩ = some (.slice a l.length c) := by rw [hbw.cell hWs]; exact C1.out
    clear hL hO hbw
    by_cases hlt : k < l.length
    · have hlz : (k : Int) < (l.length : Int) := by omega
      rcases (HA.out.below HBW.out).2 with e | ⟨xb, xo, rfl, hc⟩
      · omega
      obtain ⟨p0, p1⟩ := hc k hlt
      rw [nth_get hlt] at p0 p1
      clear hc
      obtain ⟨f1, f2, f3⟩ := ok_facts HOK.out hlt
      obtain ⟨xx, hxx⟩ : ∃ xx, xx = nth l k := ⟨_, rfl⟩
      have HXX : Hid (xx = nth l k) := hxx
      rw [← hxx] at p0 p1 f1 f2 f3
      clear hxx
      obtain ⟨xa, xv⟩ := xx
      simp only at p0 p1 f1 f2 f3
      go_wp2
      go_quiet (fail)
      obtain ⟨W5, hW5⟩ : ∃ W5, W5 = wr.drewN nq := ⟨_, rfl⟩
      have HO5 : Hid (OwI W5 W.heap.size (.slice (some ⟨g4, 0, none⟩) L.length cap4) L) := by rw [hW5]; exact HO.out.kept (S := fun _ => False) ((Kept.refl _ _).drewN _) (fun _ _ e => e)
      have HB5 : Hid (Below W.heap.size W W5) := by rw [hW5]; exact ⟨HBW.out.os, HBW.out.tape, HBW.out.output, HBW.out.size, HBW.out.block⟩
      rw [← hW5]
      clear hW5 p0 p1 c1
      obtain ⟨vs, hvs⟩ : ∃ vs, vs = vl I n l k := ⟨_, rfl⟩
      have hlen := vB_len I n l k
      rw [← HL.out] at hlen
      have ca := HO5.out.cell (xa / 2).toNat (by rw [hlen]; omega)
      have cb := HO5.out.cell (xv / 2).toNat (by rw [hlen]; omega)
      have HG : Hid (∀ j (h : j < L.length), L[j] = (vs.getD j false).toNat) := fun j h => by
        have e := HL.out
        subst e
        rw [vB_get, hvs]
      rw [HG.out] at ca cb
      have ta : xa.tdiv 2 = (((xa / 2).toNat : Nat) : Int) := by rw [Int.tdiv_eq_ediv_of_nonneg (by omega)]; omega
      have tb : xv.tdiv 2 = (((xv / 2).toNat : Nat) : Int) := by rw [Int.tdiv_eq_ediv_of_nonneg (by omega)]; omega
      have ta' : xa / 2 = (((xa / 2).toNat : Nat) : Int) := by omega
      have tb' : xv / 2 = (((xv / 2).toNat : Nat) : Int) := by omega
      have ma : xa.tmod 2 = xa % 2 := Int.tmod_eq_emod_of_nonneg (by omega)
      have mb : xv.tmod 2 = xv % 2 := Int.tmod_eq_emod_of_nonneg (by omega)
      have xr := xor_wv vs xa (by omega)
      have xr2 := xor_wv vs xv (by omega)
      have an := and_wv (wv vs xa) (wv vs xv)
      obtain ⟨L6, hL6⟩ : ∃ L6, L6 = vB I n l (k + 1) := ⟨_, rfl⟩
      have HL6 : Hid (L6 = vB I n l (k + 1)) := hL6
      have HLA : Hid (L ++ [(wv vs xa).toNat &&& (wv vs xv).toNat] = L6) := by
        show _ = _
        rw [hL6, vB_next, ← HXX.out, hvs, HL.out]
      have la : (((xa / 2).toNat : Nat) : Int) < (L.length : Int) := by rw [hlen]; omega
      have lb : (((xv / 2).toNat : Nat) : Int) < (L.length : Int) := by rw [hlen]; omega
      have HLN : Hid (L.length ≤ 1048576) := by show _ ≤ _; rw [hlen]; omega
      clear hL6 hvs HG
      generalize (xa / 2).toNat = A2 at *
      generalize (xv / 2).toNat = B2 at *
      generalize (vs.getD A2 false).toNat = va at *
      generalize (vs.getD B2 false).toNat = vb at *
      generalize (wv vs xa).toNat &&& (wv vs xv).toNat = yy at *
      generalize (wv vs xa).toNat = wa at *
      generalize (wv vs xv).toNat = wb at *
      have hxa : 0 ≤ xa ∧ xa ≤ 100000 := by omega
      have hxv : 0 ≤ xv ∧ xv ≤ 100000 := by omega
      have wA : IntKind.i64.wrap (A2 : Int) = (A2 : Int) := by rw [IntKind.wrap_i64]; omega
      have wB : IntKind.i64.wrap (B2 : Int) = (B2 : Int) := by rw [IntKind.wrap_i64]; omega
      clear hlen f1 f2 f3
      have HOA : Hid (OwI (W5.alloc (.cells #[.int .i64 (yy : Int)] 3)).drew W.heap.size (.slice (some ⟨g4, 0, none⟩) L.length cap4) L) := HO5.out.kept (S := fun _ => False) (((Kept.refl _ _).alloc _).drew) (fun _ _ e => e)
      have HBA : Hid (Below W.heap.size W (W5.alloc (.cells #[.int .i64 (yy : Int)] 3)).drew) := (HB5.out.alloc HB5.out.size _).drew
      go_wp2
      go_region_law ((refine step_i _ (by rfl) _ _ (by rfl) W.heap.size (.slice (some ⟨g4, 0, none⟩) L.length cap4) L yy (by rfl) _ (by rfl) (by simp) HOA.out HBA.out.size HLN.out L6 HLA.out ?_; intro g6 cp6 w6 ho6 hk6 hg6; have HO6 : Hid (OwI w6 W.heap.size (.slice (some ⟨g6, 0, none⟩) L6.length cp6) L6) := ho6; have HB6 : Hid (Below W.heap.size W w6) := HBA.out.trans (hk6.below (fun k e => (HOA.out.lt k e).1) HBA.out.size); clear ho6 hk6 hg6))
      all_goals
        go_wp2
        go_roundw
        case rel => exact ⟨k + 1, L6, g6, cp6, by omega, by go_num, rfl, HL6.out, HO6.out, HB6.out⟩
        case measure => simp [intOf]; omega
    · have e : k = l.length := by omega
      subst e
      have e := HL.out
      subst e
      go_wp2
      go_ret
      refine ⟨⟨g4, cap4, rfl, ?_⟩, HB.out.trans (HBW.out.mono HB.out.size)⟩
      have h2 := HO.out
      refine ⟨h2.1, ?_⟩
      rcases h2.2 with e | ⟨g, cap, cur, q1, q2, q3⟩
      · exact .inl e
      · exact .inr ⟨g, cap, cur, q1, Nat.le_trans HB.out.size q2, q3⟩

end Go.Proofs.Ytnpfegfjejfaaaa.Gs6
