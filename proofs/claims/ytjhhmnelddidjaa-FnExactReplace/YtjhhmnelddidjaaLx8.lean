/- The walk of the exact law of Replace, out of a contract of the program's Replace. -/
import Derived.Test.YtjhhmnelddidjaaSv2
import Derived.Test.YtjhhmnelddidjaaIc4
import Derived.Test.YtjhhmnelddidjaaPkB
namespace Go.Proofs.Ytjhhmnelddidjaa.Lx8
open Go.RowKit
open Nd0 Nd1 Nd2 Nd3 Nd4 Nd5 Tm0 Tm1 Tm2 Tm3 Ap2
open Sv2 (sReplace)
open Vl1 Vl4 Ic4
set_option linter.unusedVariables false

theorem keep {B : Nat} {u v w : World} (h : Below B u v) (k : Below v.heap.size v w) (hB : B ≤ v.heap.size) : Below B u w := h.trans (k.mono hB)

set_option maxRecDepth 100000 in
set_option maxHeartbeats 4000000 in
theorem exReplace (hI : IReplace) (w : World) (a : Option Addr) (l : List Nd) (c : Nat) (v k : Int) (hN : Nodes w a l) :
    Calls Try.prog 4 #[.slice a l.length c, .int .i64 v, .int .i64 k] w fun e w' => e = .returned (.bool true) ∧ Below w.heap.size w w' := by
  have HN : Hid (Nodes w a l) := hN
  have hm := hN.1
  clear hN
  by_cases hl : l.length ≤ 1048576
  · have hR : (replO l v k).length ≤ 1048576 := Nat.le_trans (replO_le l v k) hl
    go_enter Try.func4, Try.ntmps4
    go_wp2_with fail
    refine (szNodeS _ a l.length c _ (by omega) (by omega) hm).mono ?_
    rw [if_pos (by omega)]
    rintro e w1 ⟨rfl, rfl⟩
    have hp : 0 ≤ (1048576 : Int) - (l.length : Int) := by omega
    go_wp2_with fail
    refine (toNodeS _ a l c HN.out hl).mono ?_
    rintro e w2 ⟨rfl, hw2, hb2⟩
    have HW2 : Hid (WNodes w2 w1.heap.size (some ⟨w1.heap.size, 0, none⟩) l) := hw2
    have HB2 : Hid (Below w1.heap.size w1 w2) := hb2
    clear hw2 hb2
    go_wp2_with fail
    refine (sReplace _ _ l _ v k HW2.out.nodes).mono ?_
    rintro e w3 ⟨⟨v3, rfl, ho3⟩, hb3⟩
    obtain ⟨a3, c3, rfl, hi3⟩ := ho3.form
    have HI3 : Hid (NodesIn w3 w2.heap.size w3.heap.size a3 (replO l v k)) := WNodes.within hi3
    have HB3 : Hid (Below w1.heap.size w1 w3) := keep HB2.out hb3 HB2.out.size
    have hs23 : w2.heap.size ≤ w3.heap.size := hb3.size
    clear ho3 hi3 hb3
    go_wp2_with fail
    refine (toNodeS _ a l c (HN.out.below HB3.out) hl).mono ?_
    rintro e w4 ⟨rfl, hw4, hb4⟩
    have HX4 : Hid (NodesIn w4 w3.heap.size w4.heap.size (some ⟨w3.heap.size, 0, none⟩) l) := WNodes.within hw4
    have HI4 : Hid (NodesIn w4 w2.heap.size w3.heap.size a3 (replO l v k)) := HI3.out.below hb4
    have HB4 : Hid (Below w1.heap.size w1 w4) := keep HB3.out hb4 HB3.out.size
    have hs34 : w3.heap.size ≤ w4.heap.size := hb4.size
    clear hw4 hb4
    go_wp2_with fail
    refine (hI _ _ l _ v k HX4.out.nodes (Nat.le_refl _) hl).mono ?_
    rintro e w5 ⟨⟨a5, c5, rfl, hi5, _⟩, hb5⟩
    have HI5 : Hid (NodesIn w5 w4.heap.size w5.heap.size a5 (replO l v k)) := WNodes.within hi5
    have HJ5 : Hid (NodesIn w5 w2.heap.size w3.heap.size a3 (replO l v k)) := HI4.out.below hb5
    have HX5 : Hid (NodesIn w5 w3.heap.size w4.heap.size (some ⟨w3.heap.size, 0, none⟩) l) := HX4.out.below hb5
    have HB5 : Hid (Below w1.heap.size w1 w5) := keep HB4.out hb5 HB4.out.size
    have hs45 : w4.heap.size ≤ w5.heap.size := hb5.size
    clear hi5 hb5
    go_wp2_with fail
    refine (eqNodeS _ _ _ (replO l v k) _ _ HI5.out.nodes HJ5.out.nodes).mono ?_
    rintro e w6 ⟨rfl, hb6⟩
    have HI6 : Hid (NodesIn w6 w4.heap.size w5.heap.size a5 (replO l v k)) := HI5.out.below hb6
    have HJ6 : Hid (NodesIn w6 w2.heap.size w3.heap.size a3 (replO l v k)) := HJ5.out.below hb6
    have HX6 : Hid (NodesIn w6 w3.heap.size w4.heap.size (some ⟨w3.heap.size, 0, none⟩) l) := HX5.out.below hb6
    have HB6 : Hid (Below w1.heap.size w1 w6) := keep HB5.out hb6 HB5.out.size
    clear hb6
    go_wp2_with fail
    refine (toNodeS _ a l c (HN.out.below HB6.out) hl).mono ?_
    rintro e w7 ⟨rfl, hw7, hb7⟩
    have HV7 : Hid (Nodes w7 (some ⟨w6.heap.size, 0, none⟩) l) := hw7.nodes
    have HI7 : Hid (NodesIn w7 w4.heap.size w5.heap.size a5 (replO l v k)) := HI6.out.below hb7
    have HJ7 : Hid (NodesIn w7 w2.heap.size w3.heap.size a3 (replO l v k)) := HJ6.out.below hb7
    have HX7 : Hid (NodesIn w7 w3.heap.size w4.heap.size (some ⟨w3.heap.size, 0, none⟩) l) := HX6.out.below hb7
    have HB7 : Hid (Below w1.heap.size w1 w7) := keep HB6.out hb7 HB6.out.size
    clear hw7 hb7
    go_wp2_with fail
    refine (eqNodeS _ _ _ l _ _ HX7.out.nodes HV7.out).mono ?_
    rintro e w8 ⟨rfl, hb8⟩
    have HI8 : Hid (NodesIn w8 w4.heap.size w5.heap.size a5 (replO l v k)) := HI7.out.below hb8
    have HJ8 : Hid (NodesIn w8 w2.heap.size w3.heap.size a3 (replO l v k)) := HJ7.out.below hb8
    have HX8 : Hid (NodesIn w8 w3.heap.size w4.heap.size (some ⟨w3.heap.size, 0, none⟩) l) := HX7.out.below hb8
    have HB8 : Hid (Below w1.heap.size w1 w8) := keep HB7.out hb8 HB7.out.size
    clear hb8
    go_wp2_with fail
    refine (markNodeS _ _ _ l _ HX8.out.wnodes _ (by omega) (by omega) hl).mono ?_
    rintro e w9 ⟨rfl, hw9, hk9⟩
    have HI9 : Hid (NodesIn w9 w4.heap.size w5.heap.size a5 (replO l v k)) := HI8.out.kept hk9 (fun b h1 h2 h3 => by have := HX8.out.ats h3; omega)
    have HJ9 : Hid (NodesIn w9 w2.heap.size w3.heap.size a3 (replO l v k)) := HJ8.out.kept hk9 (fun b h1 h2 h3 => by have := HX8.out.ats h3; omega)
    have HB9 : Hid (Below w1.heap.size w1 w9) := HB8.out.trans (hk9.below (fun b hb => by have := HX8.out.ats hb; have := HB3.out.size; omega) HB8.out.size)
    clear hw9 hk9
    have hk1 : ¬ (1 : Int) + 6 * (l.length : Int) < 0 := by omega
    go_wp2_with fail
    refine (eqNodeS _ _ _ (replO l v k) _ _ HI9.out.nodes HJ9.out.nodes).mono ?_
    rintro e wx ⟨rfl, hbx⟩
    have HIx : Hid (NodesIn wx w4.heap.size w5.heap.size a5 (replO l v k)) := HI9.out.below hbx
    have HJx : Hid (NodesIn wx w2.heap.size w3.heap.size a3 (replO l v k)) := HJ9.out.below hbx
    have HBx : Hid (Below w1.heap.size w1 wx) := keep HB9.out hbx HB9.out.size
    clear hbx
    go_wp2_with fail
    refine (markNodeS _ _ _ (replO l v k) _ HIx.out.wnodes _ (by omega) (by omega) hR).mono ?_
    rintro e wy ⟨rfl, hiy, hky⟩
    have HIy : Hid (NodesIn wy w4.heap.size w5.heap.size a5 (markN (replO l v k).length 1)) := HIx.out.again hiy (markN_length _ _)
    have HJy : Hid (NodesIn wy w2.heap.size w3.heap.size a3 (replO l v k)) := HJx.out.kept hky (fun b h1 h2 h3 => by have := HIx.out.ats h3; omega)
    have HBy : Hid (Below w1.heap.size w1 wy) := HBx.out.trans (hky.below (fun b hb => by have := HIx.out.ats hb; have := HB4.out.size; omega) HBx.out.size)
    clear hiy hky
    go_wp2_with fail
    refine (heldNodeS _ _ (replO l v k).length _ 1 HIy.out.nodes (by omega) (by omega) hR).mono ?_
    rintro e wz ⟨rfl, rfl⟩
    have hk2 : ¬ (1 : Int) + 6 * ((replO l v k).length : Int) < 0 := by omega
    go_wp2_with fail
    refine (toNodeS _ a l c (HN.out.below HBy.out) hl).mono ?_
    rintro e va ⟨rfl, hwa, hba⟩
    have HWa : Hid (Nodes va (some ⟨wz.heap.size, 0, none⟩) l) := hwa.nodes
    have HIa : Hid (NodesIn va w4.heap.size w5.heap.size a5 (markN (replO l v k).length 1)) := HIy.out.below hba
    have HJa : Hid (NodesIn va w2.heap.size w3.heap.size a3 (replO l v k)) := HJy.out.below hba
    have HBa : Hid (Below w1.heap.size w1 va) := keep HBy.out hba HBy.out.size
    clear hwa hba
    go_wp2_with fail
    refine (hI _ _ l _ v k HWa.out (Nat.le_refl _) hl).mono ?_
    rintro e vb ⟨⟨ab, cb, rfl, hib, _⟩, hbb⟩
    have HHb : Hid (Nodes vb ab (replO l v k)) := hib.nodes
    have HIb : Hid (NodesIn vb w4.heap.size w5.heap.size a5 (markN (replO l v k).length 1)) := HIa.out.below hbb
    have HJb : Hid (NodesIn vb w2.heap.size w3.heap.size a3 (replO l v k)) := HJa.out.below hbb
    have HBb : Hid (Below w1.heap.size w1 vb) := keep HBa.out hbb HBa.out.size
    clear hib hbb
    go_wp2_with fail
    refine (eqNodeS _ _ _ (replO l v k) _ _ HHb.out HJb.out.nodes).mono ?_
    rintro e vc ⟨rfl, hbc⟩
    have HIc : Hid (NodesIn vc w4.heap.size w5.heap.size a5 (markN (replO l v k).length 1)) := HIb.out.below hbc
    have HBc : Hid (Below w1.heap.size w1 vc) := keep HBb.out hbc HBb.out.size
    clear hbc
    go_wp2_with fail
    refine (heldNodeS _ _ (replO l v k).length _ 1 HIc.out.nodes (by omega) (by omega) hR).mono ?_
    rintro e vd ⟨rfl, rfl⟩
    go_wp2
    go_ret
    exact ⟨rfl, HBc.out⟩
  · go_enter Try.func4, Try.ntmps4
    go_wp2_with fail
    refine (szNodeS _ a l.length c _ (by omega) (by omega) hm).mono ?_
    rw [if_neg (by omega)]
    rintro e w1 ⟨rfl, rfl⟩
    go_wp2
    go_ret
    exact ⟨rfl, Below.refl _ _⟩

end Go.Proofs.Ytjhhmnelddidjaa.Lx8
