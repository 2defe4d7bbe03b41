/- The exact law of JobVerdict. Written by tools/mkjb3.py. -/
import Derived.Deep.RegionHeld3
import Derived.Deep.CutBlock
import Derived.Deep.CutRange
import Derived.Test.YtmhambifbimndaaJb1
import Derived.Test.YtmhambifbimndaaJb3
namespace Go.Proofs.Ytmhambifbimndaa.Lx71
open Go.RowKit
open Nd0 (Kept)
open Mm0 Mx0 Mx1 Mm2 Mi4 Jb0 Jb1 Jb3
set_option linter.unusedVariables false

set_option maxRecDepth 100000 in
set_option maxHeartbeats 8000000 in
theorem exJobVerdict (w : World) (st : Int) (m : Mc) (jr : ByteArray) (sy : Int) (ra va ma : Option Addr) (rc vc mc : Nat) (hR : Mr w m ra va ma) (hS : m.S.size ≤ maxLen) (hk : ∀ x ∈ m.memo, x.k.size ≤ maxLen) (hJ : jr.size ≤ maxLen) :
    Calls Try.prog 4 #[jval st m jr sy ra va ma rc vc mc] w fun e w' => e = .returned (.bool true) ∧ Below w.heap.size w w' := by
  have HR : Hid (Mr w m ra va ma) := hR
  have HK : Hid (∀ x ∈ m.memo, x.k.size ≤ maxLen) := hk
  have HSM : Hid (m.S.size ≤ maxLen) := hS
  have HJM : Hid (jr.size ≤ maxLen) := hJ
  clear hR hk hS hJ
  obtain ⟨y0, hy0⟩ : ∃ y0, y0 = w.alloc (.cells #[.int .i64 st, .slice ra m.row.length rc, .int .i64 m.N, .string m.S, .int .i64 m.room, .slice va m.vals.length vc, .int .i64 m.ret, .bool m.over, .int .i64 m.steps, .int .i64 m.looks, .int .i64 m.hits, .slice ma m.memo.length mc, .string jr, .int .i64 sy] 30) := ⟨_, rfl⟩
  have HE0 : Hid (w.alloc (.cells #[.int .i64 st, .slice ra m.row.length rc, .int .i64 m.N, .string m.S, .int .i64 m.room, .slice va m.vals.length vc, .int .i64 m.ret, .bool m.over, .int .i64 m.steps, .int .i64 m.looks, .int .i64 m.hits, .slice ma m.memo.length mc, .string jr, .int .i64 sy] 30) = y0) := hy0.symm
  have HB0 : Hid (Below w.heap.size w y0) := by rw [hy0]; exact (Below.refl _ _).alloc (Nat.le_refl _) _
  have HA0 : Hid (Jb y0 w.heap.size st m jr sy ra va ma rc vc mc) := by rw [hy0]; exact Jb.made _ _ _ _ _ _ _ _ _ _ _ _ 
  clear hy0
  go_enter Try.func4, Try.ntmps4
  go_upto_region 2 with fail
  rw [HE0.out]
  clear HE0
  obtain ⟨a0, a1, a2, a3, a4, a5, a6, a7, a8, a9, a10, a11, a12, a13⟩ := HA0.out
  go_wp2_with fail
  clear a0 a1 a2 a3 a4 a5 a6 a7 a8 a9 a10 a11 a12 a13
  refine (szJob _ st m jr sy ra va ma rc vc mc (HR.out.below HB0.out) HSM.out HK.out HJM.out).mono ?_
  rintro e y1 ⟨r, rfl, hr0, hr1, hr2, hb⟩
  have HB1 : Hid (Below w.heap.size w y1) := HB0.out.trans (hb.mono HB0.out.size)
  have HA1 : Hid (Jb y1 w.heap.size st m jr sy ra va ma rc vc mc) := HA0.out.below hb
  clear hb HA0 HB0
  by_cases hneg : r < 0
  · clear hr2
    go_wp2
    go_ret
    exact ⟨rfl, HB1.out⟩
  obtain ⟨g1, g2, g3, g4, g5⟩ := hr2 (by omega)
  have G1 : Hid (m.row.length ≤ 1048576) := g1
  have G2 : Hid (m.S.size ≤ 1048576) := g2
  have G3 : Hid (m.vals.length ≤ 1048576) := g3
  have G4 : Hid (m.memo.length ≤ 1048576) := g4
  have G5 : Hid (jr.size ≤ 1048576) := g5
  clear g1 g2 g3 g4 g5 hr2
  have hne1 : ((jverV st m jr sy).1 != (jverV st m jr sy).1) = false := by simp
  have hne2 : ((jverV st m jr sy).2 != (jverV st m jr sy).2) = false := by simp
  obtain ⟨a0, a1, a2, a3, a4, a5, a6, a7, a8, a9, a10, a11, a12, a13⟩ := HA1.out
  go_wp2_with fail
  clear a0 a1 a2 a3 a4 a5 a6 a7 a8 a9 a10 a11 a12 a13
  refine (toJob _ st m jr sy ra va ma rc vc mc (HR.out.below HB1.out) G1.out G3.out G4.out).mono ?_
  rintro e y2 ⟨s0, s4, s10, rfl, hs, _, hb⟩
  have HB2 : Hid (Below w.heap.size w y2) := HB1.out.trans (hb.mono HB1.out.size)
  have HA2 : Hid (Jb y2 w.heap.size st m jr sy ra va ma rc vc mc) := HA1.out.below hb
  have HS2 : Hid (Mr y2 m (some ⟨s0, 0, none⟩) (some ⟨s4, 0, none⟩) (some ⟨s10, 0, none⟩)) := hs
  clear hb hs HA1 HB1
  go_wp2_with fail
  refine (sJobVerdict _ st m jr sy _ _ _ _ _ _ HS2.out G2.out G5.out).mono ?_
  rintro e y3 ⟨rfl, hb⟩
  have HB3 : Hid (Below w.heap.size w y3) := HB2.out.trans (hb.mono HB2.out.size)
  have HA3 : Hid (Jb y3 w.heap.size st m jr sy ra va ma rc vc mc) := HA2.out.below hb
  clear hb HA2 HB2 HS2
  obtain ⟨a0, a1, a2, a3, a4, a5, a6, a7, a8, a9, a10, a11, a12, a13⟩ := HA3.out
  go_wp2_with fail
  clear a0 a1 a2 a3 a4 a5 a6 a7 a8 a9 a10 a11 a12 a13
  refine (toJob _ st m jr sy ra va ma rc vc mc (HR.out.below HB3.out) G1.out G3.out G4.out).mono ?_
  rintro e y4 ⟨x0, x4, x10, rfl, hs, _, hb⟩
  have HB4 : Hid (Below w.heap.size w y4) := HB3.out.trans (hb.mono HB3.out.size)
  have HA4 : Hid (Jb y4 w.heap.size st m jr sy ra va ma rc vc mc) := HA3.out.below hb
  have HX4 : Hid (Mr y4 m (some ⟨x0, 0, none⟩) (some ⟨x4, 0, none⟩) (some ⟨x10, 0, none⟩)) := hs
  clear hb hs HA3 HB3
  go_upto_region 7 with fail
  obtain ⟨y5, hy5⟩ : ∃ y, y = y4.alloc (.cells #[.int .i64 st, .slice (some ⟨x0, 0, none⟩) m.row.length m.row.length, .int .i64 m.N, .string m.S, .int .i64 m.room, .slice (some ⟨x4, 0, none⟩) m.vals.length m.vals.length, .int .i64 m.ret, .bool m.over, .int .i64 m.steps, .int .i64 m.looks, .int .i64 m.hits, .slice (some ⟨x10, 0, none⟩) m.memo.length m.memo.length, .string jr, .int .i64 sy] 38) := ⟨_, rfl⟩
  obtain ⟨qx, hqx⟩ : ∃ qx, qx = y4.heap.size := ⟨_, rfl⟩
  have HB5 : Hid (Below w.heap.size w y5) := by rw [hy5]; exact HB4.out.alloc HB4.out.size _
  have HA5 : Hid (Jb y5 w.heap.size st m jr sy ra va ma rc vc mc) := by rw [hy5]; exact HA4.out.alloc _
  have HX5 : Hid (Mr y5 m (some ⟨x0, 0, none⟩) (some ⟨x4, 0, none⟩) (some ⟨x10, 0, none⟩)) := by rw [hy5]; exact HX4.out.below ((Below.refl _ _).alloc (Nat.le_refl _) _)
  have HQ5 : Hid (Jb y5 qx st m jr sy (some ⟨x0, 0, none⟩) (some ⟨x4, 0, none⟩) (some ⟨x10, 0, none⟩) m.row.length m.vals.length m.memo.length) := by rw [hy5, hqx]; exact Jb.made _ _ _ _ _ _ _ _ _ _ _ _ 
  rw [← hy5, ← hqx]
  clear hy5 hqx HA4 HX4 HB4
  obtain ⟨c0, c1, c2, c3, c4, c5, c6, c7, c8, c9, c10, c11, c12, c13⟩ := HQ5.out
  go_wp2_with fail
  clear c0 c1 c2 c3 c4 c5 c6 c7 c8 c9 c10 c11 c12 c13
  refine (iJobVerdict _ st m jr sy _ _ _ _ _ _ HX5.out G2.out HK.out G5.out).mono ?_
  rintro e y6 ⟨rfl, hb⟩
  have HB6 : Hid (Below w.heap.size w y6) := HB5.out.trans (hb.mono HB5.out.size)
  have HA6 : Hid (Jb y6 w.heap.size st m jr sy ra va ma rc vc mc) := HA5.out.below hb
  have HX6 : Hid (Mr y6 m (some ⟨x0, 0, none⟩) (some ⟨x4, 0, none⟩) (some ⟨x10, 0, none⟩)) := HX5.out.below hb
  have HQ6 : Hid (Jb y6 qx st m jr sy (some ⟨x0, 0, none⟩) (some ⟨x4, 0, none⟩) (some ⟨x10, 0, none⟩) m.row.length m.vals.length m.memo.length) := HQ5.out.below hb
  clear hb HB5 HA5 HX5 HQ5
  obtain ⟨c0, c1, c2, c3, c4, c5, c6, c7, c8, c9, c10, c11, c12, c13⟩ := HQ6.out
  obtain ⟨a0, a1, a2, a3, a4, a5, a6, a7, a8, a9, a10, a11, a12, a13⟩ := HA6.out
  go_wp2_with fail
  clear c0 c1 c2 c3 c4 c5 c6 c7 c8 c9 c10 c11 c12 c13 a0 a1 a2 a3 a4 a5 a6 a7 a8 a9 a10 a11 a12 a13
  have dd : Below y6.heap.size y6 y6.drew := (Below.refl _ _).drew
  have HBD : Hid (Below w.heap.size w y6.drew) := HB6.out.drew
  have LX := HQ6.out.below dd
  have LA := HA6.out.below dd
  have SX0 : Hid (Mr y6.drew m (some ⟨x0, 0, none⟩) (some ⟨x4, 0, none⟩) (some ⟨x10, 0, none⟩)) := HX6.out.below dd
  clear dd
  go_region_held3 (fun w' => w'.cell? ⟨qx, 0, none⟩ = some (.int .i64 st) ∧ w'.cell? ⟨qx, 1, none⟩ = some (.slice (some ⟨x0, 0, none⟩) m.row.length m.row.length) ∧ w'.cell? ⟨qx, 2, none⟩ = some (.int .i64 m.N) ∧ w'.cell? ⟨qx, 3, none⟩ = some (.string m.S) ∧ w'.cell? ⟨qx, 4, none⟩ = some (.int .i64 m.room) ∧ w'.cell? ⟨qx, 5, none⟩ = some (.slice (some ⟨x4, 0, none⟩) m.vals.length m.vals.length) ∧ w'.cell? ⟨qx, 6, none⟩ = some (.int .i64 m.ret) ∧ w'.cell? ⟨qx, 7, none⟩ = some (.bool m.over) ∧ w'.cell? ⟨qx, 8, none⟩ = some (.int .i64 m.steps) ∧ w'.cell? ⟨qx, 9, none⟩ = some (.int .i64 m.looks) ∧ w'.cell? ⟨qx, 10, none⟩ = some (.int .i64 m.hits) ∧ w'.cell? ⟨qx, 11, none⟩ = some (.slice (some ⟨x10, 0, none⟩) m.memo.length m.memo.length) ∧ w'.cell? ⟨qx, 12, none⟩ = some (.string jr) ∧ w'.cell? ⟨qx, 13, none⟩ = some (.int .i64 sy) ∧ w'.cell? ⟨w.heap.size, 0, none⟩ = some (.int .i64 st) ∧ w'.cell? ⟨w.heap.size, 1, none⟩ = some (.slice ra m.row.length rc) ∧ w'.cell? ⟨w.heap.size, 2, none⟩ = some (.int .i64 m.N) ∧ w'.cell? ⟨w.heap.size, 3, none⟩ = some (.string m.S) ∧ w'.cell? ⟨w.heap.size, 4, none⟩ = some (.int .i64 m.room) ∧ w'.cell? ⟨w.heap.size, 5, none⟩ = some (.slice va m.vals.length vc) ∧ w'.cell? ⟨w.heap.size, 6, none⟩ = some (.int .i64 m.ret) ∧ w'.cell? ⟨w.heap.size, 7, none⟩ = some (.bool m.over) ∧ w'.cell? ⟨w.heap.size, 8, none⟩ = some (.int .i64 m.steps) ∧ w'.cell? ⟨w.heap.size, 9, none⟩ = some (.int .i64 m.looks) ∧ w'.cell? ⟨w.heap.size, 10, none⟩ = some (.int .i64 m.hits) ∧ w'.cell? ⟨w.heap.size, 11, none⟩ = some (.slice ma m.memo.length mc) ∧ w'.cell? ⟨w.heap.size, 12, none⟩ = some (.string jr) ∧ w'.cell? ⟨w.heap.size, 13, none⟩ = some (.int .i64 sy)) ((first | exact ⟨LX.c0, LX.c1, LX.c2, LX.c3, LX.c4, LX.c5, LX.c6, LX.c7, LX.c8, LX.c9, LX.c10, LX.c11, LX.c12, LX.c13, LA.c0, LA.c1, LA.c2, LA.c3, LA.c4, LA.c5, LA.c6, LA.c7, LA.c8, LA.c9, LA.c10, LA.c11, LA.c12, LA.c13⟩ | exact ⟨KX.c0, KX.c1, KX.c2, KX.c3, KX.c4, KX.c5, KX.c6, KX.c7, KX.c8, KX.c9, KX.c10, KX.c11, KX.c12, KX.c13, KA.c0, KA.c1, KA.c2, KA.c3, KA.c4, KA.c5, KA.c6, KA.c7, KA.c8, KA.c9, KA.c10, KA.c11, KA.c12, KA.c13⟩ | exact ⟨EX.c0, EX.c1, EX.c2, EX.c3, EX.c4, EX.c5, EX.c6, EX.c7, EX.c8, EX.c9, EX.c10, EX.c11, EX.c12, EX.c13, EA.c0, EA.c1, EA.c2, EA.c3, EA.c4, EA.c5, EA.c6, EA.c7, EA.c8, EA.c9, EA.c10, EA.c11, EA.c12, EA.c13⟩)) ((first | (go_at_call 7; refine (toJob _ st m jr sy ra va ma rc vc mc (HR.out.below HBD.out) G1.out G3.out G4.out).mono ?_; rintro e xT ⟨t0, t4, t10, rfl, hsT, _, hbT⟩; have KX := LX.below hbT; have KA := LA.below hbT; have SX : Hid (Mr xT m (some ⟨x0, 0, none⟩) (some ⟨x4, 0, none⟩) (some ⟨x10, 0, none⟩)) := SX0.out.below hbT; have hWT : Hid (Mr xT m (some ⟨t0, 0, none⟩) (some ⟨t4, 0, none⟩) (some ⟨t10, 0, none⟩)) := hsT; have HBT : Hid (Below y6.drew.heap.size y6.drew xT) := hbT; clear hsT hbT) | (go_at_call 9; refine (eqJob _ st m jr sy _ _ _ _ _ _ _ _ _ _ _ _ SX.out hWT.out).mono ?_; rintro e xE ⟨rfl, hbE⟩; have EX := KX.below hbE; have EA := KA.below hbE; have HBE : Hid (Below xT.heap.size xT xE) := hbE; clear hbE)))
  have HB7 : Hid (Below w.heap.size w xE) := HBD.out.trans ((HBT.out.mono HBD.out.size).trans (HBE.out.mono (Nat.le_trans HBD.out.size HBT.out.size)))
  clear KX KA SX hWT EX EA LX LA HBD SX0 HBT HBE
  go_wp2
  go_ret
  exact ⟨rfl, HB7.out⟩

end Go.Proofs.Ytmhambifbimndaa.Lx71
