/- What pairs of tables the laws draw. -/
import Derived.Deep.RegionHeld3
import Derived.Test.YtkcbonocbdfbcaaDoorTds
import Derived.Test.YtkcbonocbdfbcaaDoorTc8
namespace Go.Proofs.YtkcbonocbdfbcaaDoor.Tdt
open Go.RowKit
open Ta0 Ta1 Tc2 Tc5 Td1 Td2 Tdr Tds
open Nd0 (Kept set_same)
open Dr0 (Cur Only Bytes)
open Tc8 (sother)
set_option linter.unusedVariables false

/-- What stands while two tables are drawn: the cursor in block b, both results, the first table's box. -/
structure D2 (w : World) (b : Nat) (a : Option Addr) (len cap q : Nat) (N : Int) (S : ByteArray) (W : World) : Prop where
  cur : Cur W b a len cap
  r1 : Lay W w.heap.size (.int .i64 0) (.string ByteArray.empty)
  r2 : Lay W (w.heap.size + 1) (.int .i64 0) (.string ByteArray.empty)
  box : Lay W q (.int .i64 N) (.string S)
  bel : Below w.heap.size w W
theorem D2.only {w W W' : World} {b : Nat} {a : Option Addr} {len cap q : Nat} {N : Int} {S : ByteArray} (h : D2 w b a len cap q N S W) (hb : w.heap.size + 1 < b) (hq : b < q) (hc : Cur W' b a len cap) (ho : Only b W W') : D2 w b a len cap q N S W' :=
  ⟨hc, h.r1.kept (kept_of_only ho) (by omega), h.r2.kept (kept_of_only ho) (by omega), h.box.kept (kept_of_only ho) (by omega), h.bel.trans (ho.below (by omega) h.bel.size)⟩
theorem D2.drew {w W : World} {b : Nat} {a : Option Addr} {len cap q : Nat} {N : Int} {S : ByteArray} (h : D2 w b a len cap q N S W) : D2 w b a len cap q N S W.drew :=
  ⟨h.cur.drew, h.r1.kept (S := fun _ => False) (Kept.refl _ _).drew (fun h => h), h.r2.kept (S := fun _ => False) (Kept.refl _ _).drew (fun h => h), h.box.kept (S := fun _ => False) (Kept.refl _ _).drew (fun h => h), below_drewN h.bel 1⟩

theorem fin2T {w W : World} {a b c d : Value} (h1 : Lay W w.heap.size a b) (h2 : Lay W (w.heap.size + 1) c d) (hb : Below w.heap.size w W) (x y u v : Value) :
    ∃ W', W' = ((((W.setCell ⟨w.heap.size, 0, none⟩ x).setCell ⟨w.heap.size, 1, none⟩ y).setCell ⟨w.heap.size + 1, 0, none⟩ u).setCell ⟨w.heap.size + 1, 1, none⟩ v) ∧ Lay W' w.heap.size x y ∧ Lay W' (w.heap.size + 1) u v ∧ Below w.heap.size w W' := by
  have K1 : Kept (fun k => k = w.heap.size) W ((W.setCell ⟨w.heap.size, 0, none⟩ x).setCell ⟨w.heap.size, 1, none⟩ y) := kset (S := fun k => k = w.heap.size) (kset (S := fun k => k = w.heap.size) (Kept.refl (fun k => k = w.heap.size) W) rfl _) rfl _
  have hb1 := hb.trans (K1.below (B := w.heap.size) (fun b hb => by omega) hb.size)
  have g1 := h1.put x y
  have g2 := h2.kept K1 (by omega)
  have K2 : Kept (fun k => k = w.heap.size + 1) ((W.setCell ⟨w.heap.size, 0, none⟩ x).setCell ⟨w.heap.size, 1, none⟩ y) ((((W.setCell ⟨w.heap.size, 0, none⟩ x).setCell ⟨w.heap.size, 1, none⟩ y).setCell ⟨w.heap.size + 1, 0, none⟩ u).setCell ⟨w.heap.size + 1, 1, none⟩ v) := kset (S := fun k => k = w.heap.size + 1) (kset (S := fun k => k = w.heap.size + 1) (Kept.refl (fun k => k = w.heap.size + 1) _) rfl _) rfl _
  exact ⟨_, rfl, g1.kept K2 (by omega), g2.put u v, hb1.trans (K2.below (B := w.heap.size) (fun b hb => by omega) hb1.size)⟩

set_option maxRecDepth 100000 in
set_option maxHeartbeats 4000000 in
theorem l06Two (w : World) (a : Option Addr) (len cap : Nat) (hb : Bytes w a len) :
    Calls Tryd.prog 35 #[.slice a len cap] w fun e w' => (∃ (N M : Int) (S T : ByteArray), e = .returned (.tuple #[tv N S, tv M T]) ∧ S.size ≤ 64 ∧ T.size ≤ 64) ∧ Below w.heap.size w w' := by
  have HB0 : Hid (Bytes ((w.alloc (.cells #[.int .i64 0, .string ByteArray.empty] 25)).alloc (.cells #[.int .i64 0, .string ByteArray.empty] 25)) a len) := (hb.below ((Below.refl _ _).alloc (Nat.le_refl _) _)).below ((Below.refl _ _).alloc (Nat.le_refl _) _)
  have HR1 : Hid (Lay ((w.alloc (.cells #[.int .i64 0, .string ByteArray.empty] 25)).alloc (.cells #[.int .i64 0, .string ByteArray.empty] 25)) w.heap.size (.int .i64 0) (.string ByteArray.empty)) := (Lay.made _ _ _ _).alloc _
  have HR2 : Hid (Lay ((w.alloc (.cells #[.int .i64 0, .string ByteArray.empty] 25)).alloc (.cells #[.int .i64 0, .string ByteArray.empty] 25)) (w.heap.size + 1) (.int .i64 0) (.string ByteArray.empty)) := by
    have := Lay.made (w.alloc (.cells #[.int .i64 0, .string ByteArray.empty] 25)) (.int .i64 0) (.string ByteArray.empty) 25
    show Lay _ _ _ _
    simpa using this
  have HA0 : Hid (Below w.heap.size w ((w.alloc (.cells #[.int .i64 0, .string ByteArray.empty] 25)).alloc (.cells #[.int .i64 0, .string ByteArray.empty] 25))) := ((Below.refl _ _).alloc (Nat.le_refl _) _).alloc (by simp) _
  clear hb
  go_enter Tryd.func35, Tryd.ntmps35
  go_wp2_with fail
  refine (Dr4.new _ a len cap HB0.out).mono ?_
  rintro e w1 ⟨rfl, hc1, hb1⟩
  have hc1' : Cur w1 (w.heap.size + 1 + 1) a len cap := by simpa using hc1
  have HP1 : Hid (Lay w1 w.heap.size (.int .i64 0) (.string ByteArray.empty)) := HR1.out.below hb1
  have HP2 : Hid (Lay w1 (w.heap.size + 1) (.int .i64 0) (.string ByteArray.empty)) := HR2.out.below hb1
  have HA1 : Hid (Below w.heap.size w w1) := HA0.out.trans (hb1.mono HA0.out.size)
  clear hb1 hc1
  go_wp2_with fail
  refine (l06Any _ (w.heap.size + 1 + 1) a len cap hc1').mono ?_
  rintro e w2 ⟨⟨N, S, rfl, hS⟩, hc2, ho2⟩
  have hq2 : w.heap.size + 1 + 1 < w2.heap.size := hc2.lt
  have HD2 : Hid (D2 w (w.heap.size + 1 + 1) a len cap w2.heap.size N S (w2.alloc (.cells #[.int .i64 N, .string S] 25))) :=
    ⟨hc2.alloc _, (HP1.out.kept (kept_of_only ho2) (by omega)).alloc _, (HP2.out.kept (kept_of_only ho2) (by omega)).alloc _, Lay.made _ _ _ _, (HA1.out.trans (ho2.below (by omega) HA1.out.size)).alloc (by omega) _⟩
  clear hc1' hc2 ho2
  go_wp2_with fail
  refine (Dr1.once _ (w.heap.size + 1 + 1) a len cap 4 (by omega) (by omega) HD2.out.cur).mono ?_
  rintro e w3 ⟨⟨z, rfl⟩, hc3, ho3⟩
  have HD3 : Hid (D2 w (w.heap.size + 1 + 1) a len cap w2.heap.size N S w3) := HD2.out.only (by omega) hq2 hc3 ho3
  clear hc3 ho3
  obtain ⟨x0, x1, _, _⟩ := HD3.out.box
  cases z
  · by_cases hN : 0 ≤ N ∧ N ≤ 6
    · have HI : Hid (∀ W, Calls Tryd.prog 24 #[.int .i64 N, .int .i64 0, .int .i64 6] W fun e w' => e = .returned (.bool true) ∧ w' = W) := fun W => sInT W hN
      obtain ⟨k, rfl⟩ := Int.eq_ofNat_of_zero_le hN.1
      have hk6 : k ≤ 6 := by omega
      clear hN
      go_wp2_with (go_at_call 24; refine (HI.out _).mono ?_; rintro e w' ⟨rfl, hw'⟩; have hw2 := hw'.symm; clear hw'; subst hw2)
      go_region_held3 (fun w' => w'.cell? ⟨w2.heap.size, 0, none⟩ = some (.int .i64 (k : Int)) ∧ w'.cell? ⟨w2.heap.size, 1, none⟩ = some (.string S)) ((first | exact ⟨x0, x1⟩ | exact ⟨hS3.box.c0, hS3.box.c1⟩ | exact ⟨sother (sother hS3.box.c0 (by omega)) (by omega), sother (sother hS3.box.c1 (by omega)) (by omega)⟩ | exact ⟨sother (sother (sother (sother hS3.box.c0 (by omega)) (by omega)) (by omega)) (by omega), sother (sother (sother (sother hS3.box.c1 (by omega)) (by omega)) (by omega)) (by omega)⟩)) ((go_at_call 42; refine (l06Table _ (w.heap.size + 1 + 1) a len cap k (by omega) HD3.out.drew.cur).mono ?_; rintro e w4 ⟨⟨T, rfl, hT1, hT⟩, hc4, ho4⟩; have hS3 := HD3.out.drew.only (by omega) hq2 hc4 ho4; clear hc4 ho4; (have hR1 := hS3.r1); (have hR2 := hS3.r2); obtain ⟨r0, r1, r2, r3⟩ := hR1; obtain ⟨s0, s1, s2, s3⟩ := hR2))
      all_goals
        go_wp2
        obtain ⟨W, hW, hz1, hz2, hbz⟩ := fin2T hS3.r1 hS3.r2 hS3.bel (.int .i64 (k : Int)) (.string S) (.int .i64 (k : Int)) (.string T)
        rw [← hW]
        obtain ⟨z0, z1, _, _⟩ := hz1
        obtain ⟨y0, y1, _, _⟩ := hz2
        exact bodyPost_ret (v := .tuple #[tv (k : Int) S, tv (k : Int) T]) (by simp [results, Tryd.results35, go_sem, z0, z1, y0, y1]) rfl ⟨⟨(k : Int), (k : Int), S, T, rfl, hS, hT⟩, hbz⟩
    · have HI : Hid (∀ W, Calls Tryd.prog 24 #[.int .i64 N, .int .i64 0, .int .i64 6] W fun e w' => e = .returned (.bool false) ∧ w' = W) := fun W => sInF W hN
      clear hN
      go_wp2_with (go_at_call 24; refine (HI.out _).mono ?_; rintro e w' ⟨rfl, hw'⟩; have hw2 := hw'.symm; clear hw'; subst hw2)
      go_region_held3 (fun w' => w'.cell? ⟨w2.heap.size, 0, none⟩ = some (.int .i64 N) ∧ w'.cell? ⟨w2.heap.size, 1, none⟩ = some (.string S)) ((first | exact ⟨x0, x1⟩ | exact ⟨hS3.box.c0, hS3.box.c1⟩ | exact ⟨sother (sother hS3.box.c0 (by omega)) (by omega), sother (sother hS3.box.c1 (by omega)) (by omega)⟩ | exact ⟨sother (sother (sother (sother hS3.box.c0 (by omega)) (by omega)) (by omega)) (by omega), sother (sother (sother (sother hS3.box.c1 (by omega)) (by omega)) (by omega)) (by omega)⟩)) ((go_at_call 22; refine (l06Any _ (w.heap.size + 1 + 1) a len cap HD3.out.drew.cur).mono ?_; rintro e w4 ⟨⟨M, T, rfl, hT⟩, hc4, ho4⟩; have hS3 := HD3.out.drew.only (by omega) hq2 hc4 ho4; clear hc4 ho4; (have hR1 := hS3.r1); (have hR2 := hS3.r2); obtain ⟨r0, r1, r2, r3⟩ := hR1; obtain ⟨s0, s1, s2, s3⟩ := hR2))
      all_goals
        go_wp2
        obtain ⟨W, hW, hz1, hz2, hbz⟩ := fin2T hS3.r1 hS3.r2 hS3.bel (.int .i64 N) (.string S) (.int .i64 M) (.string T)
        rw [← hW]
        obtain ⟨z0, z1, _, _⟩ := hz1
        obtain ⟨y0, y1, _, _⟩ := hz2
        exact bodyPost_ret (v := .tuple #[tv N S, tv M T]) (by simp [results, Tryd.results35, go_sem, z0, z1, y0, y1]) rfl ⟨⟨N, M, S, T, rfl, hS, hT⟩, hbz⟩
  · go_wp2_with fail
    go_region_held3 (fun w' => w'.cell? ⟨w2.heap.size, 0, none⟩ = some (.int .i64 N) ∧ w'.cell? ⟨w2.heap.size, 1, none⟩ = some (.string S)) ((first | exact ⟨x0, x1⟩ | exact ⟨hS3.box.c0, hS3.box.c1⟩ | exact ⟨sother (sother hS3.box.c0 (by omega)) (by omega), sother (sother hS3.box.c1 (by omega)) (by omega)⟩ | exact ⟨sother (sother (sother (sother hS3.box.c0 (by omega)) (by omega)) (by omega)) (by omega), sother (sother (sother (sother hS3.box.c1 (by omega)) (by omega)) (by omega)) (by omega)⟩)) ((go_at_call 22; refine (l06Any _ (w.heap.size + 1 + 1) a len cap HD3.out.drew.cur).mono ?_; rintro e w4 ⟨⟨M, T, rfl, hT⟩, hc4, ho4⟩; have hS3 := HD3.out.drew.only (by omega) hq2 hc4 ho4; clear hc4 ho4; (have hR1 := hS3.r1); (have hR2 := hS3.r2); obtain ⟨r0, r1, r2, r3⟩ := hR1; obtain ⟨s0, s1, s2, s3⟩ := hR2))
    all_goals
      go_wp2
      obtain ⟨W, hW, hz1, hz2, hbz⟩ := fin2T hS3.r1 hS3.r2 hS3.bel (.int .i64 N) (.string S) (.int .i64 M) (.string T)
      rw [← hW]
      obtain ⟨z0, z1, _, _⟩ := hz1
      obtain ⟨y0, y1, _, _⟩ := hz2
      exact bodyPost_ret (v := .tuple #[tv N S, tv M T]) (by simp [results, Tryd.results35, go_sem, z0, z1, y0, y1]) rfl ⟨⟨N, M, S, T, rfl, hS, hT⟩, hbz⟩

end Go.Proofs.YtkcbonocbdfbcaaDoor.Tdt
