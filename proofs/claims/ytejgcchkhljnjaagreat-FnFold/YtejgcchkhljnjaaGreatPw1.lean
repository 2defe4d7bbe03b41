/- The walk of the program's Apply at some of its operators. -/
import Derived.Test.YtejgcchkhljnjaaGreatPkFO44
namespace Go.Proofs.YtejgcchkhljnjaaGreat.Pw1
open Go.RowKit
open Nd0 Pl1 Pl2 Vl1 Vl2 Bt0 Wd1 Wd2 Wd3 Wd4 Wd5 Ic4 Pv1 Pv3
open Sv1 (Rg below1)
set_option linter.unusedVariables false

set_option maxRecDepth 100000 in
set_option maxHeartbeats 1000000 in
theorem i0 {n : Nd} {W a b c v : Int} (w : World) (h : Rg n W a b c) (hop : n.op = 0) (hC : Clo 163 n W a b c v) : iApp n W a b c v w := by
  obtain ⟨h1, h2, h3, h4, h5⟩ := h
  have HC : Hid (Clo 163 n W a b c v) := hC
  clear hC
  have ht : tab[0]'(by decide) = .func (.func 163) #[] #[] := rfl
  have hts : tab.size = 19 := rfl
  have hef := eql_func
  unfold iApp
  go_enter Tryz.func98, Tryz.ntmps98
  go_wp2_with (first | (go_at_call 140; refine (iWidthOk _ _).mono ?_; rintro e w' ⟨rfl, rfl⟩) | (go_at_call 145; refine (byteOk _ _).mono ?_; rintro e w' ⟨rfl, rfl⟩) | (go_at_call 146; refine (operators _).mono ?_; rintro e w' ⟨rfl, rfl⟩) | refine store_new _ rfl 144 (.tmp 11) (.tmp 36) rfl _ tab _ rfl (by simp) rfl sizeTab rfl oneTab ?_)
  obtain ⟨W3, hW3⟩ : ∃ W3 : World, W3 = ((w.alloc (.cells #[.int .i64 0, .int .i64 n.w, .int .i64 n.k, .int .i64 n.a, .int .i64 n.b, .int .i64 n.c] 53)).alloc (.cells tab 144)).alloc (.cells tab 144) := ⟨_, rfl⟩
  have HS : W3.cell? ⟨w.heap.size, 0, none⟩ = some (.int .i64 0) ∧ W3.cell? ⟨w.heap.size, 1, none⟩ = some (.int .i64 n.w) ∧ W3.cell? ⟨w.heap.size, 2, none⟩ = some (.int .i64 n.k) ∧ W3.cell? ⟨w.heap.size, 3, none⟩ = some (.int .i64 n.a) ∧ W3.cell? ⟨w.heap.size, 4, none⟩ = some (.int .i64 n.b) ∧ W3.cell? ⟨w.heap.size, 5, none⟩ = some (.int .i64 n.c) ∧ W3.cell? ⟨w.heap.size + 1 + 1, 0, none⟩ = some (.func (.func 163) #[] #[]) := by
    rw [hW3]
    exact facts7 w _ _ _ _ _ _ _ _ _ ht
  have HB3 : Hid (Below w.heap.size w W3) := by
    rw [hW3]
    exact (((Below.refl _ _).alloc (Nat.le_refl _) _).alloc (by simp) _).alloc (by simp; omega) _
  rw [← hW3]
  clear hW3
  have HC2 : Hid (Clo 163 ⟨0, n.w, n.k, n.a, n.b, n.c⟩ W a b c v) := by
    have := HC.out
    rw [show n = ⟨n.op, n.w, n.k, n.a, n.b, n.c⟩ from rfl, hop] at this
    exact this
  go_region_held (fun w' => w'.cell? ⟨w.heap.size, 0, none⟩ = some (.int .i64 0) ∧ w'.cell? ⟨w.heap.size, 1, none⟩ = some (.int .i64 n.w) ∧ w'.cell? ⟨w.heap.size, 2, none⟩ = some (.int .i64 n.k) ∧ w'.cell? ⟨w.heap.size, 3, none⟩ = some (.int .i64 n.a) ∧ w'.cell? ⟨w.heap.size, 4, none⟩ = some (.int .i64 n.b) ∧ w'.cell? ⟨w.heap.size, 5, none⟩ = some (.int .i64 n.c) ∧ w'.cell? ⟨w.heap.size + 1 + 1, 0, none⟩ = some (.func (.func 163) #[] #[])) ((first | exact HS | exact kept7 (W := W3.drew) HS hb4)) ((go_at_call 163; refine (HC2.out _).mono ?_; rintro e w4 ⟨rfl, hb4⟩; have HB4 : Hid (Below w.heap.size w w4) := HB3.out.drew.trans (hb4.mono HB3.out.size)))
  go_wp2
  go_ret
  exact ⟨rfl, HB4.out⟩

set_option maxRecDepth 100000 in
set_option maxHeartbeats 1000000 in
theorem i2 {n : Nd} {W a b c v : Int} (w : World) (h : Rg n W a b c) (hop : n.op = 2) (hC : Clo 164 n W a b c v) : iApp n W a b c v w := by
  obtain ⟨h1, h2, h3, h4, h5⟩ := h
  have HC : Hid (Clo 164 n W a b c v) := hC
  clear hC
  have ht : tab[2]'(by decide) = .func (.func 164) #[] #[] := rfl
  have hts : tab.size = 19 := rfl
  have hef := eql_func
  unfold iApp
  go_enter Tryz.func98, Tryz.ntmps98
  go_wp2_with (first | (go_at_call 140; refine (iWidthOk _ _).mono ?_; rintro e w' ⟨rfl, rfl⟩) | (go_at_call 145; refine (byteOk _ _).mono ?_; rintro e w' ⟨rfl, rfl⟩) | (go_at_call 146; refine (operators _).mono ?_; rintro e w' ⟨rfl, rfl⟩) | refine store_new _ rfl 144 (.tmp 11) (.tmp 36) rfl _ tab _ rfl (by simp) rfl sizeTab rfl oneTab ?_)
  obtain ⟨W3, hW3⟩ : ∃ W3 : World, W3 = ((w.alloc (.cells #[.int .i64 2, .int .i64 n.w, .int .i64 n.k, .int .i64 n.a, .int .i64 n.b, .int .i64 n.c] 53)).alloc (.cells tab 144)).alloc (.cells tab 144) := ⟨_, rfl⟩
  have HS : W3.cell? ⟨w.heap.size, 0, none⟩ = some (.int .i64 2) ∧ W3.cell? ⟨w.heap.size, 1, none⟩ = some (.int .i64 n.w) ∧ W3.cell? ⟨w.heap.size, 2, none⟩ = some (.int .i64 n.k) ∧ W3.cell? ⟨w.heap.size, 3, none⟩ = some (.int .i64 n.a) ∧ W3.cell? ⟨w.heap.size, 4, none⟩ = some (.int .i64 n.b) ∧ W3.cell? ⟨w.heap.size, 5, none⟩ = some (.int .i64 n.c) ∧ W3.cell? ⟨w.heap.size + 1 + 1, 2, none⟩ = some (.func (.func 164) #[] #[]) := by
    rw [hW3]
    exact facts7 w _ _ _ _ _ _ _ _ _ ht
  have HB3 : Hid (Below w.heap.size w W3) := by
    rw [hW3]
    exact (((Below.refl _ _).alloc (Nat.le_refl _) _).alloc (by simp) _).alloc (by simp; omega) _
  rw [← hW3]
  clear hW3
  have HC2 : Hid (Clo 164 ⟨2, n.w, n.k, n.a, n.b, n.c⟩ W a b c v) := by
    have := HC.out
    rw [show n = ⟨n.op, n.w, n.k, n.a, n.b, n.c⟩ from rfl, hop] at this
    exact this
  go_region_held (fun w' => w'.cell? ⟨w.heap.size, 0, none⟩ = some (.int .i64 2) ∧ w'.cell? ⟨w.heap.size, 1, none⟩ = some (.int .i64 n.w) ∧ w'.cell? ⟨w.heap.size, 2, none⟩ = some (.int .i64 n.k) ∧ w'.cell? ⟨w.heap.size, 3, none⟩ = some (.int .i64 n.a) ∧ w'.cell? ⟨w.heap.size, 4, none⟩ = some (.int .i64 n.b) ∧ w'.cell? ⟨w.heap.size, 5, none⟩ = some (.int .i64 n.c) ∧ w'.cell? ⟨w.heap.size + 1 + 1, 2, none⟩ = some (.func (.func 164) #[] #[])) ((first | exact HS | exact kept7 (W := W3.drew) HS hb4)) ((go_at_call 164; refine (HC2.out _).mono ?_; rintro e w4 ⟨rfl, hb4⟩; have HB4 : Hid (Below w.heap.size w w4) := HB3.out.drew.trans (hb4.mono HB3.out.size)))
  go_wp2
  go_ret
  exact ⟨rfl, HB4.out⟩

set_option maxRecDepth 100000 in
set_option maxHeartbeats 1000000 in
theorem i3 {n : Nd} {W a b c v : Int} (w : World) (h : Rg n W a b c) (hop : n.op = 3) (hC : Clo 166 n W a b c v) : iApp n W a b c v w := by
  obtain ⟨h1, h2, h3, h4, h5⟩ := h
  have HC : Hid (Clo 166 n W a b c v) := hC
  clear hC
  have ht : tab[3]'(by decide) = .func (.func 166) #[] #[] := rfl
  have hts : tab.size = 19 := rfl
  have hef := eql_func
  unfold iApp
  go_enter Tryz.func98, Tryz.ntmps98
  go_wp2_with (first | (go_at_call 140; refine (iWidthOk _ _).mono ?_; rintro e w' ⟨rfl, rfl⟩) | (go_at_call 145; refine (byteOk _ _).mono ?_; rintro e w' ⟨rfl, rfl⟩) | (go_at_call 146; refine (operators _).mono ?_; rintro e w' ⟨rfl, rfl⟩) | refine store_new _ rfl 144 (.tmp 11) (.tmp 36) rfl _ tab _ rfl (by simp) rfl sizeTab rfl oneTab ?_)
  obtain ⟨W3, hW3⟩ : ∃ W3 : World, W3 = ((w.alloc (.cells #[.int .i64 3, .int .i64 n.w, .int .i64 n.k, .int .i64 n.a, .int .i64 n.b, .int .i64 n.c] 53)).alloc (.cells tab 144)).alloc (.cells tab 144) := ⟨_, rfl⟩
  have HS : W3.cell? ⟨w.heap.size, 0, none⟩ = some (.int .i64 3) ∧ W3.cell? ⟨w.heap.size, 1, none⟩ = some (.int .i64 n.w) ∧ W3.cell? ⟨w.heap.size, 2, none⟩ = some (.int .i64 n.k) ∧ W3.cell? ⟨w.heap.size, 3, none⟩ = some (.int .i64 n.a) ∧ W3.cell? ⟨w.heap.size, 4, none⟩ = some (.int .i64 n.b) ∧ W3.cell? ⟨w.heap.size, 5, none⟩ = some (.int .i64 n.c) ∧ W3.cell? ⟨w.heap.size + 1 + 1, 3, none⟩ = some (.func (.func 166) #[] #[]) := by
    rw [hW3]
    exact facts7 w _ _ _ _ _ _ _ _ _ ht
  have HB3 : Hid (Below w.heap.size w W3) := by
    rw [hW3]
    exact (((Below.refl _ _).alloc (Nat.le_refl _) _).alloc (by simp) _).alloc (by simp; omega) _
  rw [← hW3]
  clear hW3
  have HC2 : Hid (Clo 166 ⟨3, n.w, n.k, n.a, n.b, n.c⟩ W a b c v) := by
    have := HC.out
    rw [show n = ⟨n.op, n.w, n.k, n.a, n.b, n.c⟩ from rfl, hop] at this
    exact this
  go_region_held (fun w' => w'.cell? ⟨w.heap.size, 0, none⟩ = some (.int .i64 3) ∧ w'.cell? ⟨w.heap.size, 1, none⟩ = some (.int .i64 n.w) ∧ w'.cell? ⟨w.heap.size, 2, none⟩ = some (.int .i64 n.k) ∧ w'.cell? ⟨w.heap.size, 3, none⟩ = some (.int .i64 n.a) ∧ w'.cell? ⟨w.heap.size, 4, none⟩ = some (.int .i64 n.b) ∧ w'.cell? ⟨w.heap.size, 5, none⟩ = some (.int .i64 n.c) ∧ w'.cell? ⟨w.heap.size + 1 + 1, 3, none⟩ = some (.func (.func 166) #[] #[])) ((first | exact HS | exact kept7 (W := W3.drew) HS hb4)) ((go_at_call 166; refine (HC2.out _).mono ?_; rintro e w4 ⟨rfl, hb4⟩; have HB4 : Hid (Below w.heap.size w w4) := HB3.out.drew.trans (hb4.mono HB3.out.size)))
  go_wp2
  go_ret
  exact ⟨rfl, HB4.out⟩

set_option maxRecDepth 100000 in
set_option maxHeartbeats 1000000 in
theorem i4 {n : Nd} {W a b c v : Int} (w : World) (h : Rg n W a b c) (hop : n.op = 4) (hC : Clo 167 n W a b c v) : iApp n W a b c v w := by
  obtain ⟨h1, h2, h3, h4, h5⟩ := h
  have HC : Hid (Clo 167 n W a b c v) := hC
  clear hC
  have ht : tab[4]'(by decide) = .func (.func 167) #[] #[] := rfl
  have hts : tab.size = 19 := rfl
  have hef := eql_func
  unfold iApp
  go_enter Tryz.func98, Tryz.ntmps98
  go_wp2_with (first | (go_at_call 140; refine (iWidthOk _ _).mono ?_; rintro e w' ⟨rfl, rfl⟩) | (go_at_call 145; refine (byteOk _ _).mono ?_; rintro e w' ⟨rfl, rfl⟩) | (go_at_call 146; refine (operators _).mono ?_; rintro e w' ⟨rfl, rfl⟩) | refine store_new _ rfl 144 (.tmp 11) (.tmp 36) rfl _ tab _ rfl (by simp) rfl sizeTab rfl oneTab ?_)
  obtain ⟨W3, hW3⟩ : ∃ W3 : World, W3 = ((w.alloc (.cells #[.int .i64 4, .int .i64 n.w, .int .i64 n.k, .int .i64 n.a, .int .i64 n.b, .int .i64 n.c] 53)).alloc (.cells tab 144)).alloc (.cells tab 144) := ⟨_, rfl⟩
  have HS : W3.cell? ⟨w.heap.size, 0, none⟩ = some (.int .i64 4) ∧ W3.cell? ⟨w.heap.size, 1, none⟩ = some (.int .i64 n.w) ∧ W3.cell? ⟨w.heap.size, 2, none⟩ = some (.int .i64 n.k) ∧ W3.cell? ⟨w.heap.size, 3, none⟩ = some (.int .i64 n.a) ∧ W3.cell? ⟨w.heap.size, 4, none⟩ = some (.int .i64 n.b) ∧ W3.cell? ⟨w.heap.size, 5, none⟩ = some (.int .i64 n.c) ∧ W3.cell? ⟨w.heap.size + 1 + 1, 4, none⟩ = some (.func (.func 167) #[] #[]) := by
    rw [hW3]
    exact facts7 w _ _ _ _ _ _ _ _ _ ht
  have HB3 : Hid (Below w.heap.size w W3) := by
    rw [hW3]
    exact (((Below.refl _ _).alloc (Nat.le_refl _) _).alloc (by simp) _).alloc (by simp; omega) _
  rw [← hW3]
  clear hW3
  have HC2 : Hid (Clo 167 ⟨4, n.w, n.k, n.a, n.b, n.c⟩ W a b c v) := by
    have := HC.out
    rw [show n = ⟨n.op, n.w, n.k, n.a, n.b, n.c⟩ from rfl, hop] at this
    exact this
  go_region_held (fun w' => w'.cell? ⟨w.heap.size, 0, none⟩ = some (.int .i64 4) ∧ w'.cell? ⟨w.heap.size, 1, none⟩ = some (.int .i64 n.w) ∧ w'.cell? ⟨w.heap.size, 2, none⟩ = some (.int .i64 n.k) ∧ w'.cell? ⟨w.heap.size, 3, none⟩ = some (.int .i64 n.a) ∧ w'.cell? ⟨w.heap.size, 4, none⟩ = some (.int .i64 n.b) ∧ w'.cell? ⟨w.heap.size, 5, none⟩ = some (.int .i64 n.c) ∧ w'.cell? ⟨w.heap.size + 1 + 1, 4, none⟩ = some (.func (.func 167) #[] #[])) ((first | exact HS | exact kept7 (W := W3.drew) HS hb4)) ((go_at_call 167; refine (HC2.out _).mono ?_; rintro e w4 ⟨rfl, hb4⟩; have HB4 : Hid (Below w.heap.size w w4) := HB3.out.drew.trans (hb4.mono HB3.out.size)))
  go_wp2
  go_ret
  exact ⟨rfl, HB4.out⟩

set_option maxRecDepth 100000 in
set_option maxHeartbeats 1000000 in
theorem i5 {n : Nd} {W a b c v : Int} (w : World) (h : Rg n W a b c) (hop : n.op = 5) (hC : Clo 168 n W a b c v) : iApp n W a b c v w := by
  obtain ⟨h1, h2, h3, h4, h5⟩ := h
  have HC : Hid (Clo 168 n W a b c v) := hC
  clear hC
  have ht : tab[5]'(by decide) = .func (.func 168) #[] #[] := rfl
  have hts : tab.size = 19 := rfl
  have hef := eql_func
  unfold iApp
  go_enter Tryz.func98, Tryz.ntmps98
  go_wp2_with (first | (go_at_call 140; refine (iWidthOk _ _).mono ?_; rintro e w' ⟨rfl, rfl⟩) | (go_at_call 145; refine (byteOk _ _).mono ?_; rintro e w' ⟨rfl, rfl⟩) | (go_at_call 146; refine (operators _).mono ?_; rintro e w' ⟨rfl, rfl⟩) | refine store_new _ rfl 144 (.tmp 11) (.tmp 36) rfl _ tab _ rfl (by simp) rfl sizeTab rfl oneTab ?_)
  obtain ⟨W3, hW3⟩ : ∃ W3 : World, W3 = ((w.alloc (.cells #[.int .i64 5, .int .i64 n.w, .int .i64 n.k, .int .i64 n.a, .int .i64 n.b, .int .i64 n.c] 53)).alloc (.cells tab 144)).alloc (.cells tab 144) := ⟨_, rfl⟩
  have HS : W3.cell? ⟨w.heap.size, 0, none⟩ = some (.int .i64 5) ∧ W3.cell? ⟨w.heap.size, 1, none⟩ = some (.int .i64 n.w) ∧ W3.cell? ⟨w.heap.size, 2, none⟩ = some (.int .i64 n.k) ∧ W3.cell? ⟨w.heap.size, 3, none⟩ = some (.int .i64 n.a) ∧ W3.cell? ⟨w.heap.size, 4, none⟩ = some (.int .i64 n.b) ∧ W3.cell? ⟨w.heap.size, 5, none⟩ = some (.int .i64 n.c) ∧ W3.cell? ⟨w.heap.size + 1 + 1, 5, none⟩ = some (.func (.func 168) #[] #[]) := by
    rw [hW3]
    exact facts7 w _ _ _ _ _ _ _ _ _ ht
  have HB3 : Hid (Below w.heap.size w W3) := by
    rw [hW3]
    exact (((Below.refl _ _).alloc (Nat.le_refl _) _).alloc (by simp) _).alloc (by simp; omega) _
  rw [← hW3]
  clear hW3
  have HC2 : Hid (Clo 168 ⟨5, n.w, n.k, n.a, n.b, n.c⟩ W a b c v) := by
    have := HC.out
    rw [show n = ⟨n.op, n.w, n.k, n.a, n.b, n.c⟩ from rfl, hop] at this
    exact this
  go_region_held (fun w' => w'.cell? ⟨w.heap.size, 0, none⟩ = some (.int .i64 5) ∧ w'.cell? ⟨w.heap.size, 1, none⟩ = some (.int .i64 n.w) ∧ w'.cell? ⟨w.heap.size, 2, none⟩ = some (.int .i64 n.k) ∧ w'.cell? ⟨w.heap.size, 3, none⟩ = some (.int .i64 n.a) ∧ w'.cell? ⟨w.heap.size, 4, none⟩ = some (.int .i64 n.b) ∧ w'.cell? ⟨w.heap.size, 5, none⟩ = some (.int .i64 n.c) ∧ w'.cell? ⟨w.heap.size + 1 + 1, 5, none⟩ = some (.func (.func 168) #[] #[])) ((first | exact HS | exact kept7 (W := W3.drew) HS hb4)) ((go_at_call 168; refine (HC2.out _).mono ?_; rintro e w4 ⟨rfl, hb4⟩; have HB4 : Hid (Below w.heap.size w w4) := HB3.out.drew.trans (hb4.mono HB3.out.size)))
  go_wp2
  go_ret
  exact ⟨rfl, HB4.out⟩

set_option maxRecDepth 100000 in
set_option maxHeartbeats 1000000 in
theorem i6 {n : Nd} {W a b c v : Int} (w : World) (h : Rg n W a b c) (hop : n.op = 6) (hC : Clo 169 n W a b c v) : iApp n W a b c v w := by
  obtain ⟨h1, h2, h3, h4, h5⟩ := h
  have HC : Hid (Clo 169 n W a b c v) := hC
  clear hC
  have ht : tab[6]'(by decide) = .func (.func 169) #[] #[] := rfl
  have hts : tab.size = 19 := rfl
  have hef := eql_func
  unfold iApp
  go_enter Tryz.func98, Tryz.ntmps98
  go_wp2_with (first | (go_at_call 140; refine (iWidthOk _ _).mono ?_; rintro e w' ⟨rfl, rfl⟩) | (go_at_call 145; refine (byteOk _ _).mono ?_; rintro e w' ⟨rfl, rfl⟩) | (go_at_call 146; refine (operators _).mono ?_; rintro e w' ⟨rfl, rfl⟩) | refine store_new _ rfl 144 (.tmp 11) (.tmp 36) rfl _ tab _ rfl (by simp) rfl sizeTab rfl oneTab ?_)
  obtain ⟨W3, hW3⟩ : ∃ W3 : World, W3 = ((w.alloc (.cells #[.int .i64 6, .int .i64 n.w, .int .i64 n.k, .int .i64 n.a, .int .i64 n.b, .int .i64 n.c] 53)).alloc (.cells tab 144)).alloc (.cells tab 144) := ⟨_, rfl⟩
  have HS : W3.cell? ⟨w.heap.size, 0, none⟩ = some (.int .i64 6) ∧ W3.cell? ⟨w.heap.size, 1, none⟩ = some (.int .i64 n.w) ∧ W3.cell? ⟨w.heap.size, 2, none⟩ = some (.int .i64 n.k) ∧ W3.cell? ⟨w.heap.size, 3, none⟩ = some (.int .i64 n.a) ∧ W3.cell? ⟨w.heap.size, 4, none⟩ = some (.int .i64 n.b) ∧ W3.cell? ⟨w.heap.size, 5, none⟩ = some (.int .i64 n.c) ∧ W3.cell? ⟨w.heap.size + 1 + 1, 6, none⟩ = some (.func (.func 169) #[] #[]) := by
    rw [hW3]
    exact facts7 w _ _ _ _ _ _ _ _ _ ht
  have HB3 : Hid (Below w.heap.size w W3) := by
    rw [hW3]
    exact (((Below.refl _ _).alloc (Nat.le_refl _) _).alloc (by simp) _).alloc (by simp; omega) _
  rw [← hW3]
  clear hW3
  have HC2 : Hid (Clo 169 ⟨6, n.w, n.k, n.a, n.b, n.c⟩ W a b c v) := by
    have := HC.out
    rw [show n = ⟨n.op, n.w, n.k, n.a, n.b, n.c⟩ from rfl, hop] at this
    exact this
  go_region_held (fun w' => w'.cell? ⟨w.heap.size, 0, none⟩ = some (.int .i64 6) ∧ w'.cell? ⟨w.heap.size, 1, none⟩ = some (.int .i64 n.w) ∧ w'.cell? ⟨w.heap.size, 2, none⟩ = some (.int .i64 n.k) ∧ w'.cell? ⟨w.heap.size, 3, none⟩ = some (.int .i64 n.a) ∧ w'.cell? ⟨w.heap.size, 4, none⟩ = some (.int .i64 n.b) ∧ w'.cell? ⟨w.heap.size, 5, none⟩ = some (.int .i64 n.c) ∧ w'.cell? ⟨w.heap.size + 1 + 1, 6, none⟩ = some (.func (.func 169) #[] #[])) ((first | exact HS | exact kept7 (W := W3.drew) HS hb4)) ((go_at_call 169; refine (HC2.out _).mono ?_; rintro e w4 ⟨rfl, hb4⟩; have HB4 : Hid (Below w.heap.size w w4) := HB3.out.drew.trans (hb4.mono HB3.out.size)))
  go_wp2
  go_ret
  exact ⟨rfl, HB4.out⟩

end Go.Proofs.YtejgcchkhljnjaaGreat.Pw1
