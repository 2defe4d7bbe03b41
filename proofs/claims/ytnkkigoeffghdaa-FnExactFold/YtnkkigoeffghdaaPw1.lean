/- The walk of the program's Apply at some of its operators. -/
import Derived.Test.YtnkkigoeffghdaaPk1539
namespace Go.Proofs.Ytnkkigoeffghdaa.Pw1
open Go.RowKit
open Nd0 Pl1 Pl2 Vl1 Vl2 Bt0 Wd1 Wd2 Wd3 Wd4 Wd5 Ic4 Pv1 Pv3
open Sv1 (Rg below1)
set_option linter.unusedVariables false

set_option maxRecDepth 100000 in
set_option maxHeartbeats 1000000 in
theorem i0 {n : Nd} {W a b c v : Int} (w : World) (h : Rg n W a b c) (hop : n.op = 0) (hC : Clo 139 n W a b c v) : iApp n W a b c v w := by
  obtain ⟨h1, h2, h3, h4, h5⟩ := h
  have HC : Hid (Clo 139 n W a b c v) := hC
  clear hC
  have ht : tab[0]'(by decide) = .func (.func 139) #[] #[] := rfl
  have hts : tab.size = 19 := rfl
  have hef := eql_func
  unfold iApp
  go_enter Try.func112, Try.ntmps112
  go_wp2_with (first | (go_at_call 126; refine (iWidthOk _ _).mono ?_; rintro e w' ⟨rfl, rfl⟩) | (go_at_call 133; refine (byteOk _ _).mono ?_; rintro e w' ⟨rfl, rfl⟩) | (go_at_call 134; refine (operators _).mono ?_; rintro e w' ⟨rfl, rfl⟩) | refine store_new _ rfl 126 (.tmp 11) (.tmp 36) rfl _ tab _ rfl (by simp) rfl sizeTab rfl oneTab ?_)
  obtain ⟨W3, hW3⟩ : ∃ W3 : World, W3 = ((w.alloc (.cells #[.int .i64 0, .int .i64 n.w, .int .i64 n.k, .int .i64 n.a, .int .i64 n.b, .int .i64 n.c] 55)).alloc (.cells tab 126)).alloc (.cells tab 126) := ⟨_, rfl⟩
  have HS : W3.cell? ⟨w.heap.size, 0, none⟩ = some (.int .i64 0) ∧ W3.cell? ⟨w.heap.size, 1, none⟩ = some (.int .i64 n.w) ∧ W3.cell? ⟨w.heap.size, 2, none⟩ = some (.int .i64 n.k) ∧ W3.cell? ⟨w.heap.size, 3, none⟩ = some (.int .i64 n.a) ∧ W3.cell? ⟨w.heap.size, 4, none⟩ = some (.int .i64 n.b) ∧ W3.cell? ⟨w.heap.size, 5, none⟩ = some (.int .i64 n.c) ∧ W3.cell? ⟨w.heap.size + 1 + 1, 0, none⟩ = some (.func (.func 139) #[] #[]) := by
    rw [hW3]
    exact facts7 w _ _ _ _ _ _ _ _ _ ht
  have HB3 : Hid (Below w.heap.size w W3) := by
    rw [hW3]
    exact (((Below.refl _ _).alloc (Nat.le_refl _) _).alloc (by simp) _).alloc (by simp; omega) _
  rw [← hW3]
  clear hW3
  have HC2 : Hid (Clo 139 ⟨0, n.w, n.k, n.a, n.b, n.c⟩ W a b c v) := by
    have := HC.out
    rw [show n = ⟨n.op, n.w, n.k, n.a, n.b, n.c⟩ from rfl, hop] at this
    exact this
  go_region_held (fun w' => w'.cell? ⟨w.heap.size, 0, none⟩ = some (.int .i64 0) ∧ w'.cell? ⟨w.heap.size, 1, none⟩ = some (.int .i64 n.w) ∧ w'.cell? ⟨w.heap.size, 2, none⟩ = some (.int .i64 n.k) ∧ w'.cell? ⟨w.heap.size, 3, none⟩ = some (.int .i64 n.a) ∧ w'.cell? ⟨w.heap.size, 4, none⟩ = some (.int .i64 n.b) ∧ w'.cell? ⟨w.heap.size, 5, none⟩ = some (.int .i64 n.c) ∧ w'.cell? ⟨w.heap.size + 1 + 1, 0, none⟩ = some (.func (.func 139) #[] #[])) ((first | exact HS | exact kept7 (W := W3.drew) HS hb4)) ((go_at_call 139; refine (HC2.out _).mono ?_; rintro e w4 ⟨rfl, hb4⟩; have HB4 : Hid (Below w.heap.size w w4) := HB3.out.drew.trans (hb4.mono HB3.out.size)))
  go_wp2
  go_ret
  exact ⟨rfl, HB4.out⟩

set_option maxRecDepth 100000 in
set_option maxHeartbeats 1000000 in
theorem i2 {n : Nd} {W a b c v : Int} (w : World) (h : Rg n W a b c) (hop : n.op = 2) (hC : Clo 140 n W a b c v) : iApp n W a b c v w := by
  obtain ⟨h1, h2, h3, h4, h5⟩ := h
  have HC : Hid (Clo 140 n W a b c v) := hC
  clear hC
  have ht : tab[2]'(by decide) = .func (.func 140) #[] #[] := rfl
  have hts : tab.size = 19 := rfl
  have hef := eql_func
  unfold iApp
  go_enter Try.func112, Try.ntmps112
  go_wp2_with (first | (go_at_call 126; refine (iWidthOk _ _).mono ?_; rintro e w' ⟨rfl, rfl⟩) | (go_at_call 133; refine (byteOk _ _).mono ?_; rintro e w' ⟨rfl, rfl⟩) | (go_at_call 134; refine (operators _).mono ?_; rintro e w' ⟨rfl, rfl⟩) | refine store_new _ rfl 126 (.tmp 11) (.tmp 36) rfl _ tab _ rfl (by simp) rfl sizeTab rfl oneTab ?_)
  obtain ⟨W3, hW3⟩ : ∃ W3 : World, W3 = ((w.alloc (.cells #[.int .i64 2, .int .i64 n.w, .int .i64 n.k, .int .i64 n.a, .int .i64 n.b, .int .i64 n.c] 55)).alloc (.cells tab 126)).alloc (.cells tab 126) := ⟨_, rfl⟩
  have HS : W3.cell? ⟨w.heap.size, 0, none⟩ = some (.int .i64 2) ∧ W3.cell? ⟨w.heap.size, 1, none⟩ = some (.int .i64 n.w) ∧ W3.cell? ⟨w.heap.size, 2, none⟩ = some (.int .i64 n.k) ∧ W3.cell? ⟨w.heap.size, 3, none⟩ = some (.int .i64 n.a) ∧ W3.cell? ⟨w.heap.size, 4, none⟩ = some (.int .i64 n.b) ∧ W3.cell? ⟨w.heap.size, 5, none⟩ = some (.int .i64 n.c) ∧ W3.cell? ⟨w.heap.size + 1 + 1, 2, none⟩ = some (.func (.func 140) #[] #[]) := by
    rw [hW3]
    exact facts7 w _ _ _ _ _ _ _ _ _ ht
  have HB3 : Hid (Below w.heap.size w W3) := by
    rw [hW3]
    exact (((Below.refl _ _).alloc (Nat.le_refl _) _).alloc (by simp) _).alloc (by simp; omega) _
  rw [← hW3]
  clear hW3
  have HC2 : Hid (Clo 140 ⟨2, n.w, n.k, n.a, n.b, n.c⟩ W a b c v) := by
    have := HC.out
    rw [show n = ⟨n.op, n.w, n.k, n.a, n.b, n.c⟩ from rfl, hop] at this
    exact this
  go_region_held (fun w' => w'.cell? ⟨w.heap.size, 0, none⟩ = some (.int .i64 2) ∧ w'.cell? ⟨w.heap.size, 1, none⟩ = some (.int .i64 n.w) ∧ w'.cell? ⟨w.heap.size, 2, none⟩ = some (.int .i64 n.k) ∧ w'.cell? ⟨w.heap.size, 3, none⟩ = some (.int .i64 n.a) ∧ w'.cell? ⟨w.heap.size, 4, none⟩ = some (.int .i64 n.b) ∧ w'.cell? ⟨w.heap.size, 5, none⟩ = some (.int .i64 n.c) ∧ w'.cell? ⟨w.heap.size + 1 + 1, 2, none⟩ = some (.func (.func 140) #[] #[])) ((first | exact HS | exact kept7 (W := W3.drew) HS hb4)) ((go_at_call 140; refine (HC2.out _).mono ?_; rintro e w4 ⟨rfl, hb4⟩; have HB4 : Hid (Below w.heap.size w w4) := HB3.out.drew.trans (hb4.mono HB3.out.size)))
  go_wp2
  go_ret
  exact ⟨rfl, HB4.out⟩

set_option maxRecDepth 100000 in
set_option maxHeartbeats 1000000 in
theorem i3 {n : Nd} {W a b c v : Int} (w : World) (h : Rg n W a b c) (hop : n.op = 3) (hC : Clo 142 n W a b c v) : iApp n W a b c v w := by
  obtain ⟨h1, h2, h3, h4, h5⟩ := h
  have HC : Hid (Clo 142 n W a b c v) := hC
  clear hC
  have ht : tab[3]'(by decide) = .func (.func 142) #[] #[] := rfl
  have hts : tab.size = 19 := rfl
  have hef := eql_func
  unfold iApp
  go_enter Try.func112, Try.ntmps112
  go_wp2_with (first | (go_at_call 126; refine (iWidthOk _ _).mono ?_; rintro e w' ⟨rfl, rfl⟩) | (go_at_call 133; refine (byteOk _ _).mono ?_; rintro e w' ⟨rfl, rfl⟩) | (go_at_call 134; refine (operators _).mono ?_; rintro e w' ⟨rfl, rfl⟩) | refine store_new _ rfl 126 (.tmp 11) (.tmp 36) rfl _ tab _ rfl (by simp) rfl sizeTab rfl oneTab ?_)
  obtain ⟨W3, hW3⟩ : ∃ W3 : World, W3 = ((w.alloc (.cells #[.int .i64 3, .int .i64 n.w, .int .i64 n.k, .int .i64 n.a, .int .i64 n.b, .int .i64 n.c] 55)).alloc (.cells tab 126)).alloc (.cells tab 126) := ⟨_, rfl⟩
  have HS : W3.cell? ⟨w.heap.size, 0, none⟩ = some (.int .i64 3) ∧ W3.cell? ⟨w.heap.size, 1, none⟩ = some (.int .i64 n.w) ∧ W3.cell? ⟨w.heap.size, 2, none⟩ = some (.int .i64 n.k) ∧ W3.cell? ⟨w.heap.size, 3, none⟩ = some (.int .i64 n.a) ∧ W3.cell? ⟨w.heap.size, 4, none⟩ = some (.int .i64 n.b) ∧ W3.cell? ⟨w.heap.size, 5, none⟩ = some (.int .i64 n.c) ∧ W3.cell? ⟨w.heap.size + 1 + 1, 3, none⟩ = some (.func (.func 142) #[] #[]) := by
    rw [hW3]
    exact facts7 w _ _ _ _ _ _ _ _ _ ht
  have HB3 : Hid (Below w.heap.size w W3) := by
    rw [hW3]
    exact (((Below.refl _ _).alloc (Nat.le_refl _) _).alloc (by simp) _).alloc (by simp; omega) _
  rw [← hW3]
  clear hW3
  have HC2 : Hid (Clo 142 ⟨3, n.w, n.k, n.a, n.b, n.c⟩ W a b c v) := by
    have := HC.out
    rw [show n = ⟨n.op, n.w, n.k, n.a, n.b, n.c⟩ from rfl, hop] at this
    exact this
  go_region_held (fun w' => w'.cell? ⟨w.heap.size, 0, none⟩ = some (.int .i64 3) ∧ w'.cell? ⟨w.heap.size, 1, none⟩ = some (.int .i64 n.w) ∧ w'.cell? ⟨w.heap.size, 2, none⟩ = some (.int .i64 n.k) ∧ w'.cell? ⟨w.heap.size, 3, none⟩ = some (.int .i64 n.a) ∧ w'.cell? ⟨w.heap.size, 4, none⟩ = some (.int .i64 n.b) ∧ w'.cell? ⟨w.heap.size, 5, none⟩ = some (.int .i64 n.c) ∧ w'.cell? ⟨w.heap.size + 1 + 1, 3, none⟩ = some (.func (.func 142) #[] #[])) ((first | exact HS | exact kept7 (W := W3.drew) HS hb4)) ((go_at_call 142; refine (HC2.out _).mono ?_; rintro e w4 ⟨rfl, hb4⟩; have HB4 : Hid (Below w.heap.size w w4) := HB3.out.drew.trans (hb4.mono HB3.out.size)))
  go_wp2
  go_ret
  exact ⟨rfl, HB4.out⟩

set_option maxRecDepth 100000 in
set_option maxHeartbeats 1000000 in
theorem i4 {n : Nd} {W a b c v : Int} (w : World) (h : Rg n W a b c) (hop : n.op = 4) (hC : Clo 143 n W a b c v) : iApp n W a b c v w := by
  obtain ⟨h1, h2, h3, h4, h5⟩ := h
  have HC : Hid (Clo 143 n W a b c v) := hC
  clear hC
  have ht : tab[4]'(by decide) = .func (.func 143) #[] #[] := rfl
  have hts : tab.size = 19 := rfl
  have hef := eql_func
  unfold iApp
  go_enter Try.func112, Try.ntmps112
  go_wp2_with (first | (go_at_call 126; refine (iWidthOk _ _).mono ?_; rintro e w' ⟨rfl, rfl⟩) | (go_at_call 133; refine (byteOk _ _).mono ?_; rintro e w' ⟨rfl, rfl⟩) | (go_at_call 134; refine (operators _).mono ?_; rintro e w' ⟨rfl, rfl⟩) | refine store_new _ rfl 126 (.tmp 11) (.tmp 36) rfl _ tab _ rfl (by simp) rfl sizeTab rfl oneTab ?_)
  obtain ⟨W3, hW3⟩ : ∃ W3 : World, W3 = ((w.alloc (.cells #[.int .i64 4, .int .i64 n.w, .int .i64 n.k, .int .i64 n.a, .int .i64 n.b, .int .i64 n.c] 55)).alloc (.cells tab 126)).alloc (.cells tab 126) := ⟨_, rfl⟩
  have HS : W3.cell? ⟨w.heap.size, 0, none⟩ = some (.int .i64 4) ∧ W3.cell? ⟨w.heap.size, 1, none⟩ = some (.int .i64 n.w) ∧ W3.cell? ⟨w.heap.size, 2, none⟩ = some (.int .i64 n.k) ∧ W3.cell? ⟨w.heap.size, 3, none⟩ = some (.int .i64 n.a) ∧ W3.cell? ⟨w.heap.size, 4, none⟩ = some (.int .i64 n.b) ∧ W3.cell? ⟨w.heap.size, 5, none⟩ = some (.int .i64 n.c) ∧ W3.cell? ⟨w.heap.size + 1 + 1, 4, none⟩ = some (.func (.func 143) #[] #[]) := by
    rw [hW3]
    exact facts7 w _ _ _ _ _ _ _ _ _ ht
  have HB3 : Hid (Below w.heap.size w W3) := by
    rw [hW3]
    exact (((Below.refl _ _).alloc (Nat.le_refl _) _).alloc (by simp) _).alloc (by simp; omega) _
  rw [← hW3]
  clear hW3
  have HC2 : Hid (Clo 143 ⟨4, n.w, n.k, n.a, n.b, n.c⟩ W a b c v) := by
    have := HC.out
    rw [show n = ⟨n.op, n.w, n.k, n.a, n.b, n.c⟩ from rfl, hop] at this
    exact this
  go_region_held (fun w' => w'.cell? ⟨w.heap.size, 0, none⟩ = some (.int .i64 4) ∧ w'.cell? ⟨w.heap.size, 1, none⟩ = some (.int .i64 n.w) ∧ w'.cell? ⟨w.heap.size, 2, none⟩ = some (.int .i64 n.k) ∧ w'.cell? ⟨w.heap.size, 3, none⟩ = some (.int .i64 n.a) ∧ w'.cell? ⟨w.heap.size, 4, none⟩ = some (.int .i64 n.b) ∧ w'.cell? ⟨w.heap.size, 5, none⟩ = some (.int .i64 n.c) ∧ w'.cell? ⟨w.heap.size + 1 + 1, 4, none⟩ = some (.func (.func 143) #[] #[])) ((first | exact HS | exact kept7 (W := W3.drew) HS hb4)) ((go_at_call 143; refine (HC2.out _).mono ?_; rintro e w4 ⟨rfl, hb4⟩; have HB4 : Hid (Below w.heap.size w w4) := HB3.out.drew.trans (hb4.mono HB3.out.size)))
  go_wp2
  go_ret
  exact ⟨rfl, HB4.out⟩

set_option maxRecDepth 100000 in
set_option maxHeartbeats 1000000 in
theorem i5 {n : Nd} {W a b c v : Int} (w : World) (h : Rg n W a b c) (hop : n.op = 5) (hC : Clo 144 n W a b c v) : iApp n W a b c v w := by
  obtain ⟨h1, h2, h3, h4, h5⟩ := h
  have HC : Hid (Clo 144 n W a b c v) := hC
  clear hC
  have ht : tab[5]'(by decide) = .func (.func 144) #[] #[] := rfl
  have hts : tab.size = 19 := rfl
  have hef := eql_func
  unfold iApp
  go_enter Try.func112, Try.ntmps112
  go_wp2_with (first | (go_at_call 126; refine (iWidthOk _ _).mono ?_; rintro e w' ⟨rfl, rfl⟩) | (go_at_call 133; refine (byteOk _ _).mono ?_; rintro e w' ⟨rfl, rfl⟩) | (go_at_call 134; refine (operators _).mono ?_; rintro e w' ⟨rfl, rfl⟩) | refine store_new _ rfl 126 (.tmp 11) (.tmp 36) rfl _ tab _ rfl (by simp) rfl sizeTab rfl oneTab ?_)
  obtain ⟨W3, hW3⟩ : ∃ W3 : World, W3 = ((w.alloc (.cells #[.int .i64 5, .int .i64 n.w, .int .i64 n.k, .int .i64 n.a, .int .i64 n.b, .int .i64 n.c] 55)).alloc (.cells tab 126)).alloc (.cells tab 126) := ⟨_, rfl⟩
  have HS : W3.cell? ⟨w.heap.size, 0, none⟩ = some (.int .i64 5) ∧ W3.cell? ⟨w.heap.size, 1, none⟩ = some (.int .i64 n.w) ∧ W3.cell? ⟨w.heap.size, 2, none⟩ = some (.int .i64 n.k) ∧ W3.cell? ⟨w.heap.size, 3, none⟩ = some (.int .i64 n.a) ∧ W3.cell? ⟨w.heap.size, 4, none⟩ = some (.int .i64 n.b) ∧ W3.cell? ⟨w.heap.size, 5, none⟩ = some (.int .i64 n.c) ∧ W3.cell? ⟨w.heap.size + 1 + 1, 5, none⟩ = some (.func (.func 144) #[] #[]) := by
    rw [hW3]
    exact facts7 w _ _ _ _ _ _ _ _ _ ht
  have HB3 : Hid (Below w.heap.size w W3) := by
    rw [hW3]
    exact (((Below.refl _ _).alloc (Nat.le_refl _) _).alloc (by simp) _).alloc (by simp; omega) _
  rw [← hW3]
  clear hW3
  have HC2 : Hid (Clo 144 ⟨5, n.w, n.k, n.a, n.b, n.c⟩ W a b c v) := by
    have := HC.out
    rw [show n = ⟨n.op, n.w, n.k, n.a, n.b, n.c⟩ from rfl, hop] at this
    exact this
  go_region_held (fun w' => w'.cell? ⟨w.heap.size, 0, none⟩ = some (.int .i64 5) ∧ w'.cell? ⟨w.heap.size, 1, none⟩ = some (.int .i64 n.w) ∧ w'.cell? ⟨w.heap.size, 2, none⟩ = some (.int .i64 n.k) ∧ w'.cell? ⟨w.heap.size, 3, none⟩ = some (.int .i64 n.a) ∧ w'.cell? ⟨w.heap.size, 4, none⟩ = some (.int .i64 n.b) ∧ w'.cell? ⟨w.heap.size, 5, none⟩ = some (.int .i64 n.c) ∧ w'.cell? ⟨w.heap.size + 1 + 1, 5, none⟩ = some (.func (.func 144) #[] #[])) ((first | exact HS | exact kept7 (W := W3.drew) HS hb4)) ((go_at_call 144; refine (HC2.out _).mono ?_; rintro e w4 ⟨rfl, hb4⟩; have HB4 : Hid (Below w.heap.size w w4) := HB3.out.drew.trans (hb4.mono HB3.out.size)))
  go_wp2
  go_ret
  exact ⟨rfl, HB4.out⟩

set_option maxRecDepth 100000 in
set_option maxHeartbeats 1000000 in
theorem i6 {n : Nd} {W a b c v : Int} (w : World) (h : Rg n W a b c) (hop : n.op = 6) (hC : Clo 145 n W a b c v) : iApp n W a b c v w := by
  obtain ⟨h1, h2, h3, h4, h5⟩ := h
  have HC : Hid (Clo 145 n W a b c v) := hC
  clear hC
  have ht : tab[6]'(by decide) = .func (.func 145) #[] #[] := rfl
  have hts : tab.size = 19 := rfl
  have hef := eql_func
  unfold iApp
  go_enter Try.func112, Try.ntmps112
  go_wp2_with (first | (go_at_call 126; refine (iWidthOk _ _).mono ?_; rintro e w' ⟨rfl, rfl⟩) | (go_at_call 133; refine (byteOk _ _).mono ?_; rintro e w' ⟨rfl, rfl⟩) | (go_at_call 134; refine (operators _).mono ?_; rintro e w' ⟨rfl, rfl⟩) | refine store_new _ rfl 126 (.tmp 11) (.tmp 36) rfl _ tab _ rfl (by simp) rfl sizeTab rfl oneTab ?_)
  obtain ⟨W3, hW3⟩ : ∃ W3 : World, W3 = ((w.alloc (.cells #[.int .i64 6, .int .i64 n.w, .int .i64 n.k, .int .i64 n.a, .int .i64 n.b, .int .i64 n.c] 55)).alloc (.cells tab 126)).alloc (.cells tab 126) := ⟨_, rfl⟩
  have HS : W3.cell? ⟨w.heap.size, 0, none⟩ = some (.int .i64 6) ∧ W3.cell? ⟨w.heap.size, 1, none⟩ = some (.int .i64 n.w) ∧ W3.cell? ⟨w.heap.size, 2, none⟩ = some (.int .i64 n.k) ∧ W3.cell? ⟨w.heap.size, 3, none⟩ = some (.int .i64 n.a) ∧ W3.cell? ⟨w.heap.size, 4, none⟩ = some (.int .i64 n.b) ∧ W3.cell? ⟨w.heap.size, 5, none⟩ = some (.int .i64 n.c) ∧ W3.cell? ⟨w.heap.size + 1 + 1, 6, none⟩ = some (.func (.func 145) #[] #[]) := by
    rw [hW3]
    exact facts7 w _ _ _ _ _ _ _ _ _ ht
  have HB3 : Hid (Below w.heap.size w W3) := by
    rw [hW3]
    exact (((Below.refl _ _).alloc (Nat.le_refl _) _).alloc (by simp) _).alloc (by simp; omega) _
  rw [← hW3]
  clear hW3
  have HC2 : Hid (Clo 145 ⟨6, n.w, n.k, n.a, n.b, n.c⟩ W a b c v) := by
    have := HC.out
    rw [show n = ⟨n.op, n.w, n.k, n.a, n.b, n.c⟩ from rfl, hop] at this
    exact this
  go_region_held (fun w' => w'.cell? ⟨w.heap.size, 0, none⟩ = some (.int .i64 6) ∧ w'.cell? ⟨w.heap.size, 1, none⟩ = some (.int .i64 n.w) ∧ w'.cell? ⟨w.heap.size, 2, none⟩ = some (.int .i64 n.k) ∧ w'.cell? ⟨w.heap.size, 3, none⟩ = some (.int .i64 n.a) ∧ w'.cell? ⟨w.heap.size, 4, none⟩ = some (.int .i64 n.b) ∧ w'.cell? ⟨w.heap.size, 5, none⟩ = some (.int .i64 n.c) ∧ w'.cell? ⟨w.heap.size + 1 + 1, 6, none⟩ = some (.func (.func 145) #[] #[])) ((first | exact HS | exact kept7 (W := W3.drew) HS hb4)) ((go_at_call 145; refine (HC2.out _).mono ?_; rintro e w4 ⟨rfl, hb4⟩; have HB4 : Hid (Below w.heap.size w w4) := HB3.out.drew.trans (hb4.mono HB3.out.size)))
  go_wp2
  go_ret
  exact ⟨rfl, HB4.out⟩

end Go.Proofs.Ytnkkigoeffghdaa.Pw1
