/- The walk of the program's Apply at some of its operators. -/
import Derived.Test.YtejgcchkhljnjaaGreatPkFO44
namespace Go.Proofs.YtejgcchkhljnjaaGreat.Pw2
open Go.RowKit
open Nd0 Pl1 Pl2 Vl1 Vl2 Bt0 Wd1 Wd2 Wd3 Wd4 Wd5 Ic4 Pv1 Pv3
open Sv1 (Rg below1)
set_option linter.unusedVariables false

set_option maxRecDepth 100000 in
set_option maxHeartbeats 1000000 in
theorem i7 {n : Nd} {W a b c v : Int} (w : World) (h : Rg n W a b c) (hop : n.op = 7) (hC : Clo 171 n W a b c v) : iApp n W a b c v w := by
  obtain ⟨h1, h2, h3, h4, h5⟩ := h
  have HC : Hid (Clo 171 n W a b c v) := hC
  clear hC
  have ht : tab[7]'(by decide) = .func (.func 171) #[] #[] := rfl
  have hts : tab.size = 19 := rfl
  have hef := eql_func
  unfold iApp
  go_enter Tryz.func98, Tryz.ntmps98
  go_wp2_with (first | (go_at_call 140; refine (iWidthOk _ _).mono ?_; rintro e w' ⟨rfl, rfl⟩) | (go_at_call 145; refine (byteOk _ _).mono ?_; rintro e w' ⟨rfl, rfl⟩) | (go_at_call 146; refine (operators _).mono ?_; rintro e w' ⟨rfl, rfl⟩) | refine store_new _ rfl 144 (.tmp 11) (.tmp 36) rfl _ tab _ rfl (by simp) rfl sizeTab rfl oneTab ?_)
  obtain ⟨W3, hW3⟩ : ∃ W3 : World, W3 = ((w.alloc (.cells #[.int .i64 7, .int .i64 n.w, .int .i64 n.k, .int .i64 n.a, .int .i64 n.b, .int .i64 n.c] 53)).alloc (.cells tab 144)).alloc (.cells tab 144) := ⟨_, rfl⟩
  have HS : W3.cell? ⟨w.heap.size, 0, none⟩ = some (.int .i64 7) ∧ W3.cell? ⟨w.heap.size, 1, none⟩ = some (.int .i64 n.w) ∧ W3.cell? ⟨w.heap.size, 2, none⟩ = some (.int .i64 n.k) ∧ W3.cell? ⟨w.heap.size, 3, none⟩ = some (.int .i64 n.a) ∧ W3.cell? ⟨w.heap.size, 4, none⟩ = some (.int .i64 n.b) ∧ W3.cell? ⟨w.heap.size, 5, none⟩ = some (.int .i64 n.c) ∧ W3.cell? ⟨w.heap.size + 1 + 1, 7, none⟩ = some (.func (.func 171) #[] #[]) := by
    rw [hW3]
    exact facts7 w _ _ _ _ _ _ _ _ _ ht
  have HB3 : Hid (Below w.heap.size w W3) := by
    rw [hW3]
    exact (((Below.refl _ _).alloc (Nat.le_refl _) _).alloc (by simp) _).alloc (by simp; omega) _
  rw [← hW3]
  clear hW3
  have HC2 : Hid (Clo 171 ⟨7, n.w, n.k, n.a, n.b, n.c⟩ W a b c v) := by
    have := HC.out
    rw [show n = ⟨n.op, n.w, n.k, n.a, n.b, n.c⟩ from rfl, hop] at this
    exact this
  go_region_held (fun w' => w'.cell? ⟨w.heap.size, 0, none⟩ = some (.int .i64 7) ∧ w'.cell? ⟨w.heap.size, 1, none⟩ = some (.int .i64 n.w) ∧ w'.cell? ⟨w.heap.size, 2, none⟩ = some (.int .i64 n.k) ∧ w'.cell? ⟨w.heap.size, 3, none⟩ = some (.int .i64 n.a) ∧ w'.cell? ⟨w.heap.size, 4, none⟩ = some (.int .i64 n.b) ∧ w'.cell? ⟨w.heap.size, 5, none⟩ = some (.int .i64 n.c) ∧ w'.cell? ⟨w.heap.size + 1 + 1, 7, none⟩ = some (.func (.func 171) #[] #[])) ((first | exact HS | exact kept7 (W := W3.drew) HS hb4)) ((go_at_call 171; refine (HC2.out _).mono ?_; rintro e w4 ⟨rfl, hb4⟩; have HB4 : Hid (Below w.heap.size w w4) := HB3.out.drew.trans (hb4.mono HB3.out.size)))
  go_wp2
  go_ret
  exact ⟨rfl, HB4.out⟩

set_option maxRecDepth 100000 in
set_option maxHeartbeats 1000000 in
theorem i8 {n : Nd} {W a b c v : Int} (w : World) (h : Rg n W a b c) (hop : n.op = 8) (hC : Clo 173 n W a b c v) : iApp n W a b c v w := by
  obtain ⟨h1, h2, h3, h4, h5⟩ := h
  have HC : Hid (Clo 173 n W a b c v) := hC
  clear hC
  have ht : tab[8]'(by decide) = .func (.func 173) #[] #[] := rfl
  have hts : tab.size = 19 := rfl
  have hef := eql_func
  unfold iApp
  go_enter Tryz.func98, Tryz.ntmps98
  go_wp2_with (first | (go_at_call 140; refine (iWidthOk _ _).mono ?_; rintro e w' ⟨rfl, rfl⟩) | (go_at_call 145; refine (byteOk _ _).mono ?_; rintro e w' ⟨rfl, rfl⟩) | (go_at_call 146; refine (operators _).mono ?_; rintro e w' ⟨rfl, rfl⟩) | refine store_new _ rfl 144 (.tmp 11) (.tmp 36) rfl _ tab _ rfl (by simp) rfl sizeTab rfl oneTab ?_)
  obtain ⟨W3, hW3⟩ : ∃ W3 : World, W3 = ((w.alloc (.cells #[.int .i64 8, .int .i64 n.w, .int .i64 n.k, .int .i64 n.a, .int .i64 n.b, .int .i64 n.c] 53)).alloc (.cells tab 144)).alloc (.cells tab 144) := ⟨_, rfl⟩
  have HS : W3.cell? ⟨w.heap.size, 0, none⟩ = some (.int .i64 8) ∧ W3.cell? ⟨w.heap.size, 1, none⟩ = some (.int .i64 n.w) ∧ W3.cell? ⟨w.heap.size, 2, none⟩ = some (.int .i64 n.k) ∧ W3.cell? ⟨w.heap.size, 3, none⟩ = some (.int .i64 n.a) ∧ W3.cell? ⟨w.heap.size, 4, none⟩ = some (.int .i64 n.b) ∧ W3.cell? ⟨w.heap.size, 5, none⟩ = some (.int .i64 n.c) ∧ W3.cell? ⟨w.heap.size + 1 + 1, 8, none⟩ = some (.func (.func 173) #[] #[]) := by
    rw [hW3]
    exact facts7 w _ _ _ _ _ _ _ _ _ ht
  have HB3 : Hid (Below w.heap.size w W3) := by
    rw [hW3]
    exact (((Below.refl _ _).alloc (Nat.le_refl _) _).alloc (by simp) _).alloc (by simp; omega) _
  rw [← hW3]
  clear hW3
  have HC2 : Hid (Clo 173 ⟨8, n.w, n.k, n.a, n.b, n.c⟩ W a b c v) := by
    have := HC.out
    rw [show n = ⟨n.op, n.w, n.k, n.a, n.b, n.c⟩ from rfl, hop] at this
    exact this
  go_region_held (fun w' => w'.cell? ⟨w.heap.size, 0, none⟩ = some (.int .i64 8) ∧ w'.cell? ⟨w.heap.size, 1, none⟩ = some (.int .i64 n.w) ∧ w'.cell? ⟨w.heap.size, 2, none⟩ = some (.int .i64 n.k) ∧ w'.cell? ⟨w.heap.size, 3, none⟩ = some (.int .i64 n.a) ∧ w'.cell? ⟨w.heap.size, 4, none⟩ = some (.int .i64 n.b) ∧ w'.cell? ⟨w.heap.size, 5, none⟩ = some (.int .i64 n.c) ∧ w'.cell? ⟨w.heap.size + 1 + 1, 8, none⟩ = some (.func (.func 173) #[] #[])) ((first | exact HS | exact kept7 (W := W3.drew) HS hb4)) ((go_at_call 173; refine (HC2.out _).mono ?_; rintro e w4 ⟨rfl, hb4⟩; have HB4 : Hid (Below w.heap.size w w4) := HB3.out.drew.trans (hb4.mono HB3.out.size)))
  go_wp2
  go_ret
  exact ⟨rfl, HB4.out⟩

set_option maxRecDepth 100000 in
set_option maxHeartbeats 1000000 in
theorem i9 {n : Nd} {W a b c v : Int} (w : World) (h : Rg n W a b c) (hop : n.op = 9) (hC : Clo 175 n W a b c v) : iApp n W a b c v w := by
  obtain ⟨h1, h2, h3, h4, h5⟩ := h
  have HC : Hid (Clo 175 n W a b c v) := hC
  clear hC
  have ht : tab[9]'(by decide) = .func (.func 175) #[] #[] := rfl
  have hts : tab.size = 19 := rfl
  have hef := eql_func
  unfold iApp
  go_enter Tryz.func98, Tryz.ntmps98
  go_wp2_with (first | (go_at_call 140; refine (iWidthOk _ _).mono ?_; rintro e w' ⟨rfl, rfl⟩) | (go_at_call 145; refine (byteOk _ _).mono ?_; rintro e w' ⟨rfl, rfl⟩) | (go_at_call 146; refine (operators _).mono ?_; rintro e w' ⟨rfl, rfl⟩) | refine store_new _ rfl 144 (.tmp 11) (.tmp 36) rfl _ tab _ rfl (by simp) rfl sizeTab rfl oneTab ?_)
  obtain ⟨W3, hW3⟩ : ∃ W3 : World, W3 = ((w.alloc (.cells #[.int .i64 9, .int .i64 n.w, .int .i64 n.k, .int .i64 n.a, .int .i64 n.b, .int .i64 n.c] 53)).alloc (.cells tab 144)).alloc (.cells tab 144) := ⟨_, rfl⟩
  have HS : W3.cell? ⟨w.heap.size, 0, none⟩ = some (.int .i64 9) ∧ W3.cell? ⟨w.heap.size, 1, none⟩ = some (.int .i64 n.w) ∧ W3.cell? ⟨w.heap.size, 2, none⟩ = some (.int .i64 n.k) ∧ W3.cell? ⟨w.heap.size, 3, none⟩ = some (.int .i64 n.a) ∧ W3.cell? ⟨w.heap.size, 4, none⟩ = some (.int .i64 n.b) ∧ W3.cell? ⟨w.heap.size, 5, none⟩ = some (.int .i64 n.c) ∧ W3.cell? ⟨w.heap.size + 1 + 1, 9, none⟩ = some (.func (.func 175) #[] #[]) := by
    rw [hW3]
    exact facts7 w _ _ _ _ _ _ _ _ _ ht
  have HB3 : Hid (Below w.heap.size w W3) := by
    rw [hW3]
    exact (((Below.refl _ _).alloc (Nat.le_refl _) _).alloc (by simp) _).alloc (by simp; omega) _
  rw [← hW3]
  clear hW3
  have HC2 : Hid (Clo 175 ⟨9, n.w, n.k, n.a, n.b, n.c⟩ W a b c v) := by
    have := HC.out
    rw [show n = ⟨n.op, n.w, n.k, n.a, n.b, n.c⟩ from rfl, hop] at this
    exact this
  go_region_held (fun w' => w'.cell? ⟨w.heap.size, 0, none⟩ = some (.int .i64 9) ∧ w'.cell? ⟨w.heap.size, 1, none⟩ = some (.int .i64 n.w) ∧ w'.cell? ⟨w.heap.size, 2, none⟩ = some (.int .i64 n.k) ∧ w'.cell? ⟨w.heap.size, 3, none⟩ = some (.int .i64 n.a) ∧ w'.cell? ⟨w.heap.size, 4, none⟩ = some (.int .i64 n.b) ∧ w'.cell? ⟨w.heap.size, 5, none⟩ = some (.int .i64 n.c) ∧ w'.cell? ⟨w.heap.size + 1 + 1, 9, none⟩ = some (.func (.func 175) #[] #[])) ((first | exact HS | exact kept7 (W := W3.drew) HS hb4)) ((go_at_call 175; refine (HC2.out _).mono ?_; rintro e w4 ⟨rfl, hb4⟩; have HB4 : Hid (Below w.heap.size w w4) := HB3.out.drew.trans (hb4.mono HB3.out.size)))
  go_wp2
  go_ret
  exact ⟨rfl, HB4.out⟩

set_option maxRecDepth 100000 in
set_option maxHeartbeats 1000000 in
theorem i10 {n : Nd} {W a b c v : Int} (w : World) (h : Rg n W a b c) (hop : n.op = 10) (hC : Clo 177 n W a b c v) : iApp n W a b c v w := by
  obtain ⟨h1, h2, h3, h4, h5⟩ := h
  have HC : Hid (Clo 177 n W a b c v) := hC
  clear hC
  have ht : tab[10]'(by decide) = .func (.func 177) #[] #[] := rfl
  have hts : tab.size = 19 := rfl
  have hef := eql_func
  unfold iApp
  go_enter Tryz.func98, Tryz.ntmps98
  go_wp2_with (first | (go_at_call 140; refine (iWidthOk _ _).mono ?_; rintro e w' ⟨rfl, rfl⟩) | (go_at_call 145; refine (byteOk _ _).mono ?_; rintro e w' ⟨rfl, rfl⟩) | (go_at_call 146; refine (operators _).mono ?_; rintro e w' ⟨rfl, rfl⟩) | refine store_new _ rfl 144 (.tmp 11) (.tmp 36) rfl _ tab _ rfl (by simp) rfl sizeTab rfl oneTab ?_)
  obtain ⟨W3, hW3⟩ : ∃ W3 : World, W3 = ((w.alloc (.cells #[.int .i64 10, .int .i64 n.w, .int .i64 n.k, .int .i64 n.a, .int .i64 n.b, .int .i64 n.c] 53)).alloc (.cells tab 144)).alloc (.cells tab 144) := ⟨_, rfl⟩
  have HS : W3.cell? ⟨w.heap.size, 0, none⟩ = some (.int .i64 10) ∧ W3.cell? ⟨w.heap.size, 1, none⟩ = some (.int .i64 n.w) ∧ W3.cell? ⟨w.heap.size, 2, none⟩ = some (.int .i64 n.k) ∧ W3.cell? ⟨w.heap.size, 3, none⟩ = some (.int .i64 n.a) ∧ W3.cell? ⟨w.heap.size, 4, none⟩ = some (.int .i64 n.b) ∧ W3.cell? ⟨w.heap.size, 5, none⟩ = some (.int .i64 n.c) ∧ W3.cell? ⟨w.heap.size + 1 + 1, 10, none⟩ = some (.func (.func 177) #[] #[]) := by
    rw [hW3]
    exact facts7 w _ _ _ _ _ _ _ _ _ ht
  have HB3 : Hid (Below w.heap.size w W3) := by
    rw [hW3]
    exact (((Below.refl _ _).alloc (Nat.le_refl _) _).alloc (by simp) _).alloc (by simp; omega) _
  rw [← hW3]
  clear hW3
  have HC2 : Hid (Clo 177 ⟨10, n.w, n.k, n.a, n.b, n.c⟩ W a b c v) := by
    have := HC.out
    rw [show n = ⟨n.op, n.w, n.k, n.a, n.b, n.c⟩ from rfl, hop] at this
    exact this
  go_region_held (fun w' => w'.cell? ⟨w.heap.size, 0, none⟩ = some (.int .i64 10) ∧ w'.cell? ⟨w.heap.size, 1, none⟩ = some (.int .i64 n.w) ∧ w'.cell? ⟨w.heap.size, 2, none⟩ = some (.int .i64 n.k) ∧ w'.cell? ⟨w.heap.size, 3, none⟩ = some (.int .i64 n.a) ∧ w'.cell? ⟨w.heap.size, 4, none⟩ = some (.int .i64 n.b) ∧ w'.cell? ⟨w.heap.size, 5, none⟩ = some (.int .i64 n.c) ∧ w'.cell? ⟨w.heap.size + 1 + 1, 10, none⟩ = some (.func (.func 177) #[] #[])) ((first | exact HS | exact kept7 (W := W3.drew) HS hb4)) ((go_at_call 177; refine (HC2.out _).mono ?_; rintro e w4 ⟨rfl, hb4⟩; have HB4 : Hid (Below w.heap.size w w4) := HB3.out.drew.trans (hb4.mono HB3.out.size)))
  go_wp2
  go_ret
  exact ⟨rfl, HB4.out⟩

set_option maxRecDepth 100000 in
set_option maxHeartbeats 1000000 in
theorem i11 {n : Nd} {W a b c v : Int} (w : World) (h : Rg n W a b c) (hop : n.op = 11) (hC : Clo 179 n W a b c v) : iApp n W a b c v w := by
  obtain ⟨h1, h2, h3, h4, h5⟩ := h
  have HC : Hid (Clo 179 n W a b c v) := hC
  clear hC
  have ht : tab[11]'(by decide) = .func (.func 179) #[] #[] := rfl
  have hts : tab.size = 19 := rfl
  have hef := eql_func
  unfold iApp
  go_enter Tryz.func98, Tryz.ntmps98
  go_wp2_with (first | (go_at_call 140; refine (iWidthOk _ _).mono ?_; rintro e w' ⟨rfl, rfl⟩) | (go_at_call 145; refine (byteOk _ _).mono ?_; rintro e w' ⟨rfl, rfl⟩) | (go_at_call 146; refine (operators _).mono ?_; rintro e w' ⟨rfl, rfl⟩) | refine store_new _ rfl 144 (.tmp 11) (.tmp 36) rfl _ tab _ rfl (by simp) rfl sizeTab rfl oneTab ?_)
  obtain ⟨W3, hW3⟩ : ∃ W3 : World, W3 = ((w.alloc (.cells #[.int .i64 11, .int .i64 n.w, .int .i64 n.k, .int .i64 n.a, .int .i64 n.b, .int .i64 n.c] 53)).alloc (.cells tab 144)).alloc (.cells tab 144) := ⟨_, rfl⟩
  have HS : W3.cell? ⟨w.heap.size, 0, none⟩ = some (.int .i64 11) ∧ W3.cell? ⟨w.heap.size, 1, none⟩ = some (.int .i64 n.w) ∧ W3.cell? ⟨w.heap.size, 2, none⟩ = some (.int .i64 n.k) ∧ W3.cell? ⟨w.heap.size, 3, none⟩ = some (.int .i64 n.a) ∧ W3.cell? ⟨w.heap.size, 4, none⟩ = some (.int .i64 n.b) ∧ W3.cell? ⟨w.heap.size, 5, none⟩ = some (.int .i64 n.c) ∧ W3.cell? ⟨w.heap.size + 1 + 1, 11, none⟩ = some (.func (.func 179) #[] #[]) := by
    rw [hW3]
    exact facts7 w _ _ _ _ _ _ _ _ _ ht
  have HB3 : Hid (Below w.heap.size w W3) := by
    rw [hW3]
    exact (((Below.refl _ _).alloc (Nat.le_refl _) _).alloc (by simp) _).alloc (by simp; omega) _
  rw [← hW3]
  clear hW3
  have HC2 : Hid (Clo 179 ⟨11, n.w, n.k, n.a, n.b, n.c⟩ W a b c v) := by
    have := HC.out
    rw [show n = ⟨n.op, n.w, n.k, n.a, n.b, n.c⟩ from rfl, hop] at this
    exact this
  go_region_held (fun w' => w'.cell? ⟨w.heap.size, 0, none⟩ = some (.int .i64 11) ∧ w'.cell? ⟨w.heap.size, 1, none⟩ = some (.int .i64 n.w) ∧ w'.cell? ⟨w.heap.size, 2, none⟩ = some (.int .i64 n.k) ∧ w'.cell? ⟨w.heap.size, 3, none⟩ = some (.int .i64 n.a) ∧ w'.cell? ⟨w.heap.size, 4, none⟩ = some (.int .i64 n.b) ∧ w'.cell? ⟨w.heap.size, 5, none⟩ = some (.int .i64 n.c) ∧ w'.cell? ⟨w.heap.size + 1 + 1, 11, none⟩ = some (.func (.func 179) #[] #[])) ((first | exact HS | exact kept7 (W := W3.drew) HS hb4)) ((go_at_call 179; refine (HC2.out _).mono ?_; rintro e w4 ⟨rfl, hb4⟩; have HB4 : Hid (Below w.heap.size w w4) := HB3.out.drew.trans (hb4.mono HB3.out.size)))
  go_wp2
  go_ret
  exact ⟨rfl, HB4.out⟩

set_option maxRecDepth 100000 in
set_option maxHeartbeats 1000000 in
theorem i12 {n : Nd} {W a b c v : Int} (w : World) (h : Rg n W a b c) (hop : n.op = 12) (hC : Clo 181 n W a b c v) : iApp n W a b c v w := by
  obtain ⟨h1, h2, h3, h4, h5⟩ := h
  have HC : Hid (Clo 181 n W a b c v) := hC
  clear hC
  have ht : tab[12]'(by decide) = .func (.func 181) #[] #[] := rfl
  have hts : tab.size = 19 := rfl
  have hef := eql_func
  unfold iApp
  go_enter Tryz.func98, Tryz.ntmps98
  go_wp2_with (first | (go_at_call 140; refine (iWidthOk _ _).mono ?_; rintro e w' ⟨rfl, rfl⟩) | (go_at_call 145; refine (byteOk _ _).mono ?_; rintro e w' ⟨rfl, rfl⟩) | (go_at_call 146; refine (operators _).mono ?_; rintro e w' ⟨rfl, rfl⟩) | refine store_new _ rfl 144 (.tmp 11) (.tmp 36) rfl _ tab _ rfl (by simp) rfl sizeTab rfl oneTab ?_)
  obtain ⟨W3, hW3⟩ : ∃ W3 : World, W3 = ((w.alloc (.cells #[.int .i64 12, .int .i64 n.w, .int .i64 n.k, .int .i64 n.a, .int .i64 n.b, .int .i64 n.c] 53)).alloc (.cells tab 144)).alloc (.cells tab 144) := ⟨_, rfl⟩
  have HS : W3.cell? ⟨w.heap.size, 0, none⟩ = some (.int .i64 12) ∧ W3.cell? ⟨w.heap.size, 1, none⟩ = some (.int .i64 n.w) ∧ W3.cell? ⟨w.heap.size, 2, none⟩ = some (.int .i64 n.k) ∧ W3.cell? ⟨w.heap.size, 3, none⟩ = some (.int .i64 n.a) ∧ W3.cell? ⟨w.heap.size, 4, none⟩ = some (.int .i64 n.b) ∧ W3.cell? ⟨w.heap.size, 5, none⟩ = some (.int .i64 n.c) ∧ W3.cell? ⟨w.heap.size + 1 + 1, 12, none⟩ = some (.func (.func 181) #[] #[]) := by
    rw [hW3]
    exact facts7 w _ _ _ _ _ _ _ _ _ ht
  have HB3 : Hid (Below w.heap.size w W3) := by
    rw [hW3]
    exact (((Below.refl _ _).alloc (Nat.le_refl _) _).alloc (by simp) _).alloc (by simp; omega) _
  rw [← hW3]
  clear hW3
  have HC2 : Hid (Clo 181 ⟨12, n.w, n.k, n.a, n.b, n.c⟩ W a b c v) := by
    have := HC.out
    rw [show n = ⟨n.op, n.w, n.k, n.a, n.b, n.c⟩ from rfl, hop] at this
    exact this
  go_region_held (fun w' => w'.cell? ⟨w.heap.size, 0, none⟩ = some (.int .i64 12) ∧ w'.cell? ⟨w.heap.size, 1, none⟩ = some (.int .i64 n.w) ∧ w'.cell? ⟨w.heap.size, 2, none⟩ = some (.int .i64 n.k) ∧ w'.cell? ⟨w.heap.size, 3, none⟩ = some (.int .i64 n.a) ∧ w'.cell? ⟨w.heap.size, 4, none⟩ = some (.int .i64 n.b) ∧ w'.cell? ⟨w.heap.size, 5, none⟩ = some (.int .i64 n.c) ∧ w'.cell? ⟨w.heap.size + 1 + 1, 12, none⟩ = some (.func (.func 181) #[] #[])) ((first | exact HS | exact kept7 (W := W3.drew) HS hb4)) ((go_at_call 181; refine (HC2.out _).mono ?_; rintro e w4 ⟨rfl, hb4⟩; have HB4 : Hid (Below w.heap.size w w4) := HB3.out.drew.trans (hb4.mono HB3.out.size)))
  go_wp2
  go_ret
  exact ⟨rfl, HB4.out⟩

end Go.Proofs.YtejgcchkhljnjaaGreat.Pw2
