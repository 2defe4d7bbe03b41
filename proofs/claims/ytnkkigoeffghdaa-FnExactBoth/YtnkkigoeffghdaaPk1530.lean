/- Small texts of mine, one behind the other. -/
import Derived.Test.YtnkkigoeffghdaaPk1527
import Derived.Test.YtnkkigoeffghdaaWd5
import Derived.Test.YtnkkigoeffghdaaPk1522
/- The walk of the model's Apply. -/
namespace Go.Proofs.Ytnkkigoeffghdaa.Sv1
open Go.RowKit
open Nd0 Pl1 Pl2 Vl1 Vl2 Bt0 Wd1 Wd2 Wd3 Wd4 Wd5
set_option linter.unusedVariables false
/-- What the walk of Apply starts from where all is in range. -/
structure Rg (n : Nd) (W a b c : Int) : Prop where
  h1 : decide (1 ≤ n.w ∧ n.w ≤ 8) = true
  h2 : decide (1 ≤ W ∧ W ≤ 8) = true
  h3 : decide (0 ≤ a ∧ a ≤ 255) = true
  h4 : decide (0 ≤ b ∧ b ≤ 255) = true
  h5 : decide (0 ≤ c ∧ c ≤ 255) = true
def sApp (n : Nd) (W a b c : Int) (w : World) : Prop :=
    Calls Try.prog 66 #[.agg #[.int .i64 n.op, .int .i64 n.w, .int .i64 n.k, .int .i64 n.a, .int .i64 n.b, .int .i64 n.c], .int .i64 W, .int .i64 a, .int .i64 b, .int .i64 c] w fun e w' => e = .returned (.int .i64 (applyL n.op n.w n.k W a b c)) ∧ Below w.heap.size w w'
theorem Rg.eq {n : Nd} {W a b c : Int} (h : Rg n W a b c) : applyL n.op n.w n.k W a b c = opL n.op n.w n.k W a b c := by
  have h1 := of_decide_eq_true h.h1
  have h2 := of_decide_eq_true h.h2
  have h3 := of_decide_eq_true h.h3
  have h4 := of_decide_eq_true h.h4
  have h5 := of_decide_eq_true h.h5
  exact app_in h1 h2 h3 h4 h5
theorem below1 (w : World) (o : Obj) : Below w.heap.size w (w.alloc o) := (Below.refl _ _).alloc (Nat.le_refl _) _

set_option maxHeartbeats 1000000 in
theorem a0 {n : Nd} {W a b c : Int} (w : World) (hk : (Lit.int .i64 n.k).wf = true) (h : Rg n W a b c) (hop : n.op = 0) : sApp n W a b c w := by
  have HV : Hid (applyL n.op n.w n.k W a b c = n.k) := by
    show _ = _
    rw [h.eq, hop]; simp [opL]
  obtain ⟨h1, h2, h3, h4, h5⟩ := h
  have r1 := of_decide_eq_true h1
  have r2 := of_decide_eq_true h2
  have r3 := of_decide_eq_true h3
  have r4 := of_decide_eq_true h4
  have r5 := of_decide_eq_true h5
  unfold sApp
  go_enter Try.func66, Try.ntmps66
  go_wp2_with (first | (go_at_call 70; refine (sIn _ _ _ _).mono ?_; rintro e w' ⟨rfl, rfl⟩))
  go_ret
  exact ⟨ret_int (by rw [HV.out]), below1 _ _⟩

set_option maxHeartbeats 1000000 in
theorem a2 {n : Nd} {W a b c : Int} (w : World) (hk : (Lit.int .i64 n.k).wf = true) (h : Rg n W a b c) (hop : n.op = 2) : sApp n W a b c w := by
  have HV : Hid (applyL n.op n.w n.k W a b c = vFlip n.w a) := by
    show _ = _
    rw [h.eq, hop]; simp [opL]
  obtain ⟨h1, h2, h3, h4, h5⟩ := h
  have r1 := of_decide_eq_true h1
  have r2 := of_decide_eq_true h2
  have r3 := of_decide_eq_true h3
  have r4 := of_decide_eq_true h4
  have r5 := of_decide_eq_true h5
  unfold sApp
  go_enter Try.func66, Try.ntmps66
  go_wp2_with (first | (go_at_call 70; refine (sIn _ _ _ _).mono ?_; rintro e w' ⟨rfl, rfl⟩) | (go_at_call 98; refine (sFlip _ _ _).mono ?_; rintro e w' ⟨rfl, rfl⟩))
  go_ret
  exact ⟨ret_int (by rw [HV.out]), below1 _ _⟩

set_option maxHeartbeats 1000000 in
theorem a3 {n : Nd} {W a b c : Int} (w : World) (hk : (Lit.int .i64 n.k).wf = true) (h : Rg n W a b c) (hop : n.op = 3) : sApp n W a b c w := by
  have HV : Hid (applyL n.op n.w n.k W a b c = nAnd a b) := by
    show _ = _
    rw [h.eq, hop]; simp [opL]
  obtain ⟨h1, h2, h3, h4, h5⟩ := h
  have r1 := of_decide_eq_true h1
  have r2 := of_decide_eq_true h2
  have r3 := of_decide_eq_true h3
  have r4 := of_decide_eq_true h4
  have r5 := of_decide_eq_true h5
  unfold sApp
  have HB : Hid (bits .and .i64 a b = nAnd a b) := band r3 r4
  go_enter Try.func66, Try.ntmps66
  go_wp2_with (first | (go_at_call 70; refine (sIn _ _ _ _).mono ?_; rintro e w' ⟨rfl, rfl⟩))
  go_ret
  exact ⟨ret_int (by rw [HV.out]; first | exact HB.out | exact HB.out.symm), below1 _ _⟩

set_option maxHeartbeats 1000000 in
theorem a4 {n : Nd} {W a b c : Int} (w : World) (hk : (Lit.int .i64 n.k).wf = true) (h : Rg n W a b c) (hop : n.op = 4) : sApp n W a b c w := by
  have HV : Hid (applyL n.op n.w n.k W a b c = nOr a b) := by
    show _ = _
    rw [h.eq, hop]; simp [opL]
  obtain ⟨h1, h2, h3, h4, h5⟩ := h
  have r1 := of_decide_eq_true h1
  have r2 := of_decide_eq_true h2
  have r3 := of_decide_eq_true h3
  have r4 := of_decide_eq_true h4
  have r5 := of_decide_eq_true h5
  unfold sApp
  have HB : Hid (bits .or .i64 a b = nOr a b) := bor r3 r4
  go_enter Try.func66, Try.ntmps66
  go_wp2_with (first | (go_at_call 70; refine (sIn _ _ _ _).mono ?_; rintro e w' ⟨rfl, rfl⟩))
  go_ret
  exact ⟨ret_int (by rw [HV.out]; first | exact HB.out | exact HB.out.symm), below1 _ _⟩

set_option maxHeartbeats 1000000 in
theorem a5 {n : Nd} {W a b c : Int} (w : World) (hk : (Lit.int .i64 n.k).wf = true) (h : Rg n W a b c) (hop : n.op = 5) : sApp n W a b c w := by
  have HV : Hid (applyL n.op n.w n.k W a b c = nXor a b) := by
    show _ = _
    rw [h.eq, hop]; simp [opL]
  obtain ⟨h1, h2, h3, h4, h5⟩ := h
  have r1 := of_decide_eq_true h1
  have r2 := of_decide_eq_true h2
  have r3 := of_decide_eq_true h3
  have r4 := of_decide_eq_true h4
  have r5 := of_decide_eq_true h5
  unfold sApp
  have HB : Hid (bits .xor .i64 a b = nXor a b) := bxor r3 r4
  go_enter Try.func66, Try.ntmps66
  go_wp2_with (first | (go_at_call 70; refine (sIn _ _ _ _).mono ?_; rintro e w' ⟨rfl, rfl⟩))
  go_ret
  exact ⟨ret_int (by rw [HV.out]; first | exact HB.out | exact HB.out.symm), below1 _ _⟩

set_option maxHeartbeats 1000000 in
theorem a6 {n : Nd} {W a b c : Int} (w : World) (hk : (Lit.int .i64 n.k).wf = true) (h : Rg n W a b c) (hop : n.op = 6) : sApp n W a b c w := by
  have HV : Hid (applyL n.op n.w n.k W a b c = vAdd n.w a b) := by
    show _ = _
    rw [h.eq, hop]; simp [opL]
  obtain ⟨h1, h2, h3, h4, h5⟩ := h
  have r1 := of_decide_eq_true h1
  have r2 := of_decide_eq_true h2
  have r3 := of_decide_eq_true h3
  have r4 := of_decide_eq_true h4
  have r5 := of_decide_eq_true h5
  unfold sApp
  go_enter Try.func66, Try.ntmps66
  go_wp2_with (first | (go_at_call 70; refine (sIn _ _ _ _).mono ?_; rintro e w' ⟨rfl, rfl⟩) | (go_at_call 99; refine (sAdd _ _ _ _).mono ?_; rintro e w' ⟨rfl, rfl⟩))
  go_ret
  exact ⟨ret_int (by rw [HV.out]), below1 _ _⟩

set_option maxHeartbeats 1000000 in
theorem a7 {n : Nd} {W a b c : Int} (w : World) (hk : (Lit.int .i64 n.k).wf = true) (h : Rg n W a b c) (hop : n.op = 7) : sApp n W a b c w := by
  have HV : Hid (applyL n.op n.w n.k W a b c = vSub n.w a b) := by
    show _ = _
    rw [h.eq, hop]; simp [opL]
  obtain ⟨h1, h2, h3, h4, h5⟩ := h
  have r1 := of_decide_eq_true h1
  have r2 := of_decide_eq_true h2
  have r3 := of_decide_eq_true h3
  have r4 := of_decide_eq_true h4
  have r5 := of_decide_eq_true h5
  unfold sApp
  go_enter Try.func66, Try.ntmps66
  go_wp2_with (first | (go_at_call 70; refine (sIn _ _ _ _).mono ?_; rintro e w' ⟨rfl, rfl⟩) | (go_at_call 100; refine (sSub _ _ _ _).mono ?_; rintro e w' ⟨rfl, rfl⟩))
  go_ret
  exact ⟨ret_int (by rw [HV.out]), below1 _ _⟩

set_option maxHeartbeats 1000000 in
theorem a8 {n : Nd} {W a b c : Int} (w : World) (hk : (Lit.int .i64 n.k).wf = true) (h : Rg n W a b c) (hop : n.op = 8) : sApp n W a b c w := by
  have HV : Hid (applyL n.op n.w n.k W a b c = vMul n.w a b) := by
    show _ = _
    rw [h.eq, hop]; simp [opL]
  obtain ⟨h1, h2, h3, h4, h5⟩ := h
  have r1 := of_decide_eq_true h1
  have r2 := of_decide_eq_true h2
  have r3 := of_decide_eq_true h3
  have r4 := of_decide_eq_true h4
  have r5 := of_decide_eq_true h5
  unfold sApp
  go_enter Try.func66, Try.ntmps66
  go_wp2_with (first | (go_at_call 70; refine (sIn _ _ _ _).mono ?_; rintro e w' ⟨rfl, rfl⟩) | (go_at_call 101; refine (sMul _ _ _ _).mono ?_; rintro e w' ⟨rfl, rfl⟩))
  go_ret
  exact ⟨ret_int (by rw [HV.out]), below1 _ _⟩

set_option maxHeartbeats 1000000 in
theorem a9 {n : Nd} {W a b c : Int} (w : World) (hk : (Lit.int .i64 n.k).wf = true) (h : Rg n W a b c) (hop : n.op = 9) : sApp n W a b c w := by
  have HV : Hid (applyL n.op n.w n.k W a b c = vDiv n.w a b) := by
    show _ = _
    rw [h.eq, hop]; simp [opL]
  obtain ⟨h1, h2, h3, h4, h5⟩ := h
  have r1 := of_decide_eq_true h1
  have r2 := of_decide_eq_true h2
  have r3 := of_decide_eq_true h3
  have r4 := of_decide_eq_true h4
  have r5 := of_decide_eq_true h5
  unfold sApp
  go_enter Try.func66, Try.ntmps66
  go_wp2_with (first | (go_at_call 70; refine (sIn _ _ _ _).mono ?_; rintro e w' ⟨rfl, rfl⟩) | (go_at_call 102; refine (sDiv _ _ _ _).mono ?_; rintro e w' ⟨rfl, rfl⟩))
  go_ret
  exact ⟨ret_int (by rw [HV.out]), below1 _ _⟩

set_option maxHeartbeats 1000000 in
theorem a10 {n : Nd} {W a b c : Int} (w : World) (hk : (Lit.int .i64 n.k).wf = true) (h : Rg n W a b c) (hop : n.op = 10) : sApp n W a b c w := by
  have HV : Hid (applyL n.op n.w n.k W a b c = vRem n.w a b) := by
    show _ = _
    rw [h.eq, hop]; simp [opL]
  obtain ⟨h1, h2, h3, h4, h5⟩ := h
  have r1 := of_decide_eq_true h1
  have r2 := of_decide_eq_true h2
  have r3 := of_decide_eq_true h3
  have r4 := of_decide_eq_true h4
  have r5 := of_decide_eq_true h5
  unfold sApp
  go_enter Try.func66, Try.ntmps66
  go_wp2_with (first | (go_at_call 70; refine (sIn _ _ _ _).mono ?_; rintro e w' ⟨rfl, rfl⟩) | (go_at_call 103; refine (sRem _ _ _ _).mono ?_; rintro e w' ⟨rfl, rfl⟩))
  go_ret
  exact ⟨ret_int (by rw [HV.out]), below1 _ _⟩

set_option maxHeartbeats 1000000 in
theorem a11 {n : Nd} {W a b c : Int} (w : World) (hk : (Lit.int .i64 n.k).wf = true) (h : Rg n W a b c) (hop : n.op = 11) : sApp n W a b c w := by
  have HV : Hid (applyL n.op n.w n.k W a b c = vShl n.w a b) := by
    show _ = _
    rw [h.eq, hop]; simp [opL]
  obtain ⟨h1, h2, h3, h4, h5⟩ := h
  have r1 := of_decide_eq_true h1
  have r2 := of_decide_eq_true h2
  have r3 := of_decide_eq_true h3
  have r4 := of_decide_eq_true h4
  have r5 := of_decide_eq_true h5
  unfold sApp
  go_enter Try.func66, Try.ntmps66
  go_wp2_with (first | (go_at_call 70; refine (sIn _ _ _ _).mono ?_; rintro e w' ⟨rfl, rfl⟩) | (go_at_call 104; refine (sShl _ _ _ _).mono ?_; rintro e w' ⟨rfl, rfl⟩))
  go_ret
  exact ⟨ret_int (by rw [HV.out]), below1 _ _⟩

set_option maxHeartbeats 1000000 in
theorem a12 {n : Nd} {W a b c : Int} (w : World) (hk : (Lit.int .i64 n.k).wf = true) (h : Rg n W a b c) (hop : n.op = 12) : sApp n W a b c w := by
  have HV : Hid (applyL n.op n.w n.k W a b c = vShr n.w a b) := by
    show _ = _
    rw [h.eq, hop]; simp [opL]
  obtain ⟨h1, h2, h3, h4, h5⟩ := h
  have r1 := of_decide_eq_true h1
  have r2 := of_decide_eq_true h2
  have r3 := of_decide_eq_true h3
  have r4 := of_decide_eq_true h4
  have r5 := of_decide_eq_true h5
  unfold sApp
  go_enter Try.func66, Try.ntmps66
  go_wp2_with (first | (go_at_call 70; refine (sIn _ _ _ _).mono ?_; rintro e w' ⟨rfl, rfl⟩) | (go_at_call 105; refine (sShr _ _ _ _).mono ?_; rintro e w' ⟨rfl, rfl⟩))
  go_ret
  exact ⟨ret_int (by rw [HV.out]), below1 _ _⟩

set_option maxHeartbeats 1000000 in
theorem a13 {n : Nd} {W a b c : Int} (w : World) (hk : (Lit.int .i64 n.k).wf = true) (h : Rg n W a b c) (hop : n.op = 13) : sApp n W a b c w := by
  have HV : Hid (applyL n.op n.w n.k W a b c = if (a == b) then 1 else 0) := by
    show _ = _
    rw [h.eq, hop]; simp [opL]
  obtain ⟨h1, h2, h3, h4, h5⟩ := h
  unfold sApp
  cases hab : (a == b)
  all_goals
    go_enter Try.func66, Try.ntmps66
    go_wp2_with (first | (go_at_call 70; refine (sIn _ _ _ _).mono ?_; rintro e w' ⟨rfl, rfl⟩) | (go_at_call 106; refine (sOne _ _).mono ?_; rintro e w' ⟨rfl, rfl⟩))
    go_ret
    exact ⟨ret_int (by rw [HV.out, hab]; rfl), below1 _ _⟩

set_option maxHeartbeats 1000000 in
theorem a14 {n : Nd} {W a b c : Int} (w : World) (hk : (Lit.int .i64 n.k).wf = true) (h : Rg n W a b c) (hop : n.op = 14) : sApp n W a b c w := by
  have HV : Hid (applyL n.op n.w n.k W a b c = vLess W a b) := by
    show _ = _
    rw [h.eq, hop]; simp [opL]
  obtain ⟨h1, h2, h3, h4, h5⟩ := h
  have r1 := of_decide_eq_true h1
  have r2 := of_decide_eq_true h2
  have r3 := of_decide_eq_true h3
  have r4 := of_decide_eq_true h4
  have r5 := of_decide_eq_true h5
  unfold sApp
  go_enter Try.func66, Try.ntmps66
  go_wp2_with (first | (go_at_call 70; refine (sIn _ _ _ _).mono ?_; rintro e w' ⟨rfl, rfl⟩) | (go_at_call 107; refine (sLess _ _ _ _).mono ?_; rintro e w' ⟨rfl, rfl⟩))
  go_ret
  exact ⟨ret_int (by rw [HV.out]), below1 _ _⟩

set_option maxHeartbeats 1000000 in
theorem a15 {n : Nd} {W a b c : Int} (w : World) (hk : (Lit.int .i64 n.k).wf = true) (h : Rg n W a b c) (hop : n.op = 15) : sApp n W a b c w := by
  have HV : Hid (applyL n.op n.w n.k W a b c = vLessSigned W a b) := by
    show _ = _
    rw [h.eq, hop]; simp [opL]
  obtain ⟨h1, h2, h3, h4, h5⟩ := h
  have r1 := of_decide_eq_true h1
  have r2 := of_decide_eq_true h2
  have r3 := of_decide_eq_true h3
  have r4 := of_decide_eq_true h4
  have r5 := of_decide_eq_true h5
  unfold sApp
  go_enter Try.func66, Try.ntmps66
  go_wp2_with (first | (go_at_call 70; refine (sIn _ _ _ _).mono ?_; rintro e w' ⟨rfl, rfl⟩) | (go_at_call 108; refine (sLessSigned _ _ _ _).mono ?_; rintro e w' ⟨rfl, rfl⟩))
  go_ret
  exact ⟨ret_int (by rw [HV.out]), below1 _ _⟩

set_option maxHeartbeats 1000000 in
theorem a16 {n : Nd} {W a b c : Int} (w : World) (hk : (Lit.int .i64 n.k).wf = true) (h : Rg n W a b c) (hop : n.op = 16) : sApp n W a b c w := by
  have HV : Hid (applyL n.op n.w n.k W a b c = if n.w < W then b else a * p2 (n.w - W).toNat + b) := by
    show _ = _
    rw [h.eq, hop]; simp [opL]
  obtain ⟨h1, h2, h3, h4, h5⟩ := h
  have r1 := of_decide_eq_true h1
  have r2 := of_decide_eq_true h2
  have r3 := of_decide_eq_true h3
  have r4 := of_decide_eq_true h4
  unfold sApp
  by_cases hlt : n.w < W
  · have HV2 : Hid (applyL n.op n.w n.k W a b c = b) := by
      show _ = _
      rw [HV.out, if_pos hlt]
    go_enter Try.func66, Try.ntmps66
    go_wp2_with (go_at_call 70; refine (sIn _ _ _ _).mono ?_; rintro e w' ⟨rfl, rfl⟩)
    go_ret
    exact ⟨ret_int (by rw [HV2.out]), below1 _ _⟩
  · have HV2 : Hid (applyL n.op n.w n.k W a b c = a * p2 (n.w - W).toNat + b) := by
      show _ = _
      rw [HV.out, if_neg hlt]
    have hr := p2_mono (show (n.w - W).toNat ≤ 7 by omega)
    have hq := p2_pos (n.w - W).toNat
    have hr7 : p2 7 = 128 := rfl
    obtain ⟨hb1, hb2⟩ := mul_bd r3.1 r3.2 (show 0 ≤ p2 (n.w - W).toNat by omega) (by omega)
    go_enter Try.func66, Try.ntmps66
    go_wp2_with (first | (go_at_call 70; refine (sIn _ _ _ _).mono ?_; rintro e w' ⟨rfl, rfl⟩) | (go_at_call 109; refine (spow _ _ (by omega) (by omega)).mono ?_; rintro e w' ⟨rfl, rfl⟩))
    go_ret
    exact ⟨ret_int (by rw [HV2.out]), below1 _ _⟩

set_option maxHeartbeats 1000000 in
theorem a17 {n : Nd} {W a b c : Int} (w : World) (hk : (Lit.int .i64 n.k).wf = true) (h : Rg n W a b c) (hop : n.op = 17) : sApp n W a b c w := by
  have HV : Hid (applyL n.op n.w n.k W a b c = vSlice W a n.k n.w) := by
    show _ = _
    rw [h.eq, hop]; simp [opL]
  obtain ⟨h1, h2, h3, h4, h5⟩ := h
  have r1 := of_decide_eq_true h1
  have r2 := of_decide_eq_true h2
  have r3 := of_decide_eq_true h3
  have r4 := of_decide_eq_true h4
  have r5 := of_decide_eq_true h5
  unfold sApp
  go_enter Try.func66, Try.ntmps66
  go_wp2_with (first | (go_at_call 70; refine (sIn _ _ _ _).mono ?_; rintro e w' ⟨rfl, rfl⟩) | (go_at_call 110; refine (sSlice _ _ _ _ _ hk).mono ?_; rintro e w' ⟨rfl, kk, rfl⟩))
  go_ret
  exact ⟨ret_int (by rw [HV.out]), Kp0.below_drewN (below1 _ _) _⟩

set_option maxHeartbeats 1000000 in
theorem a18 {n : Nd} {W a b c : Int} (w : World) (hk : (Lit.int .i64 n.k).wf = true) (h : Rg n W a b c) (hop : n.op = 18) : sApp n W a b c w := by
  have HV : Hid (applyL n.op n.w n.k W a b c = if a = 1 then b else c) := by
    show _ = _
    rw [h.eq, hop]; simp [opL]
  obtain ⟨h1, h2, h3, h4, h5⟩ := h
  unfold sApp
  cases ha : (a == 1)
  · have HV2 : Hid (applyL n.op n.w n.k W a b c = c) := by
      show _ = _
      rw [HV.out, if_neg (by simpa using ha)]
    go_enter Try.func66, Try.ntmps66
    go_wp2_with (go_at_call 70; refine (sIn _ _ _ _).mono ?_; rintro e w' ⟨rfl, rfl⟩)
    go_ret
    exact ⟨ret_int (by rw [HV2.out]), below1 _ _⟩
  · have HV2 : Hid (applyL n.op n.w n.k W a b c = b) := by
      show _ = _
      rw [HV.out, if_pos (by simpa using ha)]
    go_enter Try.func66, Try.ntmps66
    go_wp2_with (go_at_call 70; refine (sIn _ _ _ _).mono ?_; rintro e w' ⟨rfl, rfl⟩)
    go_ret
    exact ⟨ret_int (by rw [HV2.out]), below1 _ _⟩

set_option maxHeartbeats 1000000 in
theorem aNo {n : Nd} {W a b c : Int} (w : World) (h : Rg n W a b c) (g0 : ¬ n.op = 0) (g2 : ¬ n.op = 2) (g3 : ¬ n.op = 3) (g4 : ¬ n.op = 4) (g5 : ¬ n.op = 5) (g6 : ¬ n.op = 6) (g7 : ¬ n.op = 7) (g8 : ¬ n.op = 8) (g9 : ¬ n.op = 9) (g10 : ¬ n.op = 10) (g11 : ¬ n.op = 11) (g12 : ¬ n.op = 12) (g13 : ¬ n.op = 13) (g14 : ¬ n.op = 14) (g15 : ¬ n.op = 15) (g16 : ¬ n.op = 16) (g17 : ¬ n.op = 17) (g18 : ¬ n.op = 18) : sApp n W a b c w := by
  have HV : Hid (applyL n.op n.w n.k W a b c = 0) := by
    show _ = _
    rw [h.eq]; unfold opL
    rw [if_neg g0, if_neg g2, if_neg g3, if_neg g4, if_neg g5, if_neg g6, if_neg g7, if_neg g8, if_neg g9, if_neg g10, if_neg g11, if_neg g12, if_neg g13, if_neg g14, if_neg g15, if_neg g16, if_neg g17, if_neg g18]
  obtain ⟨h1, h2, h3, h4, h5⟩ := h
  have t0 : (n.op == 0) = false := by simp; omega
  have t2 : (n.op == 2) = false := by simp; omega
  have t3 : (n.op == 3) = false := by simp; omega
  have t4 : (n.op == 4) = false := by simp; omega
  have t5 : (n.op == 5) = false := by simp; omega
  have t6 : (n.op == 6) = false := by simp; omega
  have t7 : (n.op == 7) = false := by simp; omega
  have t8 : (n.op == 8) = false := by simp; omega
  have t9 : (n.op == 9) = false := by simp; omega
  have t10 : (n.op == 10) = false := by simp; omega
  have t11 : (n.op == 11) = false := by simp; omega
  have t12 : (n.op == 12) = false := by simp; omega
  have t13 : (n.op == 13) = false := by simp; omega
  have t14 : (n.op == 14) = false := by simp; omega
  have t15 : (n.op == 15) = false := by simp; omega
  have t16 : (n.op == 16) = false := by simp; omega
  have t17 : (n.op == 17) = false := by simp; omega
  have t18 : (n.op == 18) = false := by simp; omega
  clear g0 g2 g3 g4 g5 g6 g7 g8 g9 g10 g11 g12 g13 g14 g15 g16 g17 g18
  unfold sApp
  go_enter Try.func66, Try.ntmps66
  go_wp2_with (go_at_call 70; refine (sIn _ _ _ _).mono ?_; rintro e w' ⟨rfl, rfl⟩)
  go_ret
  exact ⟨ret_int (by rw [HV.out]), below1 _ _⟩

set_option maxHeartbeats 1000000 in
theorem out1 {n : Nd} {W a b c : Int} (w : World) (h1 : decide (1 ≤ n.w ∧ n.w ≤ 8) = false) : sApp n W a b c w := by
  have HV : Hid (applyL n.op n.w n.k W a b c = 0) := by
    show _ = _
    unfold applyL inR
    rw [h1]; simp
  unfold sApp
  go_enter Try.func66, Try.ntmps66
  go_wp2_with (go_at_call 70; refine (sIn _ _ _ _).mono ?_; rintro e w' ⟨rfl, rfl⟩)
  go_ret
  exact ⟨ret_int (by rw [HV.out]), below1 _ _⟩

set_option maxHeartbeats 1000000 in
theorem out2 {n : Nd} {W a b c : Int} (w : World) (h1 : decide (1 ≤ n.w ∧ n.w ≤ 8) = true) (h2 : decide (1 ≤ W ∧ W ≤ 8) = false) : sApp n W a b c w := by
  have HV : Hid (applyL n.op n.w n.k W a b c = 0) := by
    show _ = _
    unfold applyL inR
    rw [h2]; simp
  unfold sApp
  go_enter Try.func66, Try.ntmps66
  go_wp2_with (go_at_call 70; refine (sIn _ _ _ _).mono ?_; rintro e w' ⟨rfl, rfl⟩)
  go_ret
  exact ⟨ret_int (by rw [HV.out]), below1 _ _⟩

set_option maxHeartbeats 1000000 in
theorem out3 {n : Nd} {W a b c : Int} (w : World) (h1 : decide (1 ≤ n.w ∧ n.w ≤ 8) = true) (h2 : decide (1 ≤ W ∧ W ≤ 8) = true) (h3 : decide (0 ≤ a ∧ a ≤ 255) = false) : sApp n W a b c w := by
  have HV : Hid (applyL n.op n.w n.k W a b c = 0) := by
    show _ = _
    unfold applyL inR
    rw [h3]; simp
  unfold sApp
  go_enter Try.func66, Try.ntmps66
  go_wp2_with (go_at_call 70; refine (sIn _ _ _ _).mono ?_; rintro e w' ⟨rfl, rfl⟩)
  go_ret
  exact ⟨ret_int (by rw [HV.out]), below1 _ _⟩

set_option maxHeartbeats 1000000 in
theorem out4 {n : Nd} {W a b c : Int} (w : World) (h1 : decide (1 ≤ n.w ∧ n.w ≤ 8) = true) (h2 : decide (1 ≤ W ∧ W ≤ 8) = true) (h3 : decide (0 ≤ a ∧ a ≤ 255) = true) (h4 : decide (0 ≤ b ∧ b ≤ 255) = false) : sApp n W a b c w := by
  have HV : Hid (applyL n.op n.w n.k W a b c = 0) := by
    show _ = _
    unfold applyL inR
    rw [h4]; simp
  unfold sApp
  go_enter Try.func66, Try.ntmps66
  go_wp2_with (go_at_call 70; refine (sIn _ _ _ _).mono ?_; rintro e w' ⟨rfl, rfl⟩)
  go_ret
  exact ⟨ret_int (by rw [HV.out]), below1 _ _⟩

set_option maxHeartbeats 1000000 in
theorem out5 {n : Nd} {W a b c : Int} (w : World) (h1 : decide (1 ≤ n.w ∧ n.w ≤ 8) = true) (h2 : decide (1 ≤ W ∧ W ≤ 8) = true) (h3 : decide (0 ≤ a ∧ a ≤ 255) = true) (h4 : decide (0 ≤ b ∧ b ≤ 255) = true) (h5 : decide (0 ≤ c ∧ c ≤ 255) = false) : sApp n W a b c w := by
  have HV : Hid (applyL n.op n.w n.k W a b c = 0) := by
    show _ = _
    unfold applyL inR
    rw [h5]; simp
  unfold sApp
  go_enter Try.func66, Try.ntmps66
  go_wp2_with (go_at_call 70; refine (sIn _ _ _ _).mono ?_; rintro e w' ⟨rfl, rfl⟩)
  go_ret
  exact ⟨ret_int (by rw [HV.out]), below1 _ _⟩

/-- The model's Apply is applyL. -/
theorem sApply (n : Nd) (W a b c : Int) (w : World) (hk : (Lit.int .i64 n.k).wf = true) : sApp n W a b c w := by
  cases h1 : decide (1 ≤ n.w ∧ n.w ≤ 8)
  · exact out1 w h1
  cases h2 : decide (1 ≤ W ∧ W ≤ 8)
  · exact out2 w h1 h2
  cases h3 : decide (0 ≤ a ∧ a ≤ 255)
  · exact out3 w h1 h2 h3
  cases h4 : decide (0 ≤ b ∧ b ≤ 255)
  · exact out4 w h1 h2 h3 h4
  cases h5 : decide (0 ≤ c ∧ c ≤ 255)
  · exact out5 w h1 h2 h3 h4 h5
  have h : Rg n W a b c := ⟨h1, h2, h3, h4, h5⟩
  by_cases g0 : n.op = 0
  · exact a0 w hk h g0
  by_cases g2 : n.op = 2
  · exact a2 w hk h g2
  by_cases g3 : n.op = 3
  · exact a3 w hk h g3
  by_cases g4 : n.op = 4
  · exact a4 w hk h g4
  by_cases g5 : n.op = 5
  · exact a5 w hk h g5
  by_cases g6 : n.op = 6
  · exact a6 w hk h g6
  by_cases g7 : n.op = 7
  · exact a7 w hk h g7
  by_cases g8 : n.op = 8
  · exact a8 w hk h g8
  by_cases g9 : n.op = 9
  · exact a9 w hk h g9
  by_cases g10 : n.op = 10
  · exact a10 w hk h g10
  by_cases g11 : n.op = 11
  · exact a11 w hk h g11
  by_cases g12 : n.op = 12
  · exact a12 w hk h g12
  by_cases g13 : n.op = 13
  · exact a13 w hk h g13
  by_cases g14 : n.op = 14
  · exact a14 w hk h g14
  by_cases g15 : n.op = 15
  · exact a15 w hk h g15
  by_cases g16 : n.op = 16
  · exact a16 w hk h g16
  by_cases g17 : n.op = 17
  · exact a17 w hk h g17
  by_cases g18 : n.op = 18
  · exact a18 w hk h g18
  exact aNo w h g0 g2 g3 g4 g5 g6 g7 g8 g9 g10 g11 g12 g13 g14 g15 g16 g17 g18

end Go.Proofs.Ytnkkigoeffghdaa.Sv1

/- What a node of a term is worth, out of what its parts are worth: as plain data. -/
namespace Go.Proofs.Ytnkkigoeffghdaa.Vm0
open Nd0 Pl1 Pl2 Tm0 Tm1 Tm3 Tm5 Tm6 Tm8 Tm11 Tm13 Tm14 Tr0 Vl1 Vl2
set_option linter.unusedVariables false

theorem applyL_k {op : Int} (h : (3 ≤ op ∧ op ≤ 16) ∨ op = 18) (W k k' w a b c : Int) : applyL op W k w a b c = applyL op W k' w a b c := by
  have h0 : ¬ op = 0 := by omega
  have h17 : ¬ op = 17 := by omega
  unfold applyL opL
  simp only [h0, h17, if_false]
/-- What the parts of a node are worth. -/
def pvs (l : List Nd) (e : List Int) (n : Nd) : List Int := (parts n).map fun p => vT (tr l p.toNat) e
/-- The width of its first part. -/
def pw (l : List Nd) (n : Nd) : Int := match parts n with
  | [] => 1
  | p :: _ => (nth l p.toNat).w
section
variable {l : List Nd} (hD : Down l) (hN : ∀ k, k < l.length → nodeOk l k = true) {k : Nat} (hk : k < l.length) (e : List Int)
include hD hN hk
theorem vT_other (h1 : ¬ (nth l k).op = 1) (hq : quant (nth l k).op = false) :
    vT (tr l k) e = applyL (nth l k).op (nth l k).w (nth l k).k (pw l (nth l k)) ((pvs l e (nth l k)).getD 0 0) ((pvs l e (nth l k)).getD 1 0) ((pvs l e (nth l k)).getD 2 0) := by
  rw [tr_at hD hk]
  have hd := hD k hk
  have hp : ∀ p ∈ parts (nth l k), (tr l p.toNat).wid = (nth l p.toNat).w := fun p h => (rt_all hD hN p.toNat (by have := hd p h; omega)).2
  generalize nth l k = n at h1 hq hp hd
  have hq2 : ¬ n.op = 19 ∧ ¬ n.op = 20 := by simpa [quant] using hq
  by_cases g1 : n.op = 2 ∨ n.op = 17 ∨ n.op = 19 ∨ n.op = 20
  · rw [mk_one g1]
    unfold pvs pw
    rw [parts_one g1] at hp ⊢
    simp only [vT, List.map_cons, List.map_nil]
    rw [if_neg hq2.1, if_neg hq2.2, hp n.a (by simp)]
    rfl
  · by_cases g2 : 3 ≤ n.op ∧ n.op ≤ 16
    · rw [mk_two g2]
      unfold pvs pw
      rw [parts_two g2] at hp ⊢
      simp only [vT, List.map_cons, List.map_nil]
      rw [hp n.a (by simp), applyL_k (.inl g2) _ 0 n.k]
      rfl
    · by_cases g3 : n.op = 18
      · rw [mk_three g3]
        unfold pvs pw
        rw [parts_three g3] at hp ⊢
        simp only [vT, List.map_cons, List.map_nil]
        rw [hp n.a (by simp), applyL_k (.inr g3) _ 0 n.k]
        rfl
      · rw [mk_leaf g1 g2 g3]
        unfold pvs pw
        rw [parts_none g1 g2 g3]
        simp only [vT]
        rw [if_neg h1]
        rfl
end
theorem vT_var {l : List Nd} (hD : Down l) {k : Nat} (hk : k < l.length) (e : List Int) (h1 : (nth l k).op = 1) : vT (tr l k) e = wd e (nth l k).k := by
  rw [tr_at hD hk, mk_leaf (by omega) (by omega) (by omega)]
  simp only [vT]
  rw [if_pos h1]
  rfl
def allN (f : Nat → Int) (m : Nat) : Int := if (List.range m).all (fun i => f i == 1) then 1 else 0
def anyN (f : Nat → Int) (m : Nat) : Int := if (List.range m).any (fun i => f i == 1) then 1 else 0
theorem allN_zero (f : Nat → Int) : allN f 0 = 1 := rfl
theorem anyN_zero (f : Nat → Int) : anyN f 0 = 0 := rfl
theorem allN_yes {f : Nat → Int} {m : Nat} (h : f m = 1) : allN f (m + 1) = allN f m := by
  unfold allN; rw [List.range_succ, List.all_append]; simp [h]
theorem allN_no {f : Nat → Int} {m : Nat} (h : ¬ f m = 1) : allN f (m + 1) = 0 := by
  unfold allN; rw [List.range_succ, List.all_append]; simp [h]
theorem anyN_yes {f : Nat → Int} {m : Nat} (h : f m = 1) : anyN f (m + 1) = 1 := by
  unfold anyN; rw [List.range_succ, List.any_append]; simp [h]
theorem anyN_no {f : Nat → Int} {m : Nat} (h : ¬ f m = 1) : anyN f (m + 1) = anyN f m := by
  unfold anyN; rw [List.range_succ, List.any_append]; simp [h]
theorem anyN_bit (f : Nat → Int) (m : Nat) : anyN f m = 0 ∨ anyN f m = 1 := by unfold anyN; split <;> simp
theorem anyN_one {f : Nat → Int} {m : Nat} : anyN f m = 1 ↔ ∃ i, i < m ∧ f i = 1 := by
  unfold anyN
  constructor
  · intro h
    split at h
    · rename_i h2
      obtain ⟨i, h3, h4⟩ := List.any_eq_true.1 h2
      exact ⟨i, List.mem_range.1 h3, by simpa using h4⟩
    · cases h
  · rintro ⟨i, h1, h2⟩
    rw [if_pos (List.any_eq_true.2 ⟨i, List.mem_range.2 h1, by simpa using h2⟩)]
theorem allN_one {f : Nat → Int} {m : Nat} : allN f m = 1 ↔ ∀ i, i < m → f i = 1 := by
  unfold allN
  constructor
  · intro h i hi
    split at h
    · rename_i h2
      simpa using List.all_eq_true.1 h2 i (List.mem_range.2 hi)
    · cases h
  · intro h
    rw [if_pos (List.all_eq_true.2 fun i hi => by simpa using h i (List.mem_range.1 hi))]
theorem allN_bit (f : Nat → Int) (m : Nat) : allN f m = 0 ∨ allN f m = 1 := by unfold allN; split <;> simp
theorem vT_quant {l : List Nd} (hD : Down l) {k : Nat} (hk : k < l.length) (e : List Int) (hq : quant (nth l k).op = true) :
    vT (tr l k) e = if (nth l k).op = 19 then allN (fun i => vT (tr l (nth l k).a.toNat) (e.set (nth l k).k.toNat (i : Int))) (2 ^ (nth l k).b.toNat) else anyN (fun i => vT (tr l (nth l k).a.toNat) (e.set (nth l k).k.toNat (i : Int))) (2 ^ (nth l k).b.toNat) := by
  have hq2 : (nth l k).op = 19 ∨ (nth l k).op = 20 := by simpa [quant] using hq
  rw [tr_at hD hk, mk_one (by omega)]
  simp only [vT]
  rcases hq2 with h | h
  · rw [if_pos h, if_pos h]; rfl
  · have h19 : ¬ (nth l k).op = 19 := by omega
    rw [if_neg h19, if_pos h, if_neg h19]; rfl
theorem set_self (e : List Int) {i : Nat} (h : i < e.length) : e.set i (wd e (i : Int)) = e := by
  have : wd e (i : Int) = e[i] := (wd_get h).symm
  rw [this]; exact List.set_getElem_self h

/-- The number of a right node is small. -/
theorem node_k {l : List Nd} (hD : Down l) (hN : ∀ k, k < l.length → nodeOk l k = true) {k : Nat} (hk : k < l.length) : 0 ≤ (nth l k).k ∧ (nth l k).k ≤ 255 := by
  have hok := hN k hk
  have hd := hD k hk
  simp only [nodeOk, Bool.and_eq_true] at hok
  have hs := hok.2
  have hw : ∀ p ∈ parts (nth l k), width l p ≤ 8 := fun p hp => by
    have h1 := hd p hp
    exact (node_width (hN p.toNat (by omega))).2
  have hw1 := of_decide_eq_true hok.1.2
  generalize nth l k = n at hs hw hw1
  unfold shapeOk at hs
  by_cases h0 : n.op = 0
  · rw [if_pos h0] at hs
    simp only [Bool.and_eq_true] at hs
    have := wok_iff.1 hs.1
    have h2 := p2_mono (show n.w.toNat ≤ 8 by omega)
    have h3 : p2 8 = 256 := rfl
    omega
  rw [if_neg h0] at hs
  by_cases h1 : n.op = 1
  · rw [if_pos h1] at hs
    have := of_decide_eq_true hs
    omega
  rw [if_neg h1] at hs
  by_cases h2 : n.op = 2
  · rw [if_pos h2] at hs
    have := of_decide_eq_true hs
    omega
  rw [if_neg h2] at hs
  by_cases h3 : 3 ≤ n.op ∧ n.op ≤ 12
  · rw [if_pos h3] at hs
    have := of_decide_eq_true hs
    omega
  rw [if_neg h3] at hs
  by_cases h4 : 13 ≤ n.op ∧ n.op ≤ 15
  · rw [if_pos h4] at hs
    have := of_decide_eq_true hs
    omega
  rw [if_neg h4] at hs
  by_cases h5 : n.op = 16
  · rw [if_pos h5] at hs
    have := of_decide_eq_true hs
    omega
  rw [if_neg h5] at hs
  by_cases h6 : n.op = 17
  · rw [if_pos h6] at hs
    have := of_decide_eq_true hs
    rw [parts_one (.inr (.inl h6))] at hw this
    have h8 := hw n.a (by simp)
    simp only [List.map_cons, List.map_nil, List.getD_cons_zero] at this
    omega
  rw [if_neg h6] at hs
  by_cases h7 : n.op = 18
  · rw [if_pos h7] at hs
    have := of_decide_eq_true hs
    omega
  rw [if_neg h7] at hs
  by_cases h8 : n.op = 19 ∨ n.op = 20
  · rw [if_pos h8] at hs
    have := of_decide_eq_true hs
    omega
  rw [if_neg h8] at hs
  cases hs
theorem wf_small {k : Int} (h : 0 ≤ k ∧ k ≤ 255) : (Go.Lit.int .i64 k).wf = true := by
  simp [Go.Lit.wf, Go.IntKind.min, Go.IntKind.max, Go.IntKind.signed, Go.IntKind.bits]; omega

end Go.Proofs.Ytnkkigoeffghdaa.Vm0
