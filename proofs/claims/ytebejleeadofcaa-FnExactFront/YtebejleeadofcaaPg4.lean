/- The walk of the program's fits: whether a node fits its parts. -/
import Derived.WalkSpells
import Derived.Deep.Light
import Derived.Test.YtebejleeadofcaaPg3
namespace Go.Proofs.Ytebejleeadofcaa.Pg4
open Go.RowKit
open Nd0 Tm0 Tm5 Pl1 Ap0 Pg1 Pg2 Pg3
open Ws1 (ret_int ret_bool)
set_option linter.unusedVariables false

theorem below_drewN {B : Nat} {u w : World} (h : Below B u w) (n : Nat) : Below B u (w.drewN n) := ⟨h.os, h.tape, h.output, h.size, h.block⟩

/-- Whether a node fits parts of the widths ws. -/
def fitsB (n : Nd) (ws : List Int) : Bool :=
  if n.op = 0 then wok n.w n.k
  else if n.op = 1 then decide (0 ≤ n.k ∧ n.k ≤ 7)
  else if n.op = 2 then decide (ws.getD 0 0 = n.w)
  else if 3 ≤ n.op ∧ n.op ≤ 12 then decide (ws.getD 0 0 = n.w ∧ ws.getD 1 0 = n.w)
  else if 13 ≤ n.op ∧ n.op ≤ 15 then decide (ws.getD 0 0 = ws.getD 1 0 ∧ n.w = 1)
  else if n.op = 16 then decide (ws.getD 0 0 + ws.getD 1 0 = n.w)
  else if n.op = 17 then decide (0 ≤ n.k ∧ n.k ≤ ws.getD 0 0 - n.w)
  else if n.op = 18 then decide (ws.getD 0 0 = 1 ∧ ws.getD 1 0 = n.w ∧ ws.getD 2 0 = n.w)
  else if n.op = 19 ∨ n.op = 20 then decide (0 ≤ n.k ∧ n.k ≤ 7 ∧ 1 ≤ n.b ∧ n.b ≤ 8 ∧ ws.getD 0 0 = 1 ∧ n.w = 1)
  else false

set_option maxRecDepth 100000 in
set_option maxHeartbeats 80000000 in
theorem fitsA (w : World) (xb xo len c : Nat) (op m k b d x0 : Int) (hl : len ≤ 80) (ja : Nat) (hj : ja < len) (p0 : w.cell? ⟨xb, xo + ja * 6 + 1, none⟩ = some (.int .i64 x0)) (hx0 : 1 ≤ x0 ∧ x0 ≤ 8) (hm : 1 ≤ m ∧ m ≤ 8)  (h : op = 2 ∨ op = 17 ∨ op = 19 ∨ op = 20) :
    Calls Try.prog 56 #[.slice (some ⟨xb, xo, none⟩) len c, .agg #[.int .i64 op, .int .i64 m, .int .i64 k, .int .i64 ja, .int .i64 b, .int .i64 d]] w fun e w' =>
      e = .returned (.bool (fitsB ⟨op, m, k, ja, b, d⟩ [x0])) ∧ Below w.heap.size w w' := by
  have hxb : xb < w.heap.size := lt_of_cell (p := ⟨xb, _, none⟩) p0
  have hxn : ¬ xb = w.heap.size := by omega
  obtain ⟨hm1, hm2⟩ := hm
  have hjz : (ja : Int) < (len : Int) := by omega
  obtain ⟨hx1, hx2⟩ := hx0
  obtain ⟨F, hF⟩ : ∃ F, F = fitsB ⟨op, m, k, ja, b, d⟩ [x0] := ⟨_, rfl⟩
  rw [← hF]
  rcases h with rfl | rfl | rfl | rfl
  all_goals
    simp [fitsB] at hF
    have HF : Hid (F = _) := hF
    clear hF
    go_enter Try.func56, Try.ntmps56
    go_wp2_with (first | (go_at_call 59; refine (iWordOk _ _ _).mono ?_; rintro e w' ⟨rfl, rfl⟩) | (go_at_call 60; refine (iVarOk _ _).mono ?_; rintro e w' ⟨rfl, rfl⟩) | (go_at_call 53; refine (iWidthOk _ _).mono ?_; rintro e w' ⟨rfl, rfl⟩))
    try
      refine wp_region_quiet_lit (by kernel_rfl) (by kernel_rfl) ?_
      repeat (any_goals (first | go_big_quiet_step (fail) | quiet_step (fail) | (refine wpQuiet_step (fun K hK => ?_); go_simp; split <;> (refine hK _ ?_; clear hK K))))
      all_goals (refine wpQuiet_nil ?_; intro _ hw'; obtain ⟨nq, hw''⟩ := hw'; subst hw'')
      all_goals go_wp2
    all_goals
      go_ret
      refine ⟨ret_bool ?_, by first | exact below_drewN ((Below.refl _ _).alloc (Nat.le_refl _) _) _ | exact (Below.refl _ _).alloc (Nat.le_refl _) _⟩
      rw [HF.out, Bool.eq_iff_iff]
      first | (go_light; simp_all <;> omega) | (simp_all <;> omega)

set_option maxRecDepth 100000 in
set_option maxHeartbeats 80000000 in
theorem fitsB2 (w : World) (xb xo len c : Nat) (op m k d x0 x1 : Int) (hl : len ≤ 80) (ja jb : Nat) (hj : ja < len) (hj' : jb < len) (p0 : w.cell? ⟨xb, xo + ja * 6 + 1, none⟩ = some (.int .i64 x0)) (hx0 : 1 ≤ x0 ∧ x0 ≤ 8) (p1 : w.cell? ⟨xb, xo + jb * 6 + 1, none⟩ = some (.int .i64 x1)) (hx1' : 1 ≤ x1 ∧ x1 ≤ 8) (hm : 1 ≤ m ∧ m ≤ 8)  (h : op = 3 ∨ op = 4 ∨ op = 5 ∨ op = 6 ∨ op = 7 ∨ op = 8 ∨ op = 9 ∨ op = 10 ∨ op = 11 ∨ op = 12 ∨ op = 13 ∨ op = 14 ∨ op = 15 ∨ op = 16) :
    Calls Try.prog 56 #[.slice (some ⟨xb, xo, none⟩) len c, .agg #[.int .i64 op, .int .i64 m, .int .i64 k, .int .i64 ja, .int .i64 jb, .int .i64 d]] w fun e w' =>
      e = .returned (.bool (fitsB ⟨op, m, k, ja, jb, d⟩ [x0, x1])) ∧ Below w.heap.size w w' := by
  have hxb : xb < w.heap.size := lt_of_cell (p := ⟨xb, _, none⟩) p0
  have hxn : ¬ xb = w.heap.size := by omega
  obtain ⟨hm1, hm2⟩ := hm
  have hjz : (ja : Int) < (len : Int) := by omega
  obtain ⟨hx1, hx2⟩ := hx0
  have hjz' : (jb : Int) < (len : Int) := by omega
  obtain ⟨hx3, hx4⟩ := hx1'
  obtain ⟨F, hF⟩ : ∃ F, F = fitsB ⟨op, m, k, ja, jb, d⟩ [x0, x1] := ⟨_, rfl⟩
  rw [← hF]
  rcases h with rfl | rfl | rfl | rfl | rfl | rfl | rfl | rfl | rfl | rfl | rfl | rfl | rfl | rfl
  all_goals
    simp [fitsB] at hF
    have HF : Hid (F = _) := hF
    clear hF
    go_enter Try.func56, Try.ntmps56
    go_wp2_with (first | (go_at_call 59; refine (iWordOk _ _ _).mono ?_; rintro e w' ⟨rfl, rfl⟩) | (go_at_call 60; refine (iVarOk _ _).mono ?_; rintro e w' ⟨rfl, rfl⟩) | (go_at_call 53; refine (iWidthOk _ _).mono ?_; rintro e w' ⟨rfl, rfl⟩))
    try
      refine wp_region_quiet_lit (by kernel_rfl) (by kernel_rfl) ?_
      repeat (any_goals (first | go_big_quiet_step (fail) | quiet_step (fail) | (refine wpQuiet_step (fun K hK => ?_); go_simp; split <;> (refine hK _ ?_; clear hK K))))
      all_goals (refine wpQuiet_nil ?_; intro _ hw'; obtain ⟨nq, hw''⟩ := hw'; subst hw'')
      all_goals go_wp2
    all_goals
      go_ret
      refine ⟨ret_bool ?_, by first | exact below_drewN ((Below.refl _ _).alloc (Nat.le_refl _) _) _ | exact (Below.refl _ _).alloc (Nat.le_refl _) _⟩
      rw [HF.out, Bool.eq_iff_iff]
      first | (go_light; simp_all <;> omega) | (simp_all <;> omega)

set_option maxRecDepth 100000 in
set_option maxHeartbeats 80000000 in
theorem fits18 (w : World) (xb xo len c : Nat) (op m k x0 x1 x2 : Int) (hl : len ≤ 80) (ja jb jc : Nat) (hj : ja < len) (hj' : jb < len) (hj'' : jc < len) (p0 : w.cell? ⟨xb, xo + ja * 6 + 1, none⟩ = some (.int .i64 x0)) (hx0 : 1 ≤ x0 ∧ x0 ≤ 8) (p1 : w.cell? ⟨xb, xo + jb * 6 + 1, none⟩ = some (.int .i64 x1)) (hx1' : 1 ≤ x1 ∧ x1 ≤ 8) (p2 : w.cell? ⟨xb, xo + jc * 6 + 1, none⟩ = some (.int .i64 x2)) (hx2' : 1 ≤ x2 ∧ x2 ≤ 8) (hm : 1 ≤ m ∧ m ≤ 8)  (h : op = 18) :
    Calls Try.prog 56 #[.slice (some ⟨xb, xo, none⟩) len c, .agg #[.int .i64 op, .int .i64 m, .int .i64 k, .int .i64 ja, .int .i64 jb, .int .i64 jc]] w fun e w' =>
      e = .returned (.bool (fitsB ⟨op, m, k, ja, jb, jc⟩ [x0, x1, x2])) ∧ Below w.heap.size w w' := by
  have hxb : xb < w.heap.size := lt_of_cell (p := ⟨xb, _, none⟩) p0
  have hxn : ¬ xb = w.heap.size := by omega
  obtain ⟨hm1, hm2⟩ := hm
  have hjz : (ja : Int) < (len : Int) := by omega
  obtain ⟨hx1, hx2⟩ := hx0
  have hjz' : (jb : Int) < (len : Int) := by omega
  obtain ⟨hx3, hx4⟩ := hx1'
  have hjz'' : (jc : Int) < (len : Int) := by omega
  obtain ⟨hx5, hx6⟩ := hx2'
  obtain ⟨F, hF⟩ : ∃ F, F = fitsB ⟨op, m, k, ja, jb, jc⟩ [x0, x1, x2] := ⟨_, rfl⟩
  rw [← hF]
  subst h
  all_goals
    simp [fitsB] at hF
    have HF : Hid (F = _) := hF
    clear hF
    go_enter Try.func56, Try.ntmps56
    go_wp2_with (first | (go_at_call 59; refine (iWordOk _ _ _).mono ?_; rintro e w' ⟨rfl, rfl⟩) | (go_at_call 60; refine (iVarOk _ _).mono ?_; rintro e w' ⟨rfl, rfl⟩) | (go_at_call 53; refine (iWidthOk _ _).mono ?_; rintro e w' ⟨rfl, rfl⟩))
    try
      refine wp_region_quiet_lit (by kernel_rfl) (by kernel_rfl) ?_
      repeat (any_goals (first | go_big_quiet_step (fail) | quiet_step (fail) | (refine wpQuiet_step (fun K hK => ?_); go_simp; split <;> (refine hK _ ?_; clear hK K))))
      all_goals (refine wpQuiet_nil ?_; intro _ hw'; obtain ⟨nq, hw''⟩ := hw'; subst hw'')
      all_goals go_wp2
    all_goals
      go_ret
      refine ⟨ret_bool ?_, by first | exact below_drewN ((Below.refl _ _).alloc (Nat.le_refl _) _) _ | exact (Below.refl _ _).alloc (Nat.le_refl _) _⟩
      rw [HF.out, Bool.eq_iff_iff]
      first | (go_light; simp_all <;> omega) | (simp_all <;> omega)

set_option maxRecDepth 100000 in
set_option maxHeartbeats 80000000 in
theorem fitsC (w : World) (a : Option Addr) (len c : Nat) (op m k x b d : Int)  (h : op = 0 ∨ op = 1) :
    Calls Try.prog 56 #[.slice a len c, .agg #[.int .i64 op, .int .i64 m, .int .i64 k, .int .i64 x, .int .i64 b, .int .i64 d]] w fun e w' =>
      e = .returned (.bool (fitsB ⟨op, m, k, x, b, d⟩ [])) ∧ Below w.heap.size w w' := by
  obtain ⟨F, hF⟩ : ∃ F, F = fitsB ⟨op, m, k, x, b, d⟩ [] := ⟨_, rfl⟩
  rw [← hF]
  rcases h with rfl | rfl
  all_goals
    simp [fitsB] at hF
    have HF : Hid (F = _) := hF
    clear hF
    go_enter Try.func56, Try.ntmps56
    go_wp2_with (first | (go_at_call 59; refine (iWordOk _ _ _).mono ?_; rintro e w' ⟨rfl, rfl⟩) | (go_at_call 60; refine (iVarOk _ _).mono ?_; rintro e w' ⟨rfl, rfl⟩) | (go_at_call 53; refine (iWidthOk _ _).mono ?_; rintro e w' ⟨rfl, rfl⟩))
    go_ret
    refine ⟨ret_bool ?_, (Below.refl _ _).alloc (Nat.le_refl _) _⟩
    rw [HF.out]
    first | done | simp

set_option maxRecDepth 100000 in
set_option maxHeartbeats 4000000 in
theorem fitsN (w : World) (a : Option Addr) (len c : Nat) (op m k x b d : Int) (hop : op < 0 ∨ 20 < op) :
    Calls Try.prog 56 #[.slice a len c, .agg #[.int .i64 op, .int .i64 m, .int .i64 k, .int .i64 x, .int .i64 b, .int .i64 d]] w fun e w' =>
      e = .returned (.bool (fitsB ⟨op, m, k, x, b, d⟩ [])) ∧ Below w.heap.size w w' := by
  have HF : Hid (fitsB ⟨op, m, k, x, b, d⟩ [] = false) := by
    show _ = _
    unfold fitsB; dsimp only; rw [if_neg (by omega), if_neg (by omega), if_neg (by omega), if_neg (by omega), if_neg (by omega), if_neg (by omega), if_neg (by omega), if_neg (by omega), if_neg (by omega)]
  obtain ⟨t0, t1, t2, t3, t4, t5, t6, t7, t8, t9, t10⟩ : (op == 0) = false ∧ (op == 1) = false ∧ (op == 2) = false ∧ (op == 3) = false ∧ (op == 4) = false ∧ (op == 5) = false ∧ (op == 6) = false ∧ (op == 7) = false ∧ (op == 8) = false ∧ (op == 9) = false ∧ (op == 10) = false := by simp; omega
  obtain ⟨t0, t1, t2, t3, t4, t5, t6, t7, t8, t9⟩ : (op == 11) = false ∧ (op == 12) = false ∧ (op == 13) = false ∧ (op == 14) = false ∧ (op == 15) = false ∧ (op == 16) = false ∧ (op == 17) = false ∧ (op == 18) = false ∧ (op == 19) = false ∧ (op == 20) = false := by simp; omega
  clear hop
  go_enter Try.func56, Try.ntmps56
  go_wp2_with (first | (go_at_call 59; refine (iWordOk _ _ _).mono ?_; rintro e w' ⟨rfl, rfl⟩) | (go_at_call 60; refine (iVarOk _ _).mono ?_; rintro e w' ⟨rfl, rfl⟩) | (go_at_call 53; refine (iWidthOk _ _).mono ?_; rintro e w' ⟨rfl, rfl⟩))
  go_ret
  refine ⟨ret_bool ?_, (Below.refl _ _).alloc (Nat.le_refl _) _⟩
  first | (rw [HF.out]; done) | (rw [HF.out]; simp)

end Go.Proofs.Ytebejleeadofcaa.Pg4
