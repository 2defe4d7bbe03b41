/- The walk of the program's Apply: operators are functions in an array. -/
import Derived.Deep.RegionHeld
import Derived.Deep.WholeRow
import Derived.Test.YtjhhmnelddidjaaIc4
import Derived.Test.YtjhhmnelddidjaaBt0
import Derived.Test.YtjhhmnelddidjaaWd5
import Derived.Test.YtjhhmnelddidjaaSv1
namespace Go.Proofs.Ytjhhmnelddidjaa.Pv1
open Go.RowKit
open Nd0 Pl1 Pl2 Vl1 Vl2 Bt0 Wd1 Wd2 Wd3 Wd4 Wd5 Ic4
open Sv1 (Rg below1)
set_option linter.unusedVariables false
theorem wr64 (n : Int) (h : -9223372036854775808 ≤ n ∧ n ≤ 9223372036854775807) : wrap64 n = n := by unfold wrap64; omega
/-- The array of operators. -/
def tab : Array Value := #[.func (.func 41) #[] #[], .nilFunc, .func (.func 42) #[] #[], .func (.func 44) #[] #[], .func (.func 45) #[] #[], .func (.func 46) #[] #[], .func (.func 47) #[] #[], .func (.func 49) #[] #[], .func (.func 51) #[] #[], .func (.func 53) #[] #[], .func (.func 55) #[] #[], .func (.func 57) #[] #[], .func (.func 59) #[] #[], .func (.func 61) #[] #[], .func (.func 63) #[] #[], .func (.func 65) #[] #[], .func (.func 67) #[] #[], .func (.func 68) #[] #[], .func (.func 70) #[] #[]]
/-- What the function of an operator is to do. -/
def Clo (f : Nat) (n : Nd) (W a b c : Int) (v : Int) : Prop := ∀ w : World,
    Calls Try.prog f #[.agg #[.int .i64 n.op, .int .i64 n.w, .int .i64 n.k, .int .i64 n.a, .int .i64 n.b, .int .i64 n.c], .int .i64 W, .int .i64 a, .int .i64 b, .int .i64 c] w fun e w' => e = .returned (.int .i64 v) ∧ Below w.heap.size w w'

set_option maxHeartbeats 1000000 in
theorem c0 (n : Nd) (W a b c : Int) : Clo 41 n W a b c (n.k) := by
  intro w
  go_enter Try.func41, Try.ntmps41
  go_wp2
  go_ret
  exact ⟨ret_int (by rfl), below1 _ _⟩

set_option maxHeartbeats 1000000 in
theorem c2 (n : Nd) (W a b c : Int) : Clo 42 n W a b c (vFlip n.w a) := by
  intro w
  go_enter Try.func42, Try.ntmps42
  go_wp2_with (first | (go_at_call 43; refine (iFlip _ _ _).mono ?_; rintro e w' ⟨rfl, rfl⟩))
  go_ret
  exact ⟨ret_int (by rfl), below1 _ _⟩

set_option maxHeartbeats 1000000 in
theorem c3 (n : Nd) (W a b c : Int) (r3 : 0 ≤ a ∧ a ≤ 255) (r4 : 0 ≤ b ∧ b ≤ 255) : Clo 44 n W a b c (nAnd a b) := by
  intro w
  have HB : Hid (bits .and .i64 a b = nAnd a b) := band r3 r4
  go_enter Try.func44, Try.ntmps44
  go_wp2
  go_ret
  exact ⟨ret_int (by exact HB.out), below1 _ _⟩

set_option maxHeartbeats 1000000 in
theorem c4 (n : Nd) (W a b c : Int) (r3 : 0 ≤ a ∧ a ≤ 255) (r4 : 0 ≤ b ∧ b ≤ 255) : Clo 45 n W a b c (nOr a b) := by
  intro w
  have HB : Hid (bits .or .i64 a b = nOr a b) := bor r3 r4
  go_enter Try.func45, Try.ntmps45
  go_wp2
  go_ret
  exact ⟨ret_int (by exact HB.out), below1 _ _⟩

set_option maxHeartbeats 1000000 in
theorem c5 (n : Nd) (W a b c : Int) (r3 : 0 ≤ a ∧ a ≤ 255) (r4 : 0 ≤ b ∧ b ≤ 255) : Clo 46 n W a b c (nXor a b) := by
  intro w
  have HB : Hid (bits .xor .i64 a b = nXor a b) := bxor r3 r4
  go_enter Try.func46, Try.ntmps46
  go_wp2
  go_ret
  exact ⟨ret_int (by exact HB.out), below1 _ _⟩

set_option maxHeartbeats 1000000 in
theorem c6 (n : Nd) (W a b c : Int) : Clo 47 n W a b c (vAdd n.w a b) := by
  intro w
  go_enter Try.func47, Try.ntmps47
  go_wp2_with (first | (go_at_call 48; refine (iAdd _ _ _ _).mono ?_; rintro e w' ⟨rfl, rfl⟩))
  go_ret
  exact ⟨ret_int (by rfl), below1 _ _⟩

set_option maxHeartbeats 1000000 in
theorem c7 (n : Nd) (W a b c : Int) : Clo 49 n W a b c (vSub n.w a b) := by
  intro w
  go_enter Try.func49, Try.ntmps49
  go_wp2_with (first | (go_at_call 50; refine (iSub _ _ _ _).mono ?_; rintro e w' ⟨rfl, rfl⟩))
  go_ret
  exact ⟨ret_int (by rfl), below1 _ _⟩

set_option maxHeartbeats 1000000 in
theorem c8 (n : Nd) (W a b c : Int) : Clo 51 n W a b c (vMul n.w a b) := by
  intro w
  go_enter Try.func51, Try.ntmps51
  go_wp2_with (first | (go_at_call 52; refine (iMul _ _ _ _).mono ?_; rintro e w' ⟨rfl, rfl⟩))
  go_ret
  exact ⟨ret_int (by rfl), below1 _ _⟩

set_option maxHeartbeats 1000000 in
theorem c9 (n : Nd) (W a b c : Int) : Clo 53 n W a b c (vDiv n.w a b) := by
  intro w
  go_enter Try.func53, Try.ntmps53
  go_wp2_with (first | (go_at_call 54; refine (iDiv _ _ _ _).mono ?_; rintro e w' ⟨rfl, rfl⟩))
  go_ret
  exact ⟨ret_int (by rfl), below1 _ _⟩

set_option maxHeartbeats 1000000 in
theorem c10 (n : Nd) (W a b c : Int) : Clo 55 n W a b c (vRem n.w a b) := by
  intro w
  go_enter Try.func55, Try.ntmps55
  go_wp2_with (first | (go_at_call 56; refine (iRem _ _ _ _).mono ?_; rintro e w' ⟨rfl, rfl⟩))
  go_ret
  exact ⟨ret_int (by rfl), below1 _ _⟩

set_option maxHeartbeats 1000000 in
theorem c11 (n : Nd) (W a b c : Int) : Clo 57 n W a b c (vShl n.w a b) := by
  intro w
  go_enter Try.func57, Try.ntmps57
  go_wp2_with (first | (go_at_call 58; refine (iShl _ _ _ _).mono ?_; rintro e w' ⟨rfl, rfl⟩))
  go_ret
  exact ⟨ret_int (by rfl), below1 _ _⟩

set_option maxHeartbeats 1000000 in
theorem c12 (n : Nd) (W a b c : Int) : Clo 59 n W a b c (vShr n.w a b) := by
  intro w
  go_enter Try.func59, Try.ntmps59
  go_wp2_with (first | (go_at_call 60; refine (iShr _ _ _ _).mono ?_; rintro e w' ⟨rfl, rfl⟩))
  go_ret
  exact ⟨ret_int (by rfl), below1 _ _⟩

set_option maxHeartbeats 1000000 in
theorem c13 (n : Nd) (W a b c v : Int) (hv : v = if a = b then 1 else 0) : Clo 61 n W a b c v := by
  intro w
  cases hab : (a == b)
  · have HV : Hid (v = 0) := by
      show _ = _
      rw [hv, if_neg (by simpa using hab)]
    clear hv
    go_enter Try.func61, Try.ntmps61
    go_wp2_with (go_at_call 62; refine (iOne _ _).mono ?_; rintro e w' ⟨rfl, rfl⟩)
    go_ret
    exact ⟨ret_int HV.out.symm, below1 _ _⟩
  · have HV : Hid (v = 1) := by
      show _ = _
      rw [hv, if_pos (by simpa using hab)]
    clear hv
    go_enter Try.func61, Try.ntmps61
    go_wp2_with (go_at_call 62; refine (iOne _ _).mono ?_; rintro e w' ⟨rfl, rfl⟩)
    go_ret
    exact ⟨ret_int HV.out.symm, below1 _ _⟩

set_option maxHeartbeats 1000000 in
theorem c14 (n : Nd) (W a b c : Int) : Clo 63 n W a b c (vLess W a b) := by
  intro w
  go_enter Try.func63, Try.ntmps63
  go_wp2_with (first | (go_at_call 64; refine (iLess _ _ _ _).mono ?_; rintro e w' ⟨rfl, rfl⟩))
  go_ret
  exact ⟨ret_int (by rfl), below1 _ _⟩

set_option maxHeartbeats 1000000 in
theorem c15 (n : Nd) (W a b c : Int) : Clo 65 n W a b c (vLessSigned W a b) := by
  intro w
  go_enter Try.func65, Try.ntmps65
  go_wp2_with (first | (go_at_call 66; refine (iLessSigned _ _ _ _).mono ?_; rintro e w' ⟨rfl, rfl⟩))
  go_ret
  exact ⟨ret_int (by rfl), below1 _ _⟩

set_option maxHeartbeats 1000000 in
theorem c16 (n : Nd) (W a b c : Int) (r1 : 1 ≤ n.w ∧ n.w ≤ 8) (r2 : 1 ≤ W ∧ W ≤ 8) (r3 : 0 ≤ a ∧ a ≤ 255) (r4 : 0 ≤ b ∧ b ≤ 255) (v : Int) (hv : v = if n.w < W then b else a * p2 (n.w - W).toNat + b) : Clo 67 n W a b c v := by
  intro w
  by_cases hlt : n.w < W
  · have HV : Hid (v = b) := hv.trans (if_pos hlt)
    clear hv
    go_enter Try.func67, Try.ntmps67
    go_wp2
    go_ret
    exact ⟨ret_int HV.out.symm, below1 _ _⟩
  · have HV : Hid (v = a * p2 (n.w - W).toNat + b) := hv.trans (if_neg hlt)
    clear hv
    have hr := p2_mono (show (n.w - W).toNat ≤ 7 by omega)
    have hq := p2_pos (n.w - W).toNat
    have hr7 : p2 7 = 128 := rfl
    obtain ⟨hb1, hb2⟩ := mul_bd r3.1 r3.2 (show 0 ≤ p2 (n.w - W).toNat by omega) (by omega)
    have hsh : 0 ≤ n.w - W := by omega
    have HS : Hid (a * 2 ^ (n.w - W).toNat = a * p2 (n.w - W).toNat) := by show _ = _; simp [p2]
    go_enter Try.func67, Try.ntmps67
    go_wp2
    go_ret
    exact ⟨ret_int (by rw [HV.out, HS.out, wr64 (a * p2 (n.w - W).toNat) (by omega)]; exact wr64 _ (by omega)), below1 _ _⟩

set_option maxHeartbeats 1000000 in
theorem c17 (n : Nd) (W a b c : Int) (hw : (Lit.int .i64 n.w).wf = true) : Clo 68 n W a b c (vSlice W a n.k n.w) := by
  intro w
  go_enter Try.func68, Try.ntmps68
  go_wp2_with (first | (go_at_call 69; refine (iSlice _ _ _ _ _ hw).mono ?_; rintro e w' ⟨rfl, rfl⟩))
  go_ret
  exact ⟨ret_int (by rfl), below1 _ _⟩

set_option maxHeartbeats 1000000 in
theorem c18 (n : Nd) (W a b c v : Int) (hv : v = if a = 1 then b else c) : Clo 70 n W a b c v := by
  intro w
  cases ha : (a == 1)
  · have HV : Hid (v = c) := hv.trans (if_neg (by simpa using ha))
    clear hv
    go_enter Try.func70, Try.ntmps70
    go_wp2
    go_ret
    exact ⟨ret_int HV.out.symm, below1 _ _⟩
  · have HV : Hid (v = b) := hv.trans (if_pos (by simpa using ha))
    clear hv
    go_enter Try.func70, Try.ntmps70
    go_wp2
    go_ret
    exact ⟨ret_int HV.out.symm, below1 _ _⟩

set_option maxHeartbeats 1000000 in
theorem byteOk (x : Int) (w : World) :
    Calls Try.prog 30 #[.int .i64 x] w fun e w' => e = .returned (.bool (decide (0 ≤ x ∧ x ≤ 255))) ∧ w' = w := by
  by_cases h1 : 0 ≤ x <;> by_cases h2 : x ≤ 255
  all_goals
    go_enter Try.func30, Try.ntmps30
    go_wp2
    go_ret
    exact ⟨ret_bool (by simp <;> omega), rfl⟩
theorem sizeTab : (Try.prog.info? 45).map (·.size) = some tab.size := by kernel_rfl
theorem oneTab : tab.all (·.oneCell') = true := by kernel_rfl
/-- A whole array into the block that was made last. -/
theorem store_new {ops : Array Oper} {rest : List Oper} {op : Oper} {a : Act} {Q : Exit → Act → World → Prop} (w : World) (hgd : op.guard = none) (ty : TypeId) (x y : Operand) (ho : op.op = .store ty x y)
    (c c' : Array Value) (g : Nat) (hx : a.eval x = .pointer (some ⟨g, 0, none⟩)) (hg : g = w.heap.size) (hy : a.eval y = .agg c') (hi : (Try.prog.info? ty).map (·.size) = some c'.size) (hs : c.size = c'.size) (h1 : c'.all (·.oneCell') = true)
    (h : wpList Try.prog ops Q rest (a.put op.dst undef) (w.alloc (.cells c' ty))) : wpList Try.prog ops Q (op :: rest) a (w.alloc (.cells c ty)) :=
  wpList_plain hgd fun _ hK => by
    subst hg
    unfold Oper.wp execOp
    simp only [ho, hx, hy, Sem.run_bind, Sem.run_pure, run_storeAt_new w ty c c' hi hs h1, Result.andThen_ok]
    exact hK _ _ h
set_option maxHeartbeats 1000000 in
theorem operators (w : World) :
    Calls Try.prog 31 #[] w fun e w' => e = .returned (.agg tab) ∧ w' = w.alloc (.cells tab 45) := by
  go_enter Try.func31, Try.ntmps31
  go_wp2_with (refine store_new _ rfl 45 (.tmp 0) (.tmp 1) rfl _ tab _ rfl rfl rfl sizeTab rfl oneTab ?_)
  refine bodyPost_ret (v := .agg tab) ?_ rfl ⟨rfl, rfl⟩
  exact results_cell_row rfl _ _ w.heap.size _ tab _ _ rfl (heap_alloc_last w _) Try.underlying45 rfl sizeTab

end Go.Proofs.Ytjhhmnelddidjaa.Pv1
