/- Small texts of mine, one behind the other. -/
import Derived.Deep.RegionHeld
import Derived.Deep.WholeRow
import Derived.Test.YtbnjndloeflgiaaGreatPkTA23
import Derived.Test.YtbnjndloeflgiaaGreatPkTA24
import Derived.Test.YtbnjndloeflgiaaGreatPkTA30
import Derived.Test.YtbnjndloeflgiaaGreatSv1
/- The walk of the program's Apply: operators are functions in an array. -/
namespace Go.Proofs.YtbnjndloeflgiaaGreat.Pv1
open Go.RowKit
open Nd0 Pl1 Pl2 Vl1 Vl2 Bt0 Wd1 Wd2 Wd3 Wd4 Wd5 Ic4
open Sv1 (Rg below1)
set_option linter.unusedVariables false
theorem wr64 (n : Int) (h : -9223372036854775808 ≤ n ∧ n ≤ 9223372036854775807) : wrap64 n = n := by unfold wrap64; omega
def tab : Array Value := #[.func (.func 96) #[] #[], .nilFunc, .func (.func 97) #[] #[], .func (.func 99) #[] #[], .func (.func 100) #[] #[], .func (.func 101) #[] #[], .func (.func 102) #[] #[], .func (.func 104) #[] #[], .func (.func 106) #[] #[], .func (.func 108) #[] #[], .func (.func 110) #[] #[], .func (.func 112) #[] #[], .func (.func 114) #[] #[], .func (.func 116) #[] #[], .func (.func 117) #[] #[], .func (.func 119) #[] #[], .func (.func 121) #[] #[], .func (.func 122) #[] #[], .func (.func 124) #[] #[]]
def Clo (f : Nat) (n : Nd) (W a b c : Int) (v : Int) : Prop := ∀ w : World,
    Calls Tryz.prog f #[.agg #[.int .i64 n.op, .int .i64 n.w, .int .i64 n.k, .int .i64 n.a, .int .i64 n.b, .int .i64 n.c], .int .i64 W, .int .i64 a, .int .i64 b, .int .i64 c] w fun e w' => e = .returned (.int .i64 v) ∧ Below w.heap.size w w'

set_option maxHeartbeats 1000000 in
theorem c0 (n : Nd) (W a b c : Int) : Clo 96 n W a b c (n.k) := by
  intro w
  go_enter Tryz.func96, Tryz.ntmps96
  go_wp2
  go_ret
  exact ⟨ret_int (by rfl), below1 _ _⟩

set_option maxHeartbeats 1000000 in
theorem c2 (n : Nd) (W a b c : Int) : Clo 97 n W a b c (vFlip n.w a) := by
  intro w
  go_enter Tryz.func97, Tryz.ntmps97
  go_wp2_with (first | (go_at_call 98; refine (iFlip _ _ _).mono ?_; rintro e w' ⟨rfl, rfl⟩))
  go_ret
  exact ⟨ret_int (by rfl), below1 _ _⟩

set_option maxHeartbeats 1000000 in
theorem c3 (n : Nd) (W a b c : Int) (r3 : 0 ≤ a ∧ a ≤ 255) (r4 : 0 ≤ b ∧ b ≤ 255) : Clo 99 n W a b c (nAnd a b) := by
  intro w
  have HB : Hid (bits .and .i64 a b = nAnd a b) := band r3 r4
  go_enter Tryz.func99, Tryz.ntmps99
  go_wp2
  go_ret
  exact ⟨ret_int (by exact HB.out), below1 _ _⟩

set_option maxHeartbeats 1000000 in
theorem c4 (n : Nd) (W a b c : Int) (r3 : 0 ≤ a ∧ a ≤ 255) (r4 : 0 ≤ b ∧ b ≤ 255) : Clo 100 n W a b c (nOr a b) := by
  intro w
  have HB : Hid (bits .or .i64 a b = nOr a b) := bor r3 r4
  go_enter Tryz.func100, Tryz.ntmps100
  go_wp2
  go_ret
  exact ⟨ret_int (by exact HB.out), below1 _ _⟩

set_option maxHeartbeats 1000000 in
theorem c5 (n : Nd) (W a b c : Int) (r3 : 0 ≤ a ∧ a ≤ 255) (r4 : 0 ≤ b ∧ b ≤ 255) : Clo 101 n W a b c (nXor a b) := by
  intro w
  have HB : Hid (bits .xor .i64 a b = nXor a b) := bxor r3 r4
  go_enter Tryz.func101, Tryz.ntmps101
  go_wp2
  go_ret
  exact ⟨ret_int (by exact HB.out), below1 _ _⟩

set_option maxHeartbeats 1000000 in
theorem c6 (n : Nd) (W a b c : Int) : Clo 102 n W a b c (vAdd n.w a b) := by
  intro w
  go_enter Tryz.func102, Tryz.ntmps102
  go_wp2_with (first | (go_at_call 103; refine (iAdd _ _ _ _).mono ?_; rintro e w' ⟨rfl, rfl⟩))
  go_ret
  exact ⟨ret_int (by rfl), below1 _ _⟩

set_option maxHeartbeats 1000000 in
theorem c7 (n : Nd) (W a b c : Int) : Clo 104 n W a b c (vSub n.w a b) := by
  intro w
  go_enter Tryz.func104, Tryz.ntmps104
  go_wp2_with (first | (go_at_call 105; refine (iSub _ _ _ _).mono ?_; rintro e w' ⟨rfl, rfl⟩))
  go_ret
  exact ⟨ret_int (by rfl), below1 _ _⟩

set_option maxHeartbeats 1000000 in
theorem c8 (n : Nd) (W a b c : Int) : Clo 106 n W a b c (vMul n.w a b) := by
  intro w
  go_enter Tryz.func106, Tryz.ntmps106
  go_wp2_with (first | (go_at_call 107; refine (iMul _ _ _ _).mono ?_; rintro e w' ⟨rfl, rfl⟩))
  go_ret
  exact ⟨ret_int (by rfl), below1 _ _⟩

set_option maxHeartbeats 1000000 in
theorem c9 (n : Nd) (W a b c : Int) : Clo 108 n W a b c (vDiv n.w a b) := by
  intro w
  go_enter Tryz.func108, Tryz.ntmps108
  go_wp2_with (first | (go_at_call 109; refine (iDiv _ _ _ _).mono ?_; rintro e w' ⟨rfl, rfl⟩))
  go_ret
  exact ⟨ret_int (by rfl), below1 _ _⟩

set_option maxHeartbeats 1000000 in
theorem c10 (n : Nd) (W a b c : Int) : Clo 110 n W a b c (vRem n.w a b) := by
  intro w
  go_enter Tryz.func110, Tryz.ntmps110
  go_wp2_with (first | (go_at_call 111; refine (iRem _ _ _ _).mono ?_; rintro e w' ⟨rfl, rfl⟩))
  go_ret
  exact ⟨ret_int (by rfl), below1 _ _⟩

set_option maxHeartbeats 1000000 in
theorem c11 (n : Nd) (W a b c : Int) : Clo 112 n W a b c (vShl n.w a b) := by
  intro w
  go_enter Tryz.func112, Tryz.ntmps112
  go_wp2_with (first | (go_at_call 113; refine (iShl _ _ _ _).mono ?_; rintro e w' ⟨rfl, rfl⟩))
  go_ret
  exact ⟨ret_int (by rfl), below1 _ _⟩

set_option maxHeartbeats 1000000 in
theorem c12 (n : Nd) (W a b c : Int) : Clo 114 n W a b c (vShr n.w a b) := by
  intro w
  go_enter Tryz.func114, Tryz.ntmps114
  go_wp2_with (first | (go_at_call 115; refine (iShr _ _ _ _).mono ?_; rintro e w' ⟨rfl, rfl⟩))
  go_ret
  exact ⟨ret_int (by rfl), below1 _ _⟩

set_option maxHeartbeats 1000000 in
theorem c13 (n : Nd) (W a b c v : Int) (hv : v = if a = b then 1 else 0) : Clo 116 n W a b c v := by
  intro w
  cases hab : (a == b)
  · have HV : Hid (v = 0) := by
      show _ = _
      rw [hv, if_neg (by simpa using hab)]
    clear hv
    go_enter Tryz.func116, Tryz.ntmps116
    go_wp2_with (go_at_call 69; refine (iOne _ _).mono ?_; rintro e w' ⟨rfl, rfl⟩)
    go_ret
    exact ⟨ret_int HV.out.symm, below1 _ _⟩
  · have HV : Hid (v = 1) := by
      show _ = _
      rw [hv, if_pos (by simpa using hab)]
    clear hv
    go_enter Tryz.func116, Tryz.ntmps116
    go_wp2_with (go_at_call 69; refine (iOne _ _).mono ?_; rintro e w' ⟨rfl, rfl⟩)
    go_ret
    exact ⟨ret_int HV.out.symm, below1 _ _⟩

set_option maxHeartbeats 1000000 in
theorem c14 (n : Nd) (W a b c : Int) : Clo 117 n W a b c (vLess W a b) := by
  intro w
  go_enter Tryz.func117, Tryz.ntmps117
  go_wp2_with (first | (go_at_call 118; refine (iLess _ _ _ _).mono ?_; rintro e w' ⟨rfl, rfl⟩))
  go_ret
  exact ⟨ret_int (by rfl), below1 _ _⟩

set_option maxHeartbeats 1000000 in
theorem c15 (n : Nd) (W a b c : Int) : Clo 119 n W a b c (vLessSigned W a b) := by
  intro w
  go_enter Tryz.func119, Tryz.ntmps119
  go_wp2_with (first | (go_at_call 120; refine (iLessSigned _ _ _ _).mono ?_; rintro e w' ⟨rfl, rfl⟩))
  go_ret
  exact ⟨ret_int (by rfl), below1 _ _⟩

set_option maxHeartbeats 1000000 in
theorem c16 (n : Nd) (W a b c : Int) (r1 : 1 ≤ n.w ∧ n.w ≤ 8) (r2 : 1 ≤ W ∧ W ≤ 8) (r3 : 0 ≤ a ∧ a ≤ 255) (r4 : 0 ≤ b ∧ b ≤ 255) (v : Int) (hv : v = if n.w < W then b else a * p2 (n.w - W).toNat + b) : Clo 121 n W a b c v := by
  intro w
  by_cases hlt : n.w < W
  · have HV : Hid (v = b) := hv.trans (if_pos hlt)
    clear hv
    go_enter Tryz.func121, Tryz.ntmps121
    go_wp2
    go_ret
    exact ⟨ret_int HV.out.symm, below1 _ _⟩
  · have HV : Hid (v = a * p2 (n.w - W).toNat + b) := hv.trans (if_neg hlt)
    clear hv
    have hr := p2_mono (show (n.w - W).toNat ≤ 7 by omega)
    have hq := p2_pos (n.w - W).toNat
    have hr7 : p2 7 = 128 := rfl
    obtain ⟨hb1, hb2⟩ := mul_bd r3.1 r3.2 (show 0 ≤ p2 (n.w - W).toNat by omega) (by omega)
    have hsh : 0 ≤ n.w - W := by omega
    have HS : Hid (a * 2 ^ (n.w - W).toNat = a * p2 (n.w - W).toNat) := by show _ = _; simp [p2]
    go_enter Tryz.func121, Tryz.ntmps121
    go_wp2
    go_ret
    exact ⟨ret_int (by rw [HV.out, HS.out, wr64 (a * p2 (n.w - W).toNat) (by omega)]; exact wr64 _ (by omega)), below1 _ _⟩

set_option maxHeartbeats 1000000 in
theorem c17 (n : Nd) (W a b c : Int) (hw : (Lit.int .i64 n.w).wf = true) : Clo 122 n W a b c (vSlice W a n.k n.w) := by
  intro w
  go_enter Tryz.func122, Tryz.ntmps122
  go_wp2_with (first | (go_at_call 123; refine (iSlice _ _ _ _ _ hw).mono ?_; rintro e w' ⟨rfl, rfl⟩))
  go_ret
  exact ⟨ret_int (by rfl), below1 _ _⟩

set_option maxHeartbeats 1000000 in
theorem c18 (n : Nd) (W a b c v : Int) (hv : v = if a = 1 then b else c) : Clo 124 n W a b c v := by
  intro w
  cases ha : (a == 1)
  · have HV : Hid (v = c) := hv.trans (if_neg (by simpa using ha))
    clear hv
    go_enter Tryz.func124, Tryz.ntmps124
    go_wp2
    go_ret
    exact ⟨ret_int HV.out.symm, below1 _ _⟩
  · have HV : Hid (v = b) := hv.trans (if_pos (by simpa using ha))
    clear hv
    go_enter Tryz.func124, Tryz.ntmps124
    go_wp2
    go_ret
    exact ⟨ret_int HV.out.symm, below1 _ _⟩

set_option maxHeartbeats 1000000 in
theorem byteOk (x : Int) (w : World) :
    Calls Tryz.prog 79 #[.int .i64 x] w fun e w' => e = .returned (.bool (decide (0 ≤ x ∧ x ≤ 255))) ∧ w' = w := by
  by_cases h1 : 0 ≤ x <;> by_cases h2 : x ≤ 255
  all_goals
    go_enter Tryz.func79, Tryz.ntmps79
    go_wp2
    go_ret
    exact ⟨ret_bool (by simp <;> omega), rfl⟩
theorem sizeTab : (Tryz.prog.info? 113).map (·.size) = some tab.size := by kernel_rfl
theorem oneTab : tab.all (·.oneCell') = true := by kernel_rfl
theorem store_new {ops : Array Oper} {rest : List Oper} {op : Oper} {a : Act} {Q : Exit → Act → World → Prop} (w : World) (hgd : op.guard = none) (ty : TypeId) (x y : Operand) (ho : op.op = .store ty x y)
    (c c' : Array Value) (g : Nat) (hx : a.eval x = .pointer (some ⟨g, 0, none⟩)) (hg : g = w.heap.size) (hy : a.eval y = .agg c') (hi : (Tryz.prog.info? ty).map (·.size) = some c'.size) (hs : c.size = c'.size) (h1 : c'.all (·.oneCell') = true)
    (h : wpList Tryz.prog ops Q rest (a.put op.dst undef) (w.alloc (.cells c' ty))) : wpList Tryz.prog ops Q (op :: rest) a (w.alloc (.cells c ty)) :=
  wpList_plain hgd fun _ hK => by
    subst hg
    unfold Oper.wp execOp
    simp only [ho, hx, hy, Sem.run_bind, Sem.run_pure, run_storeAt_new w ty c c' hi hs h1, Result.andThen_ok]
    exact hK _ _ h
set_option maxRecDepth 100000 in
set_option maxHeartbeats 1000000 in
theorem operators (w : World) :
    Calls Tryz.prog 80 #[] w fun e w' => e = .returned (.agg tab) ∧ w' = w.alloc (.cells tab 113) := by
  go_enter Tryz.func80, Tryz.ntmps80
  go_wp2_with (refine store_new _ rfl 113 (.tmp 0) (.tmp 1) rfl _ tab _ rfl rfl rfl sizeTab rfl oneTab ?_)
  refine bodyPost_ret (v := .agg tab) ?_ rfl ⟨rfl, rfl⟩
  exact results_cell_row rfl _ _ w.heap.size _ tab _ _ rfl (heap_alloc_last w _) Tryz.underlying113 rfl sizeTab

end Go.Proofs.YtbnjndloeflgiaaGreat.Pv1

/- The walk of the program's Apply, out of the contracts of its operators. -/
namespace Go.Proofs.YtbnjndloeflgiaaGreat.Pv3
open Go.RowKit
open Nd0 Pl1 Pl2 Vl1 Vl2 Bt0 Wd1 Wd2 Wd3 Wd4 Wd5 Ic4 Pv1
open Sv1 (Rg below1)
set_option linter.unusedVariables false
theorem eqIn_func (d : Nat) (f : Fn) (x y : Array Value) (w : World) : (Op.equalIn (d + 1) 112 (.func f x y) .nilFunc).run Tryz.prog w = .ok false w := by
  simp [Op.equalIn, run_underlying Tryz.underlying112]
theorem eqIn_nil (d : Nat) (w : World) : (Op.equalIn (d + 1) 112 .nilFunc .nilFunc).run Tryz.prog w = .ok true w := by
  simp [Op.equalIn, run_underlying Tryz.underlying112]
theorem eql_func (f : Fn) (x y : Array Value) (w : World) : (binOp .eql 112 (.func f x y) .nilFunc).run Tryz.prog w = .ok (.bool false) w := by
  have h : (Op.equal 112 (.func f x y) .nilFunc).run Tryz.prog w = .ok false w := eqIn_func 9999 f x y w
  simp only [binOp]
  simp [h]
theorem eql_nil (w : World) : (binOp .eql 112 .nilFunc .nilFunc).run Tryz.prog w = .ok (.bool true) w := by
  have h : (Op.equal 112 .nilFunc .nilFunc).run Tryz.prog w = .ok true w := eqIn_nil 9999 w
  simp only [binOp]
  simp [h]
theorem facts7 (w : World) (k : Nat) (f v0 v1 v2 v3 v4 v5 : Value) (hk : k < tab.size) (h : tab[k]'hk = f) :
    (((w.alloc (.cells #[v0, v1, v2, v3, v4, v5] 50)).alloc (.cells tab 113)).alloc (.cells tab 113)).cell? ⟨w.heap.size, 0, none⟩ = some v0 ∧
    (((w.alloc (.cells #[v0, v1, v2, v3, v4, v5] 50)).alloc (.cells tab 113)).alloc (.cells tab 113)).cell? ⟨w.heap.size, 1, none⟩ = some v1 ∧
    (((w.alloc (.cells #[v0, v1, v2, v3, v4, v5] 50)).alloc (.cells tab 113)).alloc (.cells tab 113)).cell? ⟨w.heap.size, 2, none⟩ = some v2 ∧
    (((w.alloc (.cells #[v0, v1, v2, v3, v4, v5] 50)).alloc (.cells tab 113)).alloc (.cells tab 113)).cell? ⟨w.heap.size, 3, none⟩ = some v3 ∧
    (((w.alloc (.cells #[v0, v1, v2, v3, v4, v5] 50)).alloc (.cells tab 113)).alloc (.cells tab 113)).cell? ⟨w.heap.size, 4, none⟩ = some v4 ∧
    (((w.alloc (.cells #[v0, v1, v2, v3, v4, v5] 50)).alloc (.cells tab 113)).alloc (.cells tab 113)).cell? ⟨w.heap.size, 5, none⟩ = some v5 ∧
    (((w.alloc (.cells #[v0, v1, v2, v3, v4, v5] 50)).alloc (.cells tab 113)).alloc (.cells tab 113)).cell? ⟨w.heap.size + 1 + 1, k, none⟩ = some f := by
  have hB : Below (w.alloc (.cells #[v0, v1, v2, v3, v4, v5] 50)).heap.size (w.alloc (.cells #[v0, v1, v2, v3, v4, v5] 50)) (((w.alloc (.cells #[v0, v1, v2, v3, v4, v5] 50)).alloc (.cells tab 113)).alloc (.cells tab 113)) := ((Below.refl _ _).alloc (Nat.le_refl _) _).alloc (by simp) _
  have e : ((w.alloc (.cells #[v0, v1, v2, v3, v4, v5] 50)).alloc (.cells tab 113)).heap.size = w.heap.size + 1 + 1 := by simp
  refine ⟨?_, ?_, ?_, ?_, ?_, ?_, ?_⟩
  · rw [hB.cell (by simp), World.cell?_alloc_new]; rfl
  · rw [hB.cell (by simp), World.cell?_alloc_new]; rfl
  · rw [hB.cell (by simp), World.cell?_alloc_new]; rfl
  · rw [hB.cell (by simp), World.cell?_alloc_new]; rfl
  · rw [hB.cell (by simp), World.cell?_alloc_new]; rfl
  · rw [hB.cell (by simp), World.cell?_alloc_new]; rfl
  · rw [← e, World.cell?_alloc_new, ← h]
    exact Array.getElem?_eq_getElem hk
theorem kept7 {W W' : World} {b t k : Nat} {v0 v1 v2 v3 v4 v5 f : Value}
    (h : W.cell? ⟨b, 0, none⟩ = some v0 ∧ W.cell? ⟨b, 1, none⟩ = some v1 ∧ W.cell? ⟨b, 2, none⟩ = some v2 ∧ W.cell? ⟨b, 3, none⟩ = some v3 ∧ W.cell? ⟨b, 4, none⟩ = some v4 ∧ W.cell? ⟨b, 5, none⟩ = some v5 ∧ W.cell? ⟨t, k, none⟩ = some f) (hb : Below W.heap.size W W') :
    W'.cell? ⟨b, 0, none⟩ = some v0 ∧ W'.cell? ⟨b, 1, none⟩ = some v1 ∧ W'.cell? ⟨b, 2, none⟩ = some v2 ∧ W'.cell? ⟨b, 3, none⟩ = some v3 ∧ W'.cell? ⟨b, 4, none⟩ = some v4 ∧ W'.cell? ⟨b, 5, none⟩ = some v5 ∧ W'.cell? ⟨t, k, none⟩ = some f := by
  obtain ⟨h0, h1, h2, h3, h4, h5, h6⟩ := h
  exact ⟨(hb.cell (lt_of_cell h0)).trans h0, (hb.cell (lt_of_cell h1)).trans h1, (hb.cell (lt_of_cell h2)).trans h2, (hb.cell (lt_of_cell h3)).trans h3, (hb.cell (lt_of_cell h4)).trans h4, (hb.cell (lt_of_cell h5)).trans h5, (hb.cell (lt_of_cell h6)).trans h6⟩
def iApp (n : Nd) (W a b c v : Int) (w : World) : Prop :=
    Calls Tryz.prog 72 #[.agg #[.int .i64 n.op, .int .i64 n.w, .int .i64 n.k, .int .i64 n.a, .int .i64 n.b, .int .i64 n.c], .int .i64 W, .int .i64 a, .int .i64 b, .int .i64 c] w fun e w' => e = .returned (.int .i64 v) ∧ Below w.heap.size w w'

end Go.Proofs.YtbnjndloeflgiaaGreat.Pv3

/- The walk of the program's Apply at some of its operators. -/
namespace Go.Proofs.YtbnjndloeflgiaaGreat.Pw1
open Go.RowKit
open Nd0 Pl1 Pl2 Vl1 Vl2 Bt0 Wd1 Wd2 Wd3 Wd4 Wd5 Ic4 Pv1 Pv3
open Sv1 (Rg below1)
set_option linter.unusedVariables false

set_option maxRecDepth 100000 in
set_option maxHeartbeats 1000000 in
theorem i0 {n : Nd} {W a b c v : Int} (w : World) (h : Rg n W a b c) (hop : n.op = 0) (hC : Clo 96 n W a b c v) : iApp n W a b c v w := by
  obtain ⟨h1, h2, h3, h4, h5⟩ := h
  have HC : Hid (Clo 96 n W a b c v) := hC
  clear hC
  have ht : tab[0]'(by decide) = .func (.func 96) #[] #[] := rfl
  have hts : tab.size = 19 := rfl
  have hef := eql_func
  unfold iApp
  go_enter Tryz.func72, Tryz.ntmps72
  go_wp2_with (first | (go_at_call 48; refine (iWidthOk _ _).mono ?_; rintro e w' ⟨rfl, rfl⟩) | (go_at_call 79; refine (byteOk _ _).mono ?_; rintro e w' ⟨rfl, rfl⟩) | (go_at_call 80; refine (operators _).mono ?_; rintro e w' ⟨rfl, rfl⟩) | refine store_new _ rfl 113 (.tmp 11) (.tmp 36) rfl _ tab _ rfl (by simp) rfl sizeTab rfl oneTab ?_)
  obtain ⟨W3, hW3⟩ : ∃ W3 : World, W3 = ((w.alloc (.cells #[.int .i64 0, .int .i64 n.w, .int .i64 n.k, .int .i64 n.a, .int .i64 n.b, .int .i64 n.c] 50)).alloc (.cells tab 113)).alloc (.cells tab 113) := ⟨_, rfl⟩
  have HS : W3.cell? ⟨w.heap.size, 0, none⟩ = some (.int .i64 0) ∧ W3.cell? ⟨w.heap.size, 1, none⟩ = some (.int .i64 n.w) ∧ W3.cell? ⟨w.heap.size, 2, none⟩ = some (.int .i64 n.k) ∧ W3.cell? ⟨w.heap.size, 3, none⟩ = some (.int .i64 n.a) ∧ W3.cell? ⟨w.heap.size, 4, none⟩ = some (.int .i64 n.b) ∧ W3.cell? ⟨w.heap.size, 5, none⟩ = some (.int .i64 n.c) ∧ W3.cell? ⟨w.heap.size + 1 + 1, 0, none⟩ = some (.func (.func 96) #[] #[]) := by
    rw [hW3]
    exact facts7 w _ _ _ _ _ _ _ _ _ ht
  have HB3 : Hid (Below w.heap.size w W3) := by
    rw [hW3]
    exact (((Below.refl _ _).alloc (Nat.le_refl _) _).alloc (by simp) _).alloc (by simp; omega) _
  rw [← hW3]
  clear hW3
  have HC2 : Hid (Clo 96 ⟨0, n.w, n.k, n.a, n.b, n.c⟩ W a b c v) := by
    have := HC.out
    rw [show n = ⟨n.op, n.w, n.k, n.a, n.b, n.c⟩ from rfl, hop] at this
    exact this
  go_region_held (fun w' => w'.cell? ⟨w.heap.size, 0, none⟩ = some (.int .i64 0) ∧ w'.cell? ⟨w.heap.size, 1, none⟩ = some (.int .i64 n.w) ∧ w'.cell? ⟨w.heap.size, 2, none⟩ = some (.int .i64 n.k) ∧ w'.cell? ⟨w.heap.size, 3, none⟩ = some (.int .i64 n.a) ∧ w'.cell? ⟨w.heap.size, 4, none⟩ = some (.int .i64 n.b) ∧ w'.cell? ⟨w.heap.size, 5, none⟩ = some (.int .i64 n.c) ∧ w'.cell? ⟨w.heap.size + 1 + 1, 0, none⟩ = some (.func (.func 96) #[] #[])) ((first | exact HS | exact kept7 (W := W3.drew) HS hb4)) ((go_at_call 96; refine (HC2.out _).mono ?_; rintro e w4 ⟨rfl, hb4⟩; have HB4 : Hid (Below w.heap.size w w4) := HB3.out.drew.trans (hb4.mono HB3.out.size)))
  go_wp2
  go_ret
  exact ⟨rfl, HB4.out⟩

set_option maxRecDepth 100000 in
set_option maxHeartbeats 1000000 in
theorem i2 {n : Nd} {W a b c v : Int} (w : World) (h : Rg n W a b c) (hop : n.op = 2) (hC : Clo 97 n W a b c v) : iApp n W a b c v w := by
  obtain ⟨h1, h2, h3, h4, h5⟩ := h
  have HC : Hid (Clo 97 n W a b c v) := hC
  clear hC
  have ht : tab[2]'(by decide) = .func (.func 97) #[] #[] := rfl
  have hts : tab.size = 19 := rfl
  have hef := eql_func
  unfold iApp
  go_enter Tryz.func72, Tryz.ntmps72
  go_wp2_with (first | (go_at_call 48; refine (iWidthOk _ _).mono ?_; rintro e w' ⟨rfl, rfl⟩) | (go_at_call 79; refine (byteOk _ _).mono ?_; rintro e w' ⟨rfl, rfl⟩) | (go_at_call 80; refine (operators _).mono ?_; rintro e w' ⟨rfl, rfl⟩) | refine store_new _ rfl 113 (.tmp 11) (.tmp 36) rfl _ tab _ rfl (by simp) rfl sizeTab rfl oneTab ?_)
  obtain ⟨W3, hW3⟩ : ∃ W3 : World, W3 = ((w.alloc (.cells #[.int .i64 2, .int .i64 n.w, .int .i64 n.k, .int .i64 n.a, .int .i64 n.b, .int .i64 n.c] 50)).alloc (.cells tab 113)).alloc (.cells tab 113) := ⟨_, rfl⟩
  have HS : W3.cell? ⟨w.heap.size, 0, none⟩ = some (.int .i64 2) ∧ W3.cell? ⟨w.heap.size, 1, none⟩ = some (.int .i64 n.w) ∧ W3.cell? ⟨w.heap.size, 2, none⟩ = some (.int .i64 n.k) ∧ W3.cell? ⟨w.heap.size, 3, none⟩ = some (.int .i64 n.a) ∧ W3.cell? ⟨w.heap.size, 4, none⟩ = some (.int .i64 n.b) ∧ W3.cell? ⟨w.heap.size, 5, none⟩ = some (.int .i64 n.c) ∧ W3.cell? ⟨w.heap.size + 1 + 1, 2, none⟩ = some (.func (.func 97) #[] #[]) := by
    rw [hW3]
    exact facts7 w _ _ _ _ _ _ _ _ _ ht
  have HB3 : Hid (Below w.heap.size w W3) := by
    rw [hW3]
    exact (((Below.refl _ _).alloc (Nat.le_refl _) _).alloc (by simp) _).alloc (by simp; omega) _
  rw [← hW3]
  clear hW3
  have HC2 : Hid (Clo 97 ⟨2, n.w, n.k, n.a, n.b, n.c⟩ W a b c v) := by
    have := HC.out
    rw [show n = ⟨n.op, n.w, n.k, n.a, n.b, n.c⟩ from rfl, hop] at this
    exact this
  go_region_held (fun w' => w'.cell? ⟨w.heap.size, 0, none⟩ = some (.int .i64 2) ∧ w'.cell? ⟨w.heap.size, 1, none⟩ = some (.int .i64 n.w) ∧ w'.cell? ⟨w.heap.size, 2, none⟩ = some (.int .i64 n.k) ∧ w'.cell? ⟨w.heap.size, 3, none⟩ = some (.int .i64 n.a) ∧ w'.cell? ⟨w.heap.size, 4, none⟩ = some (.int .i64 n.b) ∧ w'.cell? ⟨w.heap.size, 5, none⟩ = some (.int .i64 n.c) ∧ w'.cell? ⟨w.heap.size + 1 + 1, 2, none⟩ = some (.func (.func 97) #[] #[])) ((first | exact HS | exact kept7 (W := W3.drew) HS hb4)) ((go_at_call 97; refine (HC2.out _).mono ?_; rintro e w4 ⟨rfl, hb4⟩; have HB4 : Hid (Below w.heap.size w w4) := HB3.out.drew.trans (hb4.mono HB3.out.size)))
  go_wp2
  go_ret
  exact ⟨rfl, HB4.out⟩

set_option maxRecDepth 100000 in
set_option maxHeartbeats 1000000 in
theorem i3 {n : Nd} {W a b c v : Int} (w : World) (h : Rg n W a b c) (hop : n.op = 3) (hC : Clo 99 n W a b c v) : iApp n W a b c v w := by
  obtain ⟨h1, h2, h3, h4, h5⟩ := h
  have HC : Hid (Clo 99 n W a b c v) := hC
  clear hC
  have ht : tab[3]'(by decide) = .func (.func 99) #[] #[] := rfl
  have hts : tab.size = 19 := rfl
  have hef := eql_func
  unfold iApp
  go_enter Tryz.func72, Tryz.ntmps72
  go_wp2_with (first | (go_at_call 48; refine (iWidthOk _ _).mono ?_; rintro e w' ⟨rfl, rfl⟩) | (go_at_call 79; refine (byteOk _ _).mono ?_; rintro e w' ⟨rfl, rfl⟩) | (go_at_call 80; refine (operators _).mono ?_; rintro e w' ⟨rfl, rfl⟩) | refine store_new _ rfl 113 (.tmp 11) (.tmp 36) rfl _ tab _ rfl (by simp) rfl sizeTab rfl oneTab ?_)
  obtain ⟨W3, hW3⟩ : ∃ W3 : World, W3 = ((w.alloc (.cells #[.int .i64 3, .int .i64 n.w, .int .i64 n.k, .int .i64 n.a, .int .i64 n.b, .int .i64 n.c] 50)).alloc (.cells tab 113)).alloc (.cells tab 113) := ⟨_, rfl⟩
  have HS : W3.cell? ⟨w.heap.size, 0, none⟩ = some (.int .i64 3) ∧ W3.cell? ⟨w.heap.size, 1, none⟩ = some (.int .i64 n.w) ∧ W3.cell? ⟨w.heap.size, 2, none⟩ = some (.int .i64 n.k) ∧ W3.cell? ⟨w.heap.size, 3, none⟩ = some (.int .i64 n.a) ∧ W3.cell? ⟨w.heap.size, 4, none⟩ = some (.int .i64 n.b) ∧ W3.cell? ⟨w.heap.size, 5, none⟩ = some (.int .i64 n.c) ∧ W3.cell? ⟨w.heap.size + 1 + 1, 3, none⟩ = some (.func (.func 99) #[] #[]) := by
    rw [hW3]
    exact facts7 w _ _ _ _ _ _ _ _ _ ht
  have HB3 : Hid (Below w.heap.size w W3) := by
    rw [hW3]
    exact (((Below.refl _ _).alloc (Nat.le_refl _) _).alloc (by simp) _).alloc (by simp; omega) _
  rw [← hW3]
  clear hW3
  have HC2 : Hid (Clo 99 ⟨3, n.w, n.k, n.a, n.b, n.c⟩ W a b c v) := by
    have := HC.out
    rw [show n = ⟨n.op, n.w, n.k, n.a, n.b, n.c⟩ from rfl, hop] at this
    exact this
  go_region_held (fun w' => w'.cell? ⟨w.heap.size, 0, none⟩ = some (.int .i64 3) ∧ w'.cell? ⟨w.heap.size, 1, none⟩ = some (.int .i64 n.w) ∧ w'.cell? ⟨w.heap.size, 2, none⟩ = some (.int .i64 n.k) ∧ w'.cell? ⟨w.heap.size, 3, none⟩ = some (.int .i64 n.a) ∧ w'.cell? ⟨w.heap.size, 4, none⟩ = some (.int .i64 n.b) ∧ w'.cell? ⟨w.heap.size, 5, none⟩ = some (.int .i64 n.c) ∧ w'.cell? ⟨w.heap.size + 1 + 1, 3, none⟩ = some (.func (.func 99) #[] #[])) ((first | exact HS | exact kept7 (W := W3.drew) HS hb4)) ((go_at_call 99; refine (HC2.out _).mono ?_; rintro e w4 ⟨rfl, hb4⟩; have HB4 : Hid (Below w.heap.size w w4) := HB3.out.drew.trans (hb4.mono HB3.out.size)))
  go_wp2
  go_ret
  exact ⟨rfl, HB4.out⟩

set_option maxRecDepth 100000 in
set_option maxHeartbeats 1000000 in
theorem i4 {n : Nd} {W a b c v : Int} (w : World) (h : Rg n W a b c) (hop : n.op = 4) (hC : Clo 100 n W a b c v) : iApp n W a b c v w := by
  obtain ⟨h1, h2, h3, h4, h5⟩ := h
  have HC : Hid (Clo 100 n W a b c v) := hC
  clear hC
  have ht : tab[4]'(by decide) = .func (.func 100) #[] #[] := rfl
  have hts : tab.size = 19 := rfl
  have hef := eql_func
  unfold iApp
  go_enter Tryz.func72, Tryz.ntmps72
  go_wp2_with (first | (go_at_call 48; refine (iWidthOk _ _).mono ?_; rintro e w' ⟨rfl, rfl⟩) | (go_at_call 79; refine (byteOk _ _).mono ?_; rintro e w' ⟨rfl, rfl⟩) | (go_at_call 80; refine (operators _).mono ?_; rintro e w' ⟨rfl, rfl⟩) | refine store_new _ rfl 113 (.tmp 11) (.tmp 36) rfl _ tab _ rfl (by simp) rfl sizeTab rfl oneTab ?_)
  obtain ⟨W3, hW3⟩ : ∃ W3 : World, W3 = ((w.alloc (.cells #[.int .i64 4, .int .i64 n.w, .int .i64 n.k, .int .i64 n.a, .int .i64 n.b, .int .i64 n.c] 50)).alloc (.cells tab 113)).alloc (.cells tab 113) := ⟨_, rfl⟩
  have HS : W3.cell? ⟨w.heap.size, 0, none⟩ = some (.int .i64 4) ∧ W3.cell? ⟨w.heap.size, 1, none⟩ = some (.int .i64 n.w) ∧ W3.cell? ⟨w.heap.size, 2, none⟩ = some (.int .i64 n.k) ∧ W3.cell? ⟨w.heap.size, 3, none⟩ = some (.int .i64 n.a) ∧ W3.cell? ⟨w.heap.size, 4, none⟩ = some (.int .i64 n.b) ∧ W3.cell? ⟨w.heap.size, 5, none⟩ = some (.int .i64 n.c) ∧ W3.cell? ⟨w.heap.size + 1 + 1, 4, none⟩ = some (.func (.func 100) #[] #[]) := by
    rw [hW3]
    exact facts7 w _ _ _ _ _ _ _ _ _ ht
  have HB3 : Hid (Below w.heap.size w W3) := by
    rw [hW3]
    exact (((Below.refl _ _).alloc (Nat.le_refl _) _).alloc (by simp) _).alloc (by simp; omega) _
  rw [← hW3]
  clear hW3
  have HC2 : Hid (Clo 100 ⟨4, n.w, n.k, n.a, n.b, n.c⟩ W a b c v) := by
    have := HC.out
    rw [show n = ⟨n.op, n.w, n.k, n.a, n.b, n.c⟩ from rfl, hop] at this
    exact this
  go_region_held (fun w' => w'.cell? ⟨w.heap.size, 0, none⟩ = some (.int .i64 4) ∧ w'.cell? ⟨w.heap.size, 1, none⟩ = some (.int .i64 n.w) ∧ w'.cell? ⟨w.heap.size, 2, none⟩ = some (.int .i64 n.k) ∧ w'.cell? ⟨w.heap.size, 3, none⟩ = some (.int .i64 n.a) ∧ w'.cell? ⟨w.heap.size, 4, none⟩ = some (.int .i64 n.b) ∧ w'.cell? ⟨w.heap.size, 5, none⟩ = some (.int .i64 n.c) ∧ w'.cell? ⟨w.heap.size + 1 + 1, 4, none⟩ = some (.func (.func 100) #[] #[])) ((first | exact HS | exact kept7 (W := W3.drew) HS hb4)) ((go_at_call 100; refine (HC2.out _).mono ?_; rintro e w4 ⟨rfl, hb4⟩; have HB4 : Hid (Below w.heap.size w w4) := HB3.out.drew.trans (hb4.mono HB3.out.size)))
  go_wp2
  go_ret
  exact ⟨rfl, HB4.out⟩

set_option maxRecDepth 100000 in
set_option maxHeartbeats 1000000 in
theorem i5 {n : Nd} {W a b c v : Int} (w : World) (h : Rg n W a b c) (hop : n.op = 5) (hC : Clo 101 n W a b c v) : iApp n W a b c v w := by
  obtain ⟨h1, h2, h3, h4, h5⟩ := h
  have HC : Hid (Clo 101 n W a b c v) := hC
  clear hC
  have ht : tab[5]'(by decide) = .func (.func 101) #[] #[] := rfl
  have hts : tab.size = 19 := rfl
  have hef := eql_func
  unfold iApp
  go_enter Tryz.func72, Tryz.ntmps72
  go_wp2_with (first | (go_at_call 48; refine (iWidthOk _ _).mono ?_; rintro e w' ⟨rfl, rfl⟩) | (go_at_call 79; refine (byteOk _ _).mono ?_; rintro e w' ⟨rfl, rfl⟩) | (go_at_call 80; refine (operators _).mono ?_; rintro e w' ⟨rfl, rfl⟩) | refine store_new _ rfl 113 (.tmp 11) (.tmp 36) rfl _ tab _ rfl (by simp) rfl sizeTab rfl oneTab ?_)
  obtain ⟨W3, hW3⟩ : ∃ W3 : World, W3 = ((w.alloc (.cells #[.int .i64 5, .int .i64 n.w, .int .i64 n.k, .int .i64 n.a, .int .i64 n.b, .int .i64 n.c] 50)).alloc (.cells tab 113)).alloc (.cells tab 113) := ⟨_, rfl⟩
  have HS : W3.cell? ⟨w.heap.size, 0, none⟩ = some (.int .i64 5) ∧ W3.cell? ⟨w.heap.size, 1, none⟩ = some (.int .i64 n.w) ∧ W3.cell? ⟨w.heap.size, 2, none⟩ = some (.int .i64 n.k) ∧ W3.cell? ⟨w.heap.size, 3, none⟩ = some (.int .i64 n.a) ∧ W3.cell? ⟨w.heap.size, 4, none⟩ = some (.int .i64 n.b) ∧ W3.cell? ⟨w.heap.size, 5, none⟩ = some (.int .i64 n.c) ∧ W3.cell? ⟨w.heap.size + 1 + 1, 5, none⟩ = some (.func (.func 101) #[] #[]) := by
    rw [hW3]
    exact facts7 w _ _ _ _ _ _ _ _ _ ht
  have HB3 : Hid (Below w.heap.size w W3) := by
    rw [hW3]
    exact (((Below.refl _ _).alloc (Nat.le_refl _) _).alloc (by simp) _).alloc (by simp; omega) _
  rw [← hW3]
  clear hW3
  have HC2 : Hid (Clo 101 ⟨5, n.w, n.k, n.a, n.b, n.c⟩ W a b c v) := by
    have := HC.out
    rw [show n = ⟨n.op, n.w, n.k, n.a, n.b, n.c⟩ from rfl, hop] at this
    exact this
  go_region_held (fun w' => w'.cell? ⟨w.heap.size, 0, none⟩ = some (.int .i64 5) ∧ w'.cell? ⟨w.heap.size, 1, none⟩ = some (.int .i64 n.w) ∧ w'.cell? ⟨w.heap.size, 2, none⟩ = some (.int .i64 n.k) ∧ w'.cell? ⟨w.heap.size, 3, none⟩ = some (.int .i64 n.a) ∧ w'.cell? ⟨w.heap.size, 4, none⟩ = some (.int .i64 n.b) ∧ w'.cell? ⟨w.heap.size, 5, none⟩ = some (.int .i64 n.c) ∧ w'.cell? ⟨w.heap.size + 1 + 1, 5, none⟩ = some (.func (.func 101) #[] #[])) ((first | exact HS | exact kept7 (W := W3.drew) HS hb4)) ((go_at_call 101; refine (HC2.out _).mono ?_; rintro e w4 ⟨rfl, hb4⟩; have HB4 : Hid (Below w.heap.size w w4) := HB3.out.drew.trans (hb4.mono HB3.out.size)))
  go_wp2
  go_ret
  exact ⟨rfl, HB4.out⟩

set_option maxRecDepth 100000 in
set_option maxHeartbeats 1000000 in
theorem i6 {n : Nd} {W a b c v : Int} (w : World) (h : Rg n W a b c) (hop : n.op = 6) (hC : Clo 102 n W a b c v) : iApp n W a b c v w := by
  obtain ⟨h1, h2, h3, h4, h5⟩ := h
  have HC : Hid (Clo 102 n W a b c v) := hC
  clear hC
  have ht : tab[6]'(by decide) = .func (.func 102) #[] #[] := rfl
  have hts : tab.size = 19 := rfl
  have hef := eql_func
  unfold iApp
  go_enter Tryz.func72, Tryz.ntmps72
  go_wp2_with (first | (go_at_call 48; refine (iWidthOk _ _).mono ?_; rintro e w' ⟨rfl, rfl⟩) | (go_at_call 79; refine (byteOk _ _).mono ?_; rintro e w' ⟨rfl, rfl⟩) | (go_at_call 80; refine (operators _).mono ?_; rintro e w' ⟨rfl, rfl⟩) | refine store_new _ rfl 113 (.tmp 11) (.tmp 36) rfl _ tab _ rfl (by simp) rfl sizeTab rfl oneTab ?_)
  obtain ⟨W3, hW3⟩ : ∃ W3 : World, W3 = ((w.alloc (.cells #[.int .i64 6, .int .i64 n.w, .int .i64 n.k, .int .i64 n.a, .int .i64 n.b, .int .i64 n.c] 50)).alloc (.cells tab 113)).alloc (.cells tab 113) := ⟨_, rfl⟩
  have HS : W3.cell? ⟨w.heap.size, 0, none⟩ = some (.int .i64 6) ∧ W3.cell? ⟨w.heap.size, 1, none⟩ = some (.int .i64 n.w) ∧ W3.cell? ⟨w.heap.size, 2, none⟩ = some (.int .i64 n.k) ∧ W3.cell? ⟨w.heap.size, 3, none⟩ = some (.int .i64 n.a) ∧ W3.cell? ⟨w.heap.size, 4, none⟩ = some (.int .i64 n.b) ∧ W3.cell? ⟨w.heap.size, 5, none⟩ = some (.int .i64 n.c) ∧ W3.cell? ⟨w.heap.size + 1 + 1, 6, none⟩ = some (.func (.func 102) #[] #[]) := by
    rw [hW3]
    exact facts7 w _ _ _ _ _ _ _ _ _ ht
  have HB3 : Hid (Below w.heap.size w W3) := by
    rw [hW3]
    exact (((Below.refl _ _).alloc (Nat.le_refl _) _).alloc (by simp) _).alloc (by simp; omega) _
  rw [← hW3]
  clear hW3
  have HC2 : Hid (Clo 102 ⟨6, n.w, n.k, n.a, n.b, n.c⟩ W a b c v) := by
    have := HC.out
    rw [show n = ⟨n.op, n.w, n.k, n.a, n.b, n.c⟩ from rfl, hop] at this
    exact this
  go_region_held (fun w' => w'.cell? ⟨w.heap.size, 0, none⟩ = some (.int .i64 6) ∧ w'.cell? ⟨w.heap.size, 1, none⟩ = some (.int .i64 n.w) ∧ w'.cell? ⟨w.heap.size, 2, none⟩ = some (.int .i64 n.k) ∧ w'.cell? ⟨w.heap.size, 3, none⟩ = some (.int .i64 n.a) ∧ w'.cell? ⟨w.heap.size, 4, none⟩ = some (.int .i64 n.b) ∧ w'.cell? ⟨w.heap.size, 5, none⟩ = some (.int .i64 n.c) ∧ w'.cell? ⟨w.heap.size + 1 + 1, 6, none⟩ = some (.func (.func 102) #[] #[])) ((first | exact HS | exact kept7 (W := W3.drew) HS hb4)) ((go_at_call 102; refine (HC2.out _).mono ?_; rintro e w4 ⟨rfl, hb4⟩; have HB4 : Hid (Below w.heap.size w w4) := HB3.out.drew.trans (hb4.mono HB3.out.size)))
  go_wp2
  go_ret
  exact ⟨rfl, HB4.out⟩

end Go.Proofs.YtbnjndloeflgiaaGreat.Pw1
