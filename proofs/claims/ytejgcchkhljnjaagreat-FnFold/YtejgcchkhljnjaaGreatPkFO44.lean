/- Small texts of mine, one behind the other. -/
import Derived.Deep.RegionHeld
import Derived.Deep.WholeRow
import Derived.Test.YtejgcchkhljnjaaGreatPkFO17
import Derived.Test.YtejgcchkhljnjaaGreatPkFO20
import Derived.Test.YtejgcchkhljnjaaGreatPkFO22
import Derived.Test.YtejgcchkhljnjaaGreatSv1
/- The walk of the program's Apply: operators are functions in an array. -/
namespace Go.Proofs.YtejgcchkhljnjaaGreat.Pv1
open Go.RowKit
open Nd0 Pl1 Pl2 Vl1 Vl2 Bt0 Wd1 Wd2 Wd3 Wd4 Wd5 Ic4
open Sv1 (Rg below1)
set_option linter.unusedVariables false
theorem wr64 (n : Int) (h : -9223372036854775808 ≤ n ∧ n ≤ 9223372036854775807) : wrap64 n = n := by unfold wrap64; omega
def tab : Array Value := #[.func (.func 163) #[] #[], .nilFunc, .func (.func 164) #[] #[], .func (.func 166) #[] #[], .func (.func 167) #[] #[], .func (.func 168) #[] #[], .func (.func 169) #[] #[], .func (.func 171) #[] #[], .func (.func 173) #[] #[], .func (.func 175) #[] #[], .func (.func 177) #[] #[], .func (.func 179) #[] #[], .func (.func 181) #[] #[], .func (.func 183) #[] #[], .func (.func 184) #[] #[], .func (.func 186) #[] #[], .func (.func 188) #[] #[], .func (.func 189) #[] #[], .func (.func 191) #[] #[]]
def Clo (f : Nat) (n : Nd) (W a b c : Int) (v : Int) : Prop := ∀ w : World,
    Calls Tryz.prog f #[.agg #[.int .i64 n.op, .int .i64 n.w, .int .i64 n.k, .int .i64 n.a, .int .i64 n.b, .int .i64 n.c], .int .i64 W, .int .i64 a, .int .i64 b, .int .i64 c] w fun e w' => e = .returned (.int .i64 v) ∧ Below w.heap.size w w'

set_option maxHeartbeats 1000000 in
theorem c0 (n : Nd) (W a b c : Int) : Clo 163 n W a b c (n.k) := by
  intro w
  go_enter Tryz.func163, Tryz.ntmps163
  go_wp2
  go_ret
  exact ⟨ret_int (by rfl), below1 _ _⟩

set_option maxHeartbeats 1000000 in
theorem c2 (n : Nd) (W a b c : Int) : Clo 164 n W a b c (vFlip n.w a) := by
  intro w
  go_enter Tryz.func164, Tryz.ntmps164
  go_wp2_with (first | (go_at_call 165; refine (iFlip _ _ _).mono ?_; rintro e w' ⟨rfl, rfl⟩))
  go_ret
  exact ⟨ret_int (by rfl), below1 _ _⟩

set_option maxHeartbeats 1000000 in
theorem c3 (n : Nd) (W a b c : Int) (r3 : 0 ≤ a ∧ a ≤ 255) (r4 : 0 ≤ b ∧ b ≤ 255) : Clo 166 n W a b c (nAnd a b) := by
  intro w
  have HB : Hid (bits .and .i64 a b = nAnd a b) := band r3 r4
  go_enter Tryz.func166, Tryz.ntmps166
  go_wp2
  go_ret
  exact ⟨ret_int (by exact HB.out), below1 _ _⟩

set_option maxHeartbeats 1000000 in
theorem c4 (n : Nd) (W a b c : Int) (r3 : 0 ≤ a ∧ a ≤ 255) (r4 : 0 ≤ b ∧ b ≤ 255) : Clo 167 n W a b c (nOr a b) := by
  intro w
  have HB : Hid (bits .or .i64 a b = nOr a b) := bor r3 r4
  go_enter Tryz.func167, Tryz.ntmps167
  go_wp2
  go_ret
  exact ⟨ret_int (by exact HB.out), below1 _ _⟩

set_option maxHeartbeats 1000000 in
theorem c5 (n : Nd) (W a b c : Int) (r3 : 0 ≤ a ∧ a ≤ 255) (r4 : 0 ≤ b ∧ b ≤ 255) : Clo 168 n W a b c (nXor a b) := by
  intro w
  have HB : Hid (bits .xor .i64 a b = nXor a b) := bxor r3 r4
  go_enter Tryz.func168, Tryz.ntmps168
  go_wp2
  go_ret
  exact ⟨ret_int (by exact HB.out), below1 _ _⟩

set_option maxHeartbeats 1000000 in
theorem c6 (n : Nd) (W a b c : Int) : Clo 169 n W a b c (vAdd n.w a b) := by
  intro w
  go_enter Tryz.func169, Tryz.ntmps169
  go_wp2_with (first | (go_at_call 170; refine (iAdd _ _ _ _).mono ?_; rintro e w' ⟨rfl, rfl⟩))
  go_ret
  exact ⟨ret_int (by rfl), below1 _ _⟩

set_option maxHeartbeats 1000000 in
theorem c7 (n : Nd) (W a b c : Int) : Clo 171 n W a b c (vSub n.w a b) := by
  intro w
  go_enter Tryz.func171, Tryz.ntmps171
  go_wp2_with (first | (go_at_call 172; refine (iSub _ _ _ _).mono ?_; rintro e w' ⟨rfl, rfl⟩))
  go_ret
  exact ⟨ret_int (by rfl), below1 _ _⟩

set_option maxHeartbeats 1000000 in
theorem c8 (n : Nd) (W a b c : Int) : Clo 173 n W a b c (vMul n.w a b) := by
  intro w
  go_enter Tryz.func173, Tryz.ntmps173
  go_wp2_with (first | (go_at_call 174; refine (iMul _ _ _ _).mono ?_; rintro e w' ⟨rfl, rfl⟩))
  go_ret
  exact ⟨ret_int (by rfl), below1 _ _⟩

set_option maxHeartbeats 1000000 in
theorem c9 (n : Nd) (W a b c : Int) : Clo 175 n W a b c (vDiv n.w a b) := by
  intro w
  go_enter Tryz.func175, Tryz.ntmps175
  go_wp2_with (first | (go_at_call 176; refine (iDiv _ _ _ _).mono ?_; rintro e w' ⟨rfl, rfl⟩))
  go_ret
  exact ⟨ret_int (by rfl), below1 _ _⟩

set_option maxHeartbeats 1000000 in
theorem c10 (n : Nd) (W a b c : Int) : Clo 177 n W a b c (vRem n.w a b) := by
  intro w
  go_enter Tryz.func177, Tryz.ntmps177
  go_wp2_with (first | (go_at_call 178; refine (iRem _ _ _ _).mono ?_; rintro e w' ⟨rfl, rfl⟩))
  go_ret
  exact ⟨ret_int (by rfl), below1 _ _⟩

set_option maxHeartbeats 1000000 in
theorem c11 (n : Nd) (W a b c : Int) : Clo 179 n W a b c (vShl n.w a b) := by
  intro w
  go_enter Tryz.func179, Tryz.ntmps179
  go_wp2_with (first | (go_at_call 180; refine (iShl _ _ _ _).mono ?_; rintro e w' ⟨rfl, rfl⟩))
  go_ret
  exact ⟨ret_int (by rfl), below1 _ _⟩

set_option maxHeartbeats 1000000 in
theorem c12 (n : Nd) (W a b c : Int) : Clo 181 n W a b c (vShr n.w a b) := by
  intro w
  go_enter Tryz.func181, Tryz.ntmps181
  go_wp2_with (first | (go_at_call 182; refine (iShr _ _ _ _).mono ?_; rintro e w' ⟨rfl, rfl⟩))
  go_ret
  exact ⟨ret_int (by rfl), below1 _ _⟩

set_option maxHeartbeats 1000000 in
theorem c13 (n : Nd) (W a b c v : Int) (hv : v = if a = b then 1 else 0) : Clo 183 n W a b c v := by
  intro w
  cases hab : (a == b)
  · have HV : Hid (v = 0) := by
      show _ = _
      rw [hv, if_neg (by simpa using hab)]
    clear hv
    go_enter Tryz.func183, Tryz.ntmps183
    go_wp2_with (go_at_call 152; refine (iOne _ _).mono ?_; rintro e w' ⟨rfl, rfl⟩)
    go_ret
    exact ⟨ret_int HV.out.symm, below1 _ _⟩
  · have HV : Hid (v = 1) := by
      show _ = _
      rw [hv, if_pos (by simpa using hab)]
    clear hv
    go_enter Tryz.func183, Tryz.ntmps183
    go_wp2_with (go_at_call 152; refine (iOne _ _).mono ?_; rintro e w' ⟨rfl, rfl⟩)
    go_ret
    exact ⟨ret_int HV.out.symm, below1 _ _⟩

set_option maxHeartbeats 1000000 in
theorem c14 (n : Nd) (W a b c : Int) : Clo 184 n W a b c (vLess W a b) := by
  intro w
  go_enter Tryz.func184, Tryz.ntmps184
  go_wp2_with (first | (go_at_call 185; refine (iLess _ _ _ _).mono ?_; rintro e w' ⟨rfl, rfl⟩))
  go_ret
  exact ⟨ret_int (by rfl), below1 _ _⟩

set_option maxHeartbeats 1000000 in
theorem c15 (n : Nd) (W a b c : Int) : Clo 186 n W a b c (vLessSigned W a b) := by
  intro w
  go_enter Tryz.func186, Tryz.ntmps186
  go_wp2_with (first | (go_at_call 187; refine (iLessSigned _ _ _ _).mono ?_; rintro e w' ⟨rfl, rfl⟩))
  go_ret
  exact ⟨ret_int (by rfl), below1 _ _⟩

set_option maxHeartbeats 1000000 in
theorem c16 (n : Nd) (W a b c : Int) (r1 : 1 ≤ n.w ∧ n.w ≤ 8) (r2 : 1 ≤ W ∧ W ≤ 8) (r3 : 0 ≤ a ∧ a ≤ 255) (r4 : 0 ≤ b ∧ b ≤ 255) (v : Int) (hv : v = if n.w < W then b else a * p2 (n.w - W).toNat + b) : Clo 188 n W a b c v := by
  intro w
  by_cases hlt : n.w < W
  · have HV : Hid (v = b) := hv.trans (if_pos hlt)
    clear hv
    go_enter Tryz.func188, Tryz.ntmps188
    go_wp2
    go_ret
    exact ⟨ret_int HV.out.symm, below1 _ _⟩
  · have HV : Hid (v = a * p2 (n.w - W).toNat + b) := hv.trans (if_neg hlt)
    clear hv
    have hr := p2_mono (show (n.w - W).toNat ≤ 7 by omega)
    have hq := p2_pos (n.w - W).toNat
    have hr7 : p2 7 = 128 := rfl
    obtain ⟨hb1, hb2⟩ := mul_bd r3.1 r3.2 (show 0 ≤ p2 (n.w - W).toNat by omega) (by omega)
    have hsh : 0 ≤ n.w - W := by omega
    have HS : Hid (a * 2 ^ (n.w - W).toNat = a * p2 (n.w - W).toNat) := by show _ = _; simp [p2]
    go_enter Tryz.func188, Tryz.ntmps188
    go_wp2
    go_ret
    exact ⟨ret_int (by rw [HV.out, HS.out, wr64 (a * p2 (n.w - W).toNat) (by omega)]; exact wr64 _ (by omega)), below1 _ _⟩

set_option maxHeartbeats 1000000 in
theorem c17 (n : Nd) (W a b c : Int) (hw : (Lit.int .i64 n.w).wf = true) : Clo 189 n W a b c (vSlice W a n.k n.w) := by
  intro w
  go_enter Tryz.func189, Tryz.ntmps189
  go_wp2_with (first | (go_at_call 190; refine (iSlice _ _ _ _ _ hw).mono ?_; rintro e w' ⟨rfl, rfl⟩))
  go_ret
  exact ⟨ret_int (by rfl), below1 _ _⟩

set_option maxHeartbeats 1000000 in
theorem c18 (n : Nd) (W a b c v : Int) (hv : v = if a = 1 then b else c) : Clo 191 n W a b c v := by
  intro w
  cases ha : (a == 1)
  · have HV : Hid (v = c) := hv.trans (if_neg (by simpa using ha))
    clear hv
    go_enter Tryz.func191, Tryz.ntmps191
    go_wp2
    go_ret
    exact ⟨ret_int HV.out.symm, below1 _ _⟩
  · have HV : Hid (v = b) := hv.trans (if_pos (by simpa using ha))
    clear hv
    go_enter Tryz.func191, Tryz.ntmps191
    go_wp2
    go_ret
    exact ⟨ret_int HV.out.symm, below1 _ _⟩

set_option maxHeartbeats 1000000 in
theorem byteOk (x : Int) (w : World) :
    Calls Tryz.prog 145 #[.int .i64 x] w fun e w' => e = .returned (.bool (decide (0 ≤ x ∧ x ≤ 255))) ∧ w' = w := by
  by_cases h1 : 0 ≤ x <;> by_cases h2 : x ≤ 255
  all_goals
    go_enter Tryz.func145, Tryz.ntmps145
    go_wp2
    go_ret
    exact ⟨ret_bool (by simp <;> omega), rfl⟩
theorem sizeTab : (Tryz.prog.info? 144).map (·.size) = some tab.size := by kernel_rfl
theorem oneTab : tab.all (·.oneCell') = true := by kernel_rfl
theorem store_new {ops : Array Oper} {rest : List Oper} {op : Oper} {a : Act} {Q : Exit → Act → World → Prop} (w : World) (hgd : op.guard = none) (ty : TypeId) (x y : Operand) (ho : op.op = .store ty x y)
    (c c' : Array Value) (g : Nat) (hx : a.eval x = .pointer (some ⟨g, 0, none⟩)) (hg : g = w.heap.size) (hy : a.eval y = .agg c') (hi : (Tryz.prog.info? ty).map (·.size) = some c'.size) (hs : c.size = c'.size) (h1 : c'.all (·.oneCell') = true)
    (h : wpList Tryz.prog ops Q rest (a.put op.dst undef) (w.alloc (.cells c' ty))) : wpList Tryz.prog ops Q (op :: rest) a (w.alloc (.cells c ty)) :=
  wpList_plain hgd fun _ hK => by
    subst hg
    unfold Oper.wp execOp
    simp only [ho, hx, hy, Sem.run_bind, Sem.run_pure, run_storeAt_new w ty c c' hi hs h1, Result.andThen_ok]
    exact hK _ _ h
set_option maxRecDepth 100000 in
set_option maxHeartbeats 1000000 in
theorem operators (w : World) :
    Calls Tryz.prog 146 #[] w fun e w' => e = .returned (.agg tab) ∧ w' = w.alloc (.cells tab 144) := by
  go_enter Tryz.func146, Tryz.ntmps146
  go_wp2_with (refine store_new _ rfl 144 (.tmp 0) (.tmp 1) rfl _ tab _ rfl rfl rfl sizeTab rfl oneTab ?_)
  refine bodyPost_ret (v := .agg tab) ?_ rfl ⟨rfl, rfl⟩
  exact results_cell_row rfl _ _ w.heap.size _ tab _ _ rfl (heap_alloc_last w _) Tryz.underlying144 rfl sizeTab

end Go.Proofs.YtejgcchkhljnjaaGreat.Pv1

/- The walk of the program's Apply, out of the contracts of its operators. -/
namespace Go.Proofs.YtejgcchkhljnjaaGreat.Pv3
open Go.RowKit
open Nd0 Pl1 Pl2 Vl1 Vl2 Bt0 Wd1 Wd2 Wd3 Wd4 Wd5 Ic4 Pv1
open Sv1 (Rg below1)
set_option linter.unusedVariables false
theorem eqIn_func (d : Nat) (f : Fn) (x y : Array Value) (w : World) : (Op.equalIn (d + 1) 143 (.func f x y) .nilFunc).run Tryz.prog w = .ok false w := by
  simp [Op.equalIn, run_underlying Tryz.underlying143]
theorem eqIn_nil (d : Nat) (w : World) : (Op.equalIn (d + 1) 143 .nilFunc .nilFunc).run Tryz.prog w = .ok true w := by
  simp [Op.equalIn, run_underlying Tryz.underlying143]
theorem eql_func (f : Fn) (x y : Array Value) (w : World) : (binOp .eql 143 (.func f x y) .nilFunc).run Tryz.prog w = .ok (.bool false) w := by
  have h : (Op.equal 143 (.func f x y) .nilFunc).run Tryz.prog w = .ok false w := eqIn_func 9999 f x y w
  simp only [binOp]
  simp [h]
theorem eql_nil (w : World) : (binOp .eql 143 .nilFunc .nilFunc).run Tryz.prog w = .ok (.bool true) w := by
  have h : (Op.equal 143 .nilFunc .nilFunc).run Tryz.prog w = .ok true w := eqIn_nil 9999 w
  simp only [binOp]
  simp [h]
theorem facts7 (w : World) (k : Nat) (f v0 v1 v2 v3 v4 v5 : Value) (hk : k < tab.size) (h : tab[k]'hk = f) :
    (((w.alloc (.cells #[v0, v1, v2, v3, v4, v5] 53)).alloc (.cells tab 144)).alloc (.cells tab 144)).cell? ⟨w.heap.size, 0, none⟩ = some v0 ∧
    (((w.alloc (.cells #[v0, v1, v2, v3, v4, v5] 53)).alloc (.cells tab 144)).alloc (.cells tab 144)).cell? ⟨w.heap.size, 1, none⟩ = some v1 ∧
    (((w.alloc (.cells #[v0, v1, v2, v3, v4, v5] 53)).alloc (.cells tab 144)).alloc (.cells tab 144)).cell? ⟨w.heap.size, 2, none⟩ = some v2 ∧
    (((w.alloc (.cells #[v0, v1, v2, v3, v4, v5] 53)).alloc (.cells tab 144)).alloc (.cells tab 144)).cell? ⟨w.heap.size, 3, none⟩ = some v3 ∧
    (((w.alloc (.cells #[v0, v1, v2, v3, v4, v5] 53)).alloc (.cells tab 144)).alloc (.cells tab 144)).cell? ⟨w.heap.size, 4, none⟩ = some v4 ∧
    (((w.alloc (.cells #[v0, v1, v2, v3, v4, v5] 53)).alloc (.cells tab 144)).alloc (.cells tab 144)).cell? ⟨w.heap.size, 5, none⟩ = some v5 ∧
    (((w.alloc (.cells #[v0, v1, v2, v3, v4, v5] 53)).alloc (.cells tab 144)).alloc (.cells tab 144)).cell? ⟨w.heap.size + 1 + 1, k, none⟩ = some f := by
  have hB : Below (w.alloc (.cells #[v0, v1, v2, v3, v4, v5] 53)).heap.size (w.alloc (.cells #[v0, v1, v2, v3, v4, v5] 53)) (((w.alloc (.cells #[v0, v1, v2, v3, v4, v5] 53)).alloc (.cells tab 144)).alloc (.cells tab 144)) := ((Below.refl _ _).alloc (Nat.le_refl _) _).alloc (by simp) _
  have e : ((w.alloc (.cells #[v0, v1, v2, v3, v4, v5] 53)).alloc (.cells tab 144)).heap.size = w.heap.size + 1 + 1 := by simp
  refine ⟨?_, ?_, ?_, ?_, ?_, ?_, ?_⟩
  · rw [hB.cell (by simp), World.cell?_alloc_new]; rfl
  · rw [hB.cell (by simp), World.cell?_alloc_new]; rfl
  · rw [hB.cell (by simp), World.cell?_alloc_new]; rfl
  · rw [hB.cell (by simp), World.cell?_alloc_new]; rfl
  · rw [hB.cell (by simp), World.cell?_alloc_new]; rfl
  · rw [hB.cell (by simp), World.cell?_alloc_new]; rfl
  · rw [← e, World.cell?_alloc_new, ← h]
    exact Array.getElem?_eq_getElem hk
theorem kept7 {W W' : World} {b t k : Nat} {v0 v1 v2 v3 v4 v5 f : Value}
    (h : W.cell? ⟨b, 0, none⟩ = some v0 ∧ W.cell? ⟨b, 1, none⟩ = some v1 ∧ W.cell? ⟨b, 2, none⟩ = some v2 ∧ W.cell? ⟨b, 3, none⟩ = some v3 ∧ W.cell? ⟨b, 4, none⟩ = some v4 ∧ W.cell? ⟨b, 5, none⟩ = some v5 ∧ W.cell? ⟨t, k, none⟩ = some f) (hb : Below W.heap.size W W') :
    W'.cell? ⟨b, 0, none⟩ = some v0 ∧ W'.cell? ⟨b, 1, none⟩ = some v1 ∧ W'.cell? ⟨b, 2, none⟩ = some v2 ∧ W'.cell? ⟨b, 3, none⟩ = some v3 ∧ W'.cell? ⟨b, 4, none⟩ = some v4 ∧ W'.cell? ⟨b, 5, none⟩ = some v5 ∧ W'.cell? ⟨t, k, none⟩ = some f := by
  obtain ⟨h0, h1, h2, h3, h4, h5, h6⟩ := h
  exact ⟨(hb.cell (lt_of_cell h0)).trans h0, (hb.cell (lt_of_cell h1)).trans h1, (hb.cell (lt_of_cell h2)).trans h2, (hb.cell (lt_of_cell h3)).trans h3, (hb.cell (lt_of_cell h4)).trans h4, (hb.cell (lt_of_cell h5)).trans h5, (hb.cell (lt_of_cell h6)).trans h6⟩
def iApp (n : Nd) (W a b c v : Int) (w : World) : Prop :=
    Calls Tryz.prog 98 #[.agg #[.int .i64 n.op, .int .i64 n.w, .int .i64 n.k, .int .i64 n.a, .int .i64 n.b, .int .i64 n.c], .int .i64 W, .int .i64 a, .int .i64 b, .int .i64 c] w fun e w' => e = .returned (.int .i64 v) ∧ Below w.heap.size w w'

end Go.Proofs.YtejgcchkhljnjaaGreat.Pv3
