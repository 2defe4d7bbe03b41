/- Small texts of mine, one behind the other. -/
import Derived.Test.YtebejleeadofcaaRows
import Derived.WalkKit
import Derived.WalkSpells
import Derived.Stop.Asserts
import Derived.Deep.MidRow
import Derived.Test.YtebejleeadofcaaFm6
import Derived.Test.YtebejleeadofcaaPkXF21
import Derived.Test.YtebejleeadofcaaNd0
import Derived.Test.YtebejleeadofcaaPkXF1
/- Quantifiers appended to one's own: a list of any length out of any place, at the walk and at a step of a region that draws. -/
namespace Go.Proofs.Ytebejleeadofcaa.Ap14
open Go.RowKit
open Nd0 Qa0 Qa2 Fm6
set_option linter.unusedVariables false

theorem flat_at (l : List Qu) {j : Nat} {u : Value} (h : (flatQu l)[j]? = some u) : ∃ i d, j = i * 3 + d ∧ d < 3 ∧ ∃ hi : i < l.length, (l[i].cells)[d]? = some u := by
  have hj : j < l.length * 3 := by rw [← flatQu_length]; exact (List.getElem?_eq_some_iff.1 h).1
  refine ⟨j / 3, j % 3, by omega, by omega, by omega, ?_⟩
  rw [← flatQu_get l (j / 3) (by omega) (j % 3) (by omega), show j / 3 * 3 + j % 3 = j by omega]
  exact h
theorem qus_cells {W : World} {gx ox : Nat} {ys : List Qu} (h : ∀ i (hi : i < ys.length), QuAt W gx (ox + i * 3) ys[i]) : ∀ j u, (flatQu ys)[j]? = some u → W.cell? ((⟨gx, ox, none⟩ : Addr).add j) = some u := by
  intro j u hu
  obtain ⟨i, d, rfl, hd, hi, he⟩ := flat_at ys hu
  have hadd : (⟨gx, ox, none⟩ : Addr).add (i * 3 + d) = ⟨gx, ox + (i * 3 + d), none⟩ := by unfold Addr.add; split <;> simp_all
  rw [hadd]
  obtain ⟨c0, c1, c2⟩ := h i hi
  rcases (show d = 0 ∨ d = 1 ∨ d = 2 by omega) with e | e | e <;> subst e
  · rw [show ox + (i * 3 + 0) = ox + i * 3 by omega, c0]; exact he
  · rw [show ox + (i * 3 + 1) = ox + i * 3 + 1 by omega, c1]; exact he
  · rw [show ox + (i * 3 + 2) = ox + i * 3 + 2 by omega, c2]; exact he
theorem oneC (ys : List Qu) : ∀ u ∈ flatQu ys, u.oneCell' = true := by
  intro u hu
  obtain ⟨n, _, hn⟩ := List.mem_flatMap.1 hu
  simp [Qu.cells] at hn
  rcases hn with rfl | rfl | rfl <;> rfl
theorem one_new (w : World) (al : Bool) (v b : Int) : ∀ i (h : i < [(⟨al, v, b⟩ : Qu)].length), QuAt (w.alloc (.cells #[.bool al, .int .i64 v, .int .i64 b] 50)) w.heap.size (0 + i * 3) [(⟨al, v, b⟩ : Qu)][i] := by
  intro i hi
  have e : i = 0 := by simp at hi; omega
  subst e
  exact ⟨by simp, by simp, by simp⟩
theorem own_addr {w : World} {B : Nat} {v : Value} {l : List Qu} (h : OwQu w B v l) (hv : v ≠ .slice none 0 0) : ∃ g cp, v = .slice (some ⟨g, 0, none⟩) l.length cp := by
  rcases h.2 with ⟨h0, _⟩ | ⟨g', cap, cur, he, _⟩
  · exact absurd h0 hv
  · exact ⟨g', cap, he⟩
/-- Some more, at the walk. -/
theorem app_qus {ops : Array Oper} {rest : List Oper} {o : Oper} {a : Act} {Q : Exit → Act → World → Prop} (W : World) (hgd : o.guard = none) (s x : Operand)
    (ho : o.op = .call { callee := .builtin .append, args := #[s, x], argTypes := #[24, 24] })
    (B g c : Nat) (l ys L : List Qu) (hL : l ++ ys = L) (gx ox cx n m : Nat) (hs : a.eval s = .slice (some ⟨g, 0, none⟩) n c) (hx : a.eval x = .slice (some ⟨gx, ox, none⟩) m cx) (hn : n = l.length) (hm : m = ys.length)
    (hy : ∀ i (h : i < ys.length), QuAt W gx (ox + i * 3) ys[i])
    (hown : OwQu W B (.slice (some ⟨g, 0, none⟩) l.length c) l) (hB : B ≤ W.heap.size) (hlen : l.length + ys.length ≤ 1048577)
    (h : ∀ g' cap w', OwQu w' B (.slice (some ⟨g', 0, none⟩) L.length cap) L → Kept (fun k => k = g) W w' → wpList Try.prog ops Q rest (a.put o.dst (.slice (some ⟨g', 0, none⟩) L.length cap)) w') :
    wpList Try.prog ops Q (o :: rest) a W := by
  subst hn hm hL
  obtain ⟨i, hi, hzz⟩ := Option.map_eq_some_iff.1 infoAQu
  simp only [Prod.mk.injEq] at hzz
  obtain ⟨hz, hsz, hb⟩ := hzz
  refine wpList_append_own W hgd s x 24 ho B 50 i _ 3 24 Try.underlying24 hi hz hsz hb rfl (by omega) _ l.length (flatQu l) hs hown
    ⟨gx, ox, none⟩ ys.length cx (flatQu ys) hx (flatQu_length ys) (qus_cells hy) (oneC ys) (by unfold maxLen; omega) (by omega) hB ?_
  · intro v' w' h1 h2 h3
    have h4 : OwQu w' B v' (l ++ ys) := by unfold OwQu; rw [flatQu_app, List.length_append]; exact h1
    obtain ⟨g', cp, rfl⟩ := own_addr h4 (fun h0 => absurd (h3.1 h0).1 (by simp))
    exact h g' cp w' h4 ⟨h2.os, h2.tape, h2.output, h2.size, fun k hk hn => h2.block k hk (fun e => hn (by cases e; rfl))⟩
/-- Some more, at a step of a region that draws. -/
theorem step_qus2 {ops : Array Oper} {o : Oper} {a : Act} {K : Act → World → Prop} {Q : Exit → Act → World → Prop} {E : Prop} (W : World) (hgd : o.guard = none) (s x : Operand)
    (ho : o.op = .call { callee := .builtin .append, args := #[s, x], argTypes := #[24, 24] })
    (B g c : Nat) (l ys L : List Qu) (hL : l ++ ys = L) (gx ox cx n m : Nat) (hs : a.eval s = .slice (some ⟨g, 0, none⟩) n c) (hx : a.eval x = .slice (some ⟨gx, ox, none⟩) m cx) (hn : n = l.length) (hm : m = ys.length)
    (hy : ∀ i (h : i < ys.length), QuAt W gx (ox + i * 3) ys[i])
    (hown : OwQu W B (.slice (some ⟨g, 0, none⟩) l.length c) l) (hB : B ≤ W.heap.size) (hlen : l.length + ys.length ≤ 1048577)
    (h : ∀ g' cap w', OwQu w' B (.slice (some ⟨g', 0, none⟩) L.length cap) L → Kept (fun k => k = g) W w' → K (a.put o.dst (.slice (some ⟨g', 0, none⟩) L.length cap)) w') :
    if Region.wanted o (yielded ops a.tmps) = true then Oper.wp Try.prog o a W K Q else E := by
  rw [if_pos (by simp [Region.wanted, hgd])]
  subst hn hm hL
  obtain ⟨i, hi, hzz⟩ := Option.map_eq_some_iff.1 infoAQu
  simp only [Prod.mk.injEq] at hzz
  obtain ⟨hz, hsz, hb⟩ := hzz
  refine wp_append_own (w := W) s x 24 ho B 50 i _ 3 24 Try.underlying24 hi hz hsz hb rfl (by omega) _ l.length (flatQu l) hs hown
    ⟨gx, ox, none⟩ ys.length cx (flatQu ys) hx (flatQu_length ys) (qus_cells hy) (oneC ys) (by unfold maxLen; omega) (by omega) hB ?_
  intro v' w' h1 h2 h3
  have h4 : OwQu w' B v' (l ++ ys) := by unfold OwQu; rw [flatQu_app, List.length_append]; exact h1
  obtain ⟨g', cp, rfl⟩ := own_addr h4 (fun h0 => absurd (h3.1 h0).1 (by simp))
  exact h g' cp w' h4 ⟨h2.os, h2.tape, h2.output, h2.size, fun k hk hn => h2.block k hk (fun e => hn (by cases e; rfl))⟩

end Go.Proofs.Ytebejleeadofcaa.Ap14

/- What the program's Front makes on the way, as plain data: the quantifiers told at each reached place. -/
namespace Go.Proofs.Ytebejleeadofcaa.Fq0
open Nd0 Qa0 Pl1 Tm0 Tm1 Tm5 Tm6 Tm8 Tm10 Tm11 Tr0 Fr1 Fr2 Fr3 Fr5
set_option linter.unusedVariables false

/-- The quantifiers at place i. -/
def fq (l : List Nd) (i : Nat) : List Qu := wk (tr l i) false
theorem fq_bad {l : List Nd} (hT : termOk l = true) {i : Nat} (hi : i < l.length) (h : flag (holdTo l l.length) i = false) : fq l i = [] := wk_none hT hi h false
theorem fq_not {l : List Nd} (hT : termOk l = true) {i : Nat} (hi : i < l.length) (h : (nth l i).op = 2) : fq l i = (fq l (nth l i).a.toNat).map turnQ := by
  unfold fq
  rw [wk_not hT hi h, wk_turn]
theorem fq_q {l : List Nd} (hT : termOk l = true) {i : Nat} (hi : i < l.length) (h : quant (nth l i).op = true) : fq l i = ⟨(nth l i).op == 19, (nth l i).k, (nth l i).b⟩ :: fq l (nth l i).a.toNat := by
  unfold fq
  rw [wk_q hT hi h]
  simp
theorem fq_two {l : List Nd} (hT : termOk l = true) {i : Nat} (hi : i < l.length) (h : (nth l i).op = 3 ∨ (nth l i).op = 4) : fq l i = fq l (nth l i).a.toNat ++ fq l (nth l i).b.toNat := wk_two hT hi h false
/-- At a reached place of any other operator there are none. -/
theorem fq_none {l : List Nd} (hS : sentB l = true) {i : Nat} (hi : i < l.length) (hf : flag (reachL l) i = true) (h : ¬ ((nth l i).op = 2 ∨ (nth l i).op = 3 ∨ (nth l i).op = 4 ∨ quant (nth l i).op = true)) : fq l i = [] := by
  cases hh : flag (holdTo l l.length) i
  · exact fq_bad (sent_ok hS) hi hh
  · exact absurd (hold_outer hS hi hf hh) h
theorem fq_len {l : List Nd} (hS : sentB l = true) : ∀ d i, i + d + 1 = l.length → flag (reachL l) i = true → (fq l i).length ≤ 8 := by
  have hT := sent_ok hS
  have hD := down_of hT
  intro d
  induction d using Nat.strongRecOn with
  | ind d ih =>
    intro i hd hf
    rcases reach_why hD (by omega : i < l.length) hf with h | ⟨j, h1, h2, h3, h4⟩
    · have e : i = l.length - 1 := by omega
      subst e
      exact wk_len hS false
    · have hj := ih (l.length - 1 - j) (by omega) j (by omega) h3
      cases hh : flag (holdTo l l.length) i
      · rw [fq_bad hT (by omega) hh]; exact Nat.zero_le _
      · have hhj := hold_part hD h2 h4 (by rw [Int.toNat_natCast]; exact hh)
        rcases hold_outer hS h2 h3 hhj with ho | ho | ho | ho
        · rw [fq_not hT h2 ho, List.length_map] at hj
          rw [parts_one (by omega)] at h4
          have e : (nth l j).a.toNat = i := by simp at h4; omega
          rw [e] at hj; exact hj
        · rw [fq_two hT h2 (.inl ho), List.length_append] at hj
          rw [parts_two (by omega)] at h4
          have e : (nth l j).a.toNat = i ∨ (nth l j).b.toNat = i := by
            simp at h4; omega
          rcases e with e | e <;> rw [e] at hj <;> omega
        · rw [fq_two hT h2 (.inr ho), List.length_append] at hj
          rw [parts_two (by omega)] at h4
          have e : (nth l j).a.toNat = i ∨ (nth l j).b.toNat = i := by
            simp at h4; omega
          rcases e with e | e <;> rw [e] at hj <;> omega
        · rw [fq_q hT h2 ho, List.length_cons] at hj
          have hq2 : (nth l j).op = 19 ∨ (nth l j).op = 20 := by simpa [quant] using ho
          rw [parts_one (by omega)] at h4
          have e : (nth l j).a.toNat = i := by simp at h4; omega
          rw [e] at hj; omega
theorem fq_le {l : List Nd} (hS : sentB l = true) {i : Nat} (hi : i < l.length) (hf : flag (reachL l) i = true) : (fq l i).length ≤ 8 := fq_len hS (l.length - 1 - i) i (by omega) hf
theorem fq_front {l : List Nd} (hS : sentB l = true) : frontQ l = fq l (l.length - 1) := by
  unfold frontQ; rw [hS]; rfl

end Go.Proofs.Ytebejleeadofcaa.Fq0

/- Memory that calls leave as it is: three small laws. -/
namespace Go.Proofs.Ytebejleeadofcaa.Kp0
open Go.RowKit
open Nd0

theorem below_drewN {B : Nat} {u w : World} (h : Below B u w) (n : Nat) : Below B u (w.drewN n) := ⟨h.os, h.tape, h.output, h.size, h.block⟩
theorem intsIn_below {w w' : World} {B U : Nat} {a : Option Addr} {l : List Int} (h : IntsIn w B U a l) (k : Below w.heap.size w w') : IntsIn w' B U a l :=
  h.kept (S := fun _ => False) (Kept.ofBelow k) (fun _ _ _ h => h)
theorem keep {B : Nat} {u v w : World} (h : Below B u v) (k : Below v.heap.size v w) (hB : B ≤ v.heap.size) : Below B u w := h.trans (k.mono hB)

end Go.Proofs.Ytebejleeadofcaa.Kp0

/- The two kinds of quantifiers of the program: values of an interface. -/
namespace Go.Proofs.Ytebejleeadofcaa.Qi0
open Go.RowKit
open Nd0 Qa0
set_option linter.unusedVariables false

/-- A quantifier as the program has it. -/
def qv (x : Qu) : Value := .iface (if x.all then 75 else 76) (.agg #[.int .i64 x.vr, .int .i64 x.bits])

set_option maxHeartbeats 1000000 in
theorem iNewQ (al : Bool) (v b : Int) (w : World) :
    Calls Try.prog 38 #[.bool al, .int .i64 v, .int .i64 b] w fun e w' => e = .returned (qv ⟨al, v, b⟩) ∧ w' = w := by
  cases al
  all_goals
    go_enter Try.func38, Try.ntmps38
    go_wp2
    go_ret
    exact ⟨rfl, rfl⟩

theorem qv_all (v b : Int) : qv ⟨true, v, b⟩ = .iface 75 (.agg #[.int .i64 v, .int .i64 b]) := rfl
theorem qv_some (v b : Int) : qv ⟨false, v, b⟩ = .iface 76 (.agg #[.int .i64 v, .int .i64 b]) := rfl

theorem asksNo (v b : Int) (w : World) : (Instr.typeAssert (.iface 76 (.agg #[.int .i64 v, .int .i64 b])) 48 75 true).run Try.prog w = .ok (.tuple #[.agg #[.int .i64 0, .int .i64 0], .bool false]) w := by kernel_rfl
theorem asksYes (v b : Int) (w : World) : (Instr.typeAssert (.iface 75 (.agg #[.int .i64 v, .int .i64 b])) 48 75 true).run Try.prog w = .ok (.tuple #[.agg #[.int .i64 v, .int .i64 b], .bool true]) w := by kernel_rfl

set_option maxRecDepth 100000 in
set_option maxHeartbeats 1000000 in
theorem iOpOf (x : Qu) (w : World) :
    Calls Try.prog 41 #[qv x] w fun e w' => e = .returned (.int .i64 (if x.all then 19 else 20)) ∧ w' = w := by
  obtain ⟨al, v, b⟩ := x
  cases al
  · have hm := asksNo v b
    rw [qv_some]
    go_enter Try.func41, Try.ntmps41
    go_wp2
    go_ret
    exact ⟨rfl, rfl⟩
  · have hm := asksYes v b
    rw [qv_all]
    go_enter Try.func41, Try.ntmps41
    go_wp2
    go_ret
    exact ⟨rfl, rfl⟩

theorem findAll (v b : Int) (w : World) : (method 202 75 (.agg #[.int .i64 v, .int .i64 b]) "loop.example/g00116/impl.variable").run Try.prog w = .ok (79, .agg #[.int .i64 v, .int .i64 b]) w := by kernel_rfl
theorem findSome (v b : Int) (w : World) : (method 202 76 (.agg #[.int .i64 v, .int .i64 b]) "loop.example/g00116/impl.variable").run Try.prog w = .ok (82, .agg #[.int .i64 v, .int .i64 b]) w := by kernel_rfl

set_option maxRecDepth 100000 in
set_option maxHeartbeats 1000000 in
theorem iVarAll (v b : Int) (w : World) : Calls Try.prog 79 #[.agg #[.int .i64 v, .int .i64 b]] w fun e w' => e = .returned (.tuple #[.int .i64 v, .int .i64 b]) ∧ Below w.heap.size w w' := by
  go_enter Try.func79, Try.ntmps79
  go_wp2_with fail
  go_quiet (fail)
  go_wp2
  go_ret2
  exact ⟨rfl, Kp0.below_drewN ((Below.refl _ _).alloc (Nat.le_refl _) _) _⟩
set_option maxRecDepth 100000 in
set_option maxHeartbeats 1000000 in
theorem iVarSome (v b : Int) (w : World) : Calls Try.prog 82 #[.agg #[.int .i64 v, .int .i64 b]] w fun e w' => e = .returned (.tuple #[.int .i64 v, .int .i64 b]) ∧ Below w.heap.size w w' := by
  go_enter Try.func82, Try.ntmps82
  go_wp2_with fail
  go_quiet (fail)
  go_wp2
  go_ret2
  exact ⟨rfl, Kp0.below_drewN ((Below.refl _ _).alloc (Nat.le_refl _) _) _⟩

end Go.Proofs.Ytebejleeadofcaa.Qi0
