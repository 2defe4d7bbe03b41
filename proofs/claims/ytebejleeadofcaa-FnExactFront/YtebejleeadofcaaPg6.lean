/- The walks of the program's rightBehind and TermOk. -/
import Derived.Lib.QuietBelow
import Derived.Deep.Upon
import Derived.Test.YtebejleeadofcaaPg5
import Derived.Test.YtebejleeadofcaaPkXF36
namespace Go.Proofs.Ytebejleeadofcaa.Pg6
open Go.RowKit
open Nd0 Tm0 Tm5 Pl1 Ap0 Pg1 Pg2 Pg3 Pg4 Pg5
open Ws1 (ret_int ret_bool)
open Go.Sort (grow)
open Lx1 (ITermOk)
set_option linter.unusedVariables false

abbrev av (n : Nd) : Value := .agg #[.int .i64 n.op, .int .i64 n.w, .int .i64 n.k, .int .i64 n.a, .int .i64 n.b, .int .i64 n.c]
/-- Two nodes of one operator and width compared. -/
theorem node_eql (o w k a b c k' a' b' c' : Int) (W : World) : (binOp .eql 39 (.agg #[.int .i64 o, .int .i64 w, .int .i64 k, .int .i64 a, .int .i64 b, .int .i64 c]) (.agg #[.int .i64 o, .int .i64 w, .int .i64 k', .int .i64 a', .int .i64 b', .int .i64 c'])).run Try.prog W = .ok (.bool (decide (k = k' ∧ a = a' ∧ b = b' ∧ c = c'))) W := by
  by_cases e0 : k = k'
  · by_cases e1 : a = a'
    · by_cases e2 : b = b'
      · by_cases e3 : c = c'
        · subst e0 e1 e2 e3; go_simp
        · subst e0 e1 e2; go_simp <;> simp [e3]
      · subst e0 e1; go_simp <;> simp [e2]
    · subst e0; go_simp <;> simp [e1]
  · go_simp <;> simp [e0]
/-- Whether the node n is right behind the nodes l. -/
def rightB (l : List Nd) (n : Nd) : Bool := decide (1 ≤ n.w ∧ n.w ≤ 8) && usedOk n && pahead n l.length && fitsB n ((parts n).map (width l))
theorem nth_take {l : List Nd} {k j : Nat} (hj : j < k) : nth (l.take k) j = nth l j := by
  unfold nth
  rw [List.getD_eq_getElem?_getD, List.getD_eq_getElem?_getD, List.getElem?_take, if_pos hj]
theorem nodes_take6 {w : World} {a : Option Addr} {L : List Nd} (h : Nodes w a L) {m : Nat} (hm : m ≤ L.length) : Nodes w a (L.take m) := by
  have e : (L.take m).length = m := by rw [List.length_take]; omega
  refine ⟨by rw [e]; have := h.1; omega, ?_⟩
  rcases h.2 with h0 | ⟨b, o, rfl, hc⟩
  · left; omega
  · refine .inr ⟨b, o, rfl, fun i hi => ?_⟩
    rw [List.getElem_take]
    exact hc i (by omega)
theorem right_take {l : List Nd} {k : Nat} (hk : k < l.length) : rightB (l.take k) (nth l k) = nodeOk l k := by
  rw [node_split l k]
  unfold rightB
  have e : (l.take k).length = k := by rw [List.length_take]; omega
  rw [e]
  cases hp : pahead (nth l k) k
  · simp
  · have hq : (parts (nth l k)).map (width (l.take k)) = (parts (nth l k)).map (width l) := by
      apply List.map_congr_left
      intro p hp'
      unfold pahead at hp
      rw [List.all_eq_true] at hp
      have h9 := of_decide_eq_true (hp p hp')
      unfold width
      rw [nth_take (by omega)]
    rw [hq]

/-- The cells of a new box, in every world grown out of it. -/
theorem box_cells (w : World) (n : Nd) (T : Nat) (W : World) (hW : W = w.alloc (.cells #[.int .i64 n.op, .int .i64 n.w, .int .i64 n.k, .int .i64 n.a, .int .i64 n.b, .int .i64 n.c] T)) :
    (∀ d os, (grow (redrawn W d) os).cell? ⟨w.heap.size, 0, none⟩ = some (.int .i64 n.op)) ∧ (∀ d os, (grow (redrawn W d) os).cell? ⟨w.heap.size, 1, none⟩ = some (.int .i64 n.w)) ∧ (∀ d os, (grow (redrawn W d) os).cell? ⟨w.heap.size, 2, none⟩ = some (.int .i64 n.k)) ∧ (∀ d os, (grow (redrawn W d) os).cell? ⟨w.heap.size, 3, none⟩ = some (.int .i64 n.a)) ∧ (∀ d os, (grow (redrawn W d) os).cell? ⟨w.heap.size, 4, none⟩ = some (.int .i64 n.b)) ∧ (∀ d os, (grow (redrawn W d) os).cell? ⟨w.heap.size, 5, none⟩ = some (.int .i64 n.c)) := by
  subst hW
  refine ⟨?_, ?_, ?_, ?_, ?_, ?_⟩ <;> exact fun d os => cell_regrown (by rw [World.cell?_alloc_new]; rfl) d os

set_option maxRecDepth 100000 in
set_option maxHeartbeats 4000000 in
theorem iRight (w : World) (a : Option Addr) (l : List Nd) (c m : Nat) (hm : l.length = m) (n : Nd) (hN : Nodes w a l) (hl : l.length ≤ 80) (hw : ∀ j, j < l.length → 1 ≤ (nth l j).w ∧ (nth l j).w ≤ 8) :
    Calls Try.prog 47 #[.slice a m c, .agg #[.int .i64 n.op, .int .i64 n.w, .int .i64 n.k, .int .i64 n.a, .int .i64 n.b, .int .i64 n.c]] w fun e w' => e = .returned (.bool (rightB l n)) ∧ Below w.heap.size w w' := by
  subst hm
  obtain ⟨W, hW⟩ : ∃ W : World, W = w.alloc (.cells #[.int .i64 n.op, .int .i64 n.w, .int .i64 n.k, .int .i64 n.a, .int .i64 n.b, .int .i64 n.c] 39) := ⟨_, rfl⟩
  have HB0 : Hid (Below w.heap.size w W) := by rw [hW]; exact (Below.refl _ _).alloc (Nat.le_refl _) _
  obtain ⟨x0, x1, x2, x3, x4, x5⟩ := box_cells w n _ W hW
  have HQ1 : Hid (∀ d os, Calls Try.prog 53 #[.int .i64 n.w] (grow (redrawn W d) os) fun e w'' => e = .returned (.bool (decide (1 ≤ n.w ∧ n.w ≤ 8))) ∧ ∃ p : Regrown, w'' = grow (redrawn W p.d) p.os) := fun d os => Calls.regrown_of ((iWidthOk n.w _).mono (by rintro e w' ⟨rfl, rfl⟩; exact ⟨rfl, Below.refl _ _⟩))
  have HQ2 : Hid (∀ d os, Calls Try.prog 54 #[av n] (grow (redrawn W d) os) fun e w'' => e = .returned (av (used n)) ∧ ∃ p : Regrown, w'' = grow (redrawn W p.d) p.os) := fun d os => Calls.regrown_of (iUsed n _)
  have HQ3 : Hid (∀ d os, Calls Try.prog 55 #[av n, .int .i64 (l.length : Int)] (grow (redrawn W d) os) fun e w'' => e = .returned (.bool (pahead n l.length)) ∧ ∃ p : Regrown, w'' = grow (redrawn W p.d) p.os) := fun d os => Calls.regrown_of (iAhead n l.length _)
  have HQ4 : Hid (decide (1 ≤ n.w ∧ n.w ≤ 8) = true → pahead n l.length = true → ∀ d os, Calls Try.prog 56 #[.slice a l.length c, av n] (grow (redrawn W d) os) fun e w'' => e = .returned (.bool (fitsB n ((parts n).map (width l)))) ∧ ∃ p : Regrown, w'' = grow (redrawn W p.d) p.os) := fun h1 h3 d os => Calls.regrown_of (iFits _ a l c n l.length ((hN.below HB0.out).below (below_regrown W d os)) hl (Nat.le_refl _) h3 hw (of_decide_eq_true h1))
  have hE : ∀ V : World, (binOp .eql 39 (.agg #[.int .i64 n.op, .int .i64 n.w, .int .i64 n.k, .int .i64 n.a, .int .i64 n.b, .int .i64 n.c]) (.agg #[.int .i64 (used n).op, .int .i64 (used n).w, .int .i64 (used n).k, .int .i64 (used n).a, .int .i64 (used n).b, .int .i64 (used n).c])).run Try.prog V = .ok (.bool (usedOk n)) V := fun V => by
    exact node_eql n.op n.w n.k n.a n.b n.c (used n).k (used n).a (used n).b (used n).c V
  have HSP : Hid (rightB l n = (decide (1 ≤ n.w ∧ n.w ≤ 8) && usedOk n && pahead n l.length && fitsB n ((parts n).map (width l)))) := rfl
  have hbs := HB0.out.size
  clear hN hw
  generalize decide (1 ≤ n.w ∧ n.w ≤ 8) = B1 at HQ1 HQ4 HSP
  generalize usedOk n = B2 at hE HSP
  generalize pahead n l.length = B3 at HQ3 HQ4 HSP
  generalize fitsB n ((parts n).map (width l)) = B4 at HQ4 HSP
  generalize rightB l n = R at HSP ⊢
  generalize used n = u at HQ2 hE
  cases B1 <;> cases B2 <;> cases B3
  all_goals
    go_enter Try.func47, Try.ntmps47
    go_upto_region 1 with fail
    rw [← hW]
    clear hW
    refine wp_region_quiet_below (by kernel_rfl) (by kernel_rfl) ?_
    iterate 21 (go_big_quiet_step ((first | (go_at_call 53; exact HQ1.out _ _) | (go_at_call 54; exact HQ2.out _ _) | (go_at_call 55; exact HQ3.out _ _) | (go_at_call 56; exact HQ4.out rfl rfl _ _))))
    refine wpQuiet_nil ?_
    intro w4 hw9
    have HB4 : Hid (Below w.heap.size w w4) := by obtain ⟨pp, hw8⟩ := hw9; subst hw8; exact HB0.out.trans ((below_regrown W pp.d pp.os).mono hbs)
    clear hw9 x0 x1 x2 x3 x4 x5 hE HQ1 HQ2 HQ3 HQ4 HB0
    go_wp2
    go_ret
    exact ⟨by rw [HSP.out]; rfl, HB4.out⟩

set_option maxRecDepth 100000 in
set_option maxHeartbeats 4000000 in
theorem iTermOk : ITermOk := by
  intro w a l c hN hcap hlen
  have HN : Hid (Nodes w a l) := hN
  have HC : Hid (l.length ≤ c) := hcap
  clear hN hcap
  by_cases hl : 1 ≤ l.length ∧ l.length ≤ 80
  · obtain ⟨hl1, hl2⟩ := hl
    have g1 : ¬ (l.length : Int) < 1 := by omega
    have g2 : ¬ (80 : Int) < (l.length : Int) := by omega
    go_enter Try.func33, Try.ntmps33
    go_wp2
    clear g1 g2
    go_loopw [15] (fun q wr => ∃ k : Nat, k ≤ l.length ∧ q = .int .i64 k ∧ Below w.heap.size w wr ∧ ∀ j, j < k → nodeOk l j = true) (fun q _ => l.length - (intOf q).toNat)
    case atStart => exact ⟨0, Nat.zero_le _, rfl, Below.refl _ _, fun j hj => by omega⟩
    case round =>
      obtain ⟨k, hk, rfl, hb, hall⟩ := hrel
      have HB : Hid (Below w.heap.size w wr) := hb
      have HA : Hid (∀ j, j < k → nodeOk l j = true) := hall
      clear hb hall
      by_cases hlt : k < l.length
      · have hlz : (k : Int) < (l.length : Int) := by omega
        have hcz : (k : Int) ≤ (c : Int) := by have := HC.out; omega
        rcases (HN.out.below HB.out).2 with h0 | ⟨xb, xo, rfl, hc⟩
        · omega
        have HNr : Hid (Nodes wr (some ⟨xb, xo, none⟩) l) := HN.out.below HB.out
        obtain ⟨p0, p1, p2, p3, p4, p5⟩ := hc k hlt
        rw [nth_get hlt] at p0 p1 p2 p3 p4 p5
        have HW : Hid (∀ j, j < (l.take k).length → 1 ≤ (nth (l.take k) j).w ∧ (nth (l.take k) j).w ≤ 8) := fun j hj => by
          rw [List.length_take] at hj
          rw [nth_take (by omega)]
          exact node_width (HA.out j (by omega))
        have HSP : Hid (rightB (l.take k) (nth l k) = nodeOk l k) := right_take hlt
        have HTK : Hid ((l.take k).length = k) := by show _ = _; rw [List.length_take]; omega
        clear hc
        generalize nth l k = n at p0 p1 p2 p3 p4 p5 HSP
        obtain ⟨W, hW⟩ : ∃ W : World, W = wr.alloc (.cells #[.int .i64 n.op, .int .i64 n.w, .int .i64 n.k, .int .i64 n.a, .int .i64 n.b, .int .i64 n.c] 39) := ⟨_, rfl⟩
        have hbw : Below wr.heap.size wr W := by rw [hW]; exact (Below.refl _ _).alloc (Nat.le_refl _) _
        have HBW : Hid (Below w.heap.size w W) := HB.out.trans (hbw.mono HB.out.size)
        obtain ⟨x0, x1, x2, x3, x4, x5⟩ := box_cells wr n _ W hW
        have HQ1 : Hid (∀ d os, Calls Try.prog 47 #[.slice (some ⟨xb, xo, none⟩) k c, av n] (grow (redrawn W d) os) fun e w'' => e = .returned (.bool (nodeOk l k)) ∧ ∃ p : Regrown, w'' = grow (redrawn W p.d) p.os) := fun d os => by
          have h9 := iRight (grow (redrawn W d) os) (some ⟨xb, xo, none⟩) (l.take k) c k HTK.out n (nodes_take6 ((HNr.out.below hbw).below (below_regrown W d os)) (by omega)) (by have := HTK.out; omega) HW.out
          rw [HSP.out] at h9
          exact Calls.regrown_of h9
        have hbs := HBW.out.size
        cases hd1 : nodeOk l k
        all_goals
          rw [hd1] at HQ1
          go_upto_region 6 with fail
          rw [← hW]
          clear hW p0 p1 p2 p3 p4 p5
          refine wp_region_quiet_below (by kernel_rfl) (by kernel_rfl) ?_
          iterate 6 (go_big_quiet_step ((go_at_call 47; exact HQ1.out _ _)))
          refine wpQuiet_nil ?_
          intro w4 hw9
          have HB4 : Hid (Below w.heap.size w w4) := by obtain ⟨pp, hw8⟩ := hw9; subst hw8; exact HBW.out.trans ((below_regrown W pp.d pp.os).mono hbs)
          clear hw9 x0 x1 x2 x3 x4 x5 HQ1 hbw HBW
        · have HNO : Hid (termOk l = false) := term_bad k hlt hd1
          clear hd1
          go_wp2
          go_ret
          exact ⟨ret_bool HNO.out.symm, HB4.out⟩
        · have HOK : Hid (nodeOk l k = true) := hd1
          clear hd1
          go_wp2
          go_roundw
          case rel =>
            refine ⟨k + 1, by omega, by go_num, HB4.out, fun j hj => ?_⟩
            by_cases e : j = k
            · subst e; exact HOK.out
            · exact HA.out j (by omega)
          case measure => simp [intOf]; omega
      · have HT : Hid (termOk l = true) := term_good ⟨hl1, hl2⟩ (fun j hj => HA.out j (by omega))
        go_wp2
        go_ret
        exact ⟨ret_bool HT.out.symm, HB.out⟩
  · have HT : Hid (termOk l = false) := term_long hl
    by_cases hl1 : l.length < 1
    · have g1 : (l.length : Int) < 1 := by omega
      go_enter Try.func33, Try.ntmps33
      go_wp2
      go_ret
      exact ⟨ret_bool HT.out.symm, Below.refl _ _⟩
    · have g1 : ¬ (l.length : Int) < 1 := by omega
      have g2 : (80 : Int) < (l.length : Int) := by omega
      go_enter Try.func33, Try.ntmps33
      go_wp2
      go_ret
      exact ⟨ret_bool HT.out.symm, Below.refl _ _⟩

end Go.Proofs.Ytebejleeadofcaa.Pg6
