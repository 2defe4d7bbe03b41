/- The walk of the model's Front: the quantifiers as they come to the front. Written by tools/gen_fm6.py. -/
import Derived.Deep.RegionHeld
import Derived.Test.YtebejleeadofcaaPkXF21
import Derived.Test.YtebejleeadofcaaPkXF26
import Derived.Test.YtebejleeadofcaaPkXF11
namespace Go.Proofs.Ytebejleeadofcaa.Fm6
open Go.RowKit
open Nd0 Qa0 Qa2 Tm0 Tm1 Tm5 Tm6 Tm8 Tr0 Fr1 Fr5
open Sp7 (nodeAt_of)
set_option linter.unusedVariables false

theorem flatQu_app (l ys : List Qu) : flatQu (l ++ ys) = flatQu l ++ flatQu ys := by simp [flatQu]
theorem flatQu_length (l : List Qu) : (flatQu l).length = l.length * 3 := by
  induction l with
  | nil => rfl
  | cons x l ih => simp [flatQu, Qu.cells] at ih ⊢; omega
/-- The quantifiers l, in a block of their own. -/
def Sq (w : World) (B g cp : Nat) (l : List Qu) : Prop := OwQu w B (.slice (some ⟨g, 0, none⟩) l.length cp) l
theorem Sq.cells {w : World} {B g cp : Nat} {l : List Qu} (h : Sq w B g cp l) : ∀ j u, (flatQu l)[j]? = some u → w.cell? ((⟨g, 0, none⟩ : Addr).add j) = some u := by
  intro j u hu
  obtain ⟨h1, h2⟩ := h
  rcases h2 with ⟨h0, _⟩ | ⟨g', cap, cur, he, hb, hg, hn, hm, hs, ht⟩
  · cases h0
  · cases he
    have hj : j < l.length * 3 := by rw [← flatQu_length]; exact (List.getElem?_eq_some_iff.1 hu).1
    have hadd : (⟨g, 0, none⟩ : Addr).add j = ⟨g, j, none⟩ := by unfold Addr.add; split <;> simp_all
    rw [hadd, cell_of_row w g j cur _ _ hg, ← hu, ← ht, List.getElem?_take_of_lt hj]
    simp
theorem Sq.one (w : World) (B : Nat) (x : Qu) (hB : B ≤ w.heap.size) : Sq (w.alloc (.cells #[.bool x.all, .int .i64 x.vr, .int .i64 x.bits] 50)) B w.heap.size 1 [x] :=
  World.ownsRow_lit w #[.bool x.all, .int .i64 x.vr, .int .i64 x.bits] 1 hB (by unfold maxLen; omega) rfl
theorem Sq.below {w w' : World} {B g cp : Nat} {l : List Qu} (h : Sq w B g cp l) (k : Below w.heap.size w w') : Sq w' B g cp l := OwQu.kept (S := fun _ => False) h (Kept.ofBelow k) (fun _ _ h => h)
theorem Sq.mono {w : World} {B B' g cp : Nat} {l : List Qu} (h : Sq w B g cp l) (hB : B' ≤ B) : Sq w B' g cp l := by
  refine ⟨h.1, ?_⟩
  rcases h.2 with ⟨h0, _⟩ | ⟨g', cap, cur, he, hb, hr⟩
  · cases h0
  · exact .inr ⟨g', cap, cur, he, by omega, hr⟩
theorem Sq.lo {w : World} {B g cp : Nat} {l : List Qu} (h : Sq w B g cp l) : B ≤ g ∧ g < w.heap.size := OwQu.lt h g rfl
theorem step_call {ops : Array Oper} {o : Oper} {a : Act} {w : World} {K : Act → World → Prop} {Q : Exit → Act → World → Prop} {E : Prop} {f : Nat} {args : Array Value} (hgd : o.guard = none) (hrun : (execOp a.eval o).run Try.prog w = .ok (.enter f args) w)
    (hc : Calls Try.prog f args w fun e w' => ∃ v, e = .returned v ∧ K (a.put o.dst v) w') : if Region.wanted o (yielded ops a.tmps) = true then Oper.wp Try.prog o a w K Q else E := by
  rw [if_pos (by simp [Region.wanted, hgd])]
  unfold Oper.wp
  rw [hrun, Oper.upon_enter]
  refine hc.mono ?_
  rintro e w' ⟨v, rfl, h⟩
  exact h
/-- Some quantifiers more (or none), at a step of a region that draws its order. -/
theorem step_qus {ops : Array Oper} {o : Oper} {a : Act} {K : Act → World → Prop} {Q : Exit → Act → World → Prop} {E : Prop} (W : World) (hgd : o.guard = none) (s x : Operand)
    (ho : o.op = .call { callee := .builtin .append, args := #[s, x], argTypes := #[24, 24] })
    (B B' g gx c cx : Nat) (l ys : List Qu) (hs : a.eval s = .slice (some ⟨g, 0, none⟩) l.length c) (hx : a.eval x = .slice (some ⟨gx, 0, none⟩) ys.length cx)
    (hown : Sq W B g c l) (hy : Sq W B' gx cx ys) (hB : B ≤ W.heap.size) (hlen : l.length + ys.length ≤ 1048577)
    (h : ∀ g' cp w', Sq w' B g' cp (l ++ ys) → Below B W w' → K (a.put o.dst (.slice (some ⟨g', 0, none⟩) (l ++ ys).length cp)) w') :
    if Region.wanted o (yielded ops a.tmps) = true then Oper.wp Try.prog o a W K Q else E := by
  rw [if_pos (by simp [Region.wanted, hgd])]
  obtain ⟨i, hi, hzz⟩ := Option.map_eq_some_iff.1 infoAQu
  simp only [Prod.mk.injEq] at hzz
  obtain ⟨hz, hsz, hb⟩ := hzz
  refine wp_append_own (w := W) s x 24 ho B 50 i _ 3 24 Try.underlying24 hi hz hsz hb rfl (by omega) _ l.length (flatQu l) hs hown
    ⟨gx, 0, none⟩ ys.length cx (flatQu ys) hx (flatQu_length ys) hy.cells ?_ (by unfold maxLen; omega) (by omega) hB ?_
  · intro u hu
    obtain ⟨n, _, hn⟩ := List.mem_flatMap.1 hu
    simp [Qu.cells] at hn
    rcases hn with rfl | rfl | rfl <;> rfl
  · intro v' w' h1 h2 h3
    have h4 : OwQu w' B v' (l ++ ys) := by unfold OwQu; rw [flatQu_app, List.length_append]; exact h1
    have h5 : ∃ g' cp, v' = .slice (some ⟨g', 0, none⟩) (l ++ ys).length cp := by
      rcases h4.2 with ⟨h0, _⟩ | ⟨g', cap, cur, he, _⟩
      · exact absurd (h3.1 h0).1 (by simp)
      · exact ⟨g', cap, he⟩
    obtain ⟨g', cp, rfl⟩ := h5
    refine h g' cp w' h4 ?_
    exact (Below.refl B W).grown h2 hB (fun k e => by cases e; exact hown.lo.1)

/-- What l05Walk is to do at place i. -/
def SWk (l : List Nd) (i : Nat) : Prop := ∀ (w : World) (a : Option Addr) (c gh ch : Nat) (u : Bool), Nodes w a l → (∀ j, j < l.length → w.cell? ⟨gh, j, none⟩ = some (.bool (flag (holdTo l l.length) j))) → (wk (tr l i) u).length ≤ 1000 →
    Calls Try.prog 15 #[.slice a l.length c, .slice (some ⟨gh, 0, none⟩) l.length ch, .int .i64 (i : Int), .bool u] w fun e w' => (∃ g cp, e = .returned (.slice (some ⟨g, 0, none⟩) (wk (tr l i) u).length cp) ∧ Sq w' w.heap.size g cp (wk (tr l i) u)) ∧ Below w.heap.size w w'

set_option maxRecDepth 100000 in
set_option maxHeartbeats 8000000 in
theorem walk_of {l : List Nd} (hS : sentB l = true) (hT : termOk l = true) {i : Nat} (hi : i < l.length) (hf : flag (reachL l) i = true) (ih : ∀ p ∈ parts (nth l i), SWk l p.toNat) : SWk l i := by
  intro w a c gh ch u hN hH hlen
  have hl1 : 1 ≤ l.length := by omega
  have hiz : (i : Int) < (l.length : Int) := by omega
  have HN : Hid (Nodes w a l) := hN
  have HH : Hid (∀ j, j < l.length → w.cell? ⟨gh, j, none⟩ = some (.bool (flag (holdTo l l.length) j))) := hH
  have hh := hH i hi
  rcases hN.2 with h0 | ⟨xb, xo, rfl, hxc⟩
  · omega
  have hp := nodeAt_of hN hi
  obtain ⟨p0, p1, p2, p3, p4, p5⟩ := hp
  obtain ⟨w1, hw1⟩ : ∃ w1 : World, w1 = w.alloc (.cells #[.int .i64 (nth l i).op, .int .i64 (nth l i).w, .int .i64 (nth l i).k, .int .i64 (nth l i).a, .int .i64 (nth l i).b, .int .i64 (nth l i).c] 39) := ⟨_, rfl⟩
  have hb1 : Below w.heap.size w w1 := by rw [hw1]; exact (Below.refl _ _).alloc (Nat.le_refl _) _
  have HB1 : Hid (Below w.heap.size w w1) := hb1
  have hh1 : w1.cell? ⟨gh, i, none⟩ = some (.bool (flag (holdTo l l.length) i)) := (hb1.cell (lt_of_cell hh)).trans hh
  clear hN hH hxc hh
  cases hhd : flag (holdTo l l.length) i
  · have HW : Hid (wk (tr l i) u = []) := wk_none hT hi hhd u
    rw [hhd] at hh1
    rw [hw1] at hh1
    go_enter Try.func15, Try.ntmps15
    go_wp2
    go_ret
    rw [HW.out, ← hw1]
    have h9 : Sq (w1.alloc (.cells #[] 50)) w.heap.size w1.heap.size 0 [] := OwQu.lit w1 _ HB1.out.size
    have hs1 : w1.heap.size = w.heap.size + 1 := by rw [hw1]; simp
    rw [hs1] at h9
    exact ⟨⟨_, _, rfl, h9⟩, HB1.out.alloc HB1.out.size _⟩
  · rw [hhd] at hh1
    have hou := hold_outer hS hi hf hhd
    have hou2 : (nth l i).op = 2 ∨ (nth l i).op = 3 ∨ (nth l i).op = 4 ∨ (nth l i).op = 19 ∨ (nth l i).op = 20 := by
      rcases hou with h | h | h | h
      · exact .inl h
      · exact .inr (.inl h)
      · exact .inr (.inr (.inl h))
      · exact .inr (.inr (.inr (by simpa [quant] using h)))
    clear hou
    rcases hou2 with hop | hop | hop | hop | hop
    ·
      have HIH0 : Hid (SWk l (nth l i).a.toNat) := ih (nth l i).a (by rw [parts_one (by omega)]; simp)
      have hdn := down_of hT i hi (nth l i).a (by rw [parts_one (by omega)]; simp)
      have HW0 := wk_not hT hi hop u
      obtain ⟨m, hm⟩ : ∃ m : Nat, (nth l i).a = (m : Int) := ⟨(nth l i).a.toNat, by omega⟩
      rw [hm, Int.toNat_natCast] at HW0 HIH0
      rw [hop] at p0 hw1
      rw [hm] at p3 hw1
      have HW : Hid (wk (tr l i) u = wk (tr l m) (!u)) := HW0
      have HL : Hid ((wk (tr l m) (!u)).length ≤ 1000) := by have h9 := hlen; rw [HW.out] at h9; exact h9
      have HH1 : Hid (∀ j, j < l.length → w1.cell? ⟨gh, j, none⟩ = some (.bool (flag (holdTo l l.length) j))) := fun j hj => (HB1.out.cell (lt_of_cell (HH.out j hj))).trans (HH.out j hj)
      have HN1 : Hid (Nodes w1 (some ⟨xb, xo, none⟩) l) := HN.out.below HB1.out
      rw [hw1] at hh1
      clear HW0
      go_enter Try.func15, Try.ntmps15
      go_wp2_with fail
      rw [← hw1]
      refine (HIH0.out w1 _ c gh ch (!u) HN1.out HH1.out HL.out).mono ?_
      rintro e w5 ⟨⟨g5, cp5, rfl, hq5⟩, hb5⟩
      have HQ5 : Hid (Sq w5 w.heap.size g5 cp5 (wk (tr l m) (!u))) := hq5.mono HB1.out.size
      have HB5 : Hid (Below w.heap.size w w5) := HB1.out.trans (hb5.mono HB1.out.size)
      clear hq5 hb5 hw1 hh1
      go_wp2
      go_ret
      refine ⟨⟨g5, cp5, ?_, ?_⟩, HB5.out⟩
      · rw [HW.out]; rfl
      · rw [HW.out]; exact HQ5.out
    ·
      obtain ⟨w2, rfl⟩ : ∃ w2 : World, w2 = w1 := ⟨_, rfl⟩
      have HIH : Hid (SWk l (nth l i).a.toNat) := ih (nth l i).a (by rw [parts_two (by omega)]; simp)
      have HIJ : Hid (SWk l (nth l i).b.toNat) := ih (nth l i).b (by rw [parts_two (by omega)]; simp)
      have hdn := down_of hT i hi (nth l i).a (by rw [parts_two (by omega)]; simp)
      have hdm := down_of hT i hi (nth l i).b (by rw [parts_two (by omega)]; simp)
      have HW0 := wk_two hT hi (by omega) u
      obtain ⟨m, hm⟩ : ∃ m : Nat, (nth l i).a = (m : Int) := ⟨(nth l i).a.toNat, by omega⟩
      obtain ⟨n, hn⟩ : ∃ n : Nat, (nth l i).b = (n : Int) := ⟨(nth l i).b.toNat, by omega⟩
      rw [hm, Int.toNat_natCast] at HW0 HIH
      rw [hn, Int.toNat_natCast] at HW0 HIJ
      rw [hop] at p0 hw1
      rw [hm] at p3 hw1
      rw [hn] at p4 hw1
      have HW : Hid (wk (tr l i) u = wk (tr l m) u ++ wk (tr l n) u) := HW0
      have hl8 : (wk (tr l m) u).length + (wk (tr l n) u).length ≤ 1000 := by have h9 := hlen; rw [HW.out, List.length_append] at h9; exact h9
      have HB2 : Hid (Below w.heap.size w w2) := HB1.out
      have hs2 : w.heap.size ≤ w2.heap.size := HB2.out.size
      have y3 : w2.cell? ⟨w.heap.size, 3, none⟩ = some (.int .i64 (m : Int)) := by rw [hw1, World.cell?_alloc_new]; rfl
      have y4 : w2.cell? ⟨w.heap.size, 4, none⟩ = some (.int .i64 (n : Int)) := by rw [hw1, World.cell?_alloc_new]; rfl
      rw [hw1] at hh1
      clear HW0
      go_enter Try.func15, Try.ntmps15
      go_wp2_with fail
      rw [← hw1]
      clear hw1 hh1
      refine wp_region_held_drew (S := fun w' => Below w2.heap.size w2 w') (by kernel_rfl) ((Below.refl _ _).drew) (fun hHeld => ?_)
      refine wpAnyH_take (i := 0) (v := ?_) rfl (by kernel_rfl) (by kernel_rfl) (by kernel_rfl) (fun _ _ _ h => h) (Or.inl ⟨by rfl, ?_⟩) hHeld ?_
      rotate_left
      · intro v9 hS9
        try dsimp only at hS9
        go_simp
        try with_reducible rfl
      try simp only [Act.put, List.setIfInBounds_toArray, List.set_cons_zero, List.set_cons_succ, List.getElem_toArray, List.getElem_cons_zero]
      refine wpAnyH_take (i := 1) (v := ?_) rfl (by kernel_rfl) (by kernel_rfl) (by kernel_rfl) (fun _ _ _ h => h) (Or.inl ⟨by rfl, ?_⟩) hHeld ?_
      rotate_left
      · intro v9 hS9
        try dsimp only at hS9
        go_simp
        try with_reducible rfl
      try simp only [Act.put, List.setIfInBounds_toArray, List.set_cons_zero, List.set_cons_succ, List.getElem_toArray, List.getElem_cons_zero, List.getElem_cons_succ]
      refine wpAnyH_take (i := 2) (v := ?_) rfl (by kernel_rfl) (by kernel_rfl) (by kernel_rfl) (fun _ _ _ h => h) (Or.inl ⟨by rfl, ?_⟩) hHeld ?_
      rotate_left
      · intro v9 hS9
        try dsimp only at hS9
        go_simp
        try with_reducible rfl
      try simp only [Act.put, List.setIfInBounds_toArray, List.set_cons_zero, List.set_cons_succ, List.getElem_toArray, List.getElem_cons_zero, List.getElem_cons_succ]
      refine wpAnyH_take (i := 3) (v := ?_) rfl (by kernel_rfl) (by kernel_rfl) (by kernel_rfl) (fun _ _ _ h => h) (Or.inl ⟨by rfl, ?_⟩) hHeld ?_
      rotate_left
      · intro v9 hS9
        try dsimp only at hS9
        have q3 := (hS9.cell (lt_of_cell y3)).trans y3
        go_simp
        try with_reducible rfl
      try simp only [Act.put, List.setIfInBounds_toArray, List.set_cons_zero, List.set_cons_succ, List.getElem_toArray, List.getElem_cons_zero, List.getElem_cons_succ]
      refine wpAnyH_take (i := 4) (v := ?_) rfl (by kernel_rfl) (by kernel_rfl) (by kernel_rfl) (fun _ _ _ h => h) (Or.inl ⟨by rfl, ?_⟩) hHeld ?_
      rotate_left
      · intro v9 hS9
        try dsimp only at hS9
        go_simp
        try with_reducible rfl
      try simp only [Act.put, List.setIfInBounds_toArray, List.set_cons_zero, List.set_cons_succ, List.getElem_toArray, List.getElem_cons_zero, List.getElem_cons_succ]
      refine wpAnyH_take (i := 6) (v := ?_) rfl (by kernel_rfl) (by kernel_rfl) (by kernel_rfl) (fun _ _ _ h => h) (Or.inl ⟨by rfl, ?_⟩) hHeld ?_
      rotate_left
      · intro v9 hS9
        try dsimp only at hS9
        go_simp
        try with_reducible rfl
      try simp only [Act.put, List.setIfInBounds_toArray, List.set_cons_zero, List.set_cons_succ, List.getElem_toArray, List.getElem_cons_zero, List.getElem_cons_succ]
      refine wpAnyH_take (i := 7) (v := ?_) rfl (by kernel_rfl) (by kernel_rfl) (by kernel_rfl) (fun _ _ _ h => h) (Or.inl ⟨by rfl, ?_⟩) hHeld ?_
      rotate_left
      · intro v9 hS9
        try dsimp only at hS9
        go_simp
        try with_reducible rfl
      try simp only [Act.put, List.setIfInBounds_toArray, List.set_cons_zero, List.set_cons_succ, List.getElem_toArray, List.getElem_cons_zero, List.getElem_cons_succ]
      refine wpAnyH_take (i := 8) (v := ?_) rfl (by kernel_rfl) (by kernel_rfl) (by kernel_rfl) (fun _ _ _ h => h) (Or.inl ⟨by rfl, ?_⟩) hHeld ?_
      rotate_left
      · intro v9 hS9
        try dsimp only at hS9
        go_simp
        try with_reducible rfl
      try simp only [Act.put, List.setIfInBounds_toArray, List.set_cons_zero, List.set_cons_succ, List.getElem_toArray, List.getElem_cons_zero, List.getElem_cons_succ]
      refine wpAnyH_take (i := 9) (v := ?_) rfl (by kernel_rfl) (by kernel_rfl) (by kernel_rfl) (fun _ _ _ h => h) (Or.inl ⟨by rfl, ?_⟩) hHeld ?_
      rotate_left
      · intro v9 hS9
        try dsimp only at hS9
        have q4 := (hS9.cell (lt_of_cell y4)).trans y4
        go_simp
        try with_reducible rfl
      try simp only [Act.put, List.setIfInBounds_toArray, List.set_cons_zero, List.set_cons_succ, List.getElem_toArray, List.getElem_cons_zero, List.getElem_cons_succ]
      refine wpAnyH_take (i := 10) (v := ?_) rfl (by kernel_rfl) (by kernel_rfl) (by kernel_rfl) (fun _ _ _ h => h) (Or.inl ⟨by rfl, ?_⟩) hHeld ?_
      rotate_left
      · intro v9 hS9
        try dsimp only at hS9
        go_simp
        try with_reducible rfl
      try simp only [Act.put, List.setIfInBounds_toArray, List.set_cons_zero, List.set_cons_succ, List.getElem_toArray, List.getElem_cons_zero, List.getElem_cons_succ]
      refine wpAnyH_ready (rs := [5]) (by kernel_rfl) (by simp) ?_
      refine (AllReadyH.cons rfl (fun K hK => ?_) AllReadyH.nil)
      ·
        refine step_call (f := 15) (args := #[.slice (some ⟨xb, xo, none⟩) l.length c, .slice (some ⟨gh, 0, none⟩) l.length ch, .int .i64 (m : Int), .bool u]) rfl (by go_simp) ?_
        refine (HIH.out _ _ c gh ch u (HN.out.below (HB2.out.trans (hHeld.mono hs2))) (fun j hj => ((HB2.out.trans (hHeld.mono hs2)).cell (lt_of_cell (HH.out j hj))).trans (HH.out j hj)) (by omega)).mono ?_
        rintro e w5 ⟨⟨g5, cp5, rfl, hq5⟩, hb5⟩
        refine ⟨_, rfl, ?_⟩
        have HK5 := hHeld.trans (hb5.mono hHeld.size)
        refine hK.out _ _ (HK5) (fun hNext => ?_)
        clear hK K hHeld
        have hHeld := hNext
        clear hNext
        clear HK5
        try simp only [Act.put, List.setIfInBounds_toArray, List.set_cons_zero, List.set_cons_succ, List.getElem_toArray, List.getElem_cons_zero, List.getElem_cons_succ]
        refine wpAnyH_ready (rs := [11]) (by kernel_rfl) (by simp) ?_
        refine (AllReadyH.cons rfl (fun K hK => ?_) AllReadyH.nil)
        ·
          refine step_call (f := 15) (args := #[.slice (some ⟨xb, xo, none⟩) l.length c, .slice (some ⟨gh, 0, none⟩) l.length ch, .int .i64 (n : Int), .bool u]) rfl (by go_simp) ?_
          refine (HIJ.out _ _ c gh ch u (HN.out.below (HB2.out.trans (hHeld.mono hs2))) (fun j hj => ((HB2.out.trans (hHeld.mono hs2)).cell (lt_of_cell (HH.out j hj))).trans (HH.out j hj)) (by omega)).mono ?_
          rintro e w6 ⟨⟨g6, cp6, rfl, hq6⟩, hb6⟩
          refine ⟨_, rfl, ?_⟩
          have HK6 := hHeld.trans (hb6.mono hHeld.size)
          refine hK.out _ _ (HK6) (fun hNext => ?_)
          clear hK K hHeld
          have hHeld := hNext
          clear hNext
          clear HK6
          try simp only [Act.put, List.setIfInBounds_toArray, List.set_cons_zero, List.set_cons_succ, List.getElem_toArray, List.getElem_cons_zero, List.getElem_cons_succ]
          refine wpAnyH_ready (rs := [12]) (by kernel_rfl) (by simp) ?_
          refine (AllReadyH.cons rfl (fun K hK => ?_) AllReadyH.nil)
          ·
            refine step_qus _ rfl _ _ rfl w2.heap.size _ g5 g6 cp5 cp6 (wk (tr l m) u) (wk (tr l n) u) rfl rfl (hq5.below hb6) (hq6) hHeld.size (by first | omega | (simp; omega)) ?_
            intro g7 cp7 w7 hq7 hb7
            have HK7 := hHeld.trans hb7
            refine hK.out _ _ (HK7) (fun hNext => ?_)
            clear hK K hHeld
            have hHeld := hNext
            clear hNext
            clear HK7
            try simp only [Act.put, List.setIfInBounds_toArray, List.set_cons_zero, List.set_cons_succ, List.getElem_toArray, List.getElem_cons_zero, List.getElem_cons_succ]
            refine wpAnyH_take (i := 13) (v := ?_) rfl (by kernel_rfl) (by kernel_rfl) (by kernel_rfl) (fun _ _ _ h => h) (Or.inl ⟨by rfl, ?_⟩) hHeld ?_
            rotate_left
            · intro v9 hS9
              try dsimp only at hS9
              go_simp
              try with_reducible rfl
            try simp only [Act.put, List.setIfInBounds_toArray, List.set_cons_zero, List.set_cons_succ, List.getElem_toArray, List.getElem_cons_zero, List.getElem_cons_succ]
            refine wpAnyH_done (by kernel_rfl) ?_ _
            have HB7 : Hid (Below w.heap.size w w7) := HB2.out.trans (hHeld.mono hs2)
            have HQ7 : Hid (Sq w7 w.heap.size g7 cp7 ((wk (tr l m) u) ++ (wk (tr l n) u))) := hq7.mono hs2
            clear hHeld hq7 hb7
            go_wp2
            go_ret
            refine ⟨⟨g7, cp7, ?_, ?_⟩, HB7.out⟩
            · first | (rw [HW.out]; rfl) | (rw [HW.out, List.length_append]; rfl)
            · rw [HW.out]; exact HQ7.out
    ·
      obtain ⟨w2, rfl⟩ : ∃ w2 : World, w2 = w1 := ⟨_, rfl⟩
      have HIH : Hid (SWk l (nth l i).a.toNat) := ih (nth l i).a (by rw [parts_two (by omega)]; simp)
      have HIJ : Hid (SWk l (nth l i).b.toNat) := ih (nth l i).b (by rw [parts_two (by omega)]; simp)
      have hdn := down_of hT i hi (nth l i).a (by rw [parts_two (by omega)]; simp)
      have hdm := down_of hT i hi (nth l i).b (by rw [parts_two (by omega)]; simp)
      have HW0 := wk_two hT hi (by omega) u
      obtain ⟨m, hm⟩ : ∃ m : Nat, (nth l i).a = (m : Int) := ⟨(nth l i).a.toNat, by omega⟩
      obtain ⟨n, hn⟩ : ∃ n : Nat, (nth l i).b = (n : Int) := ⟨(nth l i).b.toNat, by omega⟩
      rw [hm, Int.toNat_natCast] at HW0 HIH
      rw [hn, Int.toNat_natCast] at HW0 HIJ
      rw [hop] at p0 hw1
      rw [hm] at p3 hw1
      rw [hn] at p4 hw1
      have HW : Hid (wk (tr l i) u = wk (tr l m) u ++ wk (tr l n) u) := HW0
      have hl8 : (wk (tr l m) u).length + (wk (tr l n) u).length ≤ 1000 := by have h9 := hlen; rw [HW.out, List.length_append] at h9; exact h9
      have HB2 : Hid (Below w.heap.size w w2) := HB1.out
      have hs2 : w.heap.size ≤ w2.heap.size := HB2.out.size
      have y3 : w2.cell? ⟨w.heap.size, 3, none⟩ = some (.int .i64 (m : Int)) := by rw [hw1, World.cell?_alloc_new]; rfl
      have y4 : w2.cell? ⟨w.heap.size, 4, none⟩ = some (.int .i64 (n : Int)) := by rw [hw1, World.cell?_alloc_new]; rfl
      rw [hw1] at hh1
      clear HW0
      go_enter Try.func15, Try.ntmps15
      go_wp2_with fail
      rw [← hw1]
      clear hw1 hh1
      refine wp_region_held_drew (S := fun w' => Below w2.heap.size w2 w') (by kernel_rfl) ((Below.refl _ _).drew) (fun hHeld => ?_)
      refine wpAnyH_take (i := 0) (v := ?_) rfl (by kernel_rfl) (by kernel_rfl) (by kernel_rfl) (fun _ _ _ h => h) (Or.inl ⟨by rfl, ?_⟩) hHeld ?_
      rotate_left
      · intro v9 hS9
        try dsimp only at hS9
        go_simp
        try with_reducible rfl
      try simp only [Act.put, List.setIfInBounds_toArray, List.set_cons_zero, List.set_cons_succ, List.getElem_toArray, List.getElem_cons_zero]
      refine wpAnyH_take (i := 1) (v := ?_) rfl (by kernel_rfl) (by kernel_rfl) (by kernel_rfl) (fun _ _ _ h => h) (Or.inl ⟨by rfl, ?_⟩) hHeld ?_
      rotate_left
      · intro v9 hS9
        try dsimp only at hS9
        go_simp
        try with_reducible rfl
      try simp only [Act.put, List.setIfInBounds_toArray, List.set_cons_zero, List.set_cons_succ, List.getElem_toArray, List.getElem_cons_zero, List.getElem_cons_succ]
      refine wpAnyH_take (i := 2) (v := ?_) rfl (by kernel_rfl) (by kernel_rfl) (by kernel_rfl) (fun _ _ _ h => h) (Or.inl ⟨by rfl, ?_⟩) hHeld ?_
      rotate_left
      · intro v9 hS9
        try dsimp only at hS9
        go_simp
        try with_reducible rfl
      try simp only [Act.put, List.setIfInBounds_toArray, List.set_cons_zero, List.set_cons_succ, List.getElem_toArray, List.getElem_cons_zero, List.getElem_cons_succ]
      refine wpAnyH_take (i := 3) (v := ?_) rfl (by kernel_rfl) (by kernel_rfl) (by kernel_rfl) (fun _ _ _ h => h) (Or.inl ⟨by rfl, ?_⟩) hHeld ?_
      rotate_left
      · intro v9 hS9
        try dsimp only at hS9
        have q3 := (hS9.cell (lt_of_cell y3)).trans y3
        go_simp
        try with_reducible rfl
      try simp only [Act.put, List.setIfInBounds_toArray, List.set_cons_zero, List.set_cons_succ, List.getElem_toArray, List.getElem_cons_zero, List.getElem_cons_succ]
      refine wpAnyH_take (i := 4) (v := ?_) rfl (by kernel_rfl) (by kernel_rfl) (by kernel_rfl) (fun _ _ _ h => h) (Or.inl ⟨by rfl, ?_⟩) hHeld ?_
      rotate_left
      · intro v9 hS9
        try dsimp only at hS9
        go_simp
        try with_reducible rfl
      try simp only [Act.put, List.setIfInBounds_toArray, List.set_cons_zero, List.set_cons_succ, List.getElem_toArray, List.getElem_cons_zero, List.getElem_cons_succ]
      refine wpAnyH_take (i := 6) (v := ?_) rfl (by kernel_rfl) (by kernel_rfl) (by kernel_rfl) (fun _ _ _ h => h) (Or.inl ⟨by rfl, ?_⟩) hHeld ?_
      rotate_left
      · intro v9 hS9
        try dsimp only at hS9
        go_simp
        try with_reducible rfl
      try simp only [Act.put, List.setIfInBounds_toArray, List.set_cons_zero, List.set_cons_succ, List.getElem_toArray, List.getElem_cons_zero, List.getElem_cons_succ]
      refine wpAnyH_take (i := 7) (v := ?_) rfl (by kernel_rfl) (by kernel_rfl) (by kernel_rfl) (fun _ _ _ h => h) (Or.inl ⟨by rfl, ?_⟩) hHeld ?_
      rotate_left
      · intro v9 hS9
        try dsimp only at hS9
        go_simp
        try with_reducible rfl
      try simp only [Act.put, List.setIfInBounds_toArray, List.set_cons_zero, List.set_cons_succ, List.getElem_toArray, List.getElem_cons_zero, List.getElem_cons_succ]
      refine wpAnyH_take (i := 8) (v := ?_) rfl (by kernel_rfl) (by kernel_rfl) (by kernel_rfl) (fun _ _ _ h => h) (Or.inl ⟨by rfl, ?_⟩) hHeld ?_
      rotate_left
      · intro v9 hS9
        try dsimp only at hS9
        go_simp
        try with_reducible rfl
      try simp only [Act.put, List.setIfInBounds_toArray, List.set_cons_zero, List.set_cons_succ, List.getElem_toArray, List.getElem_cons_zero, List.getElem_cons_succ]
      refine wpAnyH_take (i := 9) (v := ?_) rfl (by kernel_rfl) (by kernel_rfl) (by kernel_rfl) (fun _ _ _ h => h) (Or.inl ⟨by rfl, ?_⟩) hHeld ?_
      rotate_left
      · intro v9 hS9
        try dsimp only at hS9
        have q4 := (hS9.cell (lt_of_cell y4)).trans y4
        go_simp
        try with_reducible rfl
      try simp only [Act.put, List.setIfInBounds_toArray, List.set_cons_zero, List.set_cons_succ, List.getElem_toArray, List.getElem_cons_zero, List.getElem_cons_succ]
      refine wpAnyH_take (i := 10) (v := ?_) rfl (by kernel_rfl) (by kernel_rfl) (by kernel_rfl) (fun _ _ _ h => h) (Or.inl ⟨by rfl, ?_⟩) hHeld ?_
      rotate_left
      · intro v9 hS9
        try dsimp only at hS9
        go_simp
        try with_reducible rfl
      try simp only [Act.put, List.setIfInBounds_toArray, List.set_cons_zero, List.set_cons_succ, List.getElem_toArray, List.getElem_cons_zero, List.getElem_cons_succ]
      refine wpAnyH_ready (rs := [5]) (by kernel_rfl) (by simp) ?_
      refine (AllReadyH.cons rfl (fun K hK => ?_) AllReadyH.nil)
      ·
        refine step_call (f := 15) (args := #[.slice (some ⟨xb, xo, none⟩) l.length c, .slice (some ⟨gh, 0, none⟩) l.length ch, .int .i64 (m : Int), .bool u]) rfl (by go_simp) ?_
        refine (HIH.out _ _ c gh ch u (HN.out.below (HB2.out.trans (hHeld.mono hs2))) (fun j hj => ((HB2.out.trans (hHeld.mono hs2)).cell (lt_of_cell (HH.out j hj))).trans (HH.out j hj)) (by omega)).mono ?_
        rintro e w5 ⟨⟨g5, cp5, rfl, hq5⟩, hb5⟩
        refine ⟨_, rfl, ?_⟩
        have HK5 := hHeld.trans (hb5.mono hHeld.size)
        refine hK.out _ _ (HK5) (fun hNext => ?_)
        clear hK K hHeld
        have hHeld := hNext
        clear hNext
        clear HK5
        try simp only [Act.put, List.setIfInBounds_toArray, List.set_cons_zero, List.set_cons_succ, List.getElem_toArray, List.getElem_cons_zero, List.getElem_cons_succ]
        refine wpAnyH_ready (rs := [11]) (by kernel_rfl) (by simp) ?_
        refine (AllReadyH.cons rfl (fun K hK => ?_) AllReadyH.nil)
        ·
          refine step_call (f := 15) (args := #[.slice (some ⟨xb, xo, none⟩) l.length c, .slice (some ⟨gh, 0, none⟩) l.length ch, .int .i64 (n : Int), .bool u]) rfl (by go_simp) ?_
          refine (HIJ.out _ _ c gh ch u (HN.out.below (HB2.out.trans (hHeld.mono hs2))) (fun j hj => ((HB2.out.trans (hHeld.mono hs2)).cell (lt_of_cell (HH.out j hj))).trans (HH.out j hj)) (by omega)).mono ?_
          rintro e w6 ⟨⟨g6, cp6, rfl, hq6⟩, hb6⟩
          refine ⟨_, rfl, ?_⟩
          have HK6 := hHeld.trans (hb6.mono hHeld.size)
          refine hK.out _ _ (HK6) (fun hNext => ?_)
          clear hK K hHeld
          have hHeld := hNext
          clear hNext
          clear HK6
          try simp only [Act.put, List.setIfInBounds_toArray, List.set_cons_zero, List.set_cons_succ, List.getElem_toArray, List.getElem_cons_zero, List.getElem_cons_succ]
          refine wpAnyH_ready (rs := [12]) (by kernel_rfl) (by simp) ?_
          refine (AllReadyH.cons rfl (fun K hK => ?_) AllReadyH.nil)
          ·
            refine step_qus _ rfl _ _ rfl w2.heap.size _ g5 g6 cp5 cp6 (wk (tr l m) u) (wk (tr l n) u) rfl rfl (hq5.below hb6) (hq6) hHeld.size (by first | omega | (simp; omega)) ?_
            intro g7 cp7 w7 hq7 hb7
            have HK7 := hHeld.trans hb7
            refine hK.out _ _ (HK7) (fun hNext => ?_)
            clear hK K hHeld
            have hHeld := hNext
            clear hNext
            clear HK7
            try simp only [Act.put, List.setIfInBounds_toArray, List.set_cons_zero, List.set_cons_succ, List.getElem_toArray, List.getElem_cons_zero, List.getElem_cons_succ]
            refine wpAnyH_take (i := 13) (v := ?_) rfl (by kernel_rfl) (by kernel_rfl) (by kernel_rfl) (fun _ _ _ h => h) (Or.inl ⟨by rfl, ?_⟩) hHeld ?_
            rotate_left
            · intro v9 hS9
              try dsimp only at hS9
              go_simp
              try with_reducible rfl
            try simp only [Act.put, List.setIfInBounds_toArray, List.set_cons_zero, List.set_cons_succ, List.getElem_toArray, List.getElem_cons_zero, List.getElem_cons_succ]
            refine wpAnyH_done (by kernel_rfl) ?_ _
            have HB7 : Hid (Below w.heap.size w w7) := HB2.out.trans (hHeld.mono hs2)
            have HQ7 : Hid (Sq w7 w.heap.size g7 cp7 ((wk (tr l m) u) ++ (wk (tr l n) u))) := hq7.mono hs2
            clear hHeld hq7 hb7
            go_wp2
            go_ret
            refine ⟨⟨g7, cp7, ?_, ?_⟩, HB7.out⟩
            · first | (rw [HW.out]; rfl) | (rw [HW.out, List.length_append]; rfl)
            · rw [HW.out]; exact HQ7.out
    ·
      have hqq : quant (nth l i).op = true := by rw [hop]; rfl
      have HIH0 : Hid (SWk l (nth l i).a.toNat) := ih (nth l i).a (by rw [parts_one (by omega)]; simp)
      have hdn := down_of hT i hi (nth l i).a (by rw [parts_one (by omega)]; simp)
      have HW0 := wk_q hT hi hqq u
      obtain ⟨m, hm⟩ : ∃ m : Nat, (nth l i).a = (m : Int) := ⟨(nth l i).a.toNat, by omega⟩
      rw [hm, Int.toNat_natCast] at HW0 HIH0
      rw [hop] at HW0 p0 hw1
      rw [hm] at p3 hw1
      cases u
      ·
        have HW : Hid (wk (tr l i) false = [(⟨true, (nth l i).k, (nth l i).b⟩ : Qu)] ++ wk (tr l m) false) := HW0
        have HIH : Hid (SWk l m) := HIH0.out
        have hl9 : (wk (tr l m) false).length ≤ 999 := by have h9 := hlen; rw [HW.out] at h9; simp at h9; omega
        obtain ⟨w2, hw2⟩ : ∃ w2 : World, w2 = w1.alloc (.cells #[.bool true, .int .i64 (nth l i).k, .int .i64 (nth l i).b] 50) := ⟨_, rfl⟩
        have hs1 : w1.heap.size = w.heap.size + 1 := by rw [hw1]; simp
        have hb2 : Below w1.heap.size w1 w2 := by rw [hw2]; exact (Below.refl _ _).alloc (Nat.le_refl _) _
        have HB2 : Hid (Below w.heap.size w w2) := HB1.out.trans (hb2.mono HB1.out.size)
        have hs2 : w.heap.size ≤ w2.heap.size := HB2.out.size
        have y3 : w2.cell? ⟨w.heap.size, 3, none⟩ = some (.int .i64 (m : Int)) := by rw [hb2.cell (p := ⟨w.heap.size, 3, none⟩) (show w.heap.size < _ by omega), hw1, World.cell?_alloc_new]; rfl
        have z0 : w2.cell? ⟨w.heap.size + 1, 0, none⟩ = some (.bool true) := by rw [← hs1, hw2, World.cell?_alloc_new]; rfl
        have z1 : w2.cell? ⟨w.heap.size + 1, 1, none⟩ = some (.int .i64 (nth l i).k) := by rw [← hs1, hw2, World.cell?_alloc_new]; rfl
        have z2 : w2.cell? ⟨w.heap.size + 1, 2, none⟩ = some (.int .i64 (nth l i).b) := by rw [← hs1, hw2, World.cell?_alloc_new]; rfl
        rw [hw1] at hw2 hh1
        clear HW0 HIH0 hb2 hs1
        go_enter Try.func15, Try.ntmps15
        go_wp2_with fail
        rw [← hw2]
        clear hw2 hw1 hh1
        refine wp_region_held_drew (S := fun w' => Below w2.heap.size w2 w') (by kernel_rfl) ((Below.refl _ _).drew) (fun hHeld => ?_)
        refine wpAnyH_take (i := 0) (v := ?_) rfl (by kernel_rfl) (by kernel_rfl) (by kernel_rfl) (fun _ _ _ h => h) (Or.inl ⟨by rfl, ?_⟩) hHeld ?_
        rotate_left
        · intro v9 hS9
          try dsimp only at hS9
          have q0 := (hS9.cell (lt_of_cell z0)).trans z0
          have q1 := (hS9.cell (lt_of_cell z1)).trans z1
          have q2 := (hS9.cell (lt_of_cell z2)).trans z2
          go_simp
          try with_reducible rfl
        try simp only [Act.put, List.setIfInBounds_toArray, List.set_cons_zero, List.set_cons_succ, List.getElem_toArray, List.getElem_cons_zero]
        refine wpAnyH_take (i := 2) (v := ?_) rfl (by kernel_rfl) (by kernel_rfl) (by kernel_rfl) (fun _ _ _ h => h) (Or.inl ⟨by rfl, ?_⟩) hHeld ?_
        rotate_left
        · intro v9 hS9
          try dsimp only at hS9
          go_simp
          try with_reducible rfl
        try simp only [Act.put, List.setIfInBounds_toArray, List.set_cons_zero, List.set_cons_succ, List.getElem_toArray, List.getElem_cons_zero, List.getElem_cons_succ]
        refine wpAnyH_take (i := 3) (v := ?_) rfl (by kernel_rfl) (by kernel_rfl) (by kernel_rfl) (fun _ _ _ h => h) (Or.inl ⟨by rfl, ?_⟩) hHeld ?_
        rotate_left
        · intro v9 hS9
          try dsimp only at hS9
          go_simp
          try with_reducible rfl
        try simp only [Act.put, List.setIfInBounds_toArray, List.set_cons_zero, List.set_cons_succ, List.getElem_toArray, List.getElem_cons_zero, List.getElem_cons_succ]
        refine wpAnyH_take (i := 4) (v := ?_) rfl (by kernel_rfl) (by kernel_rfl) (by kernel_rfl) (fun _ _ _ h => h) (Or.inl ⟨by rfl, ?_⟩) hHeld ?_
        rotate_left
        · intro v9 hS9
          try dsimp only at hS9
          go_simp
          try with_reducible rfl
        try simp only [Act.put, List.setIfInBounds_toArray, List.set_cons_zero, List.set_cons_succ, List.getElem_toArray, List.getElem_cons_zero, List.getElem_cons_succ]
        refine wpAnyH_take (i := 5) (v := ?_) rfl (by kernel_rfl) (by kernel_rfl) (by kernel_rfl) (fun _ _ _ h => h) (Or.inl ⟨by rfl, ?_⟩) hHeld ?_
        rotate_left
        · intro v9 hS9
          try dsimp only at hS9
          have q3 := (hS9.cell (lt_of_cell y3)).trans y3
          go_simp
          try with_reducible rfl
        try simp only [Act.put, List.setIfInBounds_toArray, List.set_cons_zero, List.set_cons_succ, List.getElem_toArray, List.getElem_cons_zero, List.getElem_cons_succ]
        refine wpAnyH_take (i := 6) (v := ?_) rfl (by kernel_rfl) (by kernel_rfl) (by kernel_rfl) (fun _ _ _ h => h) (Or.inl ⟨by rfl, ?_⟩) hHeld ?_
        rotate_left
        · intro v9 hS9
          try dsimp only at hS9
          go_simp
          try with_reducible rfl
        try simp only [Act.put, List.setIfInBounds_toArray, List.set_cons_zero, List.set_cons_succ, List.getElem_toArray, List.getElem_cons_zero, List.getElem_cons_succ]
        refine wpAnyH_ready (rs := [1, 7]) (by kernel_rfl) (by simp) ?_
        refine (AllReadyH.cons rfl (fun K hK => ?_) (AllReadyH.cons rfl (fun K hK => ?_) AllReadyH.nil))
        ·
          go_simp
          refine hK.out _ _ (hHeld.alloc hHeld.size _) (fun hNext => ?_)
          clear hK K hHeld
          have hHeld := hNext
          clear hNext
          refine wpAnyH_ready (rs := [7]) (by kernel_rfl) (by simp) ?_
          refine (AllReadyH.cons rfl (fun K hK => ?_) AllReadyH.nil)
          ·
            refine step_call (f := 15) (args := #[.slice (some ⟨xb, xo, none⟩) l.length c, .slice (some ⟨gh, 0, none⟩) l.length ch, .int .i64 (m : Int), .bool false]) rfl (by go_simp) ?_
            refine (HIH.out _ _ c gh ch false (HN.out.below (HB2.out.trans (hHeld.mono hs2))) (fun j hj => ((HB2.out.trans (hHeld.mono hs2)).cell (lt_of_cell (HH.out j hj))).trans (HH.out j hj)) (by omega)).mono ?_
            rintro e w5 ⟨⟨g5, cp5, rfl, hq5⟩, hb5⟩
            refine ⟨_, rfl, ?_⟩
            have HK5 := hHeld.trans (hb5.mono hHeld.size)
            refine hK.out _ _ (HK5) (fun hNext => ?_)
            clear hK K hHeld
            have hHeld := hNext
            clear hNext
            clear HK5
            try simp only [Act.put, List.setIfInBounds_toArray, List.set_cons_zero, List.set_cons_succ, List.getElem_toArray, List.getElem_cons_zero, List.getElem_cons_succ]
            refine wpAnyH_ready (rs := [8]) (by kernel_rfl) (by simp) ?_
            refine (AllReadyH.cons rfl (fun K hK => ?_) AllReadyH.nil)
            ·
              refine step_qus _ rfl _ _ rfl w2.heap.size _ w2.heap.size g5 1 cp5 [(⟨true, (nth l i).k, (nth l i).b⟩ : Qu)] (wk (tr l m) false) rfl rfl ((Sq.one w2.drew w2.heap.size (⟨true, (nth l i).k, (nth l i).b⟩ : Qu) (Nat.le_refl _)).below hb5) (hq5) hHeld.size (by first | omega | (simp; omega)) ?_
              intro g7 cp7 w7 hq7 hb7
              have HK7 := hHeld.trans hb7
              refine hK.out _ _ (HK7) (fun hNext => ?_)
              clear hK K hHeld
              have hHeld := hNext
              clear hNext
              clear HK7
              try simp only [Act.put, List.setIfInBounds_toArray, List.set_cons_zero, List.set_cons_succ, List.getElem_toArray, List.getElem_cons_zero, List.getElem_cons_succ]
              refine wpAnyH_take (i := 9) (v := ?_) rfl (by kernel_rfl) (by kernel_rfl) (by kernel_rfl) (fun _ _ _ h => h) (Or.inl ⟨by rfl, ?_⟩) hHeld ?_
              rotate_left
              · intro v9 hS9
                try dsimp only at hS9
                go_simp
                try with_reducible rfl
              try simp only [Act.put, List.setIfInBounds_toArray, List.set_cons_zero, List.set_cons_succ, List.getElem_toArray, List.getElem_cons_zero, List.getElem_cons_succ]
              refine wpAnyH_done (by kernel_rfl) ?_ _
              have HB7 : Hid (Below w.heap.size w w7) := HB2.out.trans (hHeld.mono hs2)
              have HQ7 : Hid (Sq w7 w.heap.size g7 cp7 ([(⟨true, (nth l i).k, (nth l i).b⟩ : Qu)] ++ (wk (tr l m) false))) := hq7.mono hs2
              clear hHeld hq7 hb7
              go_wp2
              go_ret
              refine ⟨⟨g7, cp7, ?_, ?_⟩, HB7.out⟩
              · first | (rw [HW.out]; rfl) | (rw [HW.out, List.length_append]; rfl)
              · rw [HW.out]; exact HQ7.out
        ·
          have hHeld0 := hHeld.size
          refine step_call (f := 15) (args := #[.slice (some ⟨xb, xo, none⟩) l.length c, .slice (some ⟨gh, 0, none⟩) l.length ch, .int .i64 (m : Int), .bool false]) rfl (by go_simp) ?_
          refine (HIH.out _ _ c gh ch false (HN.out.below (HB2.out.trans (hHeld.mono hs2))) (fun j hj => ((HB2.out.trans (hHeld.mono hs2)).cell (lt_of_cell (HH.out j hj))).trans (HH.out j hj)) (by omega)).mono ?_
          rintro e w5 ⟨⟨g5, cp5, rfl, hq5⟩, hb5⟩
          refine ⟨_, rfl, ?_⟩
          have HK5 := hHeld.trans (hb5.mono hHeld.size)
          refine hK.out _ _ (HK5) (fun hNext => ?_)
          clear hK K hHeld
          have hHeld := hNext
          clear hNext
          clear HK5
          try simp only [Act.put, List.setIfInBounds_toArray, List.set_cons_zero, List.set_cons_succ, List.getElem_toArray, List.getElem_cons_zero, List.getElem_cons_succ]
          refine wpAnyH_ready (rs := [1]) (by kernel_rfl) (by simp) ?_
          refine (AllReadyH.cons rfl (fun K hK => ?_) AllReadyH.nil)
          ·
            have hs5 := hHeld.size
            go_simp
            refine hK.out _ _ (hHeld.alloc hHeld.size _) (fun hNext => ?_)
            clear hK K hHeld
            have hHeld := hNext
            clear hNext
            refine wpAnyH_ready (rs := [8]) (by kernel_rfl) (by simp) ?_
            refine (AllReadyH.cons rfl (fun K hK => ?_) AllReadyH.nil)
            ·
              refine step_qus _ rfl _ _ rfl w2.heap.size _ w5.heap.size g5 1 cp5 [(⟨true, (nth l i).k, (nth l i).b⟩ : Qu)] (wk (tr l m) false) rfl rfl (Sq.one w5 w2.heap.size (⟨true, (nth l i).k, (nth l i).b⟩ : Qu) hs5) (hq5.below ((Below.refl _ _).alloc (Nat.le_refl _) _)) hHeld.size (by first | omega | (simp; omega)) ?_
              intro g7 cp7 w7 hq7 hb7
              have HK7 := hHeld.trans hb7
              refine hK.out _ _ (HK7) (fun hNext => ?_)
              clear hK K hHeld
              have hHeld := hNext
              clear hNext
              clear HK7
              try simp only [Act.put, List.setIfInBounds_toArray, List.set_cons_zero, List.set_cons_succ, List.getElem_toArray, List.getElem_cons_zero, List.getElem_cons_succ]
              refine wpAnyH_take (i := 9) (v := ?_) rfl (by kernel_rfl) (by kernel_rfl) (by kernel_rfl) (fun _ _ _ h => h) (Or.inl ⟨by rfl, ?_⟩) hHeld ?_
              rotate_left
              · intro v9 hS9
                try dsimp only at hS9
                go_simp
                try with_reducible rfl
              try simp only [Act.put, List.setIfInBounds_toArray, List.set_cons_zero, List.set_cons_succ, List.getElem_toArray, List.getElem_cons_zero, List.getElem_cons_succ]
              refine wpAnyH_done (by kernel_rfl) ?_ _
              have HB7 : Hid (Below w.heap.size w w7) := HB2.out.trans (hHeld.mono hs2)
              have HQ7 : Hid (Sq w7 w.heap.size g7 cp7 ([(⟨true, (nth l i).k, (nth l i).b⟩ : Qu)] ++ (wk (tr l m) false))) := hq7.mono hs2
              clear hHeld hq7 hb7
              go_wp2
              go_ret
              refine ⟨⟨g7, cp7, ?_, ?_⟩, HB7.out⟩
              · first | (rw [HW.out]; rfl) | (rw [HW.out, List.length_append]; rfl)
              · rw [HW.out]; exact HQ7.out
      ·
        have HW : Hid (wk (tr l i) true = [(⟨false, (nth l i).k, (nth l i).b⟩ : Qu)] ++ wk (tr l m) true) := HW0
        have HIH : Hid (SWk l m) := HIH0.out
        have hl9 : (wk (tr l m) true).length ≤ 999 := by have h9 := hlen; rw [HW.out] at h9; simp at h9; omega
        obtain ⟨w2, hw2⟩ : ∃ w2 : World, w2 = w1.alloc (.cells #[.bool false, .int .i64 (nth l i).k, .int .i64 (nth l i).b] 50) := ⟨_, rfl⟩
        have hs1 : w1.heap.size = w.heap.size + 1 := by rw [hw1]; simp
        have hb2 : Below w1.heap.size w1 w2 := by rw [hw2]; exact (Below.refl _ _).alloc (Nat.le_refl _) _
        have HB2 : Hid (Below w.heap.size w w2) := HB1.out.trans (hb2.mono HB1.out.size)
        have hs2 : w.heap.size ≤ w2.heap.size := HB2.out.size
        have y3 : w2.cell? ⟨w.heap.size, 3, none⟩ = some (.int .i64 (m : Int)) := by rw [hb2.cell (p := ⟨w.heap.size, 3, none⟩) (show w.heap.size < _ by omega), hw1, World.cell?_alloc_new]; rfl
        have z0 : w2.cell? ⟨w.heap.size + 1, 0, none⟩ = some (.bool false) := by rw [← hs1, hw2, World.cell?_alloc_new]; rfl
        have z1 : w2.cell? ⟨w.heap.size + 1, 1, none⟩ = some (.int .i64 (nth l i).k) := by rw [← hs1, hw2, World.cell?_alloc_new]; rfl
        have z2 : w2.cell? ⟨w.heap.size + 1, 2, none⟩ = some (.int .i64 (nth l i).b) := by rw [← hs1, hw2, World.cell?_alloc_new]; rfl
        rw [hw1] at hw2 hh1
        clear HW0 HIH0 hb2 hs1
        go_enter Try.func15, Try.ntmps15
        go_wp2_with fail
        rw [← hw2]
        clear hw2 hw1 hh1
        refine wp_region_held_drew (S := fun w' => Below w2.heap.size w2 w') (by kernel_rfl) ((Below.refl _ _).drew) (fun hHeld => ?_)
        refine wpAnyH_take (i := 0) (v := ?_) rfl (by kernel_rfl) (by kernel_rfl) (by kernel_rfl) (fun _ _ _ h => h) (Or.inl ⟨by rfl, ?_⟩) hHeld ?_
        rotate_left
        · intro v9 hS9
          try dsimp only at hS9
          have q0 := (hS9.cell (lt_of_cell z0)).trans z0
          have q1 := (hS9.cell (lt_of_cell z1)).trans z1
          have q2 := (hS9.cell (lt_of_cell z2)).trans z2
          go_simp
          try with_reducible rfl
        try simp only [Act.put, List.setIfInBounds_toArray, List.set_cons_zero, List.set_cons_succ, List.getElem_toArray, List.getElem_cons_zero]
        refine wpAnyH_take (i := 2) (v := ?_) rfl (by kernel_rfl) (by kernel_rfl) (by kernel_rfl) (fun _ _ _ h => h) (Or.inl ⟨by rfl, ?_⟩) hHeld ?_
        rotate_left
        · intro v9 hS9
          try dsimp only at hS9
          go_simp
          try with_reducible rfl
        try simp only [Act.put, List.setIfInBounds_toArray, List.set_cons_zero, List.set_cons_succ, List.getElem_toArray, List.getElem_cons_zero, List.getElem_cons_succ]
        refine wpAnyH_take (i := 3) (v := ?_) rfl (by kernel_rfl) (by kernel_rfl) (by kernel_rfl) (fun _ _ _ h => h) (Or.inl ⟨by rfl, ?_⟩) hHeld ?_
        rotate_left
        · intro v9 hS9
          try dsimp only at hS9
          go_simp
          try with_reducible rfl
        try simp only [Act.put, List.setIfInBounds_toArray, List.set_cons_zero, List.set_cons_succ, List.getElem_toArray, List.getElem_cons_zero, List.getElem_cons_succ]
        refine wpAnyH_take (i := 4) (v := ?_) rfl (by kernel_rfl) (by kernel_rfl) (by kernel_rfl) (fun _ _ _ h => h) (Or.inl ⟨by rfl, ?_⟩) hHeld ?_
        rotate_left
        · intro v9 hS9
          try dsimp only at hS9
          go_simp
          try with_reducible rfl
        try simp only [Act.put, List.setIfInBounds_toArray, List.set_cons_zero, List.set_cons_succ, List.getElem_toArray, List.getElem_cons_zero, List.getElem_cons_succ]
        refine wpAnyH_take (i := 5) (v := ?_) rfl (by kernel_rfl) (by kernel_rfl) (by kernel_rfl) (fun _ _ _ h => h) (Or.inl ⟨by rfl, ?_⟩) hHeld ?_
        rotate_left
        · intro v9 hS9
          try dsimp only at hS9
          have q3 := (hS9.cell (lt_of_cell y3)).trans y3
          go_simp
          try with_reducible rfl
        try simp only [Act.put, List.setIfInBounds_toArray, List.set_cons_zero, List.set_cons_succ, List.getElem_toArray, List.getElem_cons_zero, List.getElem_cons_succ]
        refine wpAnyH_take (i := 6) (v := ?_) rfl (by kernel_rfl) (by kernel_rfl) (by kernel_rfl) (fun _ _ _ h => h) (Or.inl ⟨by rfl, ?_⟩) hHeld ?_
        rotate_left
        · intro v9 hS9
          try dsimp only at hS9
          go_simp
          try with_reducible rfl
        try simp only [Act.put, List.setIfInBounds_toArray, List.set_cons_zero, List.set_cons_succ, List.getElem_toArray, List.getElem_cons_zero, List.getElem_cons_succ]
        refine wpAnyH_ready (rs := [1, 7]) (by kernel_rfl) (by simp) ?_
        refine (AllReadyH.cons rfl (fun K hK => ?_) (AllReadyH.cons rfl (fun K hK => ?_) AllReadyH.nil))
        ·
          go_simp
          refine hK.out _ _ (hHeld.alloc hHeld.size _) (fun hNext => ?_)
          clear hK K hHeld
          have hHeld := hNext
          clear hNext
          refine wpAnyH_ready (rs := [7]) (by kernel_rfl) (by simp) ?_
          refine (AllReadyH.cons rfl (fun K hK => ?_) AllReadyH.nil)
          ·
            refine step_call (f := 15) (args := #[.slice (some ⟨xb, xo, none⟩) l.length c, .slice (some ⟨gh, 0, none⟩) l.length ch, .int .i64 (m : Int), .bool true]) rfl (by go_simp) ?_
            refine (HIH.out _ _ c gh ch true (HN.out.below (HB2.out.trans (hHeld.mono hs2))) (fun j hj => ((HB2.out.trans (hHeld.mono hs2)).cell (lt_of_cell (HH.out j hj))).trans (HH.out j hj)) (by omega)).mono ?_
            rintro e w5 ⟨⟨g5, cp5, rfl, hq5⟩, hb5⟩
            refine ⟨_, rfl, ?_⟩
            have HK5 := hHeld.trans (hb5.mono hHeld.size)
            refine hK.out _ _ (HK5) (fun hNext => ?_)
            clear hK K hHeld
            have hHeld := hNext
            clear hNext
            clear HK5
            try simp only [Act.put, List.setIfInBounds_toArray, List.set_cons_zero, List.set_cons_succ, List.getElem_toArray, List.getElem_cons_zero, List.getElem_cons_succ]
            refine wpAnyH_ready (rs := [8]) (by kernel_rfl) (by simp) ?_
            refine (AllReadyH.cons rfl (fun K hK => ?_) AllReadyH.nil)
            ·
              refine step_qus _ rfl _ _ rfl w2.heap.size _ w2.heap.size g5 1 cp5 [(⟨false, (nth l i).k, (nth l i).b⟩ : Qu)] (wk (tr l m) true) rfl rfl ((Sq.one w2.drew w2.heap.size (⟨false, (nth l i).k, (nth l i).b⟩ : Qu) (Nat.le_refl _)).below hb5) (hq5) hHeld.size (by first | omega | (simp; omega)) ?_
              intro g7 cp7 w7 hq7 hb7
              have HK7 := hHeld.trans hb7
              refine hK.out _ _ (HK7) (fun hNext => ?_)
              clear hK K hHeld
              have hHeld := hNext
              clear hNext
              clear HK7
              try simp only [Act.put, List.setIfInBounds_toArray, List.set_cons_zero, List.set_cons_succ, List.getElem_toArray, List.getElem_cons_zero, List.getElem_cons_succ]
              refine wpAnyH_take (i := 9) (v := ?_) rfl (by kernel_rfl) (by kernel_rfl) (by kernel_rfl) (fun _ _ _ h => h) (Or.inl ⟨by rfl, ?_⟩) hHeld ?_
              rotate_left
              · intro v9 hS9
                try dsimp only at hS9
                go_simp
                try with_reducible rfl
              try simp only [Act.put, List.setIfInBounds_toArray, List.set_cons_zero, List.set_cons_succ, List.getElem_toArray, List.getElem_cons_zero, List.getElem_cons_succ]
              refine wpAnyH_done (by kernel_rfl) ?_ _
              have HB7 : Hid (Below w.heap.size w w7) := HB2.out.trans (hHeld.mono hs2)
              have HQ7 : Hid (Sq w7 w.heap.size g7 cp7 ([(⟨false, (nth l i).k, (nth l i).b⟩ : Qu)] ++ (wk (tr l m) true))) := hq7.mono hs2
              clear hHeld hq7 hb7
              go_wp2
              go_ret
              refine ⟨⟨g7, cp7, ?_, ?_⟩, HB7.out⟩
              · first | (rw [HW.out]; rfl) | (rw [HW.out, List.length_append]; rfl)
              · rw [HW.out]; exact HQ7.out
        ·
          have hHeld0 := hHeld.size
          refine step_call (f := 15) (args := #[.slice (some ⟨xb, xo, none⟩) l.length c, .slice (some ⟨gh, 0, none⟩) l.length ch, .int .i64 (m : Int), .bool true]) rfl (by go_simp) ?_
          refine (HIH.out _ _ c gh ch true (HN.out.below (HB2.out.trans (hHeld.mono hs2))) (fun j hj => ((HB2.out.trans (hHeld.mono hs2)).cell (lt_of_cell (HH.out j hj))).trans (HH.out j hj)) (by omega)).mono ?_
          rintro e w5 ⟨⟨g5, cp5, rfl, hq5⟩, hb5⟩
          refine ⟨_, rfl, ?_⟩
          have HK5 := hHeld.trans (hb5.mono hHeld.size)
          refine hK.out _ _ (HK5) (fun hNext => ?_)
          clear hK K hHeld
          have hHeld := hNext
          clear hNext
          clear HK5
          try simp only [Act.put, List.setIfInBounds_toArray, List.set_cons_zero, List.set_cons_succ, List.getElem_toArray, List.getElem_cons_zero, List.getElem_cons_succ]
          refine wpAnyH_ready (rs := [1]) (by kernel_rfl) (by simp) ?_
          refine (AllReadyH.cons rfl (fun K hK => ?_) AllReadyH.nil)
          ·
            have hs5 := hHeld.size
            go_simp
            refine hK.out _ _ (hHeld.alloc hHeld.size _) (fun hNext => ?_)
            clear hK K hHeld
            have hHeld := hNext
            clear hNext
            refine wpAnyH_ready (rs := [8]) (by kernel_rfl) (by simp) ?_
            refine (AllReadyH.cons rfl (fun K hK => ?_) AllReadyH.nil)
            ·
              refine step_qus _ rfl _ _ rfl w2.heap.size _ w5.heap.size g5 1 cp5 [(⟨false, (nth l i).k, (nth l i).b⟩ : Qu)] (wk (tr l m) true) rfl rfl (Sq.one w5 w2.heap.size (⟨false, (nth l i).k, (nth l i).b⟩ : Qu) hs5) (hq5.below ((Below.refl _ _).alloc (Nat.le_refl _) _)) hHeld.size (by first | omega | (simp; omega)) ?_
              intro g7 cp7 w7 hq7 hb7
              have HK7 := hHeld.trans hb7
              refine hK.out _ _ (HK7) (fun hNext => ?_)
              clear hK K hHeld
              have hHeld := hNext
              clear hNext
              clear HK7
              try simp only [Act.put, List.setIfInBounds_toArray, List.set_cons_zero, List.set_cons_succ, List.getElem_toArray, List.getElem_cons_zero, List.getElem_cons_succ]
              refine wpAnyH_take (i := 9) (v := ?_) rfl (by kernel_rfl) (by kernel_rfl) (by kernel_rfl) (fun _ _ _ h => h) (Or.inl ⟨by rfl, ?_⟩) hHeld ?_
              rotate_left
              · intro v9 hS9
                try dsimp only at hS9
                go_simp
                try with_reducible rfl
              try simp only [Act.put, List.setIfInBounds_toArray, List.set_cons_zero, List.set_cons_succ, List.getElem_toArray, List.getElem_cons_zero, List.getElem_cons_succ]
              refine wpAnyH_done (by kernel_rfl) ?_ _
              have HB7 : Hid (Below w.heap.size w w7) := HB2.out.trans (hHeld.mono hs2)
              have HQ7 : Hid (Sq w7 w.heap.size g7 cp7 ([(⟨false, (nth l i).k, (nth l i).b⟩ : Qu)] ++ (wk (tr l m) true))) := hq7.mono hs2
              clear hHeld hq7 hb7
              go_wp2
              go_ret
              refine ⟨⟨g7, cp7, ?_, ?_⟩, HB7.out⟩
              · first | (rw [HW.out]; rfl) | (rw [HW.out, List.length_append]; rfl)
              · rw [HW.out]; exact HQ7.out
    ·
      have hqq : quant (nth l i).op = true := by rw [hop]; rfl
      have HIH0 : Hid (SWk l (nth l i).a.toNat) := ih (nth l i).a (by rw [parts_one (by omega)]; simp)
      have hdn := down_of hT i hi (nth l i).a (by rw [parts_one (by omega)]; simp)
      have HW0 := wk_q hT hi hqq u
      obtain ⟨m, hm⟩ : ∃ m : Nat, (nth l i).a = (m : Int) := ⟨(nth l i).a.toNat, by omega⟩
      rw [hm, Int.toNat_natCast] at HW0 HIH0
      rw [hop] at HW0 p0 hw1
      rw [hm] at p3 hw1
      cases u
      ·
        have HW : Hid (wk (tr l i) false = [(⟨false, (nth l i).k, (nth l i).b⟩ : Qu)] ++ wk (tr l m) false) := HW0
        have HIH : Hid (SWk l m) := HIH0.out
        have hl9 : (wk (tr l m) false).length ≤ 999 := by have h9 := hlen; rw [HW.out] at h9; simp at h9; omega
        obtain ⟨w2, hw2⟩ : ∃ w2 : World, w2 = w1.alloc (.cells #[.bool false, .int .i64 (nth l i).k, .int .i64 (nth l i).b] 50) := ⟨_, rfl⟩
        have hs1 : w1.heap.size = w.heap.size + 1 := by rw [hw1]; simp
        have hb2 : Below w1.heap.size w1 w2 := by rw [hw2]; exact (Below.refl _ _).alloc (Nat.le_refl _) _
        have HB2 : Hid (Below w.heap.size w w2) := HB1.out.trans (hb2.mono HB1.out.size)
        have hs2 : w.heap.size ≤ w2.heap.size := HB2.out.size
        have y3 : w2.cell? ⟨w.heap.size, 3, none⟩ = some (.int .i64 (m : Int)) := by rw [hb2.cell (p := ⟨w.heap.size, 3, none⟩) (show w.heap.size < _ by omega), hw1, World.cell?_alloc_new]; rfl
        have z0 : w2.cell? ⟨w.heap.size + 1, 0, none⟩ = some (.bool false) := by rw [← hs1, hw2, World.cell?_alloc_new]; rfl
        have z1 : w2.cell? ⟨w.heap.size + 1, 1, none⟩ = some (.int .i64 (nth l i).k) := by rw [← hs1, hw2, World.cell?_alloc_new]; rfl
        have z2 : w2.cell? ⟨w.heap.size + 1, 2, none⟩ = some (.int .i64 (nth l i).b) := by rw [← hs1, hw2, World.cell?_alloc_new]; rfl
        rw [hw1] at hw2 hh1
        clear HW0 HIH0 hb2 hs1
        go_enter Try.func15, Try.ntmps15
        go_wp2_with fail
        rw [← hw2]
        clear hw2 hw1 hh1
        refine wp_region_held_drew (S := fun w' => Below w2.heap.size w2 w') (by kernel_rfl) ((Below.refl _ _).drew) (fun hHeld => ?_)
        refine wpAnyH_take (i := 0) (v := ?_) rfl (by kernel_rfl) (by kernel_rfl) (by kernel_rfl) (fun _ _ _ h => h) (Or.inl ⟨by rfl, ?_⟩) hHeld ?_
        rotate_left
        · intro v9 hS9
          try dsimp only at hS9
          have q0 := (hS9.cell (lt_of_cell z0)).trans z0
          have q1 := (hS9.cell (lt_of_cell z1)).trans z1
          have q2 := (hS9.cell (lt_of_cell z2)).trans z2
          go_simp
          try with_reducible rfl
        try simp only [Act.put, List.setIfInBounds_toArray, List.set_cons_zero, List.set_cons_succ, List.getElem_toArray, List.getElem_cons_zero]
        refine wpAnyH_take (i := 2) (v := ?_) rfl (by kernel_rfl) (by kernel_rfl) (by kernel_rfl) (fun _ _ _ h => h) (Or.inl ⟨by rfl, ?_⟩) hHeld ?_
        rotate_left
        · intro v9 hS9
          try dsimp only at hS9
          go_simp
          try with_reducible rfl
        try simp only [Act.put, List.setIfInBounds_toArray, List.set_cons_zero, List.set_cons_succ, List.getElem_toArray, List.getElem_cons_zero, List.getElem_cons_succ]
        refine wpAnyH_take (i := 3) (v := ?_) rfl (by kernel_rfl) (by kernel_rfl) (by kernel_rfl) (fun _ _ _ h => h) (Or.inl ⟨by rfl, ?_⟩) hHeld ?_
        rotate_left
        · intro v9 hS9
          try dsimp only at hS9
          go_simp
          try with_reducible rfl
        try simp only [Act.put, List.setIfInBounds_toArray, List.set_cons_zero, List.set_cons_succ, List.getElem_toArray, List.getElem_cons_zero, List.getElem_cons_succ]
        refine wpAnyH_take (i := 4) (v := ?_) rfl (by kernel_rfl) (by kernel_rfl) (by kernel_rfl) (fun _ _ _ h => h) (Or.inl ⟨by rfl, ?_⟩) hHeld ?_
        rotate_left
        · intro v9 hS9
          try dsimp only at hS9
          go_simp
          try with_reducible rfl
        try simp only [Act.put, List.setIfInBounds_toArray, List.set_cons_zero, List.set_cons_succ, List.getElem_toArray, List.getElem_cons_zero, List.getElem_cons_succ]
        refine wpAnyH_take (i := 5) (v := ?_) rfl (by kernel_rfl) (by kernel_rfl) (by kernel_rfl) (fun _ _ _ h => h) (Or.inl ⟨by rfl, ?_⟩) hHeld ?_
        rotate_left
        · intro v9 hS9
          try dsimp only at hS9
          have q3 := (hS9.cell (lt_of_cell y3)).trans y3
          go_simp
          try with_reducible rfl
        try simp only [Act.put, List.setIfInBounds_toArray, List.set_cons_zero, List.set_cons_succ, List.getElem_toArray, List.getElem_cons_zero, List.getElem_cons_succ]
        refine wpAnyH_take (i := 6) (v := ?_) rfl (by kernel_rfl) (by kernel_rfl) (by kernel_rfl) (fun _ _ _ h => h) (Or.inl ⟨by rfl, ?_⟩) hHeld ?_
        rotate_left
        · intro v9 hS9
          try dsimp only at hS9
          go_simp
          try with_reducible rfl
        try simp only [Act.put, List.setIfInBounds_toArray, List.set_cons_zero, List.set_cons_succ, List.getElem_toArray, List.getElem_cons_zero, List.getElem_cons_succ]
        refine wpAnyH_ready (rs := [1, 7]) (by kernel_rfl) (by simp) ?_
        refine (AllReadyH.cons rfl (fun K hK => ?_) (AllReadyH.cons rfl (fun K hK => ?_) AllReadyH.nil))
        ·
          go_simp
          refine hK.out _ _ (hHeld.alloc hHeld.size _) (fun hNext => ?_)
          clear hK K hHeld
          have hHeld := hNext
          clear hNext
          refine wpAnyH_ready (rs := [7]) (by kernel_rfl) (by simp) ?_
          refine (AllReadyH.cons rfl (fun K hK => ?_) AllReadyH.nil)
          ·
            refine step_call (f := 15) (args := #[.slice (some ⟨xb, xo, none⟩) l.length c, .slice (some ⟨gh, 0, none⟩) l.length ch, .int .i64 (m : Int), .bool false]) rfl (by go_simp) ?_
            refine (HIH.out _ _ c gh ch false (HN.out.below (HB2.out.trans (hHeld.mono hs2))) (fun j hj => ((HB2.out.trans (hHeld.mono hs2)).cell (lt_of_cell (HH.out j hj))).trans (HH.out j hj)) (by omega)).mono ?_
            rintro e w5 ⟨⟨g5, cp5, rfl, hq5⟩, hb5⟩
            refine ⟨_, rfl, ?_⟩
            have HK5 := hHeld.trans (hb5.mono hHeld.size)
            refine hK.out _ _ (HK5) (fun hNext => ?_)
            clear hK K hHeld
            have hHeld := hNext
            clear hNext
            clear HK5
            try simp only [Act.put, List.setIfInBounds_toArray, List.set_cons_zero, List.set_cons_succ, List.getElem_toArray, List.getElem_cons_zero, List.getElem_cons_succ]
            refine wpAnyH_ready (rs := [8]) (by kernel_rfl) (by simp) ?_
            refine (AllReadyH.cons rfl (fun K hK => ?_) AllReadyH.nil)
            ·
              refine step_qus _ rfl _ _ rfl w2.heap.size _ w2.heap.size g5 1 cp5 [(⟨false, (nth l i).k, (nth l i).b⟩ : Qu)] (wk (tr l m) false) rfl rfl ((Sq.one w2.drew w2.heap.size (⟨false, (nth l i).k, (nth l i).b⟩ : Qu) (Nat.le_refl _)).below hb5) (hq5) hHeld.size (by first | omega | (simp; omega)) ?_
              intro g7 cp7 w7 hq7 hb7
              have HK7 := hHeld.trans hb7
              refine hK.out _ _ (HK7) (fun hNext => ?_)
              clear hK K hHeld
              have hHeld := hNext
              clear hNext
              clear HK7
              try simp only [Act.put, List.setIfInBounds_toArray, List.set_cons_zero, List.set_cons_succ, List.getElem_toArray, List.getElem_cons_zero, List.getElem_cons_succ]
              refine wpAnyH_take (i := 9) (v := ?_) rfl (by kernel_rfl) (by kernel_rfl) (by kernel_rfl) (fun _ _ _ h => h) (Or.inl ⟨by rfl, ?_⟩) hHeld ?_
              rotate_left
              · intro v9 hS9
                try dsimp only at hS9
                go_simp
                try with_reducible rfl
              try simp only [Act.put, List.setIfInBounds_toArray, List.set_cons_zero, List.set_cons_succ, List.getElem_toArray, List.getElem_cons_zero, List.getElem_cons_succ]
              refine wpAnyH_done (by kernel_rfl) ?_ _
              have HB7 : Hid (Below w.heap.size w w7) := HB2.out.trans (hHeld.mono hs2)
              have HQ7 : Hid (Sq w7 w.heap.size g7 cp7 ([(⟨false, (nth l i).k, (nth l i).b⟩ : Qu)] ++ (wk (tr l m) false))) := hq7.mono hs2
              clear hHeld hq7 hb7
              go_wp2
              go_ret
              refine ⟨⟨g7, cp7, ?_, ?_⟩, HB7.out⟩
              · first | (rw [HW.out]; rfl) | (rw [HW.out, List.length_append]; rfl)
              · rw [HW.out]; exact HQ7.out
        ·
          have hHeld0 := hHeld.size
          refine step_call (f := 15) (args := #[.slice (some ⟨xb, xo, none⟩) l.length c, .slice (some ⟨gh, 0, none⟩) l.length ch, .int .i64 (m : Int), .bool false]) rfl (by go_simp) ?_
          refine (HIH.out _ _ c gh ch false (HN.out.below (HB2.out.trans (hHeld.mono hs2))) (fun j hj => ((HB2.out.trans (hHeld.mono hs2)).cell (lt_of_cell (HH.out j hj))).trans (HH.out j hj)) (by omega)).mono ?_
          rintro e w5 ⟨⟨g5, cp5, rfl, hq5⟩, hb5⟩
          refine ⟨_, rfl, ?_⟩
          have HK5 := hHeld.trans (hb5.mono hHeld.size)
          refine hK.out _ _ (HK5) (fun hNext => ?_)
          clear hK K hHeld
          have hHeld := hNext
          clear hNext
          clear HK5
          try simp only [Act.put, List.setIfInBounds_toArray, List.set_cons_zero, List.set_cons_succ, List.getElem_toArray, List.getElem_cons_zero, List.getElem_cons_succ]
          refine wpAnyH_ready (rs := [1]) (by kernel_rfl) (by simp) ?_
          refine (AllReadyH.cons rfl (fun K hK => ?_) AllReadyH.nil)
          ·
            have hs5 := hHeld.size
            go_simp
            refine hK.out _ _ (hHeld.alloc hHeld.size _) (fun hNext => ?_)
            clear hK K hHeld
            have hHeld := hNext
            clear hNext
            refine wpAnyH_ready (rs := [8]) (by kernel_rfl) (by simp) ?_
            refine (AllReadyH.cons rfl (fun K hK => ?_) AllReadyH.nil)
            ·
              refine step_qus _ rfl _ _ rfl w2.heap.size _ w5.heap.size g5 1 cp5 [(⟨false, (nth l i).k, (nth l i).b⟩ : Qu)] (wk (tr l m) false) rfl rfl (Sq.one w5 w2.heap.size (⟨false, (nth l i).k, (nth l i).b⟩ : Qu) hs5) (hq5.below ((Below.refl _ _).alloc (Nat.le_refl _) _)) hHeld.size (by first | omega | (simp; omega)) ?_
              intro g7 cp7 w7 hq7 hb7
              have HK7 := hHeld.trans hb7
              refine hK.out _ _ (HK7) (fun hNext => ?_)
              clear hK K hHeld
              have hHeld := hNext
              clear hNext
              clear HK7
              try simp only [Act.put, List.setIfInBounds_toArray, List.set_cons_zero, List.set_cons_succ, List.getElem_toArray, List.getElem_cons_zero, List.getElem_cons_succ]
              refine wpAnyH_take (i := 9) (v := ?_) rfl (by kernel_rfl) (by kernel_rfl) (by kernel_rfl) (fun _ _ _ h => h) (Or.inl ⟨by rfl, ?_⟩) hHeld ?_
              rotate_left
              · intro v9 hS9
                try dsimp only at hS9
                go_simp
                try with_reducible rfl
              try simp only [Act.put, List.setIfInBounds_toArray, List.set_cons_zero, List.set_cons_succ, List.getElem_toArray, List.getElem_cons_zero, List.getElem_cons_succ]
              refine wpAnyH_done (by kernel_rfl) ?_ _
              have HB7 : Hid (Below w.heap.size w w7) := HB2.out.trans (hHeld.mono hs2)
              have HQ7 : Hid (Sq w7 w.heap.size g7 cp7 ([(⟨false, (nth l i).k, (nth l i).b⟩ : Qu)] ++ (wk (tr l m) false))) := hq7.mono hs2
              clear hHeld hq7 hb7
              go_wp2
              go_ret
              refine ⟨⟨g7, cp7, ?_, ?_⟩, HB7.out⟩
              · first | (rw [HW.out]; rfl) | (rw [HW.out, List.length_append]; rfl)
              · rw [HW.out]; exact HQ7.out
      ·
        have HW : Hid (wk (tr l i) true = [(⟨true, (nth l i).k, (nth l i).b⟩ : Qu)] ++ wk (tr l m) true) := HW0
        have HIH : Hid (SWk l m) := HIH0.out
        have hl9 : (wk (tr l m) true).length ≤ 999 := by have h9 := hlen; rw [HW.out] at h9; simp at h9; omega
        obtain ⟨w2, hw2⟩ : ∃ w2 : World, w2 = w1.alloc (.cells #[.bool true, .int .i64 (nth l i).k, .int .i64 (nth l i).b] 50) := ⟨_, rfl⟩
        have hs1 : w1.heap.size = w.heap.size + 1 := by rw [hw1]; simp
        have hb2 : Below w1.heap.size w1 w2 := by rw [hw2]; exact (Below.refl _ _).alloc (Nat.le_refl _) _
        have HB2 : Hid (Below w.heap.size w w2) := HB1.out.trans (hb2.mono HB1.out.size)
        have hs2 : w.heap.size ≤ w2.heap.size := HB2.out.size
        have y3 : w2.cell? ⟨w.heap.size, 3, none⟩ = some (.int .i64 (m : Int)) := by rw [hb2.cell (p := ⟨w.heap.size, 3, none⟩) (show w.heap.size < _ by omega), hw1, World.cell?_alloc_new]; rfl
        have z0 : w2.cell? ⟨w.heap.size + 1, 0, none⟩ = some (.bool true) := by rw [← hs1, hw2, World.cell?_alloc_new]; rfl
        have z1 : w2.cell? ⟨w.heap.size + 1, 1, none⟩ = some (.int .i64 (nth l i).k) := by rw [← hs1, hw2, World.cell?_alloc_new]; rfl
        have z2 : w2.cell? ⟨w.heap.size + 1, 2, none⟩ = some (.int .i64 (nth l i).b) := by rw [← hs1, hw2, World.cell?_alloc_new]; rfl
        rw [hw1] at hw2 hh1
        clear HW0 HIH0 hb2 hs1
        go_enter Try.func15, Try.ntmps15
        go_wp2_with fail
        rw [← hw2]
        clear hw2 hw1 hh1
        refine wp_region_held_drew (S := fun w' => Below w2.heap.size w2 w') (by kernel_rfl) ((Below.refl _ _).drew) (fun hHeld => ?_)
        refine wpAnyH_take (i := 0) (v := ?_) rfl (by kernel_rfl) (by kernel_rfl) (by kernel_rfl) (fun _ _ _ h => h) (Or.inl ⟨by rfl, ?_⟩) hHeld ?_
        rotate_left
        · intro v9 hS9
          try dsimp only at hS9
          have q0 := (hS9.cell (lt_of_cell z0)).trans z0
          have q1 := (hS9.cell (lt_of_cell z1)).trans z1
          have q2 := (hS9.cell (lt_of_cell z2)).trans z2
          go_simp
          try with_reducible rfl
        try simp only [Act.put, List.setIfInBounds_toArray, List.set_cons_zero, List.set_cons_succ, List.getElem_toArray, List.getElem_cons_zero]
        refine wpAnyH_take (i := 2) (v := ?_) rfl (by kernel_rfl) (by kernel_rfl) (by kernel_rfl) (fun _ _ _ h => h) (Or.inl ⟨by rfl, ?_⟩) hHeld ?_
        rotate_left
        · intro v9 hS9
          try dsimp only at hS9
          go_simp
          try with_reducible rfl
        try simp only [Act.put, List.setIfInBounds_toArray, List.set_cons_zero, List.set_cons_succ, List.getElem_toArray, List.getElem_cons_zero, List.getElem_cons_succ]
        refine wpAnyH_take (i := 3) (v := ?_) rfl (by kernel_rfl) (by kernel_rfl) (by kernel_rfl) (fun _ _ _ h => h) (Or.inl ⟨by rfl, ?_⟩) hHeld ?_
        rotate_left
        · intro v9 hS9
          try dsimp only at hS9
          go_simp
          try with_reducible rfl
        try simp only [Act.put, List.setIfInBounds_toArray, List.set_cons_zero, List.set_cons_succ, List.getElem_toArray, List.getElem_cons_zero, List.getElem_cons_succ]
        refine wpAnyH_take (i := 4) (v := ?_) rfl (by kernel_rfl) (by kernel_rfl) (by kernel_rfl) (fun _ _ _ h => h) (Or.inl ⟨by rfl, ?_⟩) hHeld ?_
        rotate_left
        · intro v9 hS9
          try dsimp only at hS9
          go_simp
          try with_reducible rfl
        try simp only [Act.put, List.setIfInBounds_toArray, List.set_cons_zero, List.set_cons_succ, List.getElem_toArray, List.getElem_cons_zero, List.getElem_cons_succ]
        refine wpAnyH_take (i := 5) (v := ?_) rfl (by kernel_rfl) (by kernel_rfl) (by kernel_rfl) (fun _ _ _ h => h) (Or.inl ⟨by rfl, ?_⟩) hHeld ?_
        rotate_left
        · intro v9 hS9
          try dsimp only at hS9
          have q3 := (hS9.cell (lt_of_cell y3)).trans y3
          go_simp
          try with_reducible rfl
        try simp only [Act.put, List.setIfInBounds_toArray, List.set_cons_zero, List.set_cons_succ, List.getElem_toArray, List.getElem_cons_zero, List.getElem_cons_succ]
        refine wpAnyH_take (i := 6) (v := ?_) rfl (by kernel_rfl) (by kernel_rfl) (by kernel_rfl) (fun _ _ _ h => h) (Or.inl ⟨by rfl, ?_⟩) hHeld ?_
        rotate_left
        · intro v9 hS9
          try dsimp only at hS9
          go_simp
          try with_reducible rfl
        try simp only [Act.put, List.setIfInBounds_toArray, List.set_cons_zero, List.set_cons_succ, List.getElem_toArray, List.getElem_cons_zero, List.getElem_cons_succ]
        refine wpAnyH_ready (rs := [1, 7]) (by kernel_rfl) (by simp) ?_
        refine (AllReadyH.cons rfl (fun K hK => ?_) (AllReadyH.cons rfl (fun K hK => ?_) AllReadyH.nil))
        ·
          go_simp
          refine hK.out _ _ (hHeld.alloc hHeld.size _) (fun hNext => ?_)
          clear hK K hHeld
          have hHeld := hNext
          clear hNext
          refine wpAnyH_ready (rs := [7]) (by kernel_rfl) (by simp) ?_
          refine (AllReadyH.cons rfl (fun K hK => ?_) AllReadyH.nil)
          ·
            refine step_call (f := 15) (args := #[.slice (some ⟨xb, xo, none⟩) l.length c, .slice (some ⟨gh, 0, none⟩) l.length ch, .int .i64 (m : Int), .bool true]) rfl (by go_simp) ?_
            refine (HIH.out _ _ c gh ch true (HN.out.below (HB2.out.trans (hHeld.mono hs2))) (fun j hj => ((HB2.out.trans (hHeld.mono hs2)).cell (lt_of_cell (HH.out j hj))).trans (HH.out j hj)) (by omega)).mono ?_
            rintro e w5 ⟨⟨g5, cp5, rfl, hq5⟩, hb5⟩
            refine ⟨_, rfl, ?_⟩
            have HK5 := hHeld.trans (hb5.mono hHeld.size)
            refine hK.out _ _ (HK5) (fun hNext => ?_)
            clear hK K hHeld
            have hHeld := hNext
            clear hNext
            clear HK5
            try simp only [Act.put, List.setIfInBounds_toArray, List.set_cons_zero, List.set_cons_succ, List.getElem_toArray, List.getElem_cons_zero, List.getElem_cons_succ]
            refine wpAnyH_ready (rs := [8]) (by kernel_rfl) (by simp) ?_
            refine (AllReadyH.cons rfl (fun K hK => ?_) AllReadyH.nil)
            ·
              refine step_qus _ rfl _ _ rfl w2.heap.size _ w2.heap.size g5 1 cp5 [(⟨true, (nth l i).k, (nth l i).b⟩ : Qu)] (wk (tr l m) true) rfl rfl ((Sq.one w2.drew w2.heap.size (⟨true, (nth l i).k, (nth l i).b⟩ : Qu) (Nat.le_refl _)).below hb5) (hq5) hHeld.size (by first | omega | (simp; omega)) ?_
              intro g7 cp7 w7 hq7 hb7
              have HK7 := hHeld.trans hb7
              refine hK.out _ _ (HK7) (fun hNext => ?_)
              clear hK K hHeld
              have hHeld := hNext
              clear hNext
              clear HK7
              try simp only [Act.put, List.setIfInBounds_toArray, List.set_cons_zero, List.set_cons_succ, List.getElem_toArray, List.getElem_cons_zero, List.getElem_cons_succ]
              refine wpAnyH_take (i := 9) (v := ?_) rfl (by kernel_rfl) (by kernel_rfl) (by kernel_rfl) (fun _ _ _ h => h) (Or.inl ⟨by rfl, ?_⟩) hHeld ?_
              rotate_left
              · intro v9 hS9
                try dsimp only at hS9
                go_simp
                try with_reducible rfl
              try simp only [Act.put, List.setIfInBounds_toArray, List.set_cons_zero, List.set_cons_succ, List.getElem_toArray, List.getElem_cons_zero, List.getElem_cons_succ]
              refine wpAnyH_done (by kernel_rfl) ?_ _
              have HB7 : Hid (Below w.heap.size w w7) := HB2.out.trans (hHeld.mono hs2)
              have HQ7 : Hid (Sq w7 w.heap.size g7 cp7 ([(⟨true, (nth l i).k, (nth l i).b⟩ : Qu)] ++ (wk (tr l m) true))) := hq7.mono hs2
              clear hHeld hq7 hb7
              go_wp2
              go_ret
              refine ⟨⟨g7, cp7, ?_, ?_⟩, HB7.out⟩
              · first | (rw [HW.out]; rfl) | (rw [HW.out, List.length_append]; rfl)
              · rw [HW.out]; exact HQ7.out
        ·
          have hHeld0 := hHeld.size
          refine step_call (f := 15) (args := #[.slice (some ⟨xb, xo, none⟩) l.length c, .slice (some ⟨gh, 0, none⟩) l.length ch, .int .i64 (m : Int), .bool true]) rfl (by go_simp) ?_
          refine (HIH.out _ _ c gh ch true (HN.out.below (HB2.out.trans (hHeld.mono hs2))) (fun j hj => ((HB2.out.trans (hHeld.mono hs2)).cell (lt_of_cell (HH.out j hj))).trans (HH.out j hj)) (by omega)).mono ?_
          rintro e w5 ⟨⟨g5, cp5, rfl, hq5⟩, hb5⟩
          refine ⟨_, rfl, ?_⟩
          have HK5 := hHeld.trans (hb5.mono hHeld.size)
          refine hK.out _ _ (HK5) (fun hNext => ?_)
          clear hK K hHeld
          have hHeld := hNext
          clear hNext
          clear HK5
          try simp only [Act.put, List.setIfInBounds_toArray, List.set_cons_zero, List.set_cons_succ, List.getElem_toArray, List.getElem_cons_zero, List.getElem_cons_succ]
          refine wpAnyH_ready (rs := [1]) (by kernel_rfl) (by simp) ?_
          refine (AllReadyH.cons rfl (fun K hK => ?_) AllReadyH.nil)
          ·
            have hs5 := hHeld.size
            go_simp
            refine hK.out _ _ (hHeld.alloc hHeld.size _) (fun hNext => ?_)
            clear hK K hHeld
            have hHeld := hNext
            clear hNext
            refine wpAnyH_ready (rs := [8]) (by kernel_rfl) (by simp) ?_
            refine (AllReadyH.cons rfl (fun K hK => ?_) AllReadyH.nil)
            ·
              refine step_qus _ rfl _ _ rfl w2.heap.size _ w5.heap.size g5 1 cp5 [(⟨true, (nth l i).k, (nth l i).b⟩ : Qu)] (wk (tr l m) true) rfl rfl (Sq.one w5 w2.heap.size (⟨true, (nth l i).k, (nth l i).b⟩ : Qu) hs5) (hq5.below ((Below.refl _ _).alloc (Nat.le_refl _) _)) hHeld.size (by first | omega | (simp; omega)) ?_
              intro g7 cp7 w7 hq7 hb7
              have HK7 := hHeld.trans hb7
              refine hK.out _ _ (HK7) (fun hNext => ?_)
              clear hK K hHeld
              have hHeld := hNext
              clear hNext
              clear HK7
              try simp only [Act.put, List.setIfInBounds_toArray, List.set_cons_zero, List.set_cons_succ, List.getElem_toArray, List.getElem_cons_zero, List.getElem_cons_succ]
              refine wpAnyH_take (i := 9) (v := ?_) rfl (by kernel_rfl) (by kernel_rfl) (by kernel_rfl) (fun _ _ _ h => h) (Or.inl ⟨by rfl, ?_⟩) hHeld ?_
              rotate_left
              · intro v9 hS9
                try dsimp only at hS9
                go_simp
                try with_reducible rfl
              try simp only [Act.put, List.setIfInBounds_toArray, List.set_cons_zero, List.set_cons_succ, List.getElem_toArray, List.getElem_cons_zero, List.getElem_cons_succ]
              refine wpAnyH_done (by kernel_rfl) ?_ _
              have HB7 : Hid (Below w.heap.size w w7) := HB2.out.trans (hHeld.mono hs2)
              have HQ7 : Hid (Sq w7 w.heap.size g7 cp7 ([(⟨true, (nth l i).k, (nth l i).b⟩ : Qu)] ++ (wk (tr l m) true))) := hq7.mono hs2
              clear hHeld hq7 hb7
              go_wp2
              go_ret
              refine ⟨⟨g7, cp7, ?_, ?_⟩, HB7.out⟩
              · first | (rw [HW.out]; rfl) | (rw [HW.out, List.length_append]; rfl)
              · rw [HW.out]; exact HQ7.out

theorem walk_all {l : List Nd} (hS : sentB l = true) (hT : termOk l = true) : ∀ i, i < l.length → flag (reachL l) i = true → SWk l i := by
  intro i
  induction i using Nat.strongRecOn with
  | ind i ih =>
    intro hi hf
    refine walk_of hS hT hi hf (fun p hp => ?_)
    have h1 := down_of hT i hi p hp
    exact ih p.toNat (by omega) (by omega) (reach_closed (down_of hT) hi hf hp)

end Go.Proofs.Ytebejleeadofcaa.Fm6
