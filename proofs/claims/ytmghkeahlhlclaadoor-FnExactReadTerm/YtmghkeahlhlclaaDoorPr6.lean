/- The deferred function of the program's ReadTerm. -/
import Derived.Defers
import Derived.Recover
import Derived.Laws.Pointers
import Derived.Deep.RegionHeld
import Derived.Test.YtmghkeahlhlclaaDoorPr1
namespace Go.Proofs.YtmghkeahlhlclaaDoor.Pr6
open Go.RowKit
open Nd0 Nd3 Tm0 Tx0 Tx1 Ss0 Ss1 Tb0 Px0 Pr1
set_option linter.unusedVariables false

theorem asNil (xT : TypeId) (W : World) : (Instr.typeAssert .nilIface xT 51 true).run Tryd.prog W = .ok (.tuple #[.agg #[.int .i64 0, .int .i64 0], .bool false]) W := by kernel_rfl
theorem asYes (xT : TypeId) (v : Value) (W : World) : (Instr.typeAssert (.iface 51 v) xT 51 true).run Tryd.prog W = .ok (.tuple #[v, .bool true]) W := by kernel_rfl

set_option maxRecDepth 100000 in
set_option maxHeartbeats 4000000 in
theorem catchIdle (p q r : Addr) (w : World) :
    CallsD Tryd.prog 26 #[.pointer (some p), .pointer (some q), .pointer (some r)] .returning w fun e u' w' => e = .returned (.tuple #[]) ∧ u' = .returning ∧ Below w.heap.size w w' := by
  refine callsD_of_wpS Tryd.func26 rfl fun c₀ cs hu => ?_
  apply wpS_seq
  apply wpS_region
  simp [wpOpsS, go_sem, recoverD, hu, Tryd.ntmps26, Exit.thenS, asNil]
  refine wpS_of_wp ?_
  change Code.wp _ _ _ { tmps := #[.pointer (some p), .pointer (some q), .pointer (some r), .pointer (some ⟨w.heap.size, 0, none⟩), .bool false, .tuple #[.agg #[.int .i64 0, .int .i64 0], .bool false], .nilIface, .tuple #[.agg #[.int .i64 0, .int .i64 0], .bool false], .agg #[.int .i64 0, .int .i64 0], .bool false, undef, undef, undef, undef, undef, undef], defers := [] } _
  go_wp2
  refine ⟨rfl, .returning, by cases c₀; simp_all, .tuple #[], by simp [results, Tryd.results26, go_sem], rfl, rfl, (Below.refl _ _).alloc (Nat.le_refl _) _⟩

theorem wp_tmps {P : Program} {c : Code} {Q : Exit → Act → World → Prop} {T T' : Array Value} {d : List Deferred} {w : World} (h : T = T') (k : Code.wp P c Q ⟨T', d⟩ w) : Code.wp P c Q ⟨T, d⟩ w := h ▸ k
theorem set_far {w : World} {p q : Addr} {v : Value} (h : p.block ≠ q.block) : (w.setCell p v).cell? q = w.cell? q := set_other (fun e => h (by rw [e]))

set_option maxRecDepth 100000 in
set_option maxHeartbeats 1000000 in
theorem catchFail (pb qb rb : Nat) (x : Er) (older : List PanicEntry) (w : World) (hpq : pb ≠ qb) (hpr : pb ≠ rb) (hqr : qb ≠ rb) (u v y : Value)
    (hp : w.cell? ⟨pb, 0, none⟩ = some u) (hq : w.cell? ⟨qb, 0, none⟩ = some v) (hr : w.cell? ⟨rb, 0, none⟩ = some y) (fp : w.frozen? ⟨pb, 0, none⟩ = false) (fq : w.frozen? ⟨qb, 0, none⟩ = false) (fr : w.frozen? ⟨rb, 0, none⟩ = false) :
    CallsD Tryd.prog 26 #[.pointer (some ⟨pb, 0, none⟩), .pointer (some ⟨qb, 0, none⟩), .pointer (some ⟨rb, 0, none⟩)] (.panicking (fl x :: older)) w fun e u' w' =>
      e = .returned (.tuple #[]) ∧ u' = .panicking ({ v := (fl x).v, recovered := true } :: older) ∧ (∃ k, w'.cell? ⟨pb, 0, none⟩ = some (.slice (some ⟨k, 0, none⟩) 0 0)) ∧ w'.cell? ⟨qb, 0, none⟩ = some (.int .i64 x.1) ∧ w'.cell? ⟨rb, 0, none⟩ = some (.int .i64 (x.2 : Int)) ∧ Kept (fun k => k = pb ∨ k = qb ∨ k = rb) w w' := by
  have hpl := lt_of_cell hp
  have hql := lt_of_cell hq
  have hrl := lt_of_cell hr
  simp only at hpl hql hrl
  obtain ⟨g, hg⟩ : ∃ g : Nat, g = w.heap.size := ⟨_, rfl⟩
  refine callsD_of_wpS Tryd.func26 rfl fun c₀ cs hu => ?_
  have HU : Hid (c₀.mode = .panicking (fl x :: older)) := hu
  unfold fl at hu
  apply wpS_seq
  apply wpS_region
  simp [wpOpsS, go_sem, recoverD, hu, Tryd.ntmps26, Exit.thenS, asYes]
  refine wpS_of_wp ?_
  rw [← hg]
  refine wp_tmps (T' := #[.pointer (some ⟨pb, 0, none⟩), .pointer (some ⟨qb, 0, none⟩), .pointer (some ⟨rb, 0, none⟩), .pointer (some ⟨g, 0, none⟩), .bool true, .tuple #[.agg #[.int .i64 x.1, .int .i64 (x.2 : Int)], .bool true], .iface 51 (.agg #[.int .i64 x.1, .int .i64 (x.2 : Int)]), .tuple #[.agg #[.int .i64 x.1, .int .i64 (x.2 : Int)], .bool true], .agg #[.int .i64 x.1, .int .i64 (x.2 : Int)], .bool true, undef, undef, undef, undef, undef, undef]) (by simp [Array.replicate, List.replicate]) ?_
  obtain ⟨w1, hw1⟩ : ∃ w1 : World, w1 = w.alloc (.cells #[.int .i64 x.1, .int .i64 (x.2 : Int)] 51) := ⟨_, rfl⟩
  have hk1 : Kept (fun _ => False) w w1 := by rw [hw1]; exact (Kept.refl _ _).alloc _
  have s0 : w1.cell? ⟨g, 0, none⟩ = some (.int .i64 x.1) := by rw [hw1, hg, World.cell?_alloc_new]; rfl
  have s1 : w1.cell? ⟨g, 1, none⟩ = some (.int .i64 (x.2 : Int)) := by rw [hw1, hg, World.cell?_alloc_new]; rfl
  have hgs : g < w1.heap.size := lt_of_cell s0
  have n1 : pb ≠ g := by omega
  have n2 : qb ≠ g := by omega
  have n3 : rb ≠ g := by omega
  rw [← hw1]
  have p1 : w1.cell? ⟨pb, 0, none⟩ = some u := by rw [hk1.cell (p := ⟨pb, 0, none⟩) hpl (fun e => e)]; exact hp
  have q1 : w1.cell? ⟨qb, 0, none⟩ = some v := by rw [hk1.cell (p := ⟨qb, 0, none⟩) hql (fun e => e)]; exact hq
  have r1 : w1.cell? ⟨rb, 0, none⟩ = some y := by rw [hk1.cell (p := ⟨rb, 0, none⟩) hrl (fun e => e)]; exact hr
  have fp1 : w1.frozen? ⟨pb, 0, none⟩ = false := by rw [hk1.frozen (p := ⟨pb, 0, none⟩) hpl (fun e => e)]; exact fp
  have fq1 : w1.frozen? ⟨qb, 0, none⟩ = false := by rw [hk1.frozen (p := ⟨qb, 0, none⟩) hql (fun e => e)]; exact fq
  have fr1 : w1.frozen? ⟨rb, 0, none⟩ = false := by rw [hk1.frozen (p := ⟨rb, 0, none⟩) hrl (fun e => e)]; exact fr
  obtain ⟨wa, hwa⟩ : ∃ wa : World, wa = w1.alloc (.cells #[] 39) := ⟨_, rfl⟩
  have hka : Kept (fun _ => False) w1 wa := by rw [hwa]; exact (Kept.refl _ _).alloc _
  have ha : ∀ {b o : Nat} {z : Value}, w1.cell? ⟨b, o, none⟩ = some z → wa.cell? ⟨b, o, none⟩ = some z := fun h => by rw [hka.cell (p := ⟨_, _, none⟩) (lt_of_cell h) (fun e => e)]; exact h
  have hfa : ∀ {b : Nat}, b < w1.heap.size → w1.frozen? ⟨b, 0, none⟩ = false → wa.frozen? ⟨b, 0, none⟩ = false := fun hb h => by rw [hka.frozen (p := ⟨_, 0, none⟩) hb (fun e => e)]; exact h
  have HS0 : Hid (w1.drew.cell? ⟨g, 0, none⟩ = some (.int .i64 x.1) ∧ w1.drew.cell? ⟨g, 1, none⟩ = some (.int .i64 (x.2 : Int))) := ⟨s0, s1⟩
  have HS4 : Hid ((w1.alloc (.cells #[] 39)).drew.cell? ⟨g, 0, none⟩ = some (.int .i64 x.1) ∧ (w1.alloc (.cells #[] 39)).drew.cell? ⟨g, 1, none⟩ = some (.int .i64 (x.2 : Int))) := by rw [← hwa]; exact (⟨ha s0, ha s1⟩ : wa.cell? _ = _ ∧ wa.cell? _ = _)
  have HC5 : Hid ((w1.alloc (.cells #[] 39)).drew.cell? ⟨pb, 0, none⟩ = some u) := by rw [← hwa]; exact (ha p1 : wa.cell? _ = _)
  have HF5 : Hid ((w1.alloc (.cells #[] 39)).drew.frozen? ⟨pb, 0, none⟩ = false) := by rw [← hwa]; exact (hfa (lt_of_cell p1) fp1 : wa.frozen? _ = _)
  obtain ⟨w5, hw5⟩ : ∃ w5 : World, w5 = wa.setCell ⟨pb, 0, none⟩ (.slice (some ⟨w1.heap.size, 0, none⟩) 0 0) := ⟨_, rfl⟩
  obtain ⟨w6, hw6⟩ : ∃ w6 : World, w6 = w5.setCell ⟨qb, 0, none⟩ (.int .i64 x.1) := ⟨_, rfl⟩
  obtain ⟨w7, hw7⟩ : ∃ w7 : World, w7 = w6.setCell ⟨rb, 0, none⟩ (.int .i64 (x.2 : Int)) := ⟨_, rfl⟩
  have c5 : ∀ {b o : Nat} {z : Value}, pb ≠ b → wa.cell? ⟨b, o, none⟩ = some z → w5.cell? ⟨b, o, none⟩ = some z := fun hb h => by rw [hw5, set_far (by exact hb)]; exact h
  have c6 : ∀ {b o : Nat} {z : Value}, qb ≠ b → w5.cell? ⟨b, o, none⟩ = some z → w6.cell? ⟨b, o, none⟩ = some z := fun hb h => by rw [hw6, set_far (by exact hb)]; exact h
  have c7 : ∀ {b o : Nat} {z : Value}, rb ≠ b → w6.cell? ⟨b, o, none⟩ = some z → w7.cell? ⟨b, o, none⟩ = some z := fun hb h => by rw [hw7, set_far (by exact hb)]; exact h
  have HS5 : Hid (w5.drew.cell? ⟨g, 0, none⟩ = some (.int .i64 x.1) ∧ w5.drew.cell? ⟨g, 1, none⟩ = some (.int .i64 (x.2 : Int))) := ⟨c5 n1 (ha s0), c5 n1 (ha s1)⟩
  have HC6 : Hid (w5.drew.cell? ⟨qb, 0, none⟩ = some v) := c5 hpq (ha q1)
  have HF6 : Hid (w5.drew.frozen? ⟨qb, 0, none⟩ = false) := by show w5.frozen? _ = _; rw [hw5, World.frozen?_setCell]; exact hfa (lt_of_cell q1) fq1
  have HS6 : Hid (w6.drew.cell? ⟨g, 0, none⟩ = some (.int .i64 x.1) ∧ w6.drew.cell? ⟨g, 1, none⟩ = some (.int .i64 (x.2 : Int))) := ⟨c6 n2 (show w5.cell? _ = _ from HS5.out.1), c6 n2 (show w5.cell? _ = _ from HS5.out.2)⟩
  have HC7 : Hid (w6.drew.cell? ⟨rb, 0, none⟩ = some y) := c6 hqr (c5 hpr (ha r1))
  have HF7 : Hid (w6.drew.frozen? ⟨rb, 0, none⟩ = false) := by show w6.frozen? _ = _; rw [hw6, World.frozen?_setCell, hw5, World.frozen?_setCell]; exact hfa (lt_of_cell r1) fr1
  have HS7 : Hid (w7.drew.cell? ⟨g, 0, none⟩ = some (.int .i64 x.1) ∧ w7.drew.cell? ⟨g, 1, none⟩ = some (.int .i64 (x.2 : Int))) := ⟨c7 n3 (show w6.cell? _ = _ from HS6.out.1), c7 n3 (show w6.cell? _ = _ from HS6.out.2)⟩
  have HE : Hid ((∃ k, w7.drew.cell? ⟨pb, 0, none⟩ = some (.slice (some ⟨k, 0, none⟩) 0 0)) ∧ w7.drew.cell? ⟨qb, 0, none⟩ = some (.int .i64 x.1) ∧ w7.drew.cell? ⟨rb, 0, none⟩ = some (.int .i64 (x.2 : Int)) ∧ Kept (fun k => k = pb ∨ k = qb ∨ k = rb) w w7.drew) := by
    refine ⟨⟨w1.heap.size, ?_⟩, ?_, ?_, ?_⟩
    · exact c7 hpr.symm (c6 hpq.symm (by rw [hw5]; exact set_same (ha p1)))
    · exact c7 hqr.symm (by rw [hw6]; exact set_same (c5 hpq (ha q1)))
    · show w7.cell? _ = _; rw [hw7]; exact set_same (show w6.cell? _ = _ from HC7.out)
    · have k5 : Kept (fun k => k = pb ∨ k = qb ∨ k = rb) w w5 := by
        rw [hw5]
        exact (((⟨hk1.os, hk1.tape, hk1.output, hk1.size, fun i hi _ => hk1.block i hi (fun e => e)⟩ : Kept (fun k => k = pb ∨ k = qb ∨ k = rb) w w1).trans ⟨hka.os, hka.tape, hka.output, hka.size, fun i hi _ => hka.block i hi (fun e => e)⟩)).setCell (p := ⟨pb, 0, none⟩) (.inl rfl) _
      have k6 : Kept (fun k => k = pb ∨ k = qb ∨ k = rb) w w6 := by rw [hw6]; exact k5.setCell (p := ⟨qb, 0, none⟩) (.inr (.inl rfl)) _
      have k7 : Kept (fun k => k = pb ∨ k = qb ∨ k = rb) w w7 := by rw [hw7]; exact k6.setCell (p := ⟨rb, 0, none⟩) (.inr (.inr rfl)) _
      exact k7.drewN 1
  have HW7 : Hid (w7 = (((w1.alloc (.cells #[] 39)).setCell ⟨pb, 0, none⟩ (.slice (some ⟨w1.heap.size, 0, none⟩) 0 0)).setCell ⟨qb, 0, none⟩ (.int .i64 x.1)).setCell ⟨rb, 0, none⟩ (.int .i64 (x.2 : Int))) := by show _ = _; rw [hw7, hw6, hw5, hwa]
  rw [hw7, hw6, hw5, hwa] at HS7
  rw [hw6, hw5, hwa] at HC7 HF7 HS6
  rw [hw5, hwa] at HC6 HF6 HS5
  clear hw5 hw6 hw7 hwa c5 c6 c7 ha hfa hka hk1 p1 q1 r1 fp1 fq1 fr1 s0 s1 hp hq hr fp fq fr hw1 hg
  go_wp2
  refine wp_region_held_drew (S := fun u => u.cell? ⟨g, 0, none⟩ = some (.int .i64 x.1) ∧ u.cell? ⟨g, 1, none⟩ = some (.int .i64 (x.2 : Int))) (by kernel_rfl) HS0.out (fun hHeld => ?_)
  refine wpAnyH_take (i := 1) (v := ?_) rfl (by kernel_rfl) (by kernel_rfl) (by kernel_rfl) (fun _ _ _ h => h) (Or.inl ⟨by rfl, ?_⟩) hHeld ?_
  rotate_left
  · intro v9 hS9
    try dsimp only at hS9
    go_simp
    try with_reducible rfl
  try simp only [Act.put, List.setIfInBounds_toArray, List.set_cons_zero, List.set_cons_succ, List.getElem_toArray, List.getElem_cons_zero, List.getElem_cons_succ]
  refine wpAnyH_take (i := 2) (v := ?_) rfl (by kernel_rfl) (by kernel_rfl) (by kernel_rfl) (fun _ _ _ h => h) (Or.inl ⟨by rfl, ?_⟩) hHeld ?_
  rotate_left
  · intro v9 hS9
    try dsimp only at hS9
    obtain ⟨d0, d1⟩ := hS9
    go_simp
    try with_reducible rfl
  try simp only [Act.put, List.setIfInBounds_toArray, List.set_cons_zero, List.set_cons_succ, List.getElem_toArray, List.getElem_cons_zero, List.getElem_cons_succ]
  refine wpAnyH_take (i := 3) (v := ?_) rfl (by kernel_rfl) (by kernel_rfl) (by kernel_rfl) (fun _ _ _ h => h) (Or.inl ⟨by rfl, ?_⟩) hHeld ?_
  rotate_left
  · intro v9 hS9
    try dsimp only at hS9
    go_simp
    try with_reducible rfl
  try simp only [Act.put, List.setIfInBounds_toArray, List.set_cons_zero, List.set_cons_succ, List.getElem_toArray, List.getElem_cons_zero, List.getElem_cons_succ]
  refine wpAnyH_take (i := 4) (v := ?_) rfl (by kernel_rfl) (by kernel_rfl) (by kernel_rfl) (fun _ _ _ h => h) (Or.inl ⟨by rfl, ?_⟩) hHeld ?_
  rotate_left
  · intro v9 hS9
    try dsimp only at hS9
    obtain ⟨d0, d1⟩ := hS9
    go_simp
    try with_reducible rfl
  try simp only [Act.put, List.setIfInBounds_toArray, List.set_cons_zero, List.set_cons_succ, List.getElem_toArray, List.getElem_cons_zero, List.getElem_cons_succ]
  refine wpAnyH_ready (rs := [0]) (by kernel_rfl) (by simp) ?_
  refine (AllReadyH.cons rfl (fun K hK => ?_) AllReadyH.nil)
  ·
    go_simp
    refine hK.out _ _ (HS4.out) (fun hNext => ?_)
    clear hK K hHeld
    have hHeld := hNext
    clear hNext
    refine wpAnyH_ready (rs := [5]) (by kernel_rfl) (by simp) ?_
    refine (AllReadyH.cons rfl (fun K hK => ?_) AllReadyH.nil)
    ·
      have k5 := HC5.out
      have f5 := HF5.out
      go_simp
      refine hK.out _ _ (HS5.out) (fun hNext => ?_)
      clear hK K hHeld
      have hHeld := hNext
      clear hNext
      refine wpAnyH_ready (rs := [6]) (by kernel_rfl) (by simp) ?_
      refine (AllReadyH.cons rfl (fun K hK => ?_) AllReadyH.nil)
      ·
        have k6 := HC6.out
        have f6 := HF6.out
        go_simp
        refine hK.out _ _ (HS6.out) (fun hNext => ?_)
        clear hK K hHeld
        have hHeld := hNext
        clear hNext
        refine wpAnyH_ready (rs := [7]) (by kernel_rfl) (by simp) ?_
        refine (AllReadyH.cons rfl (fun K hK => ?_) AllReadyH.nil)
        ·
          have k7 := HC7.out
          have f7 := HF7.out
          go_simp
          refine hK.out _ _ (HS7.out) (fun hNext => ?_)
          clear hK K hHeld
          have hHeld := hNext
          clear hNext
          refine wpAnyH_done (by kernel_rfl) ?_ _
          go_wp2
          (rw [← HW7.out]; exact ⟨rfl, _, rfl, .tuple #[], by simp [results, Tryd.results26, go_sem], rfl, rfl, HE.out⟩)

end Go.Proofs.YtmghkeahlhlclaaDoor.Pr6
