import Derived.Defers
import Derived.Recover
import Derived.Laws.Pointers
import Derived.Deep.RegionHeld
import Derived.Test.YtiaimhgfimhepaaGreatDoorPkVV24
import Derived.Test.YtiaimhgfimhepaaGreatDoorPr4
namespace Go.Proofs.YtiaimhgfimhepaaGreatDoor
set_option maxRecDepth 100000
set_option maxHeartbeats 8000000
set_option linter.unusedVariables false
namespace Pr6
open Go.RowKit
open Nd0 Nd3 Tm0 Tx0 Tx1 Ss0 Ss1 Tb0 Px0 Pr1
theorem asNil (xT : TypeId) (W : World) : (Instr.typeAssert .nilIface xT 78 true).run Tryz.prog W = .ok (.tuple #[.agg #[.int .i64 0, .int .i64 0], .bool false]) W := by kernel_rfl
theorem asYes (xT : TypeId) (v : Value) (W : World) : (Instr.typeAssert (.iface 78 v) xT 78 true).run Tryz.prog W = .ok (.tuple #[v, .bool true]) W := by kernel_rfl
theorem catchIdle (p q r : Addr) (w : World) :
 CallsD Tryz.prog 45 #[.pointer (some p), .pointer (some q), .pointer (some r)] .returning w fun e u' w' => e = .returned (.tuple #[]) /\ u' = .returning /\ Below w.heap.size w w' := by
 refine callsD_of_wpS Tryz.func45 rfl fun c₀ cs hu => ?_
 apply wpS_seq
 apply wpS_region
 simp [wpOpsS, go_sem, recoverD, hu, Tryz.ntmps45, Exit.thenS, asNil]
 refine wpS_of_wp ?_
 change Code.wp _ _ _ { tmps := #[.pointer (some p), .pointer (some q), .pointer (some r), .pointer (some ⟨w.heap.size, 0, none⟩), .bool false, .tuple #[.agg #[.int .i64 0, .int .i64 0], .bool false], .nilIface, .tuple #[.agg #[.int .i64 0, .int .i64 0], .bool false], .agg #[.int .i64 0, .int .i64 0], .bool false, undef, undef, undef, undef, undef, undef], defers := [] } _
 go_wp2
 refine ⟨rfl, .returning, by cases c₀; simp_all, .tuple #[], by simp [results, Tryz.results45, go_sem], rfl, rfl, (Below.refl _ _).alloc (Nat.le_refl _) _⟩
theorem wp_tmps {P : Program} {c : Code} {Q : Exit -> Act -> World -> Prop} {T T' : Array Value} {d : List Deferred} {w : World} (h : T = T') (k : Code.wp P c Q ⟨T', d⟩ w) : Code.wp P c Q ⟨T, d⟩ w := h ▸ k
theorem set_far {w : World} {p q : Addr} {v : Value} (h : p.block ≠ q.block) : (w.setCell p v).cell? q = w.cell? q := set_other (fun e => h (by rw [e]))
theorem catchFail (pb qb rb : Nat) (x : Er) (older : List PanicEntry) (w : World) (hpq : pb ≠ qb) (hpr : pb ≠ rb) (hqr : qb ≠ rb) (u v y : Value)
 (hp : w.cell? ⟨pb, 0, none⟩ = some u) (hq : w.cell? ⟨qb, 0, none⟩ = some v) (hr : w.cell? ⟨rb, 0, none⟩ = some y) (fp : w.frozen? ⟨pb, 0, none⟩ = false) (fq : w.frozen? ⟨qb, 0, none⟩ = false) (fr : w.frozen? ⟨rb, 0, none⟩ = false) :
 CallsD Tryz.prog 45 #[.pointer (some ⟨pb, 0, none⟩), .pointer (some ⟨qb, 0, none⟩), .pointer (some ⟨rb, 0, none⟩)] (.panicking (fl x :: older)) w fun e u' w' =>
  e = .returned (.tuple #[]) /\ u' = .panicking ({ v := (fl x).v, recovered := true } :: older) /\ (∃ k, w'.cell? ⟨pb, 0, none⟩ = some (.slice (some ⟨k, 0, none⟩) 0 0)) /\ w'.cell? ⟨qb, 0, none⟩ = some (.int .i64 x.1) /\ w'.cell? ⟨rb, 0, none⟩ = some (.int .i64 (x.2 : Int)) /\ Kept (fun k => k = pb \/ k = qb \/ k = rb) w w' := by
 have hpl := lt_of_cell hp
 have hql := lt_of_cell hq
 have hrl := lt_of_cell hr
 simp only at hpl hql hrl
 obtain ⟨g, hg⟩ : ∃ g : Nat, g = w.heap.size := ⟨_, rfl⟩
 refine callsD_of_wpS Tryz.func45 rfl fun c₀ cs hu => ?_
 have HU : Hid (c₀.mode = .panicking (fl x :: older)) := hu
 unfold fl at hu
 apply wpS_seq
 apply wpS_region
 simp [wpOpsS, go_sem, recoverD, hu, Tryz.ntmps45, Exit.thenS, asYes]
 refine wpS_of_wp ?_
 rw [<- hg]
 refine wp_tmps (T' := #[.pointer (some ⟨pb, 0, none⟩), .pointer (some ⟨qb, 0, none⟩), .pointer (some ⟨rb, 0, none⟩), .pointer (some ⟨g, 0, none⟩), .bool true, .tuple #[.agg #[.int .i64 x.1, .int .i64 (x.2 : Int)], .bool true], .iface 78 (.agg #[.int .i64 x.1, .int .i64 (x.2 : Int)]), .tuple #[.agg #[.int .i64 x.1, .int .i64 (x.2 : Int)], .bool true], .agg #[.int .i64 x.1, .int .i64 (x.2 : Int)], .bool true, undef, undef, undef, undef, undef, undef]) (by simp [Array.replicate, List.replicate]) ?_
 obtain ⟨w1, hw1⟩ : ∃ w1 : World, w1 = w.alloc (.cells #[.int .i64 x.1, .int .i64 (x.2 : Int)] 78) := ⟨_, rfl⟩
 have hk1 : Kept (fun _ => False) w w1 := by rw [hw1]; exact (Kept.refl _ _).alloc _
 have s0 : w1.cell? ⟨g, 0, none⟩ = some (.int .i64 x.1) := by rw [hw1, hg, World.cell?_alloc_new]; rfl
 have s1 : w1.cell? ⟨g, 1, none⟩ = some (.int .i64 (x.2 : Int)) := by rw [hw1, hg, World.cell?_alloc_new]; rfl
 have hgs : g < w1.heap.size := lt_of_cell s0
 have n1 : pb ≠ g := by omega
 have n2 : qb ≠ g := by omega
 have n3 : rb ≠ g := by omega
 rw [<- hw1]
 have p1 : w1.cell? ⟨pb, 0, none⟩ = some u := by rw [hk1.cell (p := ⟨pb, 0, none⟩) hpl (fun e => e)]; exact hp
 have q1 : w1.cell? ⟨qb, 0, none⟩ = some v := by rw [hk1.cell (p := ⟨qb, 0, none⟩) hql (fun e => e)]; exact hq
 have r1 : w1.cell? ⟨rb, 0, none⟩ = some y := by rw [hk1.cell (p := ⟨rb, 0, none⟩) hrl (fun e => e)]; exact hr
 have fp1 : w1.frozen? ⟨pb, 0, none⟩ = false := by rw [hk1.frozen (p := ⟨pb, 0, none⟩) hpl (fun e => e)]; exact fp
 have fq1 : w1.frozen? ⟨qb, 0, none⟩ = false := by rw [hk1.frozen (p := ⟨qb, 0, none⟩) hql (fun e => e)]; exact fq
 have fr1 : w1.frozen? ⟨rb, 0, none⟩ = false := by rw [hk1.frozen (p := ⟨rb, 0, none⟩) hrl (fun e => e)]; exact fr
 obtain ⟨wa, hwa⟩ : ∃ wa : World, wa = w1.alloc (.cells #[] 33) := ⟨_, rfl⟩
 have hka : Kept (fun _ => False) w1 wa := by rw [hwa]; exact (Kept.refl _ _).alloc _
 have ha : ∀ {b o : Nat} {z : Value}, w1.cell? ⟨b, o, none⟩ = some z -> wa.cell? ⟨b, o, none⟩ = some z := fun h => by rw [hka.cell (p := ⟨_, _, none⟩) (lt_of_cell h) (fun e => e)]; exact h
 have hfa : ∀ {b : Nat}, b < w1.heap.size -> w1.frozen? ⟨b, 0, none⟩ = false -> wa.frozen? ⟨b, 0, none⟩ = false := fun hb h => by rw [hka.frozen (p := ⟨_, 0, none⟩) hb (fun e => e)]; exact h
 have HS0 : Hid (w1.drew.cell? ⟨g, 0, none⟩ = some (.int .i64 x.1) /\ w1.drew.cell? ⟨g, 1, none⟩ = some (.int .i64 (x.2 : Int))) := ⟨s0, s1⟩
 have HS4 : Hid ((w1.alloc (.cells #[] 33)).drew.cell? ⟨g, 0, none⟩ = some (.int .i64 x.1) /\ (w1.alloc (.cells #[] 33)).drew.cell? ⟨g, 1, none⟩ = some (.int .i64 (x.2 : Int))) := by rw [<- hwa]; exact (⟨ha s0, ha s1⟩ : wa.cell? _ = _ /\ wa.cell? _ = _)
 have HC5 : Hid ((w1.alloc (.cells #[] 33)).drew.cell? ⟨pb, 0, none⟩ = some u) := by rw [<- hwa]; exact (ha p1 : wa.cell? _ = _)
 have HF5 : Hid ((w1.alloc (.cells #[] 33)).drew.frozen? ⟨pb, 0, none⟩ = false) := by rw [<- hwa]; exact (hfa (lt_of_cell p1) fp1 : wa.frozen? _ = _)
 obtain ⟨w5, hw5⟩ : ∃ w5 : World, w5 = wa.setCell ⟨pb, 0, none⟩ (.slice (some ⟨w1.heap.size, 0, none⟩) 0 0) := ⟨_, rfl⟩
 obtain ⟨w6, hw6⟩ : ∃ w6 : World, w6 = w5.setCell ⟨qb, 0, none⟩ (.int .i64 x.1) := ⟨_, rfl⟩
 obtain ⟨w7, hw7⟩ : ∃ w7 : World, w7 = w6.setCell ⟨rb, 0, none⟩ (.int .i64 (x.2 : Int)) := ⟨_, rfl⟩
 have c5 : ∀ {b o : Nat} {z : Value}, pb ≠ b -> wa.cell? ⟨b, o, none⟩ = some z -> w5.cell? ⟨b, o, none⟩ = some z := fun hb h => by rw [hw5, set_far (by exact hb)]; exact h
 have c6 : ∀ {b o : Nat} {z : Value}, qb ≠ b -> w5.cell? ⟨b, o, none⟩ = some z -> w6.cell? ⟨b, o, none⟩ = some z := fun hb h => by rw [hw6, set_far (by exact hb)]; exact h
 have c7 : ∀ {b o : Nat} {z : Value}, rb ≠ b -> w6.cell? ⟨b, o, none⟩ = some z -> w7.cell? ⟨b, o, none⟩ = some z := fun hb h => by rw [hw7, set_far (by exact hb)]; exact h
 have HS5 : Hid (w5.drew.cell? ⟨g, 0, none⟩ = some (.int .i64 x.1) /\ w5.drew.cell? ⟨g, 1, none⟩ = some (.int .i64 (x.2 : Int))) := ⟨c5 n1 (ha s0), c5 n1 (ha s1)⟩
 have HC6 : Hid (w5.drew.cell? ⟨qb, 0, none⟩ = some v) := c5 hpq (ha q1)
 have HF6 : Hid (w5.drew.frozen? ⟨qb, 0, none⟩ = false) := by show w5.frozen? _ = _; rw [hw5, World.frozen?_setCell]; exact hfa (lt_of_cell q1) fq1
 have HS6 : Hid (w6.drew.cell? ⟨g, 0, none⟩ = some (.int .i64 x.1) /\ w6.drew.cell? ⟨g, 1, none⟩ = some (.int .i64 (x.2 : Int))) := ⟨c6 n2 (show w5.cell? _ = _ from HS5.out.1), c6 n2 (show w5.cell? _ = _ from HS5.out.2)⟩
 have HC7 : Hid (w6.drew.cell? ⟨rb, 0, none⟩ = some y) := c6 hqr (c5 hpr (ha r1))
 have HF7 : Hid (w6.drew.frozen? ⟨rb, 0, none⟩ = false) := by show w6.frozen? _ = _; rw [hw6, World.frozen?_setCell, hw5, World.frozen?_setCell]; exact hfa (lt_of_cell r1) fr1
 have HS7 : Hid (w7.drew.cell? ⟨g, 0, none⟩ = some (.int .i64 x.1) /\ w7.drew.cell? ⟨g, 1, none⟩ = some (.int .i64 (x.2 : Int))) := ⟨c7 n3 (show w6.cell? _ = _ from HS6.out.1), c7 n3 (show w6.cell? _ = _ from HS6.out.2)⟩
 have HE : Hid ((∃ k, w7.drew.cell? ⟨pb, 0, none⟩ = some (.slice (some ⟨k, 0, none⟩) 0 0)) /\ w7.drew.cell? ⟨qb, 0, none⟩ = some (.int .i64 x.1) /\ w7.drew.cell? ⟨rb, 0, none⟩ = some (.int .i64 (x.2 : Int)) /\ Kept (fun k => k = pb \/ k = qb \/ k = rb) w w7.drew) := by
  refine ⟨⟨w1.heap.size, ?_⟩, ?_, ?_, ?_⟩
  ·exact c7 hpr.symm (c6 hpq.symm (by rw [hw5]; exact set_same (ha p1)))
  ·exact c7 hqr.symm (by rw [hw6]; exact set_same (c5 hpq (ha q1)))
  ·show w7.cell? _ = _; rw [hw7]; exact set_same (show w6.cell? _ = _ from HC7.out)
  ·have k5 : Kept (fun k => k = pb \/ k = qb \/ k = rb) w w5 := by
    rw [hw5]
    exact (((⟨hk1.os, hk1.tape, hk1.output, hk1.size, fun i hi _ => hk1.block i hi (fun e => e)⟩ : Kept (fun k => k = pb \/ k = qb \/ k = rb) w w1).trans ⟨hka.os, hka.tape, hka.output, hka.size, fun i hi _ => hka.block i hi (fun e => e)⟩)).setCell (p := ⟨pb, 0, none⟩) (.inl rfl) _
   have k6 : Kept (fun k => k = pb \/ k = qb \/ k = rb) w w6 := by rw [hw6]; exact k5.setCell (p := ⟨qb, 0, none⟩) (.inr (.inl rfl)) _
   have k7 : Kept (fun k => k = pb \/ k = qb \/ k = rb) w w7 := by rw [hw7]; exact k6.setCell (p := ⟨rb, 0, none⟩) (.inr (.inr rfl)) _
   exact k7.drewN 1
 have HW7 : Hid (w7 = (((w1.alloc (.cells #[] 33)).setCell ⟨pb, 0, none⟩ (.slice (some ⟨w1.heap.size, 0, none⟩) 0 0)).setCell ⟨qb, 0, none⟩ (.int .i64 x.1)).setCell ⟨rb, 0, none⟩ (.int .i64 (x.2 : Int))) := by show _ = _; rw [hw7, hw6, hw5, hwa]
 rw [hw7, hw6, hw5, hwa] at HS7
 rw [hw6, hw5, hwa] at HC7 HF7 HS6
 rw [hw5, hwa] at HC6 HF6 HS5
 clear hw5 hw6 hw7 hwa c5 c6 c7 ha hfa hka hk1 p1 q1 r1 fp1 fq1 fr1 s0 s1 hp hq hr fp fq fr hw1 hg
 go_wp2
 refine wp_region_held_drew (S := fun u => u.cell? ⟨g, 0, none⟩ = some (.int .i64 x.1) /\ u.cell? ⟨g, 1, none⟩ = some (.int .i64 (x.2 : Int))) (by kernel_rfl) HS0.out (fun hHeld => ?_)
 refine wpAnyH_take (i := 1) (v := ?_) rfl (by kernel_rfl) (by kernel_rfl) (by kernel_rfl) (fun _ _ _ h => h) (Or.inl ⟨by rfl, ?_⟩) hHeld ?_
 rotate_left
 ·intro v9 hS9
  try dsimp only at hS9
  go_simp
  try with_reducible rfl
 try simp only [Act.put, List.setIfInBounds_toArray, List.set_cons_zero, List.set_cons_succ, List.getElem_toArray, List.getElem_cons_zero, List.getElem_cons_succ]
 refine wpAnyH_take (i := 2) (v := ?_) rfl (by kernel_rfl) (by kernel_rfl) (by kernel_rfl) (fun _ _ _ h => h) (Or.inl ⟨by rfl, ?_⟩) hHeld ?_
 rotate_left
 ·intro v9 hS9
  try dsimp only at hS9
  obtain ⟨d0, d1⟩ := hS9
  go_simp
  try with_reducible rfl
 try simp only [Act.put, List.setIfInBounds_toArray, List.set_cons_zero, List.set_cons_succ, List.getElem_toArray, List.getElem_cons_zero, List.getElem_cons_succ]
 refine wpAnyH_take (i := 3) (v := ?_) rfl (by kernel_rfl) (by kernel_rfl) (by kernel_rfl) (fun _ _ _ h => h) (Or.inl ⟨by rfl, ?_⟩) hHeld ?_
 rotate_left
 ·intro v9 hS9
  try dsimp only at hS9
  go_simp
  try with_reducible rfl
 try simp only [Act.put, List.setIfInBounds_toArray, List.set_cons_zero, List.set_cons_succ, List.getElem_toArray, List.getElem_cons_zero, List.getElem_cons_succ]
 refine wpAnyH_take (i := 4) (v := ?_) rfl (by kernel_rfl) (by kernel_rfl) (by kernel_rfl) (fun _ _ _ h => h) (Or.inl ⟨by rfl, ?_⟩) hHeld ?_
 rotate_left
 ·intro v9 hS9
  try dsimp only at hS9
  obtain ⟨d0, d1⟩ := hS9
  go_simp
  try with_reducible rfl
 try simp only [Act.put, List.setIfInBounds_toArray, List.set_cons_zero, List.set_cons_succ, List.getElem_toArray, List.getElem_cons_zero, List.getElem_cons_succ]
 refine wpAnyH_ready (rs := [0]) (by kernel_rfl) (by simp) ?_
 refine (AllReadyH.cons rfl (fun K hK => ?_) AllReadyH.nil)
 ·
  go_simp
  refine hK.out _ _ (HS4.out) (fun hNext => ?_)
  clear hK K hHeld
  have hHeld := hNext
  clear hNext
  refine wpAnyH_ready (rs := [5]) (by kernel_rfl) (by simp) ?_
  refine (AllReadyH.cons rfl (fun K hK => ?_) AllReadyH.nil)
  ·
   have k5 := HC5.out
   have f5 := HF5.out
   go_simp
   refine hK.out _ _ (HS5.out) (fun hNext => ?_)
   clear hK K hHeld
   have hHeld := hNext
   clear hNext
   refine wpAnyH_ready (rs := [6]) (by kernel_rfl) (by simp) ?_
   refine (AllReadyH.cons rfl (fun K hK => ?_) AllReadyH.nil)
   ·
    have k6 := HC6.out
    have f6 := HF6.out
    go_simp
    refine hK.out _ _ (HS6.out) (fun hNext => ?_)
    clear hK K hHeld
    have hHeld := hNext
    clear hNext
    refine wpAnyH_ready (rs := [7]) (by kernel_rfl) (by simp) ?_
    refine (AllReadyH.cons rfl (fun K hK => ?_) AllReadyH.nil)
    ·
     have k7 := HC7.out
     have f7 := HF7.out
     go_simp
     refine hK.out _ _ (HS7.out) (fun hNext => ?_)
     clear hK K hHeld
     have hHeld := hNext
     clear hNext
     refine wpAnyH_done (by kernel_rfl) ?_ _
     go_wp2
     (rw [<- HW7.out]; exact ⟨rfl, _, rfl, .tuple #[], by simp [results, Tryz.results45, go_sem], rfl, rfl, HE.out⟩)
end Pr6
namespace Pr7
open Go.RowKit
open Nd0 Nd3 Ap2 Tm0 Tx0 Tx1 Ss0 Ss1 Tb0 Tb1 Px0 Pr1 Pr2 Mp0 Pr4 Pr6 Ic3
def PPost (w : World) (s : List UInt8) (e : Ending) (w' : World) : Prop :=
 ∃ (a : Option Addr) (c : Nat), e = .returned (.tuple #[.slice a (pRead s).1.length c, .int .i64 (pRead s).2.1, .int .i64 (pRead s).2.2]) /\ WNodes w' w.heap.size a (pRead s).1 /\ Below w.heap.size w w' /\ (pRead s).1.length <= c
theorem own_room {w : World} {B n c : Nat} {a : Option Addr} {L : List Nd} (h : Ap2.Own w B (.slice a n c) L) : L.length <= c := by
 obtain ⟨h1, h2⟩ := h
 rcases h2 with ⟨h0, h9⟩ | ⟨g', cap, cur, he, hb, hg, hn, rest⟩
 ·cases h0; omega
 ·cases he; exact hn
def W0 (w : World) (S : ByteArray) : World :=
 ((((w.alloc (.cells #[.slice none 0 0] 24)).alloc (.cells #[.int .i64 0] 3)).alloc (.cells #[.int .i64 0] 3)).alloc (.map #[] 0)).alloc (.cells #[.string S, .int .i64 0, .slice none 0 0, .map (some (w.heap.size + 1 + 1 + 1))] 83)
theorem W0_kept (w : World) (S : ByteArray) : Kept (fun _ => False) w (W0 w S) := (((((Kept.refl _ w).alloc _).alloc _).alloc _).alloc _).alloc _
theorem W0_size (w : World) (S : ByteArray) : (W0 w S).heap.size = w.heap.size + 5 := by unfold W0; simp
theorem W0_c (w : World) (S : ByteArray) : (W0 w S).cell? ⟨w.heap.size, 0, none⟩ = some (.slice none 0 0) /\ (W0 w S).cell? ⟨w.heap.size + 1, 0, none⟩ = some (.int .i64 0) /\ (W0 w S).cell? ⟨w.heap.size + 1 + 1, 0, none⟩ = some (.int .i64 0) /\ (W0 w S).frozen? ⟨w.heap.size, 0, none⟩ = false /\ (W0 w S).frozen? ⟨w.heap.size + 1, 0, none⟩ = false /\ (W0 w S).frozen? ⟨w.heap.size + 1 + 1, 0, none⟩ = false := by
 unfold W0
 simp [go_sem]
theorem W0_rb (w : World) (S : ByteArray) : RB (W0 w S) (w.heap.size + 1 + 1 + 1 + 1) S 0 (.slice none 0 0) (w.heap.size + 1 + 1 + 1) := by
 unfold W0
 constructor <;> simp [go_sem]
theorem W0_pr (w : World) (S : ByteArray) : PR (W0 w S) w.heap.size (w.heap.size + 1 + 1 + 1 + 1) S 0 [] (w.heap.size + 1 + 1 + 1) (fun k => k < w.heap.size + 3) := by
 refine ⟨⟨_, W0_rb w S, ⟨rfl, .inl ⟨rfl, rfl⟩⟩, fun k hk => by cases hk⟩, ?_, by omega, by omega, by omega, by omega, by omega, ⟨by simp, fun k hk => by simp at hk⟩, Nat.zero_le _, fun k hk => by rw [W0_size]; omega, fun n hn => by cases hn⟩
 have h := Mp.new (((w.alloc (.cells #[.slice none 0 0] 24)).alloc (.cells #[.int .i64 0] 3)).alloc (.cells #[.int .i64 0] 3))
 have e : (((w.alloc (.cells #[.slice none 0 0] 24)).alloc (.cells #[.int .i64 0] 3)).alloc (.cells #[.int .i64 0] 3)).heap.size = w.heap.size + 1 + 1 + 1 := by simp
 rw [e] at h
 exact h.kept (S := fun _ => False) ((Kept.refl _ _).alloc _) (fun e => e)
theorem fail_end (w w5 : World) (S : ByteArray) (x : Er) (T : Array Value) (hT2 : T[2]?.getD undef = .pointer (some ⟨w.heap.size, 0, none⟩)) (hT3 : T[3]?.getD undef = .pointer (some ⟨w.heap.size + 1, 0, none⟩)) (hT4 : T[4]?.getD undef = .pointer (some ⟨w.heap.size + 1 + 1, 0, none⟩))
 (hK : Kept (fun k => ¬ k < w.heap.size + 3) (W0 w S) w5) (hp : pRead (tl S) = ([], x.1, (x.2 : Int))) :
 Leaves Tryz.prog Tryz.f26 T (PPost w (tl S)) [{ target := .fn (.func 45) #[.pointer (some ⟨w.heap.size, 0, none⟩), .pointer (some ⟨w.heap.size + 1, 0, none⟩), .pointer (some ⟨w.heap.size + 1 + 1, 0, none⟩)], args := #[] }] (.panicking [fl x]) w5 := by
 have hc := W0_c w S
 have hsz := W0_size w S
 have F0 : ¬ ¬ w.heap.size < w.heap.size + 3 := by omega
 have F1 : ¬ ¬ w.heap.size + 1 < w.heap.size + 3 := by omega
 have F2 : ¬ ¬ w.heap.size + 1 + 1 < w.heap.size + 3 := by omega
 have d0 : w5.cell? ⟨w.heap.size, 0, none⟩ = some (.slice none 0 0) := by rw [hK.cell (p := ⟨w.heap.size, 0, none⟩) (by show w.heap.size < (W0 w S).heap.size; omega) F0]; exact hc.1
 have d1 : w5.cell? ⟨w.heap.size + 1, 0, none⟩ = some (.int .i64 0) := by rw [hK.cell (p := ⟨w.heap.size + 1, 0, none⟩) (by show w.heap.size + 1 < (W0 w S).heap.size; omega) F1]; exact hc.2.1
 have d2 : w5.cell? ⟨w.heap.size + 1 + 1, 0, none⟩ = some (.int .i64 0) := by rw [hK.cell (p := ⟨w.heap.size + 1 + 1, 0, none⟩) (by show w.heap.size + 1 + 1 < (W0 w S).heap.size; omega) F2]; exact hc.2.2.1
 have f0 : w5.frozen? ⟨w.heap.size, 0, none⟩ = false := by rw [hK.frozen (p := ⟨w.heap.size, 0, none⟩) (by show w.heap.size < (W0 w S).heap.size; omega) F0]; exact hc.2.2.2.1
 have f1 : w5.frozen? ⟨w.heap.size + 1, 0, none⟩ = false := by rw [hK.frozen (p := ⟨w.heap.size + 1, 0, none⟩) (by show w.heap.size + 1 < (W0 w S).heap.size; omega) F1]; exact hc.2.2.2.2.1
 have f2 : w5.frozen? ⟨w.heap.size + 1 + 1, 0, none⟩ = false := by rw [hK.frozen (p := ⟨w.heap.size + 1 + 1, 0, none⟩) (by show w.heap.size + 1 + 1 < (W0 w S).heap.size; omega) F2]; exact hc.2.2.2.2.2
 refine leaves_cons (f := 45) (args := #[.pointer (some ⟨w.heap.size, 0, none⟩), .pointer (some ⟨w.heap.size + 1, 0, none⟩), .pointer (some ⟨w.heap.size + 1 + 1, 0, none⟩)]) (by simp) (by simp [go_sem]) ?_
 refine (catchFail w.heap.size (w.heap.size + 1) (w.heap.size + 1 + 1) x [] w5 (by omega) (by omega) (by omega) _ _ _ d0 d1 d2 f0 f1 f2).mono ?_
 rintro e u' w' ⟨rfl, rfl, ⟨k, h1⟩, h2, h3, hk⟩
 refine ⟨.tuple #[.slice (some ⟨k, 0, none⟩) 0 0, .int .i64 x.1, .int .i64 (x.2 : Int)], by simp [results, Tryz.results26, go_sem, hT2, hT3, hT4, h1, h2, h3], ?_⟩
 have k0 := W0_kept w S
 unfold PPost
 rw [hp]
 refine ⟨_, _, rfl, ⟨Nat.zero_le _, .inl rfl⟩, ⟨hk.os.trans (hK.os.trans k0.os), hk.tape.trans (hK.tape.trans k0.tape), hk.output.trans (hK.output.trans k0.output), Nat.le_trans k0.size (Nat.le_trans hK.size hk.size), fun i hi => ?_⟩, Nat.zero_le _⟩
 have h5 : i < (W0 w S).heap.size := Nat.lt_of_lt_of_le hi k0.size
 rw [hk.block i (Nat.lt_of_lt_of_le h5 hK.size) (by omega), hK.block i h5 (by omega), k0.block i hi (fun e => e)]
theorem iReadP (hND : ∀ f, INode f) (w : World) (S : ByteArray) (hT : TabR w) (hS : S.size <= 2097152) : Calls Tryz.prog 26 #[.string S] w (PPost w (tl S)) := by
 have HND : Hid (∀ f, INode f) := hND
 have HT : Hid (TabR w) := hT
 have hmf : ∀ (fn : Fn) (first cap : Array Value) (w : World), (Instr.makeFunc fn first cap).run Tryz.prog w = .ok (.func fn first cap) w := fun _ _ _ _ => rfl
 have hmm := @run_makeMap Tryz.prog
 clear hND hT
 by_cases h4 : 4000 < S.size
 ·have h4z : (4000 : Int) < (S.size : Int) := by omega
  have HP : Hid (pRead (tl S) = ([], 1, 0)) := by show _ = _; unfold pRead; rw [if_pos (by rw [tl_length]; exact h4)]
  go_enter_defers Tryz.func26, Tryz.ntmps26
  go_wp2
  refine ⟨.tuple #[.slice (some ⟨w.heap.size + 1 + 1 + 1, 0, none⟩) 0 0, .int .i64 1, .int .i64 0], by simp [results, Tryz.results26, go_sem], ?_⟩
  unfold PPost
  rw [HP.out]
  exact ⟨_, _, rfl, ⟨Nat.zero_le _, .inl rfl⟩, ((((Below.refl _ _).alloc (Nat.le_refl _) _).alloc (by simp) _).alloc (by simp; omega) _).alloc (by simp; omega) _, Nat.zero_le _⟩
 ·have h4z : ¬ (4000 : Int) < (S.size : Int) := by omega
  have hs4 : S.size <= 4000 := by omega
  have HP : Hid (pRead (tl S) = match pNode (tl S) (S.size + 1) (0, []) with | .error x => ([], x.1, (x.2 : Int)) | .ok y => if y.2.1 < S.size then ([], 5, (y.2.1 : Int)) else (y.2.2, 0, 0)) := by
   show _ = _
   unfold pRead
   rw [if_neg (by rw [tl_length]; omega), tl_length]
   cases pNode (tl S) (S.size + 1) (0, []) <;> rfl
  have HTW : Hid (∀ w', Below w.heap.size (W0 w S) w' -> TabR w') := fun w' hb => HT.out.below ((⟨(W0_kept w S).os, (W0_kept w S).tape, (W0_kept w S).output, (W0_kept w S).size, fun i hi => (W0_kept w S).block i hi (fun e => e)⟩ : Below w.heap.size w (W0 w S)).trans hb)
  clear h4
  go_enter_defers Tryz.func26, Tryz.ntmps26
  go_wp2_with fail
  refine (HND.out (S.size + 1) (W0 w S) w.heap.size (w.heap.size + 1 + 1 + 1 + 1) S 0 [] (w.heap.size + 1 + 1 + 1) (fun k => k < w.heap.size + 3) (W0_pr w S) (fun k hk => by show k < w.heap.size + 3; omega) HTW.out hs4 (by omega)).mono ?_
  rintro e w5 ⟨ho, hk⟩
  have HK : Hid (Kept (fun k => ¬ k < w.heap.size + 3) (W0 w S) w5) := hk
  clear hk
  cases hn : pNode (tl S) (S.size + 1) (0, []) with
  | error x =>
    obtain rfl := ho.2 x hn
    have HE : Hid (pRead (tl S) = ([], x.1, (x.2 : Int))) := by show _ = _; rw [HP.out, hn]
    clear ho hn
    go_wp2
    exact fail_end w w5 S x _ rfl rfl rfl HK.out HE.out
  | ok y =>
    obtain ⟨rfl, hpr⟩ := ho.1 y hn
    have HPR : Hid (PR w5 w.heap.size (w.heap.size + 1 + 1 + 1 + 1) S y.2.1 y.2.2 (w.heap.size + 1 + 1 + 1) (fun k => k < w.heap.size + 3)) := hpr
    have HE : Hid (pRead (tl S) = if y.2.1 < S.size then ([], 5, (y.2.1 : Int)) else (y.2.2, 0, 0)) := by show _ = _; rw [HP.out, hn]
    obtain ⟨v, hrb, hown, hvb⟩ := hpr.ex
    obtain ⟨a, c, rfl, hwn⟩ := hown.form
    have m1 := hrb.c1
    have m2 := hrb.c2
    have HOW : Hid (Ap2.Own w5 w.heap.size (.slice a y.2.2.length c) y.2.2) := hown
    have HVB : Hid (∀ k, (Value.slice a y.2.2.length c).ownBlock = some k -> ¬ k < w.heap.size + 3) := fun k hk => (hvb k hk).1
    clear ho hn hpr hrb hown hvb hwn
    by_cases hlt : y.2.1 < S.size
    ·have hlz : (y.2.1 : Int) < (S.size : Int) := by omega
     have HE2 : Hid (pRead (tl S) = ([], 5, (y.2.1 : Int))) := by show _ = _; rw [HE.out, if_pos hlt]
     go_wp2_with fail
     refine (iFail _ _ _).mono ?_
     rintro e w' ⟨rfl, rfl⟩
     go_wp2
     exact fail_end w _ S (5, y.2.1) _ rfl rfl rfl HK.out HE2.out
    ·have hlz : ¬ (y.2.1 : Int) < (S.size : Int) := by omega
     have HE2 : Hid (pRead (tl S) = (y.2.2, 0, 0)) := by show _ = _; rw [HE.out, if_neg hlt]
     have hc := W0_c w S
     have hsz := W0_size w S
     have F0 : ¬ ¬ w.heap.size < w.heap.size + 3 := by omega
     have F1 : ¬ ¬ w.heap.size + 1 < w.heap.size + 3 := by omega
     have F2 : ¬ ¬ w.heap.size + 1 + 1 < w.heap.size + 3 := by omega
     have d0 : w5.cell? ⟨w.heap.size, 0, none⟩ = some (.slice none 0 0) := by rw [HK.out.cell (p := ⟨w.heap.size, 0, none⟩) (by show w.heap.size < (W0 w S).heap.size; omega) F0]; exact hc.1
     have d1 : w5.cell? ⟨w.heap.size + 1, 0, none⟩ = some (.int .i64 0) := by rw [HK.out.cell (p := ⟨w.heap.size + 1, 0, none⟩) (by show w.heap.size + 1 < (W0 w S).heap.size; omega) F1]; exact hc.2.1
     have d2 : w5.cell? ⟨w.heap.size + 1 + 1, 0, none⟩ = some (.int .i64 0) := by rw [HK.out.cell (p := ⟨w.heap.size + 1 + 1, 0, none⟩) (by show w.heap.size + 1 + 1 < (W0 w S).heap.size; omega) F2]; exact hc.2.2.1
     have f0 : w5.frozen? ⟨w.heap.size, 0, none⟩ = false := by rw [HK.out.frozen (p := ⟨w.heap.size, 0, none⟩) (by show w.heap.size < (W0 w S).heap.size; omega) F0]; exact hc.2.2.2.1
     have f1 : w5.frozen? ⟨w.heap.size + 1, 0, none⟩ = false := by rw [HK.out.frozen (p := ⟨w.heap.size + 1, 0, none⟩) (by show w.heap.size + 1 < (W0 w S).heap.size; omega) F1]; exact hc.2.2.2.2.1
     have f2 : w5.frozen? ⟨w.heap.size + 1 + 1, 0, none⟩ = false := by rw [HK.out.frozen (p := ⟨w.heap.size + 1 + 1, 0, none⟩) (by show w.heap.size + 1 + 1 < (W0 w S).heap.size; omega) F2]; exact hc.2.2.2.2.2
     clear hc hsz F0 F1 F2 hlt
     obtain ⟨wz, hwz⟩ : ∃ wz : World, wz = ((w5.setCell ⟨w.heap.size, 0, none⟩ (.slice a y.2.2.length c)).setCell ⟨w.heap.size + 1, 0, none⟩ (.int .i64 0)).setCell ⟨w.heap.size + 1 + 1, 0, none⟩ (.int .i64 0) := ⟨_, rfl⟩
     have g1 : w.heap.size ≠ w.heap.size + 1 := by omega
     have g2 : w.heap.size ≠ w.heap.size + 1 + 1 := by omega
     have g3 : w.heap.size + 1 ≠ w.heap.size + 1 + 1 := by omega
     have Z0 : Hid (wz.cell? ⟨w.heap.size, 0, none⟩ = some (.slice a y.2.2.length c)) := by
      show _ = _
      rw [hwz, set_far (by exact g2.symm), set_far (by exact g1.symm)]; exact set_same d0
     have Z1 : Hid (wz.cell? ⟨w.heap.size + 1, 0, none⟩ = some (.int .i64 0)) := by
      show _ = _
      rw [hwz, set_far (by exact g3.symm)]; exact set_same (by rw [set_far (by exact g1)]; exact d1)
     have Z2 : Hid (wz.cell? ⟨w.heap.size + 1 + 1, 0, none⟩ = some (.int .i64 0)) := by
      show _ = _
      rw [hwz]; exact set_same (by rw [set_far (by exact g3), set_far (by exact g2)]; exact d2)
     have HKZ : Hid (Kept (fun k => k = w.heap.size \/ k = w.heap.size + 1 \/ k = w.heap.size + 1 + 1) w5 wz) := by
      show Kept _ _ _
      rw [hwz]
      exact (((Kept.refl _ w5).setCell (p := ⟨w.heap.size, 0, none⟩) (.inl rfl) _).setCell (p := ⟨w.heap.size + 1, 0, none⟩) (.inr (.inl rfl)) _).setCell (p := ⟨w.heap.size + 1 + 1, 0, none⟩) (.inr (.inr rfl)) _
     have HWZ : Hid (wz = ((w5.setCell ⟨w.heap.size, 0, none⟩ (.slice a y.2.2.length c)).setCell ⟨w.heap.size + 1, 0, none⟩ (.int .i64 0)).setCell ⟨w.heap.size + 1 + 1, 0, none⟩ (.int .i64 0)) := hwz
     clear hwz g1 g2 g3
     go_wp2
     rw [<- HWZ.out]
     refine leaves_cons (f := 45) (args := #[.pointer (some ⟨w.heap.size, 0, none⟩), .pointer (some ⟨w.heap.size + 1, 0, none⟩), .pointer (some ⟨w.heap.size + 1 + 1, 0, none⟩)]) (by simp) (by simp [go_sem]) ?_
     refine (catchIdle _ _ _ _).mono ?_
     rintro e u' w6 ⟨rfl, rfl, hb6⟩
     have z0 : w6.cell? ⟨w.heap.size, 0, none⟩ = some (.slice a y.2.2.length c) := by rw [hb6.cell (p := ⟨w.heap.size, 0, none⟩) (lt_of_cell Z0.out)]; exact Z0.out
     have z1 : w6.cell? ⟨w.heap.size + 1, 0, none⟩ = some (.int .i64 0) := by rw [hb6.cell (p := ⟨w.heap.size + 1, 0, none⟩) (lt_of_cell Z1.out)]; exact Z1.out
     have z2 : w6.cell? ⟨w.heap.size + 1 + 1, 0, none⟩ = some (.int .i64 0) := by rw [hb6.cell (p := ⟨w.heap.size + 1 + 1, 0, none⟩) (lt_of_cell Z2.out)]; exact Z2.out
     refine ⟨.tuple #[.slice a y.2.2.length c, .int .i64 0, .int .i64 0], by simp [results, Tryz.results26, go_sem, z0, z1, z2], ?_⟩
     have k0 := W0_kept w S
     have hK := HK.out
     have hkz := HKZ.out
     have ho6 : Ap2.Own w6 w.heap.size (.slice a y.2.2.length c) y.2.2 := (HOW.out.kept hkz (fun k hk e => by have := HVB.out k hk; omega)).kept (S := fun _ => False) (Kept.ofBelow hb6) (fun _ _ e => e)
     obtain ⟨a', c', hv, hwn⟩ := ho6.form
     cases hv
     unfold PPost
     rw [HE2.out]
     refine ⟨a, c, rfl, hwn, ⟨hb6.os.trans (hkz.os.trans (hK.os.trans k0.os)), hb6.tape.trans (hkz.tape.trans (hK.tape.trans k0.tape)), hb6.output.trans (hkz.output.trans (hK.output.trans k0.output)), Nat.le_trans k0.size (Nat.le_trans hK.size (Nat.le_trans hkz.size hb6.size)), fun i hi => ?_⟩, own_room ho6⟩
     have h5 : i < (W0 w S).heap.size := Nat.lt_of_lt_of_le hi k0.size
     have h6 : i < w5.heap.size := Nat.lt_of_lt_of_le h5 hK.size
     rw [hb6.block i (Nat.lt_of_lt_of_le h6 hkz.size), hkz.block i h6 (by omega), hK.block i h5 (by omega), k0.block i hi (fun e => e)]
end Pr7
namespace Pr8
open Go.RowKit
open Nd0 Nd3 Ap2 Tm0 Tx0 Tx1 Ss0 Ss1 Tb0 Tb1 Px0 Pr1 Pr2 Mp0 Pr4
open Ws1 (ret_int ret_bool)
theorem at_node {w : World} {b o : Nat} {t : List Nd} (h : Nodes w (some ⟨b, o, none⟩) t) {x : Nat} (hx : x < t.length) : w.cell? ⟨b, o + x * 6 + 1, none⟩ = some (.int .i64 (nth t x).w) := by
 rcases h.2 with e | ⟨b', o', he, hc⟩
 ·omega
 ·cases he
  have := (hc x hx).c1
  rw [nth_get hx] at this
  exact this
theorem some_of {w : World} {a : Option Addr} {t : List Nd} (h : Nodes w a t) {x : Nat} (hx : x < t.length) : ∃ b o, a = some ⟨b, o, none⟩ := by
 rcases h.2 with e | ⟨b', o', he, hc⟩
 ·omega
 ·exact ⟨b', o', he⟩
theorem iWidth (w : World) (b : Nat) (S : ByteArray) (p : Nat) (a : Option Addr) (c bm : Nat) (t : List Nd) (n : Nd) (h : RB w b S p (.slice a t.length c) bm) (hN : Nodes w a t) (hl : t.length <= 80) (hw : ∀ j, j < t.length -> 1 <= (nth t j).w /\ (nth t j).w <= 8)
 (ha : 2 <= n.op /\ n.op <= 12 \/ n.op = 16 -> 0 <= n.a /\ n.a < t.length) (hb : n.op = 16 \/ n.op = 18 -> 0 <= n.b /\ n.b < t.length) :
 Calls Tryz.prog 69 #[.pointer (some ⟨b, 0, none⟩), .agg #[.int .i64 n.op, .int .i64 n.w, .int .i64 n.k, .int .i64 n.a, .int .i64 n.b, .int .i64 n.c]] w fun e w' => e = .returned (.int .i64 (pWid t n)) /\ Below w.heap.size w w' := by
 obtain ⟨w1, hw1⟩ : ∃ w1 : World, w1 = w.alloc (.cells #[.int .i64 n.op, .int .i64 n.w, .int .i64 n.k, .int .i64 n.a, .int .i64 n.b, .int .i64 n.c] 33) := ⟨_, rfl⟩
 have hb1 : Below w.heap.size w w1 := by rw [hw1]; exact (Below.refl _ _).alloc (Nat.le_refl _) _
 have HB1 : Hid (Below w.heap.size w w1) := hb1
 obtain ⟨bn, hbn⟩ : ∃ bn : Nat, bn = w.heap.size := ⟨_, rfl⟩
 have hnd : NodeAt w1 bn 0 n := by rw [hw1]; exact Dw4.node_new w n 33 bn hbn 0 (by simp)
 have hrb := h.below hb1
 have hn1 := hN.below hb1
 have m2 := hrb.c2
 have e0 := hnd.c0
 have e1 := hnd.c1
 have e3 := hnd.c3
 have e4 := hnd.c4
 simp only [Nat.zero_add] at e1 e3 e4
 have HW1 : Hid (w1 = w.alloc (.cells #[.int .i64 n.op, .int .i64 n.w, .int .i64 n.k, .int .i64 n.a, .int .i64 n.b, .int .i64 n.c] 33)) := hw1
 have HBQ : Hid (∀ k, Below w.heap.size w (w1.drewN k)) := fun k => ⟨hb1.os, hb1.tape, hb1.output, hb1.size, hb1.block⟩
 clear hw1 hb1 hnd h hN hrb
 by_cases h2 : 2 <= n.op /\ n.op <= 12
 ·obtain ⟨h00, h01⟩ := ha (.inl h2)
  obtain ⟨x, hx⟩ : ∃ x : Nat, n.a = (x : Int) := ⟨n.a.toNat, by omega⟩
  have hxl : x < t.length := by omega
  obtain ⟨tb, to', rfl⟩ := some_of hn1 hxl
  have q0 := at_node hn1 hxl
  have hxz : (x : Int) < (t.length : Int) := by omega
  have HE : Hid (pWid t n = (nth t x).w) := by
   show _ = _
   unfold pWid
   rw [if_pos h2]
   rw [hx, Int.toNat_natCast]
  rw [hx] at e3
  obtain ⟨g1, g2⟩ := h2
  clear hn1 ha hb hw h00 h01 hx
  go_enter Tryz.func69, Tryz.ntmps69
  go_wp2
  rw [<- HW1.out, <- hbn]
  clear hbn
  go_quiet (fail)
  go_wp2
  go_ret
  exact ⟨ret_int HE.out.symm, HBQ.out _⟩
 have hd2 : ¬ (2 <= n.op) \/ (2 <= n.op /\ ¬ n.op <= 12) := by omega
 by_cases h16 : n.op = 16
 ·obtain ⟨h00, h01⟩ := ha (.inr h16)
  obtain ⟨k00, k01⟩ := hb (.inl h16)
  obtain ⟨x, hx⟩ : ∃ x : Nat, n.a = (x : Int) := ⟨n.a.toNat, by omega⟩
  obtain ⟨y, hy⟩ : ∃ y : Nat, n.b = (y : Int) := ⟨n.b.toNat, by omega⟩
  have hxl : x < t.length := by omega
  have hyl : y < t.length := by omega
  obtain ⟨tb, to', rfl⟩ := some_of hn1 hxl
  have q0 := at_node hn1 hxl
  have q1 := at_node hn1 hyl
  have hxz : (x : Int) < (t.length : Int) := by omega
  have hyz : (y : Int) < (t.length : Int) := by omega
  have w0 := hw x hxl
  have w9 := hw y hyl
  have HE : Hid (pWid t n = (nth t x).w + (nth t y).w) := by
   show _ = _
   unfold pWid
   rw [if_neg h2, if_pos h16, hx, hy, Int.toNat_natCast, Int.toNat_natCast]
  generalize (nth t x).w = X at q0 HE w0
  generalize (nth t y).w = Y at q1 HE w9
  rw [hx] at e3
  rw [hy] at e4
  have g1 : 2 <= n.op := by omega
  have g2 : ¬ n.op <= 12 := by omega
  have g3 : (n.op == 16) = true := by simp [h16]
  obtain ⟨u0, u1⟩ := w0
  obtain ⟨u2, u3⟩ := w9
  clear hn1 ha hb hw h00 h01 hx hy k00 k01 h2 hd2 h16
  go_enter Tryz.func69, Tryz.ntmps69
  go_wp2
  rw [<- HW1.out, <- hbn]
  clear hbn
  go_quiet (fail)
  go_wp2
  go_ret
  exact ⟨ret_int (by rw [HE.out]), HBQ.out _⟩
 have hq16 : (n.op == 16) = false := beq_eq_false_iff_ne.2 h16
 by_cases h17 : n.op = 17
 ·have HE : Hid (pWid t n = n.w) := by show _ = _; unfold pWid; rw [if_neg h2, if_neg h16, if_pos h17]
  have g1 : 2 <= n.op := by omega
  have g2 : ¬ n.op <= 12 := by omega
  have g3 : (n.op == 17) = true := by simp [h17]
  clear hn1 ha hb hw h2 hd2 h16 h17
  go_enter Tryz.func69, Tryz.ntmps69
  go_wp2
  go_ret
  exact ⟨ret_int HE.out.symm, by rw [<- HW1.out]; exact HB1.out⟩
 have hq17 : (n.op == 17) = false := beq_eq_false_iff_ne.2 h17
 by_cases h18 : n.op = 18
 ·obtain ⟨h00, h01⟩ := hb (.inr h18)
  obtain ⟨x, hx⟩ : ∃ x : Nat, n.b = (x : Int) := ⟨n.b.toNat, by omega⟩
  have hxl : x < t.length := by omega
  obtain ⟨tb, to', rfl⟩ := some_of hn1 hxl
  have q0 := at_node hn1 hxl
  have hxz : (x : Int) < (t.length : Int) := by omega
  have HE : Hid (pWid t n = (nth t x).w) := by
   show _ = _
   unfold pWid
   rw [if_neg h2, if_neg h16, if_neg h17, if_pos h18]
   rw [hx, Int.toNat_natCast]
  rw [hx] at e4
  have g1 : 2 <= n.op := by omega
  have g2 : ¬ n.op <= 12 := by omega
  have g3 : (n.op == 18) = true := by simp [h18]
  clear h2 hd2 h16 h17 h18
  clear hn1 ha hb hw h00 h01 hx
  go_enter Tryz.func69, Tryz.ntmps69
  go_wp2
  rw [<- HW1.out, <- hbn]
  clear hbn
  go_quiet (fail)
  go_wp2
  go_ret
  exact ⟨ret_int HE.out.symm, HBQ.out _⟩
 have hq18 : (n.op == 18) = false := beq_eq_false_iff_ne.2 h18
 have HE : Hid (pWid t n = 1) := by show _ = _; unfold pWid; rw [if_neg h2, if_neg h16, if_neg h17, if_neg h18]
 clear hn1 ha hb hw h2 h16 h17 h18
 rcases hd2 with g1 | ⟨g1, g2⟩
 ·go_enter Tryz.func69, Tryz.ntmps69
  go_wp2
  go_ret
  exact ⟨ret_int HE.out.symm, by rw [<- HW1.out]; exact HB1.out⟩
 ·go_enter Tryz.func69, Tryz.ntmps69
  go_wp2
  go_ret
  exact ⟨ret_int HE.out.symm, by rw [<- HW1.out]; exact HB1.out⟩
end Pr8
end Go.Proofs.YtiaimhgfimhepaaGreatDoor
