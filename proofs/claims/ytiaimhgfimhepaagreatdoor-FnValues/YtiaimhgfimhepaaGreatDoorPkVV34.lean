import Derived.Test.YtiaimhgfimhepaaGreatDoorPkVV27
import Derived.Test.YtiaimhgfimhepaaGreatDoorPkVV23
namespace Go.Proofs.YtiaimhgfimhepaaGreatDoor
set_option maxRecDepth 100000
set_option maxHeartbeats 8000000
set_option linter.unusedVariables false
namespace Pr5
open Go.RowKit
open Nd0 Nd3 Tm0 Tx0 Tx1 Ss0 Ss1 Tb0 Tb1 Px0 Pr1 Pr2 Pr3
open Ss5 (Kb)
structure NW (w : World) (b : Nat) (n : Nd) : Prop where
 c0 : w.cell? ⟨b, 0, none⟩ = some (.int .i64 n.op)
 c1 : w.cell? ⟨b, 1, none⟩ = some (.int .i64 n.w)
 c2 : w.cell? ⟨b, 2, none⟩ = some (.int .i64 n.k)
 c3 : w.cell? ⟨b, 3, none⟩ = some (.int .i64 n.a)
 c4 : w.cell? ⟨b, 4, none⟩ = some (.int .i64 n.b)
 c5 : w.cell? ⟨b, 5, none⟩ = some (.int .i64 n.c)
 f0 : w.frozen? ⟨b, 0, none⟩ = false
 f1 : w.frozen? ⟨b, 1, none⟩ = false
 f2 : w.frozen? ⟨b, 2, none⟩ = false
 f3 : w.frozen? ⟨b, 3, none⟩ = false
 f4 : w.frozen? ⟨b, 4, none⟩ = false
 f5 : w.frozen? ⟨b, 5, none⟩ = false
theorem NW.lt {w : World} {b : Nat} {n : Nd} (h : NW w b n) : b < w.heap.size := lt_of_cell (p := ⟨b, 0, none⟩) h.c0
theorem NW.new (w : World) (n : Nd) (T g : Nat) (hg : g = w.heap.size) : NW (w.alloc (.cells #[.int .i64 n.op, .int .i64 n.w, .int .i64 n.k, .int .i64 n.a, .int .i64 n.b, .int .i64 n.c] T)) g n := by
 subst hg
 refine ⟨?_, ?_, ?_, ?_, ?_, ?_, ?_, ?_, ?_, ?_, ?_, ?_⟩
 all_goals first
  | (rw [World.cell?_alloc_new]; rfl)
  | simp
theorem NW.kept {w w' : World} {b : Nat} {n : Nd} (h : NW w b n) {D : Nat -> Prop} (k : Kept D w w') (hd : ¬ D b) : NW w' b n :=
 ⟨by rw [k.cell (p := ⟨b, 0, none⟩) h.lt hd]; exact h.c0, by rw [k.cell (p := ⟨b, 1, none⟩) h.lt hd]; exact h.c1, by rw [k.cell (p := ⟨b, 2, none⟩) h.lt hd]; exact h.c2, by rw [k.cell (p := ⟨b, 3, none⟩) h.lt hd]; exact h.c3, by rw [k.cell (p := ⟨b, 4, none⟩) h.lt hd]; exact h.c4, by rw [k.cell (p := ⟨b, 5, none⟩) h.lt hd]; exact h.c5,
  by rw [k.frozen (p := ⟨b, 0, none⟩) h.lt hd]; exact h.f0, by rw [k.frozen (p := ⟨b, 1, none⟩) h.lt hd]; exact h.f1, by rw [k.frozen (p := ⟨b, 2, none⟩) h.lt hd]; exact h.f2, by rw [k.frozen (p := ⟨b, 3, none⟩) h.lt hd]; exact h.f3, by rw [k.frozen (p := ⟨b, 4, none⟩) h.lt hd]; exact h.f4, by rw [k.frozen (p := ⟨b, 5, none⟩) h.lt hd]; exact h.f5⟩
theorem NW.setK {w : World} {b : Nat} {n : Nd} (h : NW w b n) (x : Int) : NW (w.setCell ⟨b, 2, none⟩ (.int .i64 x)) b ⟨n.op, n.w, x, n.a, n.b, n.c⟩ :=
 ⟨by rw [set_other (by simp)]; exact h.c0, by rw [set_other (by simp)]; exact h.c1, set_same h.c2, by rw [set_other (by simp)]; exact h.c3, by rw [set_other (by simp)]; exact h.c4, by rw [set_other (by simp)]; exact h.c5, by simpa using h.f0, by simpa using h.f1, by simpa using h.f2, by simpa using h.f3, by simpa using h.f4, by simpa using h.f5⟩
theorem NW.setW {w : World} {b : Nat} {n : Nd} (h : NW w b n) (x : Int) : NW (w.setCell ⟨b, 1, none⟩ (.int .i64 x)) b ⟨n.op, x, n.k, n.a, n.b, n.c⟩ :=
 ⟨by rw [set_other (by simp)]; exact h.c0, set_same h.c1, by rw [set_other (by simp)]; exact h.c2, by rw [set_other (by simp)]; exact h.c3, by rw [set_other (by simp)]; exact h.c4, by rw [set_other (by simp)]; exact h.c5, by simpa using h.f0, by simpa using h.f1, by simpa using h.f2, by simpa using h.f3, by simpa using h.f4, by simpa using h.f5⟩
theorem NW.setB {w : World} {b : Nat} {n : Nd} (h : NW w b n) (x : Int) : NW (w.setCell ⟨b, 4, none⟩ (.int .i64 x)) b ⟨n.op, n.w, n.k, n.a, x, n.c⟩ :=
 ⟨by rw [set_other (by simp)]; exact h.c0, by rw [set_other (by simp)]; exact h.c1, by rw [set_other (by simp)]; exact h.c2, by rw [set_other (by simp)]; exact h.c3, set_same h.c4, by rw [set_other (by simp)]; exact h.c5, by simpa using h.f0, by simpa using h.f1, by simpa using h.f2, by simpa using h.f3, by simpa using h.f4, by simpa using h.f5⟩
theorem NW.setA {w : World} {b : Nat} {n : Nd} (h : NW w b n) (x : Int) : NW (w.setCell ⟨b, 3, none⟩ (.int .i64 x)) b ⟨n.op, n.w, n.k, x, n.b, n.c⟩ :=
 ⟨by rw [set_other (by simp)]; exact h.c0, by rw [set_other (by simp)]; exact h.c1, by rw [set_other (by simp)]; exact h.c2, set_same h.c3, by rw [set_other (by simp)]; exact h.c4, by rw [set_other (by simp)]; exact h.c5, by simpa using h.f0, by simpa using h.f1, by simpa using h.f2, by simpa using h.f3, by simpa using h.f4, by simpa using h.f5⟩
theorem NW.setC {w : World} {b : Nat} {n : Nd} (h : NW w b n) (x : Int) : NW (w.setCell ⟨b, 5, none⟩ (.int .i64 x)) b ⟨n.op, n.w, n.k, n.a, n.b, x⟩ :=
 ⟨by rw [set_other (by simp)]; exact h.c0, by rw [set_other (by simp)]; exact h.c1, by rw [set_other (by simp)]; exact h.c2, by rw [set_other (by simp)]; exact h.c3, by rw [set_other (by simp)]; exact h.c4, set_same h.c5, by simpa using h.f0, by simpa using h.f1, by simpa using h.f2, by simpa using h.f3, by simpa using h.f4, by simpa using h.f5⟩
theorem NW.setOp {w : World} {b : Nat} {n : Nd} (h : NW w b n) (x : Int) : NW (w.setCell ⟨b, 0, none⟩ (.int .i64 x)) b ⟨x, n.w, n.k, n.a, n.b, n.c⟩ :=
 ⟨set_same h.c0, by rw [set_other (by simp)]; exact h.c1, by rw [set_other (by simp)]; exact h.c2, by rw [set_other (by simp)]; exact h.c3, by rw [set_other (by simp)]; exact h.c4, by rw [set_other (by simp)]; exact h.c5, by simpa using h.f0, by simpa using h.f1, by simpa using h.f2, by simpa using h.f3, by simpa using h.f4, by simpa using h.f5⟩
theorem kb_new {b g : Nat} {w w2 w3 : World} (h : Kb b w w2) (k : Kept (fun i => i = g) w2 w3) (hg : w.heap.size <= g) : Kb b w w3 :=
 ⟨k.os.trans h.os, k.tape.trans h.tape, k.output.trans h.output, Nat.le_trans h.size k.size, fun i hi hn => by rw [k.block i (Nat.lt_of_lt_of_le hi h.size) (fun e => by have e' : i = g := e; omega), h.block i hi hn]⟩
theorem iNums (w : World) (b : Nat) (S : ByteArray) (p : Nat) (v : Value) (bm o st : Nat) (hg : ∀ w', Kb b w w' -> TabR w') (h : RB w b S p v bm) (hs : S.size <= 100000) (hp : p <= S.size) :
 Calls Tryz.prog 68 #[.pointer (some ⟨b, 0, none⟩), .agg #[.int .i64 o, .int .i64 0, .int .i64 0, .int .i64 0, .int .i64 0, .int .i64 0], .int .i64 st] w fun e w' => Out (pNums (tl S) o st p) (fun y => e = .returned (.agg #[.int .i64 y.1.op, .int .i64 y.1.w, .int .i64 y.1.k, .int .i64 y.1.a, .int .i64 y.1.b, .int .i64 y.1.c]) /\ RB w' b S y.2 v bm /\ y.2 <= S.size) (fun x => e = .panicked [fl x]) /\ Kb b w w' := by
 have H : Hid (RB w b S p v bm) := h
 have HG : Hid (∀ w', Kb b w w' -> TabR w') := hg
 have hbw : b < w.heap.size := h.lt
 obtain ⟨w0, hw0⟩ : ∃ w0 : World, w0 = (w.alloc (.cells #[.int .i64 o, .int .i64 0, .int .i64 0, .int .i64 0, .int .i64 0, .int .i64 0] 33)).alloc (.cells #[.int .i64 0, .int .i64 0, .int .i64 0, .int .i64 0, .int .i64 0, .int .i64 0] 33) := ⟨_, rfl⟩
 obtain ⟨bn, hbn⟩ : ∃ bn : Nat, bn = w.heap.size := ⟨_, rfl⟩
 have HK0 : Hid (Kb b w w0) := by show Kept _ _ _; rw [hw0]; exact ((Kept.refl _ _).alloc _).alloc _
 have HN0 : Hid (NW w0 bn ⟨o, 0, 0, 0, 0, 0⟩) := by
  show NW _ _ _
  rw [hw0]
  exact (NW.new w ⟨o, 0, 0, 0, 0, 0⟩ 33 bn hbn).kept (D := fun _ => False) ((Kept.refl _ _).alloc _) (fun e => e)
 have HR0 : Hid (NW w0 (bn + 1) ⟨0, 0, 0, 0, 0, 0⟩) := by
  show NW _ _ _
  rw [hw0]
  exact NW.new _ ⟨0, 0, 0, 0, 0, 0⟩ 33 (bn + 1) (by rw [hbn]; simp)
 have H0 : Hid (RB w0 b S p v bm) := by
  show RB _ _ _ _ _ _
  rw [hw0]
  exact h.kept (D := fun _ => False) (((Kept.refl _ _).alloc _).alloc _) (fun e => e)
 have HNB : Hid (bn ≠ b /\ bn + 1 ≠ b) := ⟨by omega, by omega⟩
 have HBN : Hid (w.heap.size <= bn) := by show _ <= _; omega
 have HW0 : Hid (w0 = (w.alloc (.cells #[.int .i64 o, .int .i64 0, .int .i64 0, .int .i64 0, .int .i64 0, .int .i64 0] 33)).alloc (.cells #[.int .i64 0, .int .i64 0, .int .i64 0, .int .i64 0, .int .i64 0, .int .i64 0] 33)) := hw0
 clear h hg hw0
 by_cases h17 : o = 17
 ·have hqq : ((o : Int) == 17) = true := by simp [h17]
  have HU : Hid (pNums (tl S) o st p = (pNeed (tl S) 32 st p).bind fun p1 => (pNum (tl S) st p1).bind fun x => (pNeed (tl S) 32 st x.2).bind fun p3 => (pNum (tl S) st p3).bind fun y => .ok (⟨o, y.1, x.1, 0, 0, 0⟩, y.2)) := by show _ = _; unfold pNums; rw [if_pos h17]
  clear h17
  go_enter Tryz.func68, Tryz.ntmps68
  go_wp2_with fail
  rw [<- HW0.out, <- hbn]
  clear hbn
  refine (iNeed _ b S p v bm 32 st H0.out hs hp).mono ?_
  rintro e w1 ⟨ho1, hk1⟩
  have HK1 : Hid (Kb b w w1) := HK0.out.trans hk1
  have HN1 : Hid (NW w1 bn ⟨o, 0, 0, 0, 0, 0⟩) := HN0.out.kept hk1 (fun e => HNB.out.1 e)
  have HR1 : Hid (NW w1 (bn + 1) ⟨0, 0, 0, 0, 0, 0⟩) := HR0.out.kept hk1 (fun e => HNB.out.2 e)
  clear hk1
  cases h1 : pNeed (tl S) 32 st p with
  | error x =>
    obtain rfl := ho1.2 x h1
    have HP : Hid (pNums (tl S) o st p = .error x) := by show _ = _; rw [HU.out, h1]; rfl
    clear ho1 h1
    go_wp2
    exact ⟨rfl, Out.error HP.out rfl, HK1.out⟩
  | ok p1 =>
    obtain ⟨rfl, hr1, hp1⟩ := ho1.1 p1 h1
    have H1 : Hid (RB w1 b S p1 v bm) := hr1
    have HU1 : Hid (pNums (tl S) o st p = (pNum (tl S) st p1).bind fun x => (pNeed (tl S) 32 st x.2).bind fun p3 => (pNum (tl S) st p3).bind fun y => .ok (⟨o, y.1, x.1, 0, 0, 0⟩, y.2)) := by show _ = _; rw [HU.out, h1]; rfl
    clear ho1 h1 hr1
    go_wp2_with fail
    refine (iNumber _ b S p1 v bm st (HG.out _ HK1.out) (fun w' k => HG.out _ (HK1.out.trans k)) H1.out hs hp1).mono ?_
    rintro e w2 ⟨ho2, hk2⟩
    have HK2 : Hid (Kb b w w2) := HK1.out.trans hk2
    have HN2 : Hid (NW w2 bn ⟨o, 0, 0, 0, 0, 0⟩) := HN1.out.kept hk2 (fun e => HNB.out.1 e)
    have HR2 : Hid (NW w2 (bn + 1) ⟨0, 0, 0, 0, 0, 0⟩) := HR1.out.kept hk2 (fun e => HNB.out.2 e)
    clear hk2
    cases h2 : pNum (tl S) st p1 with
    | error x =>
      obtain rfl := ho2.2 x h2
      have HP : Hid (pNums (tl S) o st p = .error x) := by show _ = _; rw [HU1.out, h2]; rfl
      clear ho2 h2
      go_wp2
      exact ⟨rfl, Out.error HP.out rfl, HK2.out⟩
    | ok y1 =>
      obtain ⟨rfl, hr2, hp2⟩ := ho2.1 y1 h2
      have HU2 : Hid (pNums (tl S) o st p = (pNeed (tl S) 32 st y1.2).bind fun p3 => (pNum (tl S) st p3).bind fun y => .ok (⟨o, y.1, y1.1, 0, 0, 0⟩, y.2)) := by show _ = _; rw [HU1.out, h2]; rfl
      have q2 := HN2.out.c2
      have g2 := HN2.out.f2
      obtain ⟨w3, hw3⟩ : ∃ w3 : World, w3 = w2.setCell ⟨bn, 2, none⟩ (.int .i64 (y1.1 : Int)) := ⟨_, rfl⟩
      have hks : Kept (fun k => k = bn) w2 w3 := by rw [hw3]; exact (Kept.refl (fun k => k = bn) _).setCell (p := ⟨bn, 2, none⟩) rfl _
      have H3 : Hid (RB w3 b S y1.2 v bm) := hr2.kept hks (fun e => HNB.out.1 e.symm)
      have HN3 : Hid (NW w3 bn ⟨o, 0, y1.1, 0, 0, 0⟩) := by show NW _ _ _; rw [hw3]; exact HN2.out.setK _
      have HR3 : Hid (NW w3 (bn + 1) ⟨0, 0, 0, 0, 0, 0⟩) := HR2.out.kept hks (fun e => by have e' : bn + 1 = bn := e; omega)
      have HK3 : Hid (Kb b w w3) := kb_new HK2.out hks HBN.out
      have HW3 : Hid (w3 = w2.setCell ⟨bn, 2, none⟩ (.int .i64 (y1.1 : Int))) := hw3
      clear ho2 h2 hr2 hks hw3
      go_wp2_with fail
      rw [<- HW3.out]
      clear q2 g2
      refine (iNeed _ b S y1.2 v bm 32 st H3.out hs hp2).mono ?_
      rintro e w4 ⟨ho4, hk4⟩
      have HK4 : Hid (Kb b w w4) := HK3.out.trans hk4
      have HN4 : Hid (NW w4 bn ⟨o, 0, y1.1, 0, 0, 0⟩) := HN3.out.kept hk4 (fun e => HNB.out.1 e)
      have HR4 : Hid (NW w4 (bn + 1) ⟨0, 0, 0, 0, 0, 0⟩) := HR3.out.kept hk4 (fun e => HNB.out.2 e)
      clear hk4
      cases h4 : pNeed (tl S) 32 st y1.2 with
      | error x =>
        obtain rfl := ho4.2 x h4
        have HP : Hid (pNums (tl S) o st p = .error x) := by show _ = _; rw [HU2.out, h4]; rfl
        clear ho4 h4
        go_wp2
        exact ⟨rfl, Out.error HP.out rfl, HK4.out⟩
      | ok p4 =>
        obtain ⟨rfl, hr4, hp4⟩ := ho4.1 p4 h4
        have H4 : Hid (RB w4 b S p4 v bm) := hr4
        have HU4 : Hid (pNums (tl S) o st p = (pNum (tl S) st p4).bind fun y => .ok (⟨o, y.1, y1.1, 0, 0, 0⟩, y.2)) := by show _ = _; rw [HU2.out, h4]; rfl
        clear ho4 h4 hr4
        go_wp2_with fail
        refine (iNumber _ b S p4 v bm st (HG.out _ HK4.out) (fun w' k => HG.out _ (HK4.out.trans k)) H4.out hs hp4).mono ?_
        rintro e w5 ⟨ho5, hk5⟩
        have HK5 : Hid (Kb b w w5) := HK4.out.trans hk5
        have HN5 : Hid (NW w5 bn ⟨o, 0, y1.1, 0, 0, 0⟩) := HN4.out.kept hk5 (fun e => HNB.out.1 e)
        have HR5 : Hid (NW w5 (bn + 1) ⟨0, 0, 0, 0, 0, 0⟩) := HR4.out.kept hk5 (fun e => HNB.out.2 e)
        clear hk5
        cases h5 : pNum (tl S) st p4 with
        | error x =>
          obtain rfl := ho5.2 x h5
          have HP : Hid (pNums (tl S) o st p = .error x) := by show _ = _; rw [HU4.out, h5]; rfl
          clear ho5 h5
          go_wp2
          exact ⟨rfl, Out.error HP.out rfl, HK5.out⟩
        | ok y5 =>
          obtain ⟨rfl, hr5, hpz⟩ := ho5.1 y5 h5
          have HP : Hid (pNums (tl S) o st p = .ok (⟨o, y5.1, y1.1, 0, 0, 0⟩, y5.2)) := by show _ = _; rw [HU4.out, h5]; rfl
          have q1 := HN5.out.c1
          have g1 := HN5.out.f1
          obtain ⟨w6, hw6⟩ : ∃ w6 : World, w6 = w5.setCell ⟨bn, 1, none⟩ (.int .i64 (y5.1 : Int)) := ⟨_, rfl⟩
          have hks : Kept (fun k => k = bn) w5 w6 := by rw [hw6]; exact (Kept.refl (fun k => k = bn) _).setCell (p := ⟨bn, 1, none⟩) rfl _
          have H6 : Hid (RB w6 b S y5.2 v bm) := hr5.kept hks (fun e => HNB.out.1 e.symm)
          have HN6 : Hid (NW w6 bn ⟨o, y5.1, y1.1, 0, 0, 0⟩) := by show NW _ _ _; rw [hw6]; exact HN5.out.setW _
          have HR6 : Hid (NW w6 (bn + 1) ⟨0, 0, 0, 0, 0, 0⟩) := HR5.out.kept hks (fun e => by have e' : bn + 1 = bn := e; omega)
          have HK6 : Hid (Kb b w w6) := kb_new HK5.out hks HBN.out
          have HW6 : Hid (w6 = w5.setCell ⟨bn, 1, none⟩ (.int .i64 (y5.1 : Int))) := hw6
          clear ho5 h5 hr5 hks hw6
          go_upto_region 11 with fail
          rw [<- HW6.out]
          clear q1 g1
          have ⟨e0, e1, e2, e3, e4, e5, _, _, _, _, _, _⟩ := HN6.out
          have ⟨r0, r1, r2, r3, r4, r5, g0, g1, g2, g3, g4, g5⟩ := HR6.out
          obtain ⟨wf, hwf⟩ : ∃ wf : World, wf = setNode w6 (bn + 1) 0 ⟨(o : Int), (y5.1 : Int), (y1.1 : Int), 0, 0, 0⟩ := ⟨_, rfl⟩
          have HNF : Hid (NodeAt wf (bn + 1) 0 ⟨(o : Int), (y5.1 : Int), (y1.1 : Int), 0, 0, 0⟩) := by
           show NodeAt _ _ _ _
           rw [hwf]; exact setNode_same (v := ⟨0, 0, 0, 0, 0, 0⟩) ⟨r0, r1, r2, r3, r4, r5⟩
          have HKF : Hid (Kept (fun k => k = bn + 1) w6 wf) := by
           show Kept _ _ _
           rw [hwf]; exact setNode_keptS rfl (Kept.refl _ _)
          have HWF : Hid (wf = setNode w6 (bn + 1) 0 ⟨(o : Int), (y5.1 : Int), (y1.1 : Int), 0, 0, 0⟩) := hwf
          clear hwf
          go_wp2
          have hWF := HWF.out
          simp only [setNode, Nat.zero_add] at hWF
          rw [<- hWF]
          have j0 := HNF.out.c0
          have j1 := HNF.out.c1
          have j2 := HNF.out.c2
          have j3 := HNF.out.c3
          have j4 := HNF.out.c4
          have j5 := HNF.out.c5
          simp only [Nat.zero_add] at j1 j2 j3 j4 j5
          refine bodyPost_ret (v := .agg #[.int .i64 (⟨(o : Int), (y5.1 : Int), (y1.1 : Int), 0, 0, 0⟩ : Nd).op, .int .i64 (⟨(o : Int), (y5.1 : Int), (y1.1 : Int), 0, 0, 0⟩ : Nd).w, .int .i64 (⟨(o : Int), (y5.1 : Int), (y1.1 : Int), 0, 0, 0⟩ : Nd).k, .int .i64 (⟨(o : Int), (y5.1 : Int), (y1.1 : Int), 0, 0, 0⟩ : Nd).a, .int .i64 (⟨(o : Int), (y5.1 : Int), (y1.1 : Int), 0, 0, 0⟩ : Nd).b, .int .i64 (⟨(o : Int), (y5.1 : Int), (y1.1 : Int), 0, 0, 0⟩ : Nd).c]) (by simp [results, Tryz.results68, go_sem, j0, j1, j2, j3, j4, j5]) rfl ⟨Out.ok HP.out ⟨rfl, H6.out.kept HKF.out (fun e => HNB.out.2 e.symm), hpz⟩, kb_new HK6.out HKF.out (by have := HBN.out; omega)⟩
 by_cases h19 : o = 19
 ·have hqq : ((o : Int) == 19) = true := by simp [h19]
  have hq17 : ((o : Int) == 17) = false := by rw [beq_eq_false_iff_ne]; omega
  have HU : Hid (pNums (tl S) o st p = (pNeed (tl S) 32 st p).bind fun p1 => (pPair (tl S) 118 st p1).bind fun x => .ok (⟨o, 0, x.1.1, 0, x.1.2, 0⟩, x.2)) := by show _ = _; unfold pNums; rw [if_neg h17, if_pos (by omega)]
  clear h17 h19
  go_enter Tryz.func68, Tryz.ntmps68
  go_wp2_with fail
  rw [<- HW0.out, <- hbn]
  clear hbn
  refine (iNeed _ b S p v bm 32 st H0.out hs hp).mono ?_
  rintro e w1 ⟨ho1, hk1⟩
  have HK1 : Hid (Kb b w w1) := HK0.out.trans hk1
  have HN1 : Hid (NW w1 bn ⟨o, 0, 0, 0, 0, 0⟩) := HN0.out.kept hk1 (fun e => HNB.out.1 e)
  have HR1 : Hid (NW w1 (bn + 1) ⟨0, 0, 0, 0, 0, 0⟩) := HR0.out.kept hk1 (fun e => HNB.out.2 e)
  clear hk1
  cases h1 : pNeed (tl S) 32 st p with
  | error x =>
    obtain rfl := ho1.2 x h1
    have HP : Hid (pNums (tl S) o st p = .error x) := by show _ = _; rw [HU.out, h1]; rfl
    clear ho1 h1
    go_wp2
    exact ⟨rfl, Out.error HP.out rfl, HK1.out⟩
  | ok p1 =>
    obtain ⟨rfl, hr1, hp1⟩ := ho1.1 p1 h1
    have H1 : Hid (RB w1 b S p1 v bm) := hr1
    have HU1 : Hid (pNums (tl S) o st p = (pPair (tl S) 118 st p1).bind fun x => .ok (⟨o, 0, x.1.1, 0, x.1.2, 0⟩, x.2)) := by show _ = _; rw [HU.out, h1]; rfl
    clear ho1 h1 hr1
    go_wp2_with fail
    refine (iPairR _ b S p1 v bm 118 st (fun w' k => HG.out _ (HK1.out.trans k)) H1.out hs hp1).mono ?_
    rintro e w2 ⟨ho2, hk2⟩
    have HK2 : Hid (Kb b w w2) := HK1.out.trans hk2
    have HN2 : Hid (NW w2 bn ⟨o, 0, 0, 0, 0, 0⟩) := HN1.out.kept hk2 (fun e => HNB.out.1 e)
    have HR2 : Hid (NW w2 (bn + 1) ⟨0, 0, 0, 0, 0, 0⟩) := HR1.out.kept hk2 (fun e => HNB.out.2 e)
    clear hk2
    cases h2 : pPair (tl S) 118 st p1 with
    | error x =>
      obtain rfl := ho2.2 x h2
      have HP : Hid (pNums (tl S) o st p = .error x) := by show _ = _; rw [HU1.out, h2]; rfl
      clear ho2 h2
      go_wp2
      exact ⟨rfl, Out.error HP.out rfl, HK2.out⟩
    | ok z =>
      obtain ⟨rfl, hr2, hpz⟩ := ho2.1 z h2
      have HP : Hid (pNums (tl S) o st p = .ok (⟨o, 0, z.1.1, 0, z.1.2, 0⟩, z.2)) := by show _ = _; rw [HU1.out, h2]; rfl
      have q2 := HN2.out.c2
      have q4 := HN2.out.c4
      have g2 := HN2.out.f2
      have g4 := HN2.out.f4
      obtain ⟨w6, hw6⟩ : ∃ w6 : World, w6 = (w2.setCell ⟨bn, 2, none⟩ (.int .i64 (z.1.1 : Int))).setCell ⟨bn, 4, none⟩ (.int .i64 (z.1.2 : Int)) := ⟨_, rfl⟩
      have hks : Kept (fun k => k = bn) w2 w6 := by rw [hw6]; exact ((Kept.refl (fun k => k = bn) _).setCell (p := ⟨bn, 2, none⟩) rfl _).setCell (p := ⟨bn, 4, none⟩) rfl _
      have H6 : Hid (RB w6 b S z.2 v bm) := hr2.kept hks (fun e => HNB.out.1 e.symm)
      have HN6 : Hid (NW w6 bn ⟨o, 0, z.1.1, 0, z.1.2, 0⟩) := by show NW _ _ _; rw [hw6]; exact (HN2.out.setK _).setB _
      have HR6 : Hid (NW w6 (bn + 1) ⟨0, 0, 0, 0, 0, 0⟩) := HR2.out.kept hks (fun e => by have e' : bn + 1 = bn := e; omega)
      have HK6 : Hid (Kb b w w6) := kb_new HK2.out hks HBN.out
      have HW6 : Hid (w6 = (w2.setCell ⟨bn, 2, none⟩ (.int .i64 (z.1.1 : Int))).setCell ⟨bn, 4, none⟩ (.int .i64 (z.1.2 : Int))) := hw6
      clear ho2 h2 hr2 hks hw6
      go_upto_region 11 with fail
      rw [<- HW6.out]
      clear q2 q4 g2 g4
      have ⟨e0, e1, e2, e3, e4, e5, _, _, _, _, _, _⟩ := HN6.out
      have ⟨r0, r1, r2, r3, r4, r5, g0, g1, g2, g3, g4, g5⟩ := HR6.out
      obtain ⟨wf, hwf⟩ : ∃ wf : World, wf = setNode w6 (bn + 1) 0 ⟨(o : Int), 0, (z.1.1 : Int), 0, (z.1.2 : Int), 0⟩ := ⟨_, rfl⟩
      have HNF : Hid (NodeAt wf (bn + 1) 0 ⟨(o : Int), 0, (z.1.1 : Int), 0, (z.1.2 : Int), 0⟩) := by
       show NodeAt _ _ _ _
       rw [hwf]; exact setNode_same (v := ⟨0, 0, 0, 0, 0, 0⟩) ⟨r0, r1, r2, r3, r4, r5⟩
      have HKF : Hid (Kept (fun k => k = bn + 1) w6 wf) := by
       show Kept _ _ _
       rw [hwf]; exact setNode_keptS rfl (Kept.refl _ _)
      have HWF : Hid (wf = setNode w6 (bn + 1) 0 ⟨(o : Int), 0, (z.1.1 : Int), 0, (z.1.2 : Int), 0⟩) := hwf
      clear hwf
      go_wp2
      have hWF := HWF.out
      simp only [setNode, Nat.zero_add] at hWF
      rw [<- hWF]
      have j0 := HNF.out.c0
      have j1 := HNF.out.c1
      have j2 := HNF.out.c2
      have j3 := HNF.out.c3
      have j4 := HNF.out.c4
      have j5 := HNF.out.c5
      simp only [Nat.zero_add] at j1 j2 j3 j4 j5
      refine bodyPost_ret (v := .agg #[.int .i64 (⟨(o : Int), 0, (z.1.1 : Int), 0, (z.1.2 : Int), 0⟩ : Nd).op, .int .i64 (⟨(o : Int), 0, (z.1.1 : Int), 0, (z.1.2 : Int), 0⟩ : Nd).w, .int .i64 (⟨(o : Int), 0, (z.1.1 : Int), 0, (z.1.2 : Int), 0⟩ : Nd).k, .int .i64 (⟨(o : Int), 0, (z.1.1 : Int), 0, (z.1.2 : Int), 0⟩ : Nd).a, .int .i64 (⟨(o : Int), 0, (z.1.1 : Int), 0, (z.1.2 : Int), 0⟩ : Nd).b, .int .i64 (⟨(o : Int), 0, (z.1.1 : Int), 0, (z.1.2 : Int), 0⟩ : Nd).c]) (by simp [results, Tryz.results68, go_sem, j0, j1, j2, j3, j4, j5]) rfl ⟨Out.ok HP.out ⟨rfl, H6.out.kept HKF.out (fun e => HNB.out.2 e.symm), hpz⟩, kb_new HK6.out HKF.out (by have := HBN.out; omega)⟩
 by_cases h20 : o = 20
 ·have hqq : ((o : Int) == 20) = true := by simp [h20]
  have hq17 : ((o : Int) == 17) = false := by rw [beq_eq_false_iff_ne]; omega
  have hq19 : ((o : Int) == 19) = false := by rw [beq_eq_false_iff_ne]; omega
  have HU : Hid (pNums (tl S) o st p = (pNeed (tl S) 32 st p).bind fun p1 => (pPair (tl S) 118 st p1).bind fun x => .ok (⟨o, 0, x.1.1, 0, x.1.2, 0⟩, x.2)) := by show _ = _; unfold pNums; rw [if_neg h17, if_pos (by omega)]
  clear h17 h19 h20
  go_enter Tryz.func68, Tryz.ntmps68
  go_wp2_with fail
  rw [<- HW0.out, <- hbn]
  clear hbn
  refine (iNeed _ b S p v bm 32 st H0.out hs hp).mono ?_
  rintro e w1 ⟨ho1, hk1⟩
  have HK1 : Hid (Kb b w w1) := HK0.out.trans hk1
  have HN1 : Hid (NW w1 bn ⟨o, 0, 0, 0, 0, 0⟩) := HN0.out.kept hk1 (fun e => HNB.out.1 e)
  have HR1 : Hid (NW w1 (bn + 1) ⟨0, 0, 0, 0, 0, 0⟩) := HR0.out.kept hk1 (fun e => HNB.out.2 e)
  clear hk1
  cases h1 : pNeed (tl S) 32 st p with
  | error x =>
    obtain rfl := ho1.2 x h1
    have HP : Hid (pNums (tl S) o st p = .error x) := by show _ = _; rw [HU.out, h1]; rfl
    clear ho1 h1
    go_wp2
    exact ⟨rfl, Out.error HP.out rfl, HK1.out⟩
  | ok p1 =>
    obtain ⟨rfl, hr1, hp1⟩ := ho1.1 p1 h1
    have H1 : Hid (RB w1 b S p1 v bm) := hr1
    have HU1 : Hid (pNums (tl S) o st p = (pPair (tl S) 118 st p1).bind fun x => .ok (⟨o, 0, x.1.1, 0, x.1.2, 0⟩, x.2)) := by show _ = _; rw [HU.out, h1]; rfl
    clear ho1 h1 hr1
    go_wp2_with fail
    refine (iPairR _ b S p1 v bm 118 st (fun w' k => HG.out _ (HK1.out.trans k)) H1.out hs hp1).mono ?_
    rintro e w2 ⟨ho2, hk2⟩
    have HK2 : Hid (Kb b w w2) := HK1.out.trans hk2
    have HN2 : Hid (NW w2 bn ⟨o, 0, 0, 0, 0, 0⟩) := HN1.out.kept hk2 (fun e => HNB.out.1 e)
    have HR2 : Hid (NW w2 (bn + 1) ⟨0, 0, 0, 0, 0, 0⟩) := HR1.out.kept hk2 (fun e => HNB.out.2 e)
    clear hk2
    cases h2 : pPair (tl S) 118 st p1 with
    | error x =>
      obtain rfl := ho2.2 x h2
      have HP : Hid (pNums (tl S) o st p = .error x) := by show _ = _; rw [HU1.out, h2]; rfl
      clear ho2 h2
      go_wp2
      exact ⟨rfl, Out.error HP.out rfl, HK2.out⟩
    | ok z =>
      obtain ⟨rfl, hr2, hpz⟩ := ho2.1 z h2
      have HP : Hid (pNums (tl S) o st p = .ok (⟨o, 0, z.1.1, 0, z.1.2, 0⟩, z.2)) := by show _ = _; rw [HU1.out, h2]; rfl
      have q2 := HN2.out.c2
      have q4 := HN2.out.c4
      have g2 := HN2.out.f2
      have g4 := HN2.out.f4
      obtain ⟨w6, hw6⟩ : ∃ w6 : World, w6 = (w2.setCell ⟨bn, 2, none⟩ (.int .i64 (z.1.1 : Int))).setCell ⟨bn, 4, none⟩ (.int .i64 (z.1.2 : Int)) := ⟨_, rfl⟩
      have hks : Kept (fun k => k = bn) w2 w6 := by rw [hw6]; exact ((Kept.refl (fun k => k = bn) _).setCell (p := ⟨bn, 2, none⟩) rfl _).setCell (p := ⟨bn, 4, none⟩) rfl _
      have H6 : Hid (RB w6 b S z.2 v bm) := hr2.kept hks (fun e => HNB.out.1 e.symm)
      have HN6 : Hid (NW w6 bn ⟨o, 0, z.1.1, 0, z.1.2, 0⟩) := by show NW _ _ _; rw [hw6]; exact (HN2.out.setK _).setB _
      have HR6 : Hid (NW w6 (bn + 1) ⟨0, 0, 0, 0, 0, 0⟩) := HR2.out.kept hks (fun e => by have e' : bn + 1 = bn := e; omega)
      have HK6 : Hid (Kb b w w6) := kb_new HK2.out hks HBN.out
      have HW6 : Hid (w6 = (w2.setCell ⟨bn, 2, none⟩ (.int .i64 (z.1.1 : Int))).setCell ⟨bn, 4, none⟩ (.int .i64 (z.1.2 : Int))) := hw6
      clear ho2 h2 hr2 hks hw6
      go_upto_region 11 with fail
      rw [<- HW6.out]
      clear q2 q4 g2 g4
      have ⟨e0, e1, e2, e3, e4, e5, _, _, _, _, _, _⟩ := HN6.out
      have ⟨r0, r1, r2, r3, r4, r5, g0, g1, g2, g3, g4, g5⟩ := HR6.out
      obtain ⟨wf, hwf⟩ : ∃ wf : World, wf = setNode w6 (bn + 1) 0 ⟨(o : Int), 0, (z.1.1 : Int), 0, (z.1.2 : Int), 0⟩ := ⟨_, rfl⟩
      have HNF : Hid (NodeAt wf (bn + 1) 0 ⟨(o : Int), 0, (z.1.1 : Int), 0, (z.1.2 : Int), 0⟩) := by
       show NodeAt _ _ _ _
       rw [hwf]; exact setNode_same (v := ⟨0, 0, 0, 0, 0, 0⟩) ⟨r0, r1, r2, r3, r4, r5⟩
      have HKF : Hid (Kept (fun k => k = bn + 1) w6 wf) := by
       show Kept _ _ _
       rw [hwf]; exact setNode_keptS rfl (Kept.refl _ _)
      have HWF : Hid (wf = setNode w6 (bn + 1) 0 ⟨(o : Int), 0, (z.1.1 : Int), 0, (z.1.2 : Int), 0⟩) := hwf
      clear hwf
      go_wp2
      have hWF := HWF.out
      simp only [setNode, Nat.zero_add] at hWF
      rw [<- hWF]
      have j0 := HNF.out.c0
      have j1 := HNF.out.c1
      have j2 := HNF.out.c2
      have j3 := HNF.out.c3
      have j4 := HNF.out.c4
      have j5 := HNF.out.c5
      simp only [Nat.zero_add] at j1 j2 j3 j4 j5
      refine bodyPost_ret (v := .agg #[.int .i64 (⟨(o : Int), 0, (z.1.1 : Int), 0, (z.1.2 : Int), 0⟩ : Nd).op, .int .i64 (⟨(o : Int), 0, (z.1.1 : Int), 0, (z.1.2 : Int), 0⟩ : Nd).w, .int .i64 (⟨(o : Int), 0, (z.1.1 : Int), 0, (z.1.2 : Int), 0⟩ : Nd).k, .int .i64 (⟨(o : Int), 0, (z.1.1 : Int), 0, (z.1.2 : Int), 0⟩ : Nd).a, .int .i64 (⟨(o : Int), 0, (z.1.1 : Int), 0, (z.1.2 : Int), 0⟩ : Nd).b, .int .i64 (⟨(o : Int), 0, (z.1.1 : Int), 0, (z.1.2 : Int), 0⟩ : Nd).c]) (by simp [results, Tryz.results68, go_sem, j0, j1, j2, j3, j4, j5]) rfl ⟨Out.ok HP.out ⟨rfl, H6.out.kept HKF.out (fun e => HNB.out.2 e.symm), hpz⟩, kb_new HK6.out HKF.out (by have := HBN.out; omega)⟩
 have hq17 : ((o : Int) == 17) = false := by rw [beq_eq_false_iff_ne]; omega
 have hq19 : ((o : Int) == 19) = false := by rw [beq_eq_false_iff_ne]; omega
 have hq20 : ((o : Int) == 20) = false := by rw [beq_eq_false_iff_ne]; omega
 have HP : Hid (pNums (tl S) o st p = .ok (⟨o, 0, 0, 0, 0, 0⟩, p)) := by
  show _ = _
  unfold pNums
  rw [if_neg h17, if_neg (by omega)]
 have hpz := hp
 clear h17 h19 h20
 go_enter Tryz.func68, Tryz.ntmps68
 go_upto_region 11 with fail
 rw [<- HW0.out, <- hbn]
 clear hbn
 have ⟨e0, e1, e2, e3, e4, e5, _, _, _, _, _, _⟩ := HN0.out
 have ⟨r0, r1, r2, r3, r4, r5, g0, g1, g2, g3, g4, g5⟩ := HR0.out
 obtain ⟨wf, hwf⟩ : ∃ wf : World, wf = setNode w0 (bn + 1) 0 ⟨(o : Int), 0, 0, 0, 0, 0⟩ := ⟨_, rfl⟩
 have HNF : Hid (NodeAt wf (bn + 1) 0 ⟨(o : Int), 0, 0, 0, 0, 0⟩) := by
  show NodeAt _ _ _ _
  rw [hwf]; exact setNode_same (v := ⟨0, 0, 0, 0, 0, 0⟩) ⟨r0, r1, r2, r3, r4, r5⟩
 have HKF : Hid (Kept (fun k => k = bn + 1) w0 wf) := by
  show Kept _ _ _
  rw [hwf]; exact setNode_keptS rfl (Kept.refl _ _)
 have HWF : Hid (wf = setNode w0 (bn + 1) 0 ⟨(o : Int), 0, 0, 0, 0, 0⟩) := hwf
 clear hwf
 go_wp2
 have hWF := HWF.out
 simp only [setNode, Nat.zero_add] at hWF
 rw [<- hWF]
 have j0 := HNF.out.c0
 have j1 := HNF.out.c1
 have j2 := HNF.out.c2
 have j3 := HNF.out.c3
 have j4 := HNF.out.c4
 have j5 := HNF.out.c5
 simp only [Nat.zero_add] at j1 j2 j3 j4 j5
 refine bodyPost_ret (v := .agg #[.int .i64 (⟨(o : Int), 0, 0, 0, 0, 0⟩ : Nd).op, .int .i64 (⟨(o : Int), 0, 0, 0, 0, 0⟩ : Nd).w, .int .i64 (⟨(o : Int), 0, 0, 0, 0, 0⟩ : Nd).k, .int .i64 (⟨(o : Int), 0, 0, 0, 0, 0⟩ : Nd).a, .int .i64 (⟨(o : Int), 0, 0, 0, 0, 0⟩ : Nd).b, .int .i64 (⟨(o : Int), 0, 0, 0, 0, 0⟩ : Nd).c]) (by simp [results, Tryz.results68, go_sem, j0, j1, j2, j3, j4, j5]) rfl ⟨Out.ok HP.out ⟨rfl, H0.out.kept HKF.out (fun e => HNB.out.2 e.symm), hpz⟩, kb_new HK0.out HKF.out (by have := HBN.out; omega)⟩
end Pr5
namespace Px1
open Nd0 Tm0 Tx0 Tx1 Tx5 Px0
theorem many_snoc (s : List UInt8) (rd : St -> Except Er (Nat × St)) (st : Nat) : ∀ (k : Nat) (x : St), pMany s rd st (k + 1) x =
 (pMany s rd st k x).bind fun y => (pNeed s 32 st y.2.1).bind fun p1 => (rd (p1, y.2.2)).bind fun z => .ok (y.1 ++ [z.1], z.2) := by
 intro k
 induction k with
 | zero =>
   intro x
   simp only [pMany, Except.bind]
   cases pNeed s 32 st x.1 with
   | error e => rfl
   | ok p1 =>
     simp only
     cases rd (p1, x.2) with
     | error e => rfl
     | ok y => rfl
 | succ k ih =>
   intro x
   have e : ∀ j y, pMany s rd st (j + 1) y = (pNeed s 32 st y.1).bind fun p1 => (rd (p1, y.2)).bind fun u => (pMany s rd st j u.2).bind fun z => .ok (u.1 :: z.1, z.2) := fun _ _ => rfl
   rw [e (k + 1) x, e k x]
   simp only [ih, Except.bind]
   cases pNeed s 32 st x.1 with
   | error e => rfl
   | ok p1 =>
     simp only
     cases rd (p1, x.2) with
     | error e => rfl
     | ok y =>
       simp only
       cases pMany s rd st k y.2 with
       | error e => rfl
       | ok z =>
         simp only
         cases pNeed s 32 st z.2.1 with
         | error e => rfl
         | ok p2 =>
           simp only
           cases rd (p2, z.2.2) with
           | error e => rfl
           | ok u => rfl
theorem many_err {s : List UInt8} {rd : St -> Except Er (Nat × St)} {st k c : Nat} {x : St} {e : Er} (hk : k <= c) (h : pMany s rd st k x = .error e) : pMany s rd st c x = .error e := by
 obtain ⟨d, rfl⟩ : ∃ d, c = k + d := ⟨c - k, by omega⟩
 clear hk
 induction d with
 | zero => exact h
 | succ d ih => rw [<- Nat.add_assoc, many_snoc, ih]; rfl
theorem many_len {s : List UInt8} {rd : St -> Except Er (Nat × St)} {st : Nat} : ∀ {k : Nat} {x : St} {y : List Nat × St}, pMany s rd st k x = .ok y -> y.1.length = k := by
 intro k
 induction k with
 | zero => intro x y h; simp only [pMany] at h; cases h; rfl
 | succ k ih =>
   intro x y h
   rw [many_snoc] at h
   cases h1 : pMany s rd st k x with
   | error e => rw [h1] at h; cases h
   | ok z =>
     rw [h1] at h
     simp only [Except.bind] at h
     split at h
     ·cases h
     ·split at h
      ·cases h
      ·cases h
       simp [ih h1]
theorem need_mono {s : List UInt8} {c : UInt8} {st p q : Nat} (h : pNeed s c st p = .ok q) : q = p + 1 := by
 unfold pNeed at h
 split at h
 ·cases h; rfl
 ·cases h
theorem end_same {s : List UInt8} {st p q : Nat} (h : pEnd s st p = .ok q) : q = p := by
 unfold pEnd at h
 split at h
 ·cases h; rfl
 ·cases h
theorem num_mono {s : List UInt8} {st p : Nat} {y : Nat × Nat} (h : pNum s st p = .ok y) : p <= y.2 := by
 unfold pNum at h
 split at h
 ·cases h; simp
 ·cases h
theorem bind_ok {α β : Type} {r : Except Er α} {g : α -> Except Er β} {y : β} (h : r.bind g = .ok y) : ∃ x, r = .ok x /\ g x = .ok y := by
 cases r with
 | error e => cases h
 | ok x => exact ⟨x, rfl, h⟩
theorem pair_mono {s : List UInt8} {c : UInt8} {st p : Nat} {y : (Nat × Nat) × Nat} (h : pPair s c st p = .ok y) : p < y.2 := by
 unfold pPair at h
 obtain ⟨p1, h1, h⟩ := bind_ok h
 obtain ⟨x, h2, h⟩ := bind_ok h
 obtain ⟨p3, h3, h⟩ := bind_ok h
 obtain ⟨z, h4, h⟩ := bind_ok h
 obtain ⟨q, h5, h⟩ := bind_ok h
 cases h
 have := need_mono h1
 have := num_mono h2
 have := need_mono h3
 have := num_mono h4
 have := end_same h5
 simp only
 omega
theorem op_mono {s : List UInt8} {st p : Nat} {y : Nat × Nat} (h : pOp s st p = .ok y) : p < y.2 := by
 unfold pOp at h
 obtain ⟨p1, h1, h⟩ := bind_ok h
 have := need_mono h1
 split at h
 ·cases h; simp only; omega
 ·cases h
theorem nums_mono {s : List UInt8} {o st p : Nat} {y : Nd × Nat} (h : pNums s o st p = .ok y) : p <= y.2 := by
 unfold pNums at h
 split at h
 ·obtain ⟨p1, h1, h⟩ := bind_ok h
  obtain ⟨x, h2, h⟩ := bind_ok h
  obtain ⟨p3, h3, h⟩ := bind_ok h
  obtain ⟨z, h4, h⟩ := bind_ok h
  cases h
  have := need_mono h1
  have := num_mono h2
  have := need_mono h3
  have := num_mono h4
  simp only
  omega
 ·split at h
  ·obtain ⟨p1, h1, h⟩ := bind_ok h
   obtain ⟨x, h2, h⟩ := bind_ok h
   cases h
   have := need_mono h1
   have := pair_mono h2
   simp only
   omega
  ·cases h; exact Nat.le_refl _
theorem put_mono {st p : Nat} {t : List Nd} {n : Nd} {y : Nat × St} (h : pPut st p t n = .ok y) : y.2.1 = p := by
 unfold pPut at h
 obtain ⟨x, h1, h⟩ := bind_ok h
 cases h; rfl
theorem many_mono {s : List UInt8} {rd : St -> Except Er (Nat × St)} {st : Nat} (hr : ∀ x y, rd x = .ok y -> x.1 <= y.2.1) : ∀ {k : Nat} {x : St} {y : List Nat × St}, pMany s rd st k x = .ok y -> x.1 + k <= y.2.1 := by
 intro k
 induction k with
 | zero => intro x y h; simp only [pMany] at h; cases h; simp
 | succ k ih =>
   intro x y h
   rw [many_snoc] at h
   obtain ⟨z, h1, h⟩ := bind_ok h
   obtain ⟨p1, h2, h⟩ := bind_ok h
   obtain ⟨u, h3, h⟩ := bind_ok h
   cases h
   have := ih h1
   have := need_mono h2
   have := hr _ _ h3
   simp only at this ⊢
   omega
theorem node_mono (s : List UInt8) : ∀ (f : Nat) (x : St) (y : Nat × St), pNode s f x = .ok y -> x.1 <= y.2.1 := by
 intro f
 induction f with
 | zero => intro x y h; cases h
 | succ f ih =>
   intro x y h
   simp only [pNode] at h
   split at h
   ·obtain ⟨z, h1, h⟩ := bind_ok h
    have := pair_mono h1
    have := put_mono h
    omega
   ·split at h
    ·obtain ⟨z, h1, h⟩ := bind_ok h
     have := pair_mono h1
     have := put_mono h
     omega
    ·obtain ⟨o, h1, h⟩ := bind_ok h
     obtain ⟨z, h2, h⟩ := bind_ok h
     obtain ⟨u, h3, h⟩ := bind_ok h
     have a1 := op_mono h1
     have a2 := nums_mono h2
     have a4 := put_mono h
     unfold pParts at h3
     obtain ⟨m, h5, h3⟩ := bind_ok h3
     obtain ⟨q, h6, h3⟩ := bind_ok h3
     cases h3
     have a5 := many_mono (fun x y h => ih x y h) h5
     have a6 := need_mono h6
     simp only at a4 a5 a6
     omega
theorem find_range {p : Nat -> Bool} : ∀ (n i : Nat), i < n -> p i = true -> (∀ j, j < i -> p j = false) -> (List.range n).find? p = some i := by
 intro n i hi hp hj
 rw [List.find?_range_eq_some]
 exact ⟨hp, by simpa using hi, fun j hji => by simp [hj j hji]⟩
theorem opP_at {x : List UInt8} {k : Nat} (h2 : 2 <= k) (h20 : k <= 20) (he : opTab.getD k [] = x) (hn : ∀ j, 2 <= j -> j < k -> opTab.getD j [] ≠ x) : opP x = some k := by
 unfold opP
 rw [find_range 19 (k - 2) (by omega) (by simp only [decide_eq_true_eq]; rw [show k - 2 + 2 = k by omega]; exact he) (fun j hj => by simp only [decide_eq_false_iff_not]; exact hn (j + 2) (by omega) (by omega))]
 simp only [Option.map_some]
 congr 1; omega
theorem opP_none {x : List UInt8} (hn : ∀ j, 2 <= j -> j < 21 -> opTab.getD j [] ≠ x) : opP x = none := by
 unfold opP
 rw [List.find?_eq_none.2 (fun i hi => by
  simp only [decide_eq_true_eq]
  have := List.mem_range.1 hi
  exact hn (i + 2) (by omega) (by omega))]
 rfl
end Px1
end Go.Proofs.YtiaimhgfimhepaaGreatDoor
