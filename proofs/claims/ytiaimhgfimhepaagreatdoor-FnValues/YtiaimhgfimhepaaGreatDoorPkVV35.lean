import Derived.Test.YtiaimhgfimhepaaGreatDoorPr4
import Derived.Test.YtiaimhgfimhepaaGreatDoorPkVV34
import Derived.Test.YtiaimhgfimhepaaGreatDoorPkVV23
import Derived.Test.YtiaimhgfimhepaaGreatDoorPkVV27
namespace Go.Proofs.YtiaimhgfimhepaaGreatDoor
set_option maxRecDepth 100000
set_option maxHeartbeats 8000000
set_option linter.unusedVariables false
namespace Pr9
open Go.RowKit
open Nd0 Nd3 Ap2 Tm0 Tx0 Tx1 Ss0 Ss1 Tb0 Tb1 Px0 Px1 Pr1 Pr2 Mp0 Pr4 Pr5
open Pg1 (cnt iCount)
open Ss5 (Kb)
theorem parts_cnt (n : Nd) : (parts n).length = cnt n.op := by
 unfold parts cnt
 split
 ·rfl
 ·split
  ·rfl
  ·split <;> rfl
theorem below_of {F : Nat -> Prop} {B : Nat} {w w' : World} (h : Kept (fun k => ¬ F k) w w') (hl : ∀ k, k < B -> F k) (hB : B <= w.heap.size) : Below B w w' := ⟨h.os, h.tape, h.output, h.size, fun i hi => h.block i (Nat.lt_of_lt_of_le hi hB) (fun e => e (hl i hi))⟩
structure A3 (w : World) (g : Nat) (is : List Nat) : Prop where
 c0 : w.cell? ⟨g, 0, none⟩ = some (.int .i64 ((is.getD 0 0 : Nat) : Int))
 c1 : w.cell? ⟨g, 1, none⟩ = some (.int .i64 ((is.getD 1 0 : Nat) : Int))
 c2 : w.cell? ⟨g, 2, none⟩ = some (.int .i64 ((is.getD 2 0 : Nat) : Int))
 f0 : w.frozen? ⟨g, 0, none⟩ = false
 f1 : w.frozen? ⟨g, 1, none⟩ = false
 f2 : w.frozen? ⟨g, 2, none⟩ = false
theorem A3.lt {w : World} {g : Nat} {is : List Nat} (h : A3 w g is) : g < w.heap.size := lt_of_cell (p := ⟨g, 0, none⟩) h.c0
theorem A3.kept {w w' : World} {g : Nat} {is : List Nat} (h : A3 w g is) {D : Nat -> Prop} (k : Kept D w w') (hd : ¬ D g) : A3 w' g is :=
 ⟨by rw [k.cell (p := ⟨g, 0, none⟩) h.lt hd]; exact h.c0, by rw [k.cell (p := ⟨g, 1, none⟩) h.lt hd]; exact h.c1, by rw [k.cell (p := ⟨g, 2, none⟩) h.lt hd]; exact h.c2, by rw [k.frozen (p := ⟨g, 0, none⟩) h.lt hd]; exact h.f0, by rw [k.frozen (p := ⟨g, 1, none⟩) h.lt hd]; exact h.f1, by rw [k.frozen (p := ⟨g, 2, none⟩) h.lt hd]; exact h.f2⟩
theorem A3.set {w : World} {g : Nat} {is : List Nat} (h : A3 w g is) (k : Nat) (hk : is.length = k) (h3 : k < 3) (x : Nat) : A3 (w.setCell ⟨g, k, none⟩ (.int .i64 (x : Int))) g (is ++ [x]) := by
 have hg : ∀ j, (is ++ [x]).getD j 0 = if j = k then x else is.getD j 0 := by
  intro j
  rw [List.getD_eq_getElem?_getD, List.getD_eq_getElem?_getD]
  by_cases e : j = k
  ·subst e; rw [if_pos rfl, List.getElem?_append_right (by omega)]; simp [hk]
  ·rw [if_neg e]
   by_cases hlt : j < is.length
   ·rw [List.getElem?_append_left hlt]
   ·rw [List.getElem?_eq_none (by simp; omega), List.getElem?_eq_none (by omega)]
 have hcases : k = 0 \/ k = 1 \/ k = 2 := by omega
 refine ⟨?_, ?_, ?_, by simpa using h.f0, by simpa using h.f1, by simpa using h.f2⟩
 ·rw [hg]
  by_cases e : k = 0
  ·subst e; exact set_same h.c0
  ·rw [set_other (by intro z; cases z; exact e rfl), if_neg (fun z => e z.symm)]; exact h.c0
 ·rw [hg]
  by_cases e : k = 1
  ·subst e; exact set_same h.c1
  ·rw [set_other (by intro z; cases z; exact e rfl), if_neg (fun z => e z.symm)]; exact h.c1
 ·rw [hg]
  by_cases e : k = 2
  ·subst e; exact set_same h.c2
  ·rw [set_other (by intro z; cases z; exact e rfl), if_neg (fun z => e z.symm)]; exact h.c2
theorem A3.new (w : World) (T g : Nat) (hg : g = w.heap.size) : A3 (w.alloc (.cells #[.int .i64 0, .int .i64 0, .int .i64 0] T)) g [] := by
 subst hg
 refine ⟨?_, ?_, ?_, ?_, ?_, ?_⟩
 all_goals first
  | (rw [World.cell?_alloc_new]; rfl)
  | simp
theorem PR.widen {w w' : World} {B b : Nat} {S : ByteArray} {p : Nat} {t : List Nd} {bm : Nat} {F G : Nat -> Prop} (h : PR w B b S p t bm F) (k : Below w.heap.size w w') (hG : ∀ i, G i -> F i \/ (w.heap.size <= i /\ i < w'.heap.size)) : PR w' B b S p t bm G := by
 have h' := h.below k
 obtain ⟨v, h1, h2, h3⟩ := h.ex
 obtain ⟨v', r1, r2, r3⟩ := h'.ex
 have hv : v' = v := by
  have := r1.c2
  rw [k.cell (p := ⟨b, 2, none⟩) h1.lt, h1.c2] at this
  exact (Option.some.inj this).symm
 subst hv
 refine ⟨⟨v', r1, r2, fun i hi => ⟨fun hg => ?_, (h3 i hi).2⟩⟩, h'.mp, fun hg => ?_, fun hg => ?_, h.ne, h.bB, h.mB, h.fit, h.pS, fun i hi => ?_, h.wf⟩
 ·rcases hG i hg with e | e
  ·exact (h3 i hi).1 e
  ·have := (h2.lt i hi).2; omega
 ·rcases hG b hg with e | e
  ·exact h.fb e
  ·have := h1.lt; omega
 ·rcases hG bm hg with e | e
  ·exact h.fm e
  ·have := h.mp.lt; omega
 ·rcases hG i hi with e | e
  ·exact Nat.lt_of_lt_of_le (h.hF i e) k.size
  ·exact e.2
theorem PR.narrow {w w0 : World} {B b : Nat} {S : ByteArray} {p : Nat} {t : List Nd} {bm : Nat} {F G : Nat -> Prop} (h : PR w B b S p t bm G) (hG : ∀ i, F i -> G i) : PR w B b S p t bm F := by
 obtain ⟨v, h1, h2, h3⟩ := h.ex
 exact ⟨⟨v, h1, h2, fun i hi => ⟨fun hf => (h3 i hi).1 (hG i hf), (h3 i hi).2⟩⟩, h.mp, fun hf => h.fb (hG _ hf), fun hf => h.fm (hG _ hf), h.ne, h.bB, h.mB, h.fit, h.pS, fun i hi => h.hF i (hG i hi), h.wf⟩
theorem PR.moved {w w' : World} {B b : Nat} {S : ByteArray} {p q : Nat} {t : List Nd} {bm : Nat} {F : Nat -> Prop} {v : Value} (h : PR w B b S p t bm F) (hv : RB w b S p v bm) (h1 : RB w' b S q v bm) (hq : q <= S.size) (k : Kb b w w') : PR w' B b S q t bm F := by
 obtain ⟨v', r1, r2, r3⟩ := h.ex
 have e : v' = v := by have := r1.c2; rw [hv.c2] at this; exact (Option.some.inj this).symm
 subst e
 exact ⟨⟨v', h1, r2.kept k (fun i hi e => (r3 i hi).2.1 e), r3⟩, h.mp.kept k (fun e => h.ne e.symm), h.fb, h.fm, h.ne, h.bB, h.mB, h.fit, hq, fun i hi => Nat.lt_of_lt_of_le (h.hF i hi) k.size, h.wf⟩
theorem PR.kept {w w' : World} {B b : Nat} {S : ByteArray} {p : Nat} {t : List Nd} {bm : Nat} {F : Nat -> Prop} {D : Nat -> Prop} (h : PR w B b S p t bm F) (k : Kept D w w') (hd : ∀ i, D i -> F i) : PR w' B b S p t bm F := by
 obtain ⟨v, r1, r2, r3⟩ := h.ex
 exact ⟨⟨v, r1.kept k (fun e => h.fb (hd _ e)), r2.kept k (fun i hi e => (r3 i hi).1 (hd _ e)), r3⟩, h.mp.kept k (fun e => h.fm (hd _ e)), h.fb, h.fm, h.ne, h.bB, h.mB, h.fit, h.pS, fun i hi => Nat.lt_of_lt_of_le (h.hF i hi) k.size, h.wf⟩
theorem keptF_new {F : Nat -> Prop} {w w2 w3 : World} {D : Nat -> Prop} (h : Kept (fun k => ¬ F k) w w2) (k : Kept D w2 w3) (hd : ∀ i, D i -> ¬ F i \/ w.heap.size <= i) : Kept (fun k => ¬ F k) w w3 :=
 ⟨k.os.trans h.os, k.tape.trans h.tape, k.output.trans h.output, Nat.le_trans h.size k.size, fun i hi hn => by
  rw [k.block i (Nat.lt_of_lt_of_le hi h.size) (fun e => by rcases hd i e with e' | e'; exact hn e'; omega), h.block i hi hn]⟩
theorem iPartsR (f : Nat) (hI : INode f) (w : World) (B b : Nat) (S : ByteArray) (p : Nat) (t : List Nd) (bm : Nat) (F : Nat -> Prop) (n : Nd) (st : Nat) (h : PR w B b S p t bm F) (hlow : ∀ k, k < B -> F k) (hg : ∀ w', Below B w w' -> TabR w') (hs : S.size <= 4000) (hfu : S.size - p <= f) (hop : 2 <= n.op /\ n.op <= 20) :
 Calls Tryz.prog 67 #[.pointer (some ⟨b, 0, none⟩), .agg #[.int .i64 n.op, .int .i64 n.w, .int .i64 n.k, .int .i64 n.a, .int .i64 n.b, .int .i64 n.c], .int .i64 st] w fun e w' => Out (pParts (tl S) (pNode (tl S) f) n st (p, t)) (fun y => e = .returned (.agg #[.int .i64 y.1.op, .int .i64 y.1.w, .int .i64 y.1.k, .int .i64 y.1.a, .int .i64 y.1.b, .int .i64 y.1.c]) /\ PR w' B b S y.2.1 y.2.2 bm F) (fun x => e = .panicked [fl x]) /\ Kept (fun k => ¬ F k) w w' := by
 have H : Hid (PR w B b S p t bm F) := h
 have HI : Hid (INode f) := hI
 have HG : Hid (∀ w', Below B w w' -> TabR w') := hg
 have HLOW : Hid (∀ k, k < B -> F k) := hlow
 have HBw : Hid (B <= w.heap.size) := by obtain ⟨v, r1, _, _⟩ := h.ex; exact Nat.le_trans h.bB (Nat.le_of_lt r1.lt)
 have hbw : b < w.heap.size := by obtain ⟨v, r1, _, _⟩ := h.ex; exact r1.lt
 have hmw : bm < w.heap.size := h.mp.lt
 obtain ⟨C, hC⟩ : ∃ C : Nat, cnt n.op = C := ⟨_, rfl⟩
 have HC : Hid (cnt n.op = C) := hC
 have hC3 : C <= 3 := by rw [<- hC]; unfold cnt; split; omega; split; omega; split <;> omega
 have HPP : Hid (pParts (tl S) (pNode (tl S) f) n st (p, t) = (pMany (tl S) (pNode (tl S) f) st C (p, t)).bind fun y => (pNeed (tl S) 41 st y.2.1).bind fun q => .ok (setParts n y.1, (q, y.2.2))) := by
  show _ = _
  unfold pParts
  rw [parts_cnt, hC]
 obtain ⟨w0, hw0⟩ : ∃ w0 : World, w0 = ((w.alloc (.cells #[.int .i64 n.op, .int .i64 n.w, .int .i64 n.k, .int .i64 n.a, .int .i64 n.b, .int .i64 n.c] 33)).alloc (.cells #[.int .i64 0, .int .i64 0, .int .i64 0, .int .i64 0, .int .i64 0, .int .i64 0] 33)).alloc (.cells #[.int .i64 0, .int .i64 0, .int .i64 0] 95) := ⟨_, rfl⟩
 obtain ⟨bn, hbn⟩ : ∃ bn : Nat, bn = w.heap.size := ⟨_, rfl⟩
 have hb0 : Below w.heap.size w w0 := by rw [hw0]; exact (((Below.refl _ _).alloc (Nat.le_refl _) _).alloc (by simp) _).alloc (by simp; omega) _
 have hs0 : w0.heap.size = w.heap.size + 3 := by rw [hw0]; simp
 have HN0 : Hid (NW w0 bn n) := by
  show NW _ _ _
  rw [hw0]
  exact (NW.new w n 33 bn hbn).kept (D := fun _ => False) (((Kept.refl _ _).alloc _).alloc _) (fun e => e)
 have HR0 : Hid (NW w0 (bn + 1) ⟨0, 0, 0, 0, 0, 0⟩) := by
  show NW _ _ _
  rw [hw0]
  exact (NW.new (w.alloc (.cells #[.int .i64 n.op, .int .i64 n.w, .int .i64 n.k, .int .i64 n.a, .int .i64 n.b, .int .i64 n.c] 33)) ⟨0, 0, 0, 0, 0, 0⟩ 33 (bn + 1) (by rw [hbn]; simp)).kept (D := fun _ => False) ((Kept.refl _ _).alloc _) (fun e => e)
 have HA0 : Hid (A3 w0 (bn + 2) []) := by
  show A3 _ _ _
  rw [hw0]
  exact A3.new _ _ _ (by rw [hbn]; simp)
 obtain ⟨G, hG⟩ : ∃ G : Nat -> Prop, G = fun k => F k \/ k = bn \/ k = bn + 1 \/ k = bn + 2 := ⟨_, rfl⟩
 have HP0 : Hid (PR w0 B b S p t bm G) := PR.widen h hb0 (fun i hi => by
  rw [hG] at hi
  rcases hi with e | e | e | e
  ·exact .inl e
  ·exact .inr (by omega)
  ·exact .inr (by omega)
  ·exact .inr (by omega))
 have HGF : Hid (∀ i, F i -> G i) := fun i hi => by rw [hG]; exact .inl hi
 have HGN : Hid (∀ i, i = bn \/ i = bn + 1 \/ i = bn + 2 -> G i) := fun i hi => by rw [hG]; exact .inr hi
 have HGL : Hid (∀ k, k < B -> G k) := fun k hk => by rw [hG]; exact .inl (hlow k hk)
 have HK0 : Hid (Kept (fun k => ¬ F k) w w0) := keptF_below hb0
 have HBN : Hid (w.heap.size <= bn) := by show _ <= _; omega
 have HW0 : Hid (w0 = ((w.alloc (.cells #[.int .i64 n.op, .int .i64 n.w, .int .i64 n.k, .int .i64 n.a, .int .i64 n.b, .int .i64 n.c] 33)).alloc (.cells #[.int .i64 0, .int .i64 0, .int .i64 0, .int .i64 0, .int .i64 0, .int .i64 0] 33)).alloc (.cells #[.int .i64 0, .int .i64 0, .int .i64 0] 95)) := hw0
 have HNE : Hid (bn ≠ b /\ bn + 1 ≠ b /\ bn + 2 ≠ b) := ⟨by omega, by omega, by omega⟩
 clear hw0 hb0 h hI hg hlow hG hs0 hbw hmw hC
 go_enter Tryz.func67, Tryz.ntmps67
 go_wp2_with fail
 refine (iCount _ _).mono ?_
 rintro e w' ⟨rfl, rfl⟩
 rw [HC.out, <- HW0.out, <- hbn]
 clear hbn
 go_wp2_with fail
 go_loopw [14] (fun q wr => ∃ (k : Nat) (is : List Nat) (p1 : Nat) (u : List Nd), k <= C /\ q = .int .i64 k /\ pMany (tl S) (pNode (tl S) f) st k (p, t) = .ok (is, (p1, u)) /\ PR wr B b S p1 u bm G /\ NW wr bn n /\ NW wr (bn + 1) ⟨0, 0, 0, 0, 0, 0⟩ /\ A3 wr (bn + 2) is /\ Kept (fun k => ¬ F k) w wr) (fun q _ => C - (intOf q).toNat)
 case atStart => exact ⟨0, [], p, t, Nat.zero_le _, rfl, rfl, HP0.out, HN0.out, HR0.out, HA0.out, HK0.out⟩
 case round =>
  obtain ⟨k, is, p1, u, hk, rfl, hm, hpr, hn, hr, ha, hkp⟩ := hrel
  have HM : Hid (pMany (tl S) (pNode (tl S) f) st k (p, t) = .ok (is, (p1, u))) := hm
  have HP : Hid (PR wr B b S p1 u bm G) := hpr
  have HN : Hid (NW wr bn n) := hn
  have HR : Hid (NW wr (bn + 1) ⟨0, 0, 0, 0, 0, 0⟩) := hr
  have HA : Hid (A3 wr (bn + 2) is) := ha
  have HK : Hid (Kept (fun k => ¬ F k) w wr) := hkp
  have hp1 : p1 <= S.size := hpr.pS
  have hmo : p + k <= p1 := many_mono (fun x y hxy => node_mono _ _ x y hxy) hm
  obtain ⟨v, hrb, hown, hvb⟩ := hpr.ex
  have HRB : Hid (RB wr b S p1 v bm) := hrb
  clear hm hpr hn hr ha hkp hown hvb hrb
  by_cases hlt : k < C
  ·have hkz : (k : Int) < (C : Int) := by omega
   have HMS : Hid (pMany (tl S) (pNode (tl S) f) st (k + 1) (p, t) = (pNeed (tl S) 32 st p1).bind fun q => (pNode (tl S) f (q, u)).bind fun z => .ok (is ++ [z.1], z.2)) := by
    show _ = _
    rw [many_snoc, HM.out]; rfl
   go_wp2_with fail
   refine (iNeed _ b S p1 v bm 32 st HRB.out (by omega) hp1).mono ?_
   rintro e w1 ⟨ho1, hk1⟩
   have HK1 : Hid (Kept (fun k => ¬ F k) w w1) := keptF_new HK.out hk1 (fun i hi => .inl (by have e : i = b := hi; rw [e]; exact H.out.fb))
   have HN1 : Hid (NW w1 bn n) := HN.out.kept hk1 (fun e => HNE.out.1 e)
   have HR1 : Hid (NW w1 (bn + 1) ⟨0, 0, 0, 0, 0, 0⟩) := HR.out.kept hk1 (fun e => HNE.out.2.1 e)
   have HA1 : Hid (A3 w1 (bn + 2) is) := HA.out.kept hk1 (fun e => HNE.out.2.2 e)
   have HKB : Hid (Kb b wr w1) := hk1
   clear hk1
   cases h1 : pNeed (tl S) 32 st p1 with
   | error x =>
     obtain rfl := ho1.2 x h1
     have HE : Hid (pParts (tl S) (pNode (tl S) f) n st (p, t) = .error x) := by
      show _ = _
      rw [HPP.out, many_err (k := k + 1) (by omega) (by rw [HMS.out, h1]; rfl)]; rfl
     clear ho1 h1
     go_wp2
     exact ⟨rfl, Out.error HE.out rfl, HK1.out⟩
   | ok q =>
     obtain ⟨rfl, hr1, hq⟩ := ho1.1 q h1
     have hq1 : q = p1 + 1 := need_mono h1
     have HP1 : Hid (PR w1 B b S q u bm G) := PR.moved HP.out HRB.out hr1 hq HKB.out
     have HMS1 : Hid (pMany (tl S) (pNode (tl S) f) st (k + 1) (p, t) = (pNode (tl S) f (q, u)).bind fun z => .ok (is ++ [z.1], z.2)) := by
      show _ = _
      rw [HMS.out, h1]; rfl
     have HT1 : Hid (∀ w', Below B w1 w' -> TabR w') := fun w' hb => HG.out _ ((below_of HK1.out HLOW.out HBw.out).trans hb)
     have hfq : S.size - q < f := by omega
     clear ho1 h1 hr1 hq1
     go_wp2_with fail
     refine (HI.out w1 B b S q u bm G HP1.out HGL.out HT1.out hs hfq).mono ?_
     rintro e w2 ⟨ho2, hk2⟩
     have HK2 : Hid (Kept (fun k => ¬ F k) w w2) := keptF_new HK1.out hk2 (fun i hi => .inl (fun hf => hi (HGF.out i hf)))
     have HN2 : Hid (NW w2 bn n) := HN1.out.kept hk2 (fun e => e (HGN.out _ (.inl rfl)))
     have HR2 : Hid (NW w2 (bn + 1) ⟨0, 0, 0, 0, 0, 0⟩) := HR1.out.kept hk2 (fun e => e (HGN.out _ (.inr (.inl rfl))))
     have HA2 : Hid (A3 w2 (bn + 2) is) := HA1.out.kept hk2 (fun e => e (HGN.out _ (.inr (.inr rfl))))
     clear hk2
     cases h2 : pNode (tl S) f (q, u) with
     | error x =>
       obtain rfl := ho2.2 x h2
       have HE : Hid (pParts (tl S) (pNode (tl S) f) n st (p, t) = .error x) := by
        show _ = _
        rw [HPP.out, many_err (k := k + 1) (by omega) (by rw [HMS1.out, h2]; rfl)]; rfl
       clear ho2 h2
       go_wp2
       exact ⟨rfl, Out.error HE.out rfl, HK2.out⟩
     | ok z =>
       obtain ⟨rfl, hpz⟩ := ho2.1 z h2
       have HPZ : Hid (PR w2 B b S z.2.1 z.2.2 bm G) := hpz
       have HMZ : Hid (pMany (tl S) (pNode (tl S) f) st (k + 1) (p, t) = .ok (is ++ [z.1], (z.2.1, z.2.2))) := by
        show _ = _
        rw [HMS1.out, h2]; rfl
       have HLI : Hid (is.length = k) := many_len HM.out
       have hk3 : k < 3 := by omega
       have hk3z : (k : Int) < 3 := by omega
       obtain ⟨u9, hc9⟩ : ∃ u9, w2.cell? ⟨bn + 2, k, none⟩ = some u9 := by
        have : k = 0 \/ k = 1 \/ k = 2 := by omega
        rcases this with rfl | rfl | rfl
        ·exact ⟨_, HA2.out.c0⟩
        ·exact ⟨_, HA2.out.c1⟩
        ·exact ⟨_, HA2.out.c2⟩
       have hf9 : w2.frozen? ⟨bn + 2, k, none⟩ = false := by
        have : k = 0 \/ k = 1 \/ k = 2 := by omega
        rcases this with rfl | rfl | rfl
        ·exact HA2.out.f0
        ·exact HA2.out.f1
        ·exact HA2.out.f2
       obtain ⟨w3, hw3⟩ : ∃ w3 : World, w3 = w2.setCell ⟨bn + 2, k, none⟩ (.int .i64 (z.1 : Int)) := ⟨_, rfl⟩
       have hks : Kept (fun i => i = bn + 2) w2 w3 := by rw [hw3]; exact (Kept.refl (fun i => i = bn + 2) _).setCell (p := ⟨bn + 2, k, none⟩) rfl _
       have HP3 : Hid (PR w3 B b S z.2.1 z.2.2 bm G) := PR.kept HPZ.out hks (fun i hi => HGN.out _ (.inr (.inr hi)))
       have HN3 : Hid (NW w3 bn n) := HN2.out.kept hks (fun e => by have e' : bn = bn + 2 := e; omega)
       have HR3 : Hid (NW w3 (bn + 1) ⟨0, 0, 0, 0, 0, 0⟩) := HR2.out.kept hks (fun e => by have e' : bn + 1 = bn + 2 := e; omega)
       have HA3 : Hid (A3 w3 (bn + 2) (is ++ [z.1])) := by show A3 _ _ _; rw [hw3]; exact HA2.out.set k HLI.out hk3 _
       have HK3 : Hid (Kept (fun k => ¬ F k) w w3) := keptF_new HK2.out hks (fun i hi => .inr (by have e : i = bn + 2 := hi; have := HBN.out; omega))
       have HW3 : Hid (w3 = w2.setCell ⟨bn + 2, k, none⟩ (.int .i64 (z.1 : Int))) := hw3
       clear ho2 h2 hpz hks hw3
       go_wp2
       rw [<- HW3.out]
       go_roundw
       case rel => exact ⟨k + 1, is ++ [z.1], z.2.1, z.2.2, by omega, by go_num, HMZ.out, HP3.out, HN3.out, HR3.out, HA3.out, HK3.out⟩
       case measure => simp [intOf]; omega
  ·have hkz : ¬ (k : Int) < (C : Int) := by omega
   have hkC : k = C := by omega
   have HPM : Hid (pParts (tl S) (pNode (tl S) f) n st (p, t) = (pNeed (tl S) 41 st p1).bind fun q => .ok (setParts n is, (q, u))) := by
    show _ = _
    rw [HPP.out, <- hkC, HM.out]; rfl
   have HLI : Hid (is.length = C) := by show _ = _; rw [<- hkC]; exact many_len HM.out
   clear hkC
   go_wp2_with fail
   refine (iNeed _ b S p1 v bm 41 st HRB.out (by omega) hp1).mono ?_
   rintro e w1 ⟨ho1, hk1⟩
   have HK1 : Hid (Kept (fun k => ¬ F k) w w1) := keptF_new HK.out hk1 (fun i hi => .inl (by have e : i = b := hi; rw [e]; exact H.out.fb))
   have HN1 : Hid (NW w1 bn n) := HN.out.kept hk1 (fun e => HNE.out.1 e)
   have HR1 : Hid (NW w1 (bn + 1) ⟨0, 0, 0, 0, 0, 0⟩) := HR.out.kept hk1 (fun e => HNE.out.2.1 e)
   have HA1 : Hid (A3 w1 (bn + 2) is) := HA.out.kept hk1 (fun e => HNE.out.2.2 e)
   have HKB : Hid (Kb b wr w1) := hk1
   clear hk1
   cases h1 : pNeed (tl S) 41 st p1 with
   | error x =>
     obtain rfl := ho1.2 x h1
     have HE : Hid (pParts (tl S) (pNode (tl S) f) n st (p, t) = .error x) := by show _ = _; rw [HPM.out, h1]; rfl
     clear ho1 h1
     go_wp2
     exact ⟨rfl, Out.error HE.out rfl, HK1.out⟩
   | ok q =>
     obtain ⟨rfl, hr1, hq⟩ := ho1.1 q h1
     have HP1 : Hid (PR w1 B b S q u bm G) := PR.moved HP.out HRB.out hr1 hq HKB.out
     have HE : Hid (pParts (tl S) (pNode (tl S) f) n st (p, t) = .ok (setParts n is, (q, u))) := by show _ = _; rw [HPM.out, h1]; rfl
     clear ho1 h1 hr1
     go_wp2_with fail
     obtain ⟨x0, hx0⟩ : ∃ x0 : Nat, is.getD 0 0 = x0 := ⟨_, rfl⟩
     obtain ⟨x1, hx1⟩ : ∃ x1 : Nat, is.getD 1 0 = x1 := ⟨_, rfl⟩
     obtain ⟨x2, hx2⟩ : ∃ x2 : Nat, is.getD 2 0 = x2 := ⟨_, rfl⟩
     have a0 : w1.cell? ⟨bn + 1 + 1, 0, none⟩ = some (.int .i64 ((x0 : Nat) : Int)) := by rw [<- hx0]; exact HA1.out.c0
     have a2 : w1.cell? ⟨bn + 1 + 1, 2, none⟩ = some (.int .i64 ((x2 : Nat) : Int)) := by rw [<- hx2]; exact HA1.out.c2
     have d3 := HN1.out.c3
     have d5 := HN1.out.c5
     have g3 := HN1.out.f3
     have g5 := HN1.out.f5
     have HX : Hid (is.getD 0 0 = x0 /\ is.getD 1 0 = x1 /\ is.getD 2 0 = x2) := ⟨hx0, hx1, hx2⟩
     clear hx0 hx1 hx2
     go_region_held (fun w' => w'.cell? ⟨bn + 1 + 1, 0, none⟩ = some (.int .i64 ((x0 : Nat) : Int)) /\ w'.cell? ⟨bn + 1 + 1, 2, none⟩ = some (.int .i64 ((x2 : Nat) : Int))) ((first | exact ⟨a0, a2⟩ | exact ⟨((set_other (fun e => by have e' := congrArg Addr.block e; dsimp only at e'; omega)).trans a0), ((set_other (fun e => by have e' := congrArg Addr.block e; dsimp only at e'; omega)).trans a2)⟩ | exact ⟨((set_other (fun e => by have e' := congrArg Addr.block e; dsimp only at e'; omega)).trans ((set_other (fun e => by have e' := congrArg Addr.block e; dsimp only at e'; omega)).trans a0)), ((set_other (fun e => by have e' := congrArg Addr.block e; dsimp only at e'; omega)).trans ((set_other (fun e => by have e' := congrArg Addr.block e; dsimp only at e'; omega)).trans a2))⟩)) (fail)
     obtain ⟨w2, hw2⟩ : ∃ w2 : World, w2 = ((w1.setCell ⟨bn, 3, none⟩ (.int .i64 (x0 : Int))).setCell ⟨bn, 5, none⟩ (.int .i64 (x2 : Int))).drew := ⟨_, rfl⟩
     have hks : Kept (fun i => i = bn) w1 w2 := by rw [hw2]; exact (((Kept.refl (fun i => i = bn) _).setCell (p := ⟨bn, 3, none⟩) rfl _).setCell (p := ⟨bn, 5, none⟩) rfl _).drewN 1
     have HP2 : Hid (PR w2 B b S q u bm G) := PR.kept HP1.out hks (fun i hi => HGN.out _ (.inl hi))
     have HN2 : Hid (NW w2 bn ⟨n.op, n.w, n.k, x0, n.b, x2⟩) := by
      show NW _ _ _
      rw [hw2]
      exact ((HN1.out.setA _).setC _).kept (D := fun _ => False) ((Kept.refl _ _).drewN 1) (fun e => e)
     have HR2 : Hid (NW w2 (bn + 1) ⟨0, 0, 0, 0, 0, 0⟩) := HR1.out.kept hks (fun e => by have e' : bn + 1 = bn := e; omega)
     have HA2 : Hid (A3 w2 (bn + 2) is) := HA1.out.kept hks (fun e => by have e' : bn + 2 = bn := e; omega)
     have HK2 : Hid (Kept (fun k => ¬ F k) w w2) := keptF_new HK1.out hks (fun i hi => .inr (by have e : i = bn := hi; have := HBN.out; omega))
     rw [<- hw2]
     clear hw2 hks a0 a2 d3 d5 g3 g5
     by_cases hc1 : 1 < C
     ·have hcz : (1 : Int) < (C : Int) := by omega
      have a1 : w2.cell? ⟨bn + 1 + 1, 1, none⟩ = some (.int .i64 ((x1 : Nat) : Int)) := by rw [<- HX.out.2.1]; exact HA2.out.c1
      have d0 := HN2.out.c0
      have d1 := HN2.out.c1
      have d2 := HN2.out.c2
      have d3 := HN2.out.c3
      have d4 := HN2.out.c4
      have d5 := HN2.out.c5
      have g4 := HN2.out.f4
      have r0 := HR2.out.c0
      have q0 := HR2.out.f0
      have r1 := HR2.out.c1
      have q1 := HR2.out.f1
      have r2 := HR2.out.c2
      have q2 := HR2.out.f2
      have r3 := HR2.out.c3
      have q3 := HR2.out.f3
      have r4 := HR2.out.c4
      have q4 := HR2.out.f4
      have r5 := HR2.out.c5
      have q5 := HR2.out.f5
      obtain ⟨w3, hw3⟩ : ∃ w3 : World, w3 = w2.setCell ⟨bn, 4, none⟩ (.int .i64 (x1 : Int)) := ⟨_, rfl⟩
      have hks : Kept (fun i => i = bn) w2 w3 := by rw [hw3]; exact (Kept.refl (fun i => i = bn) _).setCell (p := ⟨bn, 4, none⟩) rfl _
      have HP3 : Hid (PR w3 B b S q u bm G) := PR.kept HP2.out hks (fun i hi => HGN.out _ (.inl hi))
      have HR3 : Hid (NW w3 (bn + 1) ⟨0, 0, 0, 0, 0, 0⟩) := HR2.out.kept hks (fun e => by have e' : bn + 1 = bn := e; omega)
      have HK3 : Hid (Kept (fun k => ¬ F k) w w3) := keptF_new HK2.out hks (fun i hi => .inr (by have e : i = bn := hi; have := HBN.out; omega))
      have HW3 : Hid (w3 = w2.setCell ⟨bn, 4, none⟩ (.int .i64 (x1 : Int))) := hw3
      clear hw3 hks
      obtain ⟨wf, hwf⟩ : ∃ wf : World, wf = setNode w3 (bn + 1) 0 (⟨n.op, n.w, n.k, (x0 : Int), (x1 : Int), (x2 : Int)⟩ : Nd) := ⟨_, rfl⟩
      have HNF : Hid (NodeAt wf (bn + 1) 0 (⟨n.op, n.w, n.k, (x0 : Int), (x1 : Int), (x2 : Int)⟩ : Nd)) := by
       show NodeAt _ _ _ _
       rw [hwf]; exact setNode_same (v := ⟨0, 0, 0, 0, 0, 0⟩) ⟨HR3.out.c0, HR3.out.c1, HR3.out.c2, HR3.out.c3, HR3.out.c4, HR3.out.c5⟩
      have hkf : Kept (fun k => k = bn + 1) w3 wf := by rw [hwf]; exact setNode_keptS rfl (Kept.refl _ _)
      have HPF : Hid (PR wf B b S q u bm F) := PR.narrow (w0 := wf) (PR.kept HP3.out hkf (fun i hi => HGN.out _ (.inr (.inl hi)))) HGF.out
      have HKF : Hid (Kept (fun k => ¬ F k) w wf) := keptF_new HK3.out hkf (fun i hi => .inr (by have e : i = bn + 1 := hi; have := HBN.out; omega))
      have HWF : Hid (wf = setNode w3 (bn + 1) 0 (⟨n.op, n.w, n.k, (x0 : Int), (x1 : Int), (x2 : Int)⟩ : Nd)) := hwf
      have HND : Hid (setParts n is = (⟨n.op, n.w, n.k, (x0 : Int), (x1 : Int), (x2 : Int)⟩ : Nd)) := by
       show _ = _
       unfold setParts
       rw [HX.out.1, HX.out.2.1, HX.out.2.2, HLI.out, if_pos hc1]
      clear hwf hkf
      go_wp2
      rw [<- HW3.out]
      have hWF := HWF.out
      simp only [setNode, Nat.zero_add] at hWF
      rw [<- hWF]
      have j0 := HNF.out.c0
      have j1 := HNF.out.c1
      have j2 := HNF.out.c2
      have j3 := HNF.out.c3
      have j4 := HNF.out.c4
      have j5 := HNF.out.c5
      simp only [Nat.zero_add] at j1 j2 j3 j4 j5
      refine bodyPost_ret (v := .agg #[.int .i64 (⟨n.op, n.w, n.k, (x0 : Int), (x1 : Int), (x2 : Int)⟩ : Nd).op, .int .i64 (⟨n.op, n.w, n.k, (x0 : Int), (x1 : Int), (x2 : Int)⟩ : Nd).w, .int .i64 (⟨n.op, n.w, n.k, (x0 : Int), (x1 : Int), (x2 : Int)⟩ : Nd).k, .int .i64 (⟨n.op, n.w, n.k, (x0 : Int), (x1 : Int), (x2 : Int)⟩ : Nd).a, .int .i64 (⟨n.op, n.w, n.k, (x0 : Int), (x1 : Int), (x2 : Int)⟩ : Nd).b, .int .i64 (⟨n.op, n.w, n.k, (x0 : Int), (x1 : Int), (x2 : Int)⟩ : Nd).c]) (by simp [results, Tryz.results67, go_sem, j0, j1, j2, j3, j4, j5]) rfl ⟨Out.ok (by rw [HE.out, HND.out]) ⟨rfl, HPF.out⟩, HKF.out⟩
     ·have hcz : ¬ (1 : Int) < (C : Int) := by omega
      have d0 := HN2.out.c0
      have d1 := HN2.out.c1
      have d2 := HN2.out.c2
      have d3 := HN2.out.c3
      have d4 := HN2.out.c4
      have d5 := HN2.out.c5
      have r0 := HR2.out.c0
      have q0 := HR2.out.f0
      have r1 := HR2.out.c1
      have q1 := HR2.out.f1
      have r2 := HR2.out.c2
      have q2 := HR2.out.f2
      have r3 := HR2.out.c3
      have q3 := HR2.out.f3
      have r4 := HR2.out.c4
      have q4 := HR2.out.f4
      have r5 := HR2.out.c5
      have q5 := HR2.out.f5
      have HP3 : Hid (PR w2 B b S q u bm G) := HP2
      have HR3 : Hid (NW w2 (bn + 1) ⟨0, 0, 0, 0, 0, 0⟩) := HR2
      have HK3 : Hid (Kept (fun k => ¬ F k) w w2) := HK2
      obtain ⟨wf, hwf⟩ : ∃ wf : World, wf = setNode w2 (bn + 1) 0 (⟨n.op, n.w, n.k, (x0 : Int), n.b, (x2 : Int)⟩ : Nd) := ⟨_, rfl⟩
      have HNF : Hid (NodeAt wf (bn + 1) 0 (⟨n.op, n.w, n.k, (x0 : Int), n.b, (x2 : Int)⟩ : Nd)) := by
       show NodeAt _ _ _ _
       rw [hwf]; exact setNode_same (v := ⟨0, 0, 0, 0, 0, 0⟩) ⟨HR3.out.c0, HR3.out.c1, HR3.out.c2, HR3.out.c3, HR3.out.c4, HR3.out.c5⟩
      have hkf : Kept (fun k => k = bn + 1) w2 wf := by rw [hwf]; exact setNode_keptS rfl (Kept.refl _ _)
      have HPF : Hid (PR wf B b S q u bm F) := PR.narrow (w0 := wf) (PR.kept HP3.out hkf (fun i hi => HGN.out _ (.inr (.inl hi)))) HGF.out
      have HKF : Hid (Kept (fun k => ¬ F k) w wf) := keptF_new HK3.out hkf (fun i hi => .inr (by have e : i = bn + 1 := hi; have := HBN.out; omega))
      have HWF : Hid (wf = setNode w2 (bn + 1) 0 (⟨n.op, n.w, n.k, (x0 : Int), n.b, (x2 : Int)⟩ : Nd)) := hwf
      have HND : Hid (setParts n is = (⟨n.op, n.w, n.k, (x0 : Int), n.b, (x2 : Int)⟩ : Nd)) := by
       show _ = _
       unfold setParts
       rw [HX.out.1, HX.out.2.1, HX.out.2.2, HLI.out, if_neg hc1]
      clear hwf hkf
      go_wp2
      have hWF := HWF.out
      simp only [setNode, Nat.zero_add] at hWF
      rw [<- hWF]
      have j0 := HNF.out.c0
      have j1 := HNF.out.c1
      have j2 := HNF.out.c2
      have j3 := HNF.out.c3
      have j4 := HNF.out.c4
      have j5 := HNF.out.c5
      simp only [Nat.zero_add] at j1 j2 j3 j4 j5
      refine bodyPost_ret (v := .agg #[.int .i64 (⟨n.op, n.w, n.k, (x0 : Int), n.b, (x2 : Int)⟩ : Nd).op, .int .i64 (⟨n.op, n.w, n.k, (x0 : Int), n.b, (x2 : Int)⟩ : Nd).w, .int .i64 (⟨n.op, n.w, n.k, (x0 : Int), n.b, (x2 : Int)⟩ : Nd).k, .int .i64 (⟨n.op, n.w, n.k, (x0 : Int), n.b, (x2 : Int)⟩ : Nd).a, .int .i64 (⟨n.op, n.w, n.k, (x0 : Int), n.b, (x2 : Int)⟩ : Nd).b, .int .i64 (⟨n.op, n.w, n.k, (x0 : Int), n.b, (x2 : Int)⟩ : Nd).c]) (by simp [results, Tryz.results67, go_sem, j0, j1, j2, j3, j4, j5]) rfl ⟨Out.ok (by rw [HE.out, HND.out]) ⟨rfl, HPF.out⟩, HKF.out⟩
end Pr9
namespace Pr10
open Go.RowKit
open Nd0 Nd3 Tm0 Tx0 Tx1 Tx5 Ss0 Ss1 Tb0 Tb1 Px0 Px1 Pr1 Pr2
theorem iOpOf (w : World) (W : ByteArray) (h : Tabs w) :
 Calls Tryz.prog 98 #[.string W] w fun e w' => e = .returned (.tuple #[.int .i64 (((opP (tl W)).getD 0 : Nat) : Int), .bool (opP (tl W)).isSome]) /\ Below w.heap.size w w' := by
 have H : Hid (Tabs w) := h
 clear h
 go_enter Tryz.func98, Tryz.ntmps98
 go_wp2_with fail
 go_loopw [4] (fun q wr => ∃ k : Nat, 2 <= k /\ k <= 21 /\ q = .int .i64 k /\ wr = w /\ ∀ j, 2 <= j -> j < k -> opTab.getD j [] ≠ tl W) (fun q _ => 21 - (intOf q).toNat)
 case atStart => exact ⟨2, Nat.le_refl _, by omega, rfl, rfl, fun j h1 h2 => by omega⟩
 case round =>
  obtain ⟨k, hk2, hk21, rfl, rfl, hn⟩ := hrel
  have HNO : Hid (∀ j, 2 <= j -> j < k -> opTab.getD j [] ≠ tl W) := hn
  clear hn
  by_cases hlt : k <= 20
  ·have hkz : (k : Int) <= 20 := by omega
   have hkz2 : (k : Int) < 21 := by omega
   have hc := H.out.ops k (by omega)
   obtain ⟨X, hX⟩ : ∃ X, opTab.getD k [] = X := ⟨_, rfl⟩
   rw [hX] at hc
   have HX : Hid (opTab.getD k [] = X) := hX
   clear hX
   by_cases he : X = tl W
   ·have hq : ((bs X).toList == W.toList) = true := eqb_true (by rw [tl_bs]; exact he)
    have HE : Hid (opP (tl W) = some k) := opP_at hk2 hlt (by rw [HX.out]; exact he) HNO.out
    clear he
    go_wp2
    refine bodyPost_ret (v := .tuple #[.int .i64 (k : Int), .bool true]) (by simp [results, Tryz.results98, go_sem]) rfl ⟨by rw [HE.out]; rfl, Below.refl _ _⟩
   ·have hq : ((bs X).toList == W.toList) = false := eqb_false (by rw [tl_bs]; exact he)
    have HN2 : Hid (∀ j, 2 <= j -> j < k + 1 -> opTab.getD j [] ≠ tl W) := fun j h1 h2 => by
     by_cases hj : j = k
     ·subst hj; rw [HX.out]; exact he
     ·exact HNO.out j h1 (by omega)
    clear he
    go_wp2
    go_roundw
    case rel => exact ⟨k + 1, by omega, by omega, by go_num, trivial, HN2.out⟩
    case measure => simp [intOf]; omega
  ·have hkz : ¬ (k : Int) <= 20 := by omega
   have hk : k = 21 := by omega
   have HE : Hid (opP (tl W) = none) := opP_none (fun j h1 h2 => HNO.out j h1 (by omega))
   clear hk
   go_wp2
   refine bodyPost_ret (v := .tuple #[.int .i64 0, .bool false]) (by simp [results, Tryz.results98, go_sem]) rfl ⟨by rw [HE.out]; rfl, Below.refl _ _⟩
end Pr10
end Go.Proofs.YtiaimhgfimhepaaGreatDoor
