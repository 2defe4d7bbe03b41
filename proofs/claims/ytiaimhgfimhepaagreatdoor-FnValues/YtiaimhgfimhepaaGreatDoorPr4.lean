import Derived.Deep.RegionHeld
import Derived.Test.YtiaimhgfimhepaaGreatDoorMp0
namespace Go.Proofs.YtiaimhgfimhepaaGreatDoor
set_option maxRecDepth 100000
set_option maxHeartbeats 8000000
set_option linter.unusedVariables false
namespace Pr4
open Go.RowKit
open Dw3 Dw4 Nd0 Nd3 Ap2 Tm0 Tx0 Tx1 Ss0 Ss1 Tb0 Tb1 Px0 Pr1 Pr2 Mp0
open Ss4 (Fit)
open Pg6 (rightB iRight right_take)
open Ws1 (ret_int ret_bool)
structure PR (w : World) (B b : Nat) (S : ByteArray) (p : Nat) (t : List Nd) (bm : Nat) (F : Nat -> Prop) : Prop where
 ex : ∃ v, RB w b S p v bm /\ Ap2.Own w B v t /\ ∀ k, v.ownBlock = some k -> ¬ F k /\ k ≠ b /\ k ≠ bm
 mp : Mp w bm t
 fb : ¬ F b
 fm : ¬ F bm
 ne : b ≠ bm
 bB : B <= b
 mB : B <= bm
 fit : Fit t
 pS : p <= S.size
 hF : ∀ k, F k -> k < w.heap.size
 wf : ∀ n ∈ t, WfN n
theorem right_end {t : List Nd} (n : Nd) : rightB t n = nodeOk (t ++ [n]) t.length := by
 have h := right_take (l := t ++ [n]) (k := t.length) (by simp)
 rw [List.take_left' rfl, Tx2.nth_end] at h
 exact h
theorem place_none {t : List Nd} {n : Nd} (h : placeOf t n = none) (q : Nat) : putL t n q = if nodeOk (t ++ [n]) t.length then (if 80 < t.length + 1 then .error (4, q) else .ok (t ++ [n], t.length)) else .error (3, q) := by
 unfold putL; rw [h]
theorem place_some {t : List Nd} {n : Nd} {i : Nat} (h : placeOf t n = some i) (q : Nat) : putL t n q = .ok (t, i) := by
 unfold putL; rw [h]
theorem RB.list {w : World} {b : Nat} {S : ByteArray} {p : Nat} {v : Value} {bm : Nat} (h : RB w b S p v bm) (u : Value) : RB (w.setCell ⟨b, 2, none⟩ u) b S p u bm :=
 ⟨by rw [set_other (by simp)]; exact h.c0, by rw [set_other (by simp)]; exact h.c1, set_same h.c2, by rw [set_other (by simp)]; exact h.c3, by simpa using h.f1, by simpa using h.f2⟩
theorem PR.below {w w' : World} {B b : Nat} {S : ByteArray} {p : Nat} {t : List Nd} {bm : Nat} {F : Nat -> Prop} (h : PR w B b S p t bm F) (k : Below w.heap.size w w') : PR w' B b S p t bm F := by
 obtain ⟨v, h1, h2, h3⟩ := h.ex
 exact ⟨⟨v, h1.below k, h2.kept (S := fun _ => False) (Kept.ofBelow k) (fun _ _ e => e), h3⟩, h.mp.kept (S := fun _ => False) (Kept.ofBelow k) (fun e => e), h.fb, h.fm, h.ne, h.bB, h.mB, h.fit, h.pS, fun i hi => Nat.lt_of_lt_of_le (h.hF i hi) k.size, h.wf⟩
theorem keptF_below {F : Nat -> Prop} {w w' : World} (h : Below w.heap.size w w') : Kept (fun k => ¬ F k) w w' := ⟨h.os, h.tape, h.output, h.size, fun i hi _ => h.block i hi⟩
theorem keptF_of {F D : Nat -> Prop} {w w' : World} (h : Kept D w w') (hd : ∀ k, D k -> ¬ F k) : Kept (fun k => ¬ F k) w w' := ⟨h.os, h.tape, h.output, h.size, fun i hi hn => h.block i hi (fun e => hn (hd i e))⟩
theorem nodeat_kept {w w' : World} {bn : Nat} {n : Nd} {D : Nat -> Prop} (h : NodeAt w bn 0 n) (k : Kept D w w') (hd : ¬ D bn) : NodeAt w' bn 0 n := by
 obtain ⟨c0, c1, c2, c3, c4, c5⟩ := h
 have hb : bn < w.heap.size := lt_of_cell (p := ⟨bn, 0, none⟩) c0
 exact ⟨by rw [k.cell (p := ⟨bn, 0, none⟩) hb hd]; exact c0, by rw [k.cell (p := ⟨bn, 0 + 1, none⟩) hb hd]; exact c1, by rw [k.cell (p := ⟨bn, 0 + 2, none⟩) hb hd]; exact c2, by rw [k.cell (p := ⟨bn, 0 + 3, none⟩) hb hd]; exact c3, by rw [k.cell (p := ⟨bn, 0 + 4, none⟩) hb hd]; exact c4, by rw [k.cell (p := ⟨bn, 0 + 5, none⟩) hb hd]; exact c5⟩
theorem iPut (w : World) (B b : Nat) (S : ByteArray) (p : Nat) (t : List Nd) (bm : Nat) (F : Nat -> Prop) (n : Nd) (st : Nat) (h : PR w B b S p t bm F) (hn : WfN n) :
 Calls Tryz.prog 70 #[.pointer (some ⟨b, 0, none⟩), .agg #[.int .i64 n.op, .int .i64 n.w, .int .i64 n.k, .int .i64 n.a, .int .i64 n.b, .int .i64 n.c], .int .i64 st] w fun e w' => Out (putL t n st) (fun x => e = .returned (.int .i64 (x.2 : Int)) /\ PR w' B b S p x.1 bm F) (fun x => e = .panicked [fl x]) /\ Kept (fun k => ¬ F k) w w' := by
 have H : Hid (PR w B b S p t bm F) := h
 have HWF : Hid (WfN n) := hn
 obtain ⟨v, hrb, hown, hvb⟩ := h.ex
 obtain ⟨a, c, rfl, hwn⟩ := hown.form
 obtain ⟨w1, hw1⟩ : ∃ w1 : World, w1 = w.alloc (.cells #[.int .i64 n.op, .int .i64 n.w, .int .i64 n.k, .int .i64 n.a, .int .i64 n.b, .int .i64 n.c] 33) := ⟨_, rfl⟩
 have hb1 : Below w.heap.size w w1 := by rw [hw1]; exact (Below.refl _ _).alloc (Nat.le_refl _) _
 have HB1 : Hid (Below w.heap.size w w1) := hb1
 obtain ⟨bn, hbn⟩ : ∃ bn : Nat, bn = w.heap.size := ⟨_, rfl⟩
 have HND : Hid (NodeAt w1 bn 0 n) := by
  show NodeAt w1 bn 0 n
  rw [hw1]; exact Dw4.node_new w n 33 bn hbn 0 (by simp)
 have HRB : Hid (RB w1 b S p (.slice a t.length c) bm) := hrb.below hb1
 have HOW : Hid (Ap2.Own w1 B (.slice a t.length c) t) := hown.kept (S := fun _ => False) (Kept.ofBelow hb1) (fun _ _ e => e)
 have HVB : Hid (∀ k, (Value.slice a t.length c).ownBlock = some k -> ¬ F k /\ k ≠ b /\ k ≠ bm) := hvb
 have HVN : Hid (∀ k, (Value.slice a t.length c).ownBlock = some k -> k ≠ bn) := fun k hk e => by have := (hown.lt k hk).2; omega
 have HMP : Hid (Mp w1 bm t) := h.mp.kept (S := fun _ => False) (Kept.ofBelow hb1) (fun e => e)
 have HNT : Hid (Nodes w1 a t) := hwn.nodes.below hb1
 have HFT : Hid (Fit t) := h.fit
 have HWD : Hid (∀ j, j < t.length -> 1 <= (nth t j).w /\ (nth t j).w <= 8) := fun j hj => node_width (h.fit.2 j hj)
 have HBN : Hid (bn = w.heap.size) := hbn
 have HBNB : Hid (bn ≠ b /\ bn ≠ bm) := ⟨fun e => by have := hrb.lt; omega, fun e => by have := h.mp.lt; omega⟩
 have hlook : ∀ m, (Instr.lookup 81 (.map (some bm)) (.agg #[.int .i64 n.op, .int .i64 n.w, .int .i64 n.k, .int .i64 n.a, .int .i64 n.b, .int .i64 n.c]) true).run Tryz.prog (w1.drewN m) = .ok (.tuple #[.int .i64 ((placeOf t n).getD 0 : Nat), .bool (placeOf t n).isSome]) (w1.drewN m) := fun m => Mp.look (w := w1.drewN m) (HMP.out.kept (S := fun _ => False) ((Kept.refl _ _).drewN _) (fun e => e)) hn
 have e0 := HND.out.c0
 have e1 := HND.out.c1
 have e2 := HND.out.c2
 have e3 := HND.out.c3
 have e4 := HND.out.c4
 have e5 := HND.out.c5
 simp only [Nat.zero_add] at e1 e2 e3 e4 e5
 have m3 := HRB.out.c3
 have m2 := HRB.out.c2
 have hbl : b < w1.heap.size := HRB.out.lt
 have hbnl : bn < w1.heap.size := HND.out.lt
 have HW1 : Hid (w1 = w.alloc (.cells #[.int .i64 n.op, .int .i64 n.w, .int .i64 n.k, .int .i64 n.a, .int .i64 n.b, .int .i64 n.c] 33)) := hw1
 clear hw1 hrb hown hvb h hn hb1 hwn
 go_enter Tryz.func70, Tryz.ntmps70
 go_wp2
 rw [<- HW1.out, <- hbn]
 clear hbn
 cases hpl : placeOf t n with
 | some i =>
   have HP : Hid (putL t n st = .ok (t, i)) := place_some hpl st
   rw [hpl] at hlook
   simp only [Option.getD_some, Option.isSome_some] at hlook
   clear hpl
   go_quiet (fail)
   go_wp2
   go_ret
   have hb9 : Below w.heap.size w (w1.drewN nq) := ⟨HB1.out.os, HB1.out.tape, HB1.out.output, HB1.out.size, HB1.out.block⟩
   exact ⟨Out.ok HP.out ⟨rfl, H.out.below hb9⟩, keptF_below hb9⟩
 | none =>
   have HPL : Hid (placeOf t n = none) := hpl
   have HPN : Hid (putL t n st = if nodeOk (t ++ [n]) t.length then (if 80 < t.length + 1 then .error (4, st) else .ok (t ++ [n], t.length)) else .error (3, st)) := place_none hpl st
   rw [hpl] at hlook
   simp only [Option.getD_none, Option.isSome_none] at hlook
   clear hpl
   go_quiet (fail)
   go_wp2
   clear hlook
   have HBQ : Hid (Below w1.heap.size w1 (w1.drewN nq)) := ⟨rfl, rfl, rfl, Nat.le_refl _, fun _ _ => rfl⟩
   cases hr : nodeOk (t ++ [n]) t.length
   ·have HR : Hid (rightB t n = false) := (right_end n).trans hr
    have HP : Hid (putL t n st = .error (3, st)) := by show _ = _; rw [HPN.out, hr]; rfl
    clear hr
    refine wp_region_held_drew (S := fun w' => Below w1.heap.size w1 w') (by kernel_rfl) (HBQ.out.drew) (fun hHeld => ?_)
    refine wpAnyH_take (i := 0) (v := ?_) rfl (by kernel_rfl) (by kernel_rfl) (by kernel_rfl) (fun _ _ _ h => h) (Or.inl ⟨by rfl, ?_⟩) hHeld ?_
    rotate_left
    ·intro v9 hS9
     try dsimp only at hS9
     go_simp
     try with_reducible rfl
    try simp only [Act.put, List.setIfInBounds_toArray, List.set_cons_zero, List.set_cons_succ, List.getElem_toArray, List.getElem_cons_zero]
    refine wpAnyH_take (i := 1) (v := ?_) rfl (by kernel_rfl) (by kernel_rfl) (by kernel_rfl) (fun _ _ _ h => h) (Or.inl ⟨by rfl, ?_⟩) hHeld ?_
    rotate_left
    ·intro v9 hS9
     try dsimp only at hS9
     go_simp
     try with_reducible rfl
    try simp only [Act.put, List.setIfInBounds_toArray, List.set_cons_zero, List.set_cons_succ, List.getElem_toArray, List.getElem_cons_zero, List.getElem_cons_succ]
    refine wpAnyH_take (i := 2) (v := ?_) rfl (by kernel_rfl) (by kernel_rfl) (by kernel_rfl) (fun _ _ _ h => h) (Or.inl ⟨by rfl, ?_⟩) hHeld ?_
    rotate_left
    ·intro v9 hS9
     try dsimp only at hS9
     go_simp
     try with_reducible rfl
    try simp only [Act.put, List.setIfInBounds_toArray, List.set_cons_zero, List.set_cons_succ, List.getElem_toArray, List.getElem_cons_zero, List.getElem_cons_succ]
    refine wpAnyH_take (i := 3) (v := ?_) rfl (by kernel_rfl) (by kernel_rfl) (by kernel_rfl) (fun _ _ _ h => h) (Or.inl ⟨by rfl, ?_⟩) hHeld ?_
    rotate_left
    ·intro v9 hS9
     try dsimp only at hS9
     have q2b : v9.cell? ⟨b, 2, none⟩ = some (.slice a t.length c) := by rw [hS9.cell hbl]; exact m2
     go_simp
     try with_reducible rfl
    try simp only [Act.put, List.setIfInBounds_toArray, List.set_cons_zero, List.set_cons_succ, List.getElem_toArray, List.getElem_cons_zero, List.getElem_cons_succ]
    refine wpAnyH_take (i := 4) (v := ?_) rfl (by kernel_rfl) (by kernel_rfl) (by kernel_rfl) (fun _ _ _ h => h) (Or.inl ⟨by rfl, ?_⟩) hHeld ?_
    rotate_left
    ·intro v9 hS9
     try dsimp only at hS9
     have q0bn : v9.cell? ⟨bn, 0, none⟩ = some (.int .i64 n.op) := by rw [hS9.cell hbnl]; exact e0
     have q1bn : v9.cell? ⟨bn, 1, none⟩ = some (.int .i64 n.w) := by rw [hS9.cell hbnl]; exact e1
     have q2bn : v9.cell? ⟨bn, 2, none⟩ = some (.int .i64 n.k) := by rw [hS9.cell hbnl]; exact e2
     have q3bn : v9.cell? ⟨bn, 3, none⟩ = some (.int .i64 n.a) := by rw [hS9.cell hbnl]; exact e3
     have q4bn : v9.cell? ⟨bn, 4, none⟩ = some (.int .i64 n.b) := by rw [hS9.cell hbnl]; exact e4
     have q5bn : v9.cell? ⟨bn, 5, none⟩ = some (.int .i64 n.c) := by rw [hS9.cell hbnl]; exact e5
     go_simp
     try with_reducible rfl
    try simp only [Act.put, List.setIfInBounds_toArray, List.set_cons_zero, List.set_cons_succ, List.getElem_toArray, List.getElem_cons_zero, List.getElem_cons_succ]
    refine wpAnyH_ready (rs := [5]) (by kernel_rfl) (by simp) ?_
    refine (AllReadyH.cons rfl (fun K hK => ?_) AllReadyH.nil)
    ·
     go_simp
     go_wp2_with (go_at_call 30; refine (iRight _ a t c t.length rfl n (HNT.out.below hHeld) HFT.out.1 HWD.out).mono ?_; rintro e wx ⟨rfl, hbx⟩; have HBX : Hid (Below w1.heap.size w1 wx) := hHeld.trans (hbx.mono hHeld.size); clear hbx; rw [HR.out])
     refine hK.out _ _ (HBX.out) (fun hNext => ?_)
     clear hK K hHeld
     have hHeld := hNext
     clear hNext
     refine wpAnyH_take (i := 6) (v := ?_) rfl (by kernel_rfl) (by kernel_rfl) (by kernel_rfl) (fun _ _ _ h => h) (Or.inl ⟨by rfl, ?_⟩) hHeld ?_
     rotate_left
     ·intro v9 hS9
      try dsimp only at hS9
      go_simp
      try with_reducible rfl
     try simp only [Act.put, List.setIfInBounds_toArray, List.set_cons_zero, List.set_cons_succ, List.getElem_toArray, List.getElem_cons_zero, List.getElem_cons_succ]
     refine wpAnyH_done (by kernel_rfl) ?_ _
     go_wp2_with fail
     refine (iFail _ _ _).mono ?_
     rintro e w' ⟨rfl, rfl⟩
     go_wp2
     exact ⟨rfl, Out.error HP.out rfl, keptF_below (HB1.out.trans (HBX.out.mono HB1.out.size))⟩
   ·have HR : Hid (rightB t n = true) := (right_end n).trans hr
    have HPT : Hid (putL t n st = if 80 < t.length + 1 then .error (4, st) else .ok (t ++ [n], t.length)) := by show _ = _; rw [HPN.out, hr]; rfl
    clear hr
    refine wp_region_held_drew (S := fun w' => Below w1.heap.size w1 w') (by kernel_rfl) (HBQ.out.drew) (fun hHeld => ?_)
    refine wpAnyH_take (i := 0) (v := ?_) rfl (by kernel_rfl) (by kernel_rfl) (by kernel_rfl) (fun _ _ _ h => h) (Or.inl ⟨by rfl, ?_⟩) hHeld ?_
    rotate_left
    ·intro v9 hS9
     try dsimp only at hS9
     go_simp
     try with_reducible rfl
    try simp only [Act.put, List.setIfInBounds_toArray, List.set_cons_zero, List.set_cons_succ, List.getElem_toArray, List.getElem_cons_zero]
    refine wpAnyH_take (i := 1) (v := ?_) rfl (by kernel_rfl) (by kernel_rfl) (by kernel_rfl) (fun _ _ _ h => h) (Or.inl ⟨by rfl, ?_⟩) hHeld ?_
    rotate_left
    ·intro v9 hS9
     try dsimp only at hS9
     go_simp
     try with_reducible rfl
    try simp only [Act.put, List.setIfInBounds_toArray, List.set_cons_zero, List.set_cons_succ, List.getElem_toArray, List.getElem_cons_zero, List.getElem_cons_succ]
    refine wpAnyH_take (i := 2) (v := ?_) rfl (by kernel_rfl) (by kernel_rfl) (by kernel_rfl) (fun _ _ _ h => h) (Or.inl ⟨by rfl, ?_⟩) hHeld ?_
    rotate_left
    ·intro v9 hS9
     try dsimp only at hS9
     go_simp
     try with_reducible rfl
    try simp only [Act.put, List.setIfInBounds_toArray, List.set_cons_zero, List.set_cons_succ, List.getElem_toArray, List.getElem_cons_zero, List.getElem_cons_succ]
    refine wpAnyH_take (i := 3) (v := ?_) rfl (by kernel_rfl) (by kernel_rfl) (by kernel_rfl) (fun _ _ _ h => h) (Or.inl ⟨by rfl, ?_⟩) hHeld ?_
    rotate_left
    ·intro v9 hS9
     try dsimp only at hS9
     have q2b : v9.cell? ⟨b, 2, none⟩ = some (.slice a t.length c) := by rw [hS9.cell hbl]; exact m2
     go_simp
     try with_reducible rfl
    try simp only [Act.put, List.setIfInBounds_toArray, List.set_cons_zero, List.set_cons_succ, List.getElem_toArray, List.getElem_cons_zero, List.getElem_cons_succ]
    refine wpAnyH_take (i := 4) (v := ?_) rfl (by kernel_rfl) (by kernel_rfl) (by kernel_rfl) (fun _ _ _ h => h) (Or.inl ⟨by rfl, ?_⟩) hHeld ?_
    rotate_left
    ·intro v9 hS9
     try dsimp only at hS9
     have q0bn : v9.cell? ⟨bn, 0, none⟩ = some (.int .i64 n.op) := by rw [hS9.cell hbnl]; exact e0
     have q1bn : v9.cell? ⟨bn, 1, none⟩ = some (.int .i64 n.w) := by rw [hS9.cell hbnl]; exact e1
     have q2bn : v9.cell? ⟨bn, 2, none⟩ = some (.int .i64 n.k) := by rw [hS9.cell hbnl]; exact e2
     have q3bn : v9.cell? ⟨bn, 3, none⟩ = some (.int .i64 n.a) := by rw [hS9.cell hbnl]; exact e3
     have q4bn : v9.cell? ⟨bn, 4, none⟩ = some (.int .i64 n.b) := by rw [hS9.cell hbnl]; exact e4
     have q5bn : v9.cell? ⟨bn, 5, none⟩ = some (.int .i64 n.c) := by rw [hS9.cell hbnl]; exact e5
     go_simp
     try with_reducible rfl
    try simp only [Act.put, List.setIfInBounds_toArray, List.set_cons_zero, List.set_cons_succ, List.getElem_toArray, List.getElem_cons_zero, List.getElem_cons_succ]
    refine wpAnyH_ready (rs := [5]) (by kernel_rfl) (by simp) ?_
    refine (AllReadyH.cons rfl (fun K hK => ?_) AllReadyH.nil)
    ·
     go_simp
     go_wp2_with (go_at_call 30; refine (iRight _ a t c t.length rfl n (HNT.out.below hHeld) HFT.out.1 HWD.out).mono ?_; rintro e wx ⟨rfl, hbx⟩; have HBX : Hid (Below w1.heap.size w1 wx) := hHeld.trans (hbx.mono hHeld.size); clear hbx; rw [HR.out])
     refine hK.out _ _ (HBX.out) (fun hNext => ?_)
     clear hK K hHeld
     have hHeld := hNext
     clear hNext
     refine wpAnyH_take (i := 6) (v := ?_) rfl (by kernel_rfl) (by kernel_rfl) (by kernel_rfl) (fun _ _ _ h => h) (Or.inl ⟨by rfl, ?_⟩) hHeld ?_
     rotate_left
     ·intro v9 hS9
      try dsimp only at hS9
      go_simp
      try with_reducible rfl
     try simp only [Act.put, List.setIfInBounds_toArray, List.set_cons_zero, List.set_cons_succ, List.getElem_toArray, List.getElem_cons_zero, List.getElem_cons_succ]
     refine wpAnyH_done (by kernel_rfl) ?_ _
     have x2 : wx.cell? ⟨b, 2, none⟩ = some (.slice a t.length c) := by rw [HBX.out.cell hbl]; exact m2
     by_cases h80 : t.length = 80
     ·have hq : ((t.length : Int) == 80) = true := by simp [h80]
      have HP : Hid (putL t n st = .error (4, st)) := by show _ = _; rw [HPT.out, if_pos (by omega)]
      clear h80
      go_wp2_with fail
      refine (iFail _ _ _).mono ?_
      rintro e w' ⟨rfl, rfl⟩
      go_wp2
      exact ⟨rfl, Out.error HP.out rfl, keptF_below (HB1.out.trans (HBX.out.mono HB1.out.size))⟩
     ·have hq : ((t.length : Int) == 80) = false := by rw [beq_eq_false_iff_ne]; omega
      have HP : Hid (putL t n st = .ok (t ++ [n], t.length)) := by show _ = _; rw [HPT.out, if_neg (by have := HFT.out.1; omega)]
      clear h80
      go_wp2
      have HMX : Hid (Mp wx.drew bm t) := HMP.out.kept (S := fun _ => False) (Kept.ofBelow HBX.out.drew) (fun e => e)
      obtain ⟨wu, hrun, hmu, hku⟩ := HMX.out.store HWF.out HPL.out HFT.out.1
      have HRX : Hid (RB wx.drew b S p (.slice a t.length c) bm) := HRB.out.below HBX.out.drew
      have HNX : Hid (NodeAt wx.drew bn 0 n) := nodeat_kept (D := fun _ => False) HND.out (Kept.ofBelow HBX.out.drew) (fun e => e)
      have HRU : Hid (RB wu b S p (.slice a t.length c) bm) := HRX.out.kept hku H.out.ne
      have HNU : Hid (NodeAt wu bn 0 n) := nodeat_kept HNX.out hku HBNB.out.2
      have HMU : Hid (Mp wu bm (t ++ [n])) := hmu
      have HKU : Hid (Kept (fun k => k = bm) wx.drew wu) := hku
      have HRUN : Hid ((Instr.mapUpdate 81 (.map (some bm)) (.agg #[.int .i64 n.op, .int .i64 n.w, .int .i64 n.k, .int .i64 n.a, .int .i64 n.b, .int .i64 n.c]) (.int .i64 (t.length : Int))).run Tryz.prog wx.drew = .ok () wu) := hrun
      have HOU : Hid (Ap2.Own wu B (.slice a t.length c) t) := (HOW.out.kept (S := fun _ => False) (Kept.ofBelow HBX.out.drew) (fun _ _ e => e)).kept hku (fun k hk e => (HVB.out k hk).2.2 e)
      clear hrun hmu hku
      refine wp_region_held_drew (S := fun w' => RB w' b S p (.slice a t.length c) bm /\ NodeAt w' bn 0 n) (by kernel_rfl) ⟨HRX.out, HNX.out⟩ (fun hHeld => ?_)
      refine wpAnyH_take (i := 0) (v := ?_) rfl (by kernel_rfl) (by kernel_rfl) (by kernel_rfl) (fun _ _ _ h => h) (Or.inl ⟨by rfl, ?_⟩) hHeld ?_
      rotate_left
      ·intro v9 hS9
       try dsimp only at hS9
       go_simp
       try with_reducible rfl
      try simp only [Act.put, List.setIfInBounds_toArray, List.set_cons_zero, List.set_cons_succ, List.getElem_toArray, List.getElem_cons_zero]
      refine wpAnyH_take (i := 1) (v := ?_) rfl (by kernel_rfl) (by kernel_rfl) (by kernel_rfl) (fun _ _ _ h => h) (Or.inl ⟨by rfl, ?_⟩) hHeld ?_
      rotate_left
      ·intro v9 hS9
       try dsimp only at hS9
       go_simp
       try with_reducible rfl
      try simp only [Act.put, List.setIfInBounds_toArray, List.set_cons_zero, List.set_cons_succ, List.getElem_toArray, List.getElem_cons_zero, List.getElem_cons_succ]
      refine wpAnyH_take (i := 2) (v := ?_) rfl (by kernel_rfl) (by kernel_rfl) (by kernel_rfl) (fun _ _ _ h => h) (Or.inl ⟨by rfl, ?_⟩) hHeld ?_
      rotate_left
      ·intro v9 hS9
       try dsimp only at hS9
       go_simp
       try with_reducible rfl
      try simp only [Act.put, List.setIfInBounds_toArray, List.set_cons_zero, List.set_cons_succ, List.getElem_toArray, List.getElem_cons_zero, List.getElem_cons_succ]
      refine wpAnyH_take (i := 3) (v := ?_) rfl (by kernel_rfl) (by kernel_rfl) (by kernel_rfl) (fun _ _ _ h => h) (Or.inl ⟨by rfl, ?_⟩) hHeld ?_
      rotate_left
      ·intro v9 hS9
       try dsimp only at hS9
       obtain ⟨⟨c0, c1, c2, c3, f1, f2⟩, ⟨d0, d1, d2, d3, d4, d5⟩⟩ := hS9
       simp only [Nat.zero_add] at d1 d2 d3 d4 d5
       go_simp
       try with_reducible rfl
      try simp only [Act.put, List.setIfInBounds_toArray, List.set_cons_zero, List.set_cons_succ, List.getElem_toArray, List.getElem_cons_zero, List.getElem_cons_succ]
      refine wpAnyH_take (i := 4) (v := ?_) rfl (by kernel_rfl) (by kernel_rfl) (by kernel_rfl) (fun _ _ _ h => h) (Or.inl ⟨by rfl, ?_⟩) hHeld ?_
      rotate_left
      ·intro v9 hS9
       try dsimp only at hS9
       obtain ⟨⟨c0, c1, c2, c3, f1, f2⟩, ⟨d0, d1, d2, d3, d4, d5⟩⟩ := hS9
       simp only [Nat.zero_add] at d1 d2 d3 d4 d5
       go_simp
       try with_reducible rfl
      try simp only [Act.put, List.setIfInBounds_toArray, List.set_cons_zero, List.set_cons_succ, List.getElem_toArray, List.getElem_cons_zero, List.getElem_cons_succ]
      refine wpAnyH_take (i := 5) (v := ?_) rfl (by kernel_rfl) (by kernel_rfl) (by kernel_rfl) (fun _ _ _ h => h) (Or.inl ⟨by rfl, ?_⟩) hHeld ?_
      rotate_left
      ·intro v9 hS9
       try dsimp only at hS9
       go_simp
       try with_reducible rfl
      try simp only [Act.put, List.setIfInBounds_toArray, List.set_cons_zero, List.set_cons_succ, List.getElem_toArray, List.getElem_cons_zero, List.getElem_cons_succ]
      refine wpAnyH_ready (rs := [6]) (by kernel_rfl) (by simp) ?_
      refine (AllReadyH.cons rfl (fun K hK => ?_) AllReadyH.nil)
      ·
       have hrun := HRUN.out
       go_simp
       refine hK.out _ _ (⟨HRU.out, HNU.out⟩) (fun hNext => ?_)
       clear hK K hHeld
       have hHeld := hNext
       clear hNext
       refine wpAnyH_done (by kernel_rfl) ?_ _
       go_wp2
       have HC2 : Hid (wu.drew.cell? ⟨b, 2, none⟩ = some (.slice a t.length c)) := HRU.out.c2
       have HC2A : Hid ((wu.alloc (.cells #[.int .i64 n.op, .int .i64 n.w, .int .i64 n.k, .int .i64 n.a, .int .i64 n.b, .int .i64 n.c] 33)).drew.cell? ⟨b, 2, none⟩ = some (.slice a t.length c)) := by
        show (wu.alloc _).cell? _ = _
        rw [((Kept.refl (fun _ => False) wu).alloc _).cell (p := ⟨b, 2, none⟩) HRU.out.lt (fun e => e)]; exact HRU.out.c2
       have HBW : Hid (B <= wu.heap.size) := Nat.le_trans H.out.bB (Nat.le_of_lt HRU.out.lt)
       have HKW : Hid (Kept (fun k => ¬ F k) w wu) := (keptF_below (HB1.out.trans (HBX.out.drew.mono HB1.out.size))).trans (keptF_of HKU.out (fun k e => e ▸ H.out.fm))
       have FIN : ∀ {g cp : Nat} {wz : World}, Ap2.Own wz B (.slice (some ⟨g, 0, none⟩) (t.length + 1) cp) (t ++ [n]) -> Kept (fun k => (Value.slice a t.length c).ownBlock = some k) wu wz -> ((Value.slice a t.length c).ownBlock = some g \/ wu.heap.size <= g) →
        Out (putL t n st) (fun x => Ending.returned (.int .i64 (t.length : Int)) = .returned (.int .i64 (x.2 : Int)) /\ PR (wz.setCell ⟨b, 2, none⟩ (.slice (some ⟨g, 0, none⟩) (t.length + 1) cp)) B b S p x.1 bm F) (fun x => Ending.returned (.int .i64 (t.length : Int)) = .panicked [fl x]) /\ Kept (fun k => ¬ F k) w (wz.setCell ⟨b, 2, none⟩ (.slice (some ⟨g, 0, none⟩) (t.length + 1) cp)) := by
        intro g cp wz ho hka hga
        have hrz : RB wz b S p (.slice a t.length c) bm := HRU.out.kept hka (fun e => (HVB.out b e).2.1 rfl)
        have hks : Kept (fun k => k = b) wz (wz.setCell ⟨b, 2, none⟩ (.slice (some ⟨g, 0, none⟩) (t.length + 1) cp)) := (Kept.refl (fun k => k = b) wz).setCell (p := ⟨b, 2, none⟩) rfl _
        have hgb : ¬ F g /\ g ≠ b /\ g ≠ bm := by
         rcases hga with e | e
         ·exact HVB.out g e
         ·have h1 : b < wu.heap.size := HRU.out.lt
          have h2 : bm < wu.heap.size := HMU.out.lt
          have h3 : w.heap.size <= wu.heap.size := HKW.out.size
          exact ⟨fun hf => by have := H.out.hF g hf; omega, by omega, by omega⟩
        have hkw : Kept (fun k => ¬ F k) w (wz.setCell ⟨b, 2, none⟩ (.slice (some ⟨g, 0, none⟩) (t.length + 1) cp)) := (HKW.out.trans (keptF_of hka (fun k e => (HVB.out k e).1))).trans (keptF_of hks (fun k e => e ▸ H.out.fb))
        refine ⟨Out.ok HP.out ⟨rfl, ⟨⟨_, Pr4.RB.list hrz _, ho.kept hks (fun k hk e => hgb.2.1 (by cases hk; exact e)), fun k hk => by cases hk; exact hgb⟩, (HMU.out.kept hka (fun e => (HVB.out bm e).2.2 rfl)).kept hks (fun e => H.out.ne e.symm), H.out.fb, H.out.fm, H.out.ne, H.out.bB, H.out.mB, Ss5.put_fit HFT.out HP.out, H.out.pS, fun k hk => Nat.lt_of_lt_of_le (H.out.hF k hk) hkw.size, fun m hm => ?_⟩⟩, hkw⟩
        rcases List.mem_append.1 hm with e | e
        ·exact H.out.wf m e
        ·have : m = n := by simpa using e
         rw [this]; exact HWF.out
       refine wp_region_held_drew (S := fun w' => NodeAt w' bn 0 n) (by kernel_rfl) (nodeat_kept (D := fun _ => False) HNU.out ((Kept.refl _ _).drewN 1) (fun e => e)) (fun hHeld => ?_)
       refine wpAnyH_take (i := 0) (v := ?_) rfl (by kernel_rfl) (by kernel_rfl) (by kernel_rfl) (fun _ _ _ h => h) (Or.inl ⟨by rfl, ?_⟩) hHeld ?_
       rotate_left
       ·intro v9 hS9
        try dsimp only at hS9
        go_simp
        try with_reducible rfl
       try simp only [Act.put, List.setIfInBounds_toArray, List.set_cons_zero, List.set_cons_succ, List.getElem_toArray, List.getElem_cons_zero]
       refine wpAnyH_take (i := 1) (v := ?_) rfl (by kernel_rfl) (by kernel_rfl) (by kernel_rfl) (fun _ _ _ h => h) (Or.inl ⟨by rfl, ?_⟩) hHeld ?_
       rotate_left
       ·intro v9 hS9
        try dsimp only at hS9
        go_simp
        try with_reducible rfl
       try simp only [Act.put, List.setIfInBounds_toArray, List.set_cons_zero, List.set_cons_succ, List.getElem_toArray, List.getElem_cons_zero, List.getElem_cons_succ]
       refine wpAnyH_take (i := 2) (v := ?_) rfl (by kernel_rfl) (by kernel_rfl) (by kernel_rfl) (fun _ _ _ h => h) (Or.inl ⟨by rfl, ?_⟩) hHeld ?_
       rotate_left
       ·intro v9 hS9
        try dsimp only at hS9
        go_simp
        try with_reducible rfl
       try simp only [Act.put, List.setIfInBounds_toArray, List.set_cons_zero, List.set_cons_succ, List.getElem_toArray, List.getElem_cons_zero, List.getElem_cons_succ]
       refine wpAnyH_take (i := 3) (v := ?_) rfl (by kernel_rfl) (by kernel_rfl) (by kernel_rfl) (fun _ _ _ h => h) (Or.inl ⟨by rfl, ?_⟩) hHeld ?_
       rotate_left
       ·intro v9 hS9
        try dsimp only at hS9
        go_simp
        try with_reducible rfl
       try simp only [Act.put, List.setIfInBounds_toArray, List.set_cons_zero, List.set_cons_succ, List.getElem_toArray, List.getElem_cons_zero, List.getElem_cons_succ]
       refine wpAnyH_take (i := 5) (v := ?_) rfl (by kernel_rfl) (by kernel_rfl) (by kernel_rfl) (fun _ _ _ h => h) (Or.inl ⟨by rfl, ?_⟩) hHeld ?_
       rotate_left
       ·intro v9 hS9
        try dsimp only at hS9
        obtain ⟨d0, d1, d2, d3, d4, d5⟩ := hS9
        simp only [Nat.zero_add] at d1 d2 d3 d4 d5
        go_simp
        try with_reducible rfl
       try simp only [Act.put, List.setIfInBounds_toArray, List.set_cons_zero, List.set_cons_succ, List.getElem_toArray, List.getElem_cons_zero, List.getElem_cons_succ]
       refine wpAnyH_ready (rs := [4, 6]) (by kernel_rfl) (by simp) ?_
       refine (AllReadyH.cons rfl (fun K hK => ?_) (AllReadyH.cons rfl (fun K hK => ?_) AllReadyH.nil))
       ·
        have k2 := HC2.out
        go_simp
        refine hK.out _ _ (hHeld) (fun hNext => ?_)
        clear hK K hHeld
        have hHeld := hNext
        clear hNext
        refine wpAnyH_ready (rs := [6]) (by kernel_rfl) (by simp) ?_
        refine (AllReadyH.cons rfl (fun K hK => ?_) AllReadyH.nil)
        ·
         go_simp
         refine hK.out _ _ (nodeat_kept (D := fun _ => False) hHeld ((Kept.refl _ _).alloc _) (fun e => e)) (fun hNext => ?_)
         clear hK K hHeld
         have hHeld := hNext
         clear hNext
         refine wpAnyH_ready (rs := [7]) (by kernel_rfl) (by simp) ?_
         refine (AllReadyH.cons rfl (fun K hK => ?_) AllReadyH.nil)
         ·
          refine step_app_nodes _ rfl _ _ rfl B (.slice a t.length c) t [n] wu.heap.size 0 1 rfl rfl (node_drew (node_new _ _ _ _ rfl)) (by simp) (World.ownsRow.alloc HOU.out _) (by have := HBW.out; simp; omega) (by have := HFT.out.1; simp; omega) ?_
          intro g cp wz ho hk hg
          simp only [List.length_cons, List.length_nil, Nat.zero_add] at ho ⊢
          have HOZ : Hid (Ap2.Own wz B (.slice (some ⟨g, 0, none⟩) (t.length + 1) cp) (t ++ [n])) := ho
          have HKA : Hid (Kept (fun k => (Value.slice a t.length c).ownBlock = some k) wu wz) := (((Kept.refl _ wu).alloc _).drewN 1).trans hk
          have HGA : Hid ((Value.slice a t.length c).ownBlock = some g \/ wu.heap.size <= g) := by
           rcases hg with e | e
           ·exact .inl e
           ·exact .inr (Nat.le_trans (by simp) e)
          have HNZ : Hid (NodeAt wz bn 0 n) := nodeat_kept hHeld hk (fun e => HVN.out bn e rfl)
          have HRZ : Hid (RB wz b S p (.slice a t.length c) bm) := HRU.out.kept HKA.out (fun e => (HVB.out b e).2.1 rfl)
          have HZ2 : Hid (wz.cell? ⟨b, 2, none⟩ = some (.slice a t.length c)) := HRZ.out.c2
          have HZF : Hid (wz.frozen? ⟨b, 2, none⟩ = false) := HRZ.out.f2
          clear ho hk hg
          refine hK.out _ _ (HNZ.out) (fun hNext => ?_)
          clear hK K hHeld
          have hHeld := hNext
          clear hNext
          try simp only [Act.put, List.setIfInBounds_toArray, List.set_cons_zero, List.set_cons_succ, List.getElem_toArray, List.getElem_cons_zero, List.getElem_cons_succ]
          refine wpAnyH_take (i := 8) (v := ?_) rfl (by kernel_rfl) (by kernel_rfl) (by kernel_rfl) (fun _ _ _ h => h) (Or.inl ⟨by rfl, ?_⟩) hHeld ?_
          rotate_left
          ·intro v9 hS9
           try dsimp only at hS9
           go_simp
           try with_reducible rfl
          try simp only [Act.put, List.setIfInBounds_toArray, List.set_cons_zero, List.set_cons_succ, List.getElem_toArray, List.getElem_cons_zero, List.getElem_cons_succ]
          refine wpAnyH_take (i := 9) (v := ?_) rfl (by kernel_rfl) (by kernel_rfl) (by kernel_rfl) (fun _ _ _ h => h) (Or.inl ⟨by rfl, ?_⟩) hHeld ?_
          rotate_left
          ·intro v9 hS9
           try dsimp only at hS9
           go_simp
           try with_reducible rfl
          try simp only [Act.put, List.setIfInBounds_toArray, List.set_cons_zero, List.set_cons_succ, List.getElem_toArray, List.getElem_cons_zero, List.getElem_cons_succ]
          refine wpAnyH_ready (rs := [10]) (by kernel_rfl) (by simp) ?_
          refine (AllReadyH.cons rfl (fun K hK => ?_) AllReadyH.nil)
          ·
           have z2 := HZ2.out
           have zf := HZF.out
           go_simp
           refine hK.out _ _ (nodeat_kept HNZ.out ((Kept.refl (fun k => k = b) wz).setCell (p := ⟨b, 2, none⟩) rfl _) HBNB.out.1) (fun hNext => ?_)
           clear hK K hHeld
           have hHeld := hNext
           clear hNext
           refine wpAnyH_done (by kernel_rfl) ?_ _
           go_wp2
           go_ret
           exact FIN HOZ.out HKA.out HGA.out
       ·
        go_simp
        refine hK.out _ _ (nodeat_kept (D := fun _ => False) hHeld ((Kept.refl _ _).alloc _) (fun e => e)) (fun hNext => ?_)
        clear hK K hHeld
        have hHeld := hNext
        clear hNext
        refine wpAnyH_ready (rs := [4]) (by kernel_rfl) (by simp) ?_
        refine (AllReadyH.cons rfl (fun K hK => ?_) AllReadyH.nil)
        ·
         have k2 := HC2A.out
         go_simp
         refine hK.out _ _ (hHeld) (fun hNext => ?_)
         clear hK K hHeld
         have hHeld := hNext
         clear hNext
         refine wpAnyH_ready (rs := [7]) (by kernel_rfl) (by simp) ?_
         refine (AllReadyH.cons rfl (fun K hK => ?_) AllReadyH.nil)
         ·
          refine step_app_nodes _ rfl _ _ rfl B (.slice a t.length c) t [n] wu.heap.size 0 1 rfl rfl (node_drew (node_new _ _ _ _ rfl)) (by simp) (World.ownsRow.alloc HOU.out _) (by have := HBW.out; simp; omega) (by have := HFT.out.1; simp; omega) ?_
          intro g cp wz ho hk hg
          simp only [List.length_cons, List.length_nil, Nat.zero_add] at ho ⊢
          have HOZ : Hid (Ap2.Own wz B (.slice (some ⟨g, 0, none⟩) (t.length + 1) cp) (t ++ [n])) := ho
          have HKA : Hid (Kept (fun k => (Value.slice a t.length c).ownBlock = some k) wu wz) := (((Kept.refl _ wu).alloc _).drewN 1).trans hk
          have HGA : Hid ((Value.slice a t.length c).ownBlock = some g \/ wu.heap.size <= g) := by
           rcases hg with e | e
           ·exact .inl e
           ·exact .inr (Nat.le_trans (by simp) e)
          have HNZ : Hid (NodeAt wz bn 0 n) := nodeat_kept hHeld hk (fun e => HVN.out bn e rfl)
          have HRZ : Hid (RB wz b S p (.slice a t.length c) bm) := HRU.out.kept HKA.out (fun e => (HVB.out b e).2.1 rfl)
          have HZ2 : Hid (wz.cell? ⟨b, 2, none⟩ = some (.slice a t.length c)) := HRZ.out.c2
          have HZF : Hid (wz.frozen? ⟨b, 2, none⟩ = false) := HRZ.out.f2
          clear ho hk hg
          refine hK.out _ _ (HNZ.out) (fun hNext => ?_)
          clear hK K hHeld
          have hHeld := hNext
          clear hNext
          try simp only [Act.put, List.setIfInBounds_toArray, List.set_cons_zero, List.set_cons_succ, List.getElem_toArray, List.getElem_cons_zero, List.getElem_cons_succ]
          refine wpAnyH_take (i := 8) (v := ?_) rfl (by kernel_rfl) (by kernel_rfl) (by kernel_rfl) (fun _ _ _ h => h) (Or.inl ⟨by rfl, ?_⟩) hHeld ?_
          rotate_left
          ·intro v9 hS9
           try dsimp only at hS9
           go_simp
           try with_reducible rfl
          try simp only [Act.put, List.setIfInBounds_toArray, List.set_cons_zero, List.set_cons_succ, List.getElem_toArray, List.getElem_cons_zero, List.getElem_cons_succ]
          refine wpAnyH_take (i := 9) (v := ?_) rfl (by kernel_rfl) (by kernel_rfl) (by kernel_rfl) (fun _ _ _ h => h) (Or.inl ⟨by rfl, ?_⟩) hHeld ?_
          rotate_left
          ·intro v9 hS9
           try dsimp only at hS9
           go_simp
           try with_reducible rfl
          try simp only [Act.put, List.setIfInBounds_toArray, List.set_cons_zero, List.set_cons_succ, List.getElem_toArray, List.getElem_cons_zero, List.getElem_cons_succ]
          refine wpAnyH_ready (rs := [10]) (by kernel_rfl) (by simp) ?_
          refine (AllReadyH.cons rfl (fun K hK => ?_) AllReadyH.nil)
          ·
           have z2 := HZ2.out
           have zf := HZF.out
           go_simp
           refine hK.out _ _ (nodeat_kept HNZ.out ((Kept.refl (fun k => k = b) wz).setCell (p := ⟨b, 2, none⟩) rfl _) HBNB.out.1) (fun hNext => ?_)
           clear hK K hHeld
           have hHeld := hNext
           clear hNext
           refine wpAnyH_done (by kernel_rfl) ?_ _
           go_wp2
           go_ret
           exact FIN HOZ.out HKA.out HGA.out
def INode (f : Nat) : Prop := ∀ (w : World) (B b : Nat) (S : ByteArray) (p : Nat) (t : List Nd) (bm : Nat) (F : Nat -> Prop), PR w B b S p t bm F -> (∀ k, k < B -> F k) -> (∀ w', Below B w w' -> TabR w') -> S.size <= 4000 -> S.size - p < f →
 Calls Tryz.prog 46 #[.pointer (some ⟨b, 0, none⟩)] w fun e w' => Out (pNode (tl S) f (p, t)) (fun y => e = .returned (.int .i64 (y.1 : Int)) /\ PR w' B b S y.2.1 y.2.2 bm F) (fun x => e = .panicked [fl x]) /\ Kept (fun k => ¬ F k) w w'
end Pr4
end Go.Proofs.YtiaimhgfimhepaaGreatDoor
