/- The model's l07Or, GraphOr. -/
import Derived.Test.YtnpfegfjejfaaaaGs4
namespace Go.Proofs.Ytnpfegfjejfaaaa.Gs5
open Go.RowKit
open Nd0 Qb0 Qb2 Gr0 Gr1 Gx0 Ap10 Gs1 Gs2 Gs3 Gs4
open Gp5 (GrPost own_w and_range)
set_option linter.unusedVariables false

/-- Behind the and of l07Or: a box with the graph, wherever it lies, and the answer's box. -/
def OMid (w : World) (B q : Nat) (v : Value) (ins : Int) (r : List An × Int) (s8 s9 : Value) (wc : World) : Prop :=
  ∃ (qo : Nat) (v' : Value), s8 = .pointer (some ⟨qo, 0, none⟩) ∧ s9 = .int .i64 r.2 ∧ Lay wc qo (.int .i64 ins) v' ∧ Lay wc (q + 1) (.int .i64 0) (.slice none 0 0) ∧ qo ≠ q + 1 ∧ OwAn wc B v' r.1 ∧ v'.ownBlock ≠ some (q + 1) ∧ Kept (fun k => v.ownBlock = some k) w wc ∧ ∀ k, v'.ownBlock = some k → v.ownBlock = some k ∨ w.heap.size ≤ k
/-- The box was made behind the and. -/
theorem OMid.late {w W w5 : World} {B q : Nat} {v v' : Value} {ins : Int} {r : List An × Int} {T : Nat} (hB : Below w.heap.size w W) (hw : w.heap.size ≤ q) (hO : OwAn w5 B v' r.1) (hK : Kept (fun k => v.ownBlock = some k) W w5) (hV : ∀ k, v'.ownBlock = some k → v.ownBlock = some k ∨ W.heap.size ≤ k) (hv : ∀ k, v.ownBlock = some k → k < w.heap.size) (hR : Lay W (q + 1) (.int .i64 0) (.slice none 0 0)) : OMid w B q v ins r (.pointer (some ⟨w5.heap.size, 0, none⟩)) (.int .i64 r.2) (w5.alloc (.cells #[.int .i64 ins, v'] T)) := by
  have hr5 : Lay w5 (q + 1) (.int .i64 0) (.slice none 0 0) := hR.kept hK (fun e => by have := hv _ e; omega)
  have hl5 := hr5.lt
  have hlW := hR.lt
  refine ⟨w5.heap.size, v', rfl, rfl, Lay.made _ _ _ _, hr5.alloc _, by omega, hO.kept (S := fun _ => False) ((Kept.refl _ _).alloc _) (fun _ _ e => e), fun e => ?_, ((Kept.ofBelow hB).trans hK).alloc _, fun k e => ?_⟩
  · rcases hV _ e with x | x
    · have := hv _ x; omega
    · omega
  · rcases hV _ e with x | x
    · exact .inl x
    · exact .inr (Nat.le_trans hB.size x)
/-- .. ahead of it. -/
theorem OMid.soon {w W V w5 : World} {B q : Nat} {v v' : Value} {ins : Int} {r : List An × Int} (hB : Below w.heap.size w W) (hVW : Below W.heap.size W V) (hw : w.heap.size ≤ q) (hL : Lay V W.heap.size (.int .i64 0) (.slice none 0 0)) (hO : OwAn w5 B v' r.1) (hK : Kept (fun k => v.ownBlock = some k) V w5) (hV : ∀ k, v'.ownBlock = some k → v.ownBlock = some k ∨ V.heap.size ≤ k) (hv : ∀ k, v.ownBlock = some k → k < w.heap.size) (hR : Lay W (q + 1) (.int .i64 0) (.slice none 0 0)) : OMid w B q v ins r (.pointer (some ⟨W.heap.size, 0, none⟩)) (.int .i64 r.2) ((w5.setCell ⟨W.heap.size, 0, none⟩ (.int .i64 ins)).setCell ⟨W.heap.size, 1, none⟩ v') := by
  have hlW := hR.lt
  have hWB := hB.size
  have hLV := hL.lt
  have hK2 : Kept (fun k => k = W.heap.size) w5 ((w5.setCell ⟨W.heap.size, 0, none⟩ (.int .i64 ins)).setCell ⟨W.heap.size, 1, none⟩ v') := Kept.setCell (S := fun k => k = W.heap.size) (Kept.setCell (S := fun k => k = W.heap.size) (Kept.refl _ w5) (p := ⟨W.heap.size, 0, none⟩) rfl _) (p := ⟨W.heap.size, 1, none⟩) rfl _
  have hL5 := hL.kept hK (fun e => by have := hv _ e; omega)
  have hr5 : Lay w5 (q + 1) (.int .i64 0) (.slice none 0 0) := (hR.below hVW).kept hK (fun e => by have := hv _ e; omega)
  refine ⟨W.heap.size, v', rfl, rfl, ?_, hr5.kept hK2 (by omega), by omega, hO.kept hK2 (fun k e h => ?_), fun e => ?_, ?_, fun k e => ?_⟩
  · exact ⟨by rw [set_other (by simp)]; exact set_same hL5.c0, set_same (by rw [set_other (by simp)]; exact hL5.c1), by rw [World.frozen?_setCell, World.frozen?_setCell]; exact hL5.z0, by rw [World.frozen?_setCell, World.frozen?_setCell]; exact hL5.z1⟩
  · rcases hV _ e with x | x
    · have := hv _ x; omega
    · omega
  · rcases hV _ e with x | x
    · have := hv _ x; omega
    · omega
  · have k1 : Kept (fun k => v.ownBlock = some k) w w5 := (Kept.ofBelow hB).trans ((Kept.ofBelow hVW).trans hK)
    refine ⟨hK2.os.trans k1.os, hK2.tape.trans k1.tape, hK2.output.trans k1.output, Nat.le_trans k1.size hK2.size, fun k hk hn => ?_⟩
    have := k1.size
    rw [hK2.block k (by omega) (by omega), k1.block k hk hn]
  · rcases hV _ e with x | x
    · exact .inl x
    · exact .inr (by omega)
theorem or_fin {w wc w' : World} {B q : Nat} {v v' : Value} {ins x : Int} {l : List An} (hO : OwAn wc B v' l) (hn : v'.ownBlock ≠ some (q + 1)) (hK : Kept (fun k => v.ownBlock = some k) w wc) (hV : ∀ k, v'.ownBlock = some k → v.ownBlock = some k ∨ w.heap.size ≤ k) (h9 : Kept (fun k => k = q + 1) wc w') (hq : w.heap.size ≤ q) : SAPost w B v ins (l, x) (.returned (.tuple #[.agg #[.int .i64 ins, v'], .int .i64 x])) w' := by
  refine ⟨v', rfl, hO.kept h9 (fun k e h => hn (by rw [e, h])), ?_, hV⟩
  refine ⟨h9.os.trans hK.os, h9.tape.trans hK.tape, h9.output.trans hK.output, Nat.le_trans hK.size h9.size, fun k hk hk2 => ?_⟩
  have := hK.size
  rw [h9.block k (by omega) (by omega), hK.block k hk hk2]

set_option maxRecDepth 100000 in
set_option maxHeartbeats 8000000 in
theorem sOr (w : World) (B : Nat) (ins : Int) (av : Option Addr) (cv : Nat) (l : List An) (hO : OwAn w B (.slice av l.length cv) l) (hBw : B ≤ w.heap.size) (a b : Int) (h0 : 0 ≤ ins) (h1 : ins ≤ 12) (hl : l.length ≤ 3000) (hok : okL ins l = true) (hwa : wireB ins l a = true) (hwb : wireB ins l b = true) :
    Calls Try.prog 78 #[.agg #[.int .i64 ins, .slice av l.length cv], .int .i64 a, .int .i64 b] w (SAPost w B (.slice av l.length cv) ins (orW ins l a b)) := by
  have HO : Hid (OwAn w B (.slice av l.length cv) l) := hO
  have ra := of_decide_eq_true hwa
  have rb := of_decide_eq_true hwb
  have rta := of_decide_eq_true ((turn_wire (ins := ins) (l := l) (w := a)).trans hwa)
  have rtb := of_decide_eq_true ((turn_wire (ins := ins) (l := l) (w := b)).trans hwb)
  have HAW : Hid (andW ins l (turnW a) (turnW b) = if turnW a ≤ turnW b then andL ins l (turnW a) (turnW b) else andL ins l (turnW b) (turnW a)) := by
    show _ = _
    unfold andW
    rw [if_pos ⟨by rw [turn_wire]; exact hwa, by rw [turn_wire]; exact hwb⟩]
  have hrg := and_range (a := turnW a) (b := turnW b) h0 h1 hl hok
  have HNEG : Hid ((andW ins l (turnW a) (turnW b)).2 = -1 ∨ 0 ≤ (andW ins l (turnW a) (turnW b)).2) := by
    rcases (andW_ok (a := turnW a) (b := turnW b) h0 hok hl).2.2 with e | e
    · exact .inl e
    · exact .inr (of_decide_eq_true e).1
  have HOR : Hid (orW ins l a b = ((andW ins l (turnW a) (turnW b)).1, if (andW ins l (turnW a) (turnW b)).2 = -1 then -1 else turnW (andW ins l (turnW a) (turnW b)).2)) := rfl
  have HTA : Hid (∀ (x : Int) (W : World), x = a ∨ x = b → Calls Try.prog 99 #[.int .i64 x] W fun e w' => e = .returned (.int .i64 (turnW x)) ∧ w' = W) := fun x W hx => sTurn x W (by omega) (by omega)
  have HSA : Hid (∀ (W : World), B ≤ W.heap.size → OwAn W B (.slice av l.length cv) l → Calls Try.prog 72 #[.agg #[.int .i64 ins, .slice av l.length cv], .int .i64 (turnW a), .int .i64 (turnW b)] W (SAPost W B (.slice av l.length cv) ins (andW ins l (turnW a) (turnW b)))) := fun W hBW hOW => by
    rw [HAW.out]
    exact sAnd W B ins av cv l hOW hBW (turnW a) (turnW b) h0 h1 hl (by omega) (by omega) (by omega) (by omega)
  clear hO hwa hwb HAW rta rtb
  generalize hrr : andW ins l (turnW a) (turnW b) = rr at *
  clear hrr
  obtain ⟨l2, x⟩ := rr
  simp only at hrg HNEG HOR
  generalize hT : turnW = tf at *
  have HTF : Hid (turnW = tf) := hT
  clear hT
  obtain ⟨W, hW⟩ : ∃ W, W = (w.alloc (.cells #[.int .i64 ins, .slice av l.length cv] 29)).alloc (.cells #[.int .i64 0, .slice none 0 0] 29) := ⟨_, rfl⟩
  have HB : Hid (Below w.heap.size w W) := by rw [hW]; exact ((Below.refl _ _).alloc (Nat.le_refl _) _).alloc (by simp) _
  have hs : W.heap.size = w.heap.size + 1 + 1 := by rw [hW]; simp
  have LB : Hid (Bx W w.heap.size (.int .i64 ins) (.slice av l.length cv) (.int .i64 0) (.slice none 0 0)) := by rw [hW]; exact Bx.made _ _ _ _ _ _ _
  have HW : Hid (W = (w.alloc (.cells #[.int .i64 ins, .slice av l.length cv] 29)).alloc (.cells #[.int .i64 0, .slice none 0 0] 29)) := hW
  clear hW
  obtain ⟨q, hq⟩ : ∃ q, q = w.heap.size := ⟨_, rfl⟩
  have HQ : Hid (q = w.heap.size) := hq
  rw [← hq] at hs LB
  clear hq
  have hqW : q + 1 < W.heap.size := by omega
  clear hs
  have HOd : Hid (OwAn W.drew B (.slice av l.length cv) l) := HO.out.kept (S := fun _ => False) (Kept.ofBelow HB.out.drew) (fun _ _ e => e)
  have HOa : Hid (OwAn (W.alloc (.cells #[.int .i64 0, .slice none 0 0] 29)).drew B (.slice av l.length cv) l) := HO.out.kept (S := fun _ => False) (Kept.ofBelow (HB.out.alloc HB.out.size _).drew) (fun _ _ e => e)
  have hBd : B ≤ W.drew.heap.size := Nat.le_trans hBw HB.out.size
  have hBa : B ≤ (W.alloc (.cells #[.int .i64 0, .slice none 0 0] 29)).drew.heap.size := Nat.le_trans hBw (HB.out.alloc HB.out.size (.cells #[.int .i64 0, .slice none 0 0] 29)).drew.size
  have L0 : Lay W.drew q (.int .i64 ins) (.slice av l.length cv) := LB.out.g.drew
  have L1 : Lay (W.alloc (.cells #[.int .i64 0, .slice none 0 0] 29)).drew q (.int .i64 ins) (.slice av l.length cv) := (LB.out.g.alloc _).drew
  have HVL : Hid (∀ k, (Value.slice av l.length cv).ownBlock = some k → k < w.heap.size) := fun k e => (HO.out.lt k e).2
  have HNQ : Hid ((Value.slice av l.length cv).ownBlock ≠ some q ∧ (Value.slice av l.length cv).ownBlock ≠ some (q + 1)) := ⟨fun e => by have := (HO.out.lt _ e).2; have := HQ.out; omega, fun e => by have := (HO.out.lt _ e).2; have := HQ.out; omega⟩
  have LM : Hid (Lay (W.alloc (.cells #[.int .i64 0, .slice none 0 0] 29)).drew W.heap.size (.int .i64 0) (.slice none 0 0)) := (Lay.made _ _ _ _).drew
  have HNM : Hid (¬ (Value.slice av l.length cv).ownBlock = some W.heap.size) := fun e => by have := HVL.out _ e; have := HB.out.size; omega
  go_enter Try.func78, Try.ntmps78
  go_upto_region 1 with fail
  rw [← HW.out, ← HQ.out]
  go_cut [8, 9] from 10 to 18 (fun s8 s9 wc => OMid w B q (.slice av l.length cv) ins (l2, x) s8 s9 wc)
  case first =>
    go_region_held3 (fun w' => w'.cell? ⟨q, 0, none⟩ = some (.int .i64 ins) ∧ w'.cell? ⟨q, 1, none⟩ = some (.slice av l.length cv)) ((first | exact ⟨L0.c0, L0.c1⟩ | exact ⟨L1.c0, L1.c1⟩ | exact ⟨L5.out.c0, L5.out.c1⟩ | exact ⟨(L5.out.alloc _).c0, (L5.out.alloc _).c1⟩ | exact ⟨(L5.out.alloc _).drew.c0, (L5.out.alloc _).drew.c1⟩ | exact ⟨L6.out.c0, L6.out.c1⟩)) ((first | (go_at_call 99; refine (HTA.out _ _ (by first | exact Or.inl rfl | exact Or.inr rfl)).mono ?_; rintro e x1 ⟨rfl, hx1⟩; have hx2 := hx1.symm; clear hx1; subst hx2) | (go_at_call 72; refine (HSA.out _ (by first | exact hBd | exact hBa) (by first | exact HOd.out | exact HOa.out)).mono ?_; rintro e w5 ⟨v5, rfl, hO5, hK5, hV5⟩; have L5 : Hid (Lay w5 q (.int .i64 ins) (.slice av l.length cv)) := (by first | exact L0.kept hK5 HNQ.out.1 | exact L1.kept hK5 HNQ.out.1); obtain ⟨a5, c5, rfl, -, -⟩ := hO5.form; (first | (have L8 := LM.out.kept hK5 HNM.out; have m0 := L8.c0; have m1 := L8.c1; have mz0 := L8.z0; have mz1 := L8.z1; have L6 : Hid (Lay ((w5.setCell ⟨W.heap.size, 0, none⟩ (.int .i64 ins)).setCell ⟨W.heap.size, 1, none⟩ (.slice a5 (List.length l2) c5)) q (.int .i64 ins) (.slice av l.length cv)) := L5.out.kept (Kept.setCell (S := fun k => k = W.heap.size) (Kept.setCell (S := fun k => k = W.heap.size) (Kept.refl _ w5) (p := ⟨W.heap.size, 0, none⟩) rfl _) (p := ⟨W.heap.size, 1, none⟩) rfl _) (by omega); clear L8) | skip); have HO5 : Hid (OwAn w5 B (.slice a5 (List.length l2) c5) l2) := hO5; clear hO5)))
    all_goals
      go_wp2_with fail
      go_meet
      case rel => first | exact OMid.late (W := W.drew) HB.out.drew (Nat.le_of_eq HQ.out.symm) HO5.out hK5 hV5 HVL.out LB.out.r.drew | exact OMid.soon (W := W) HB.out ((Below.refl _ _).alloc (Nat.le_refl _) _).drew (Nat.le_of_eq HQ.out.symm) LM.out HO5.out hK5 hV5 HVL.out LB.out.r
  case rest =>
    obtain ⟨qo, v', rfl, rfl, hLo, hLr, hqo, hOo, hno, hKo, hVo⟩ := hcut
    obtain ⟨a5, c5, rfl, -, -⟩ := hOo.form
    have HLo : Hid (Lay wc qo (.int .i64 ins) (.slice a5 (List.length l2) c5)) := hLo
    have HLr : Hid (Lay wc (q + 1) (.int .i64 0) (.slice none 0 0)) := hLr
    have HOo : Hid (OwAn wc B (.slice a5 (List.length l2) c5) l2) := hOo
    have HNo : Hid ((Value.slice a5 (List.length l2) c5).ownBlock ≠ some (q + 1)) := hno
    have HKo : Hid (Kept (fun k => (Value.slice av l.length cv).ownBlock = some k) w wc) := hKo
    have HVo : Hid (∀ k, (Value.slice a5 (List.length l2) c5).ownBlock = some k → (Value.slice av l.length cv).ownBlock = some k ∨ w.heap.size ≤ k) := hVo
    have t0 := hLo.c0
    have t1 := hLo.c1
    have y0 := hLr.c0
    have y1 := hLr.c1
    have z0 := hLr.z0
    have z1 := hLr.z1
    clear hLo hLr hOo hno hKo hVo L0 L1
    by_cases hx : x = -1
    · subst hx
      go_wp2
      refine bodyPost_ret (v := .tuple #[.agg #[.int .i64 ins, .slice a5 (List.length l2) c5], .int .i64 (-1)]) (by simp [results, Try.results78, go_sem, y0, y1]) rfl ?_
      rw [HOR.out]
      exact or_fin HOo.out HNo.out HKo.out HVo.out (Kept.setCell (S := fun k => k = q + 1) (Kept.setCell (S := fun k => k = q + 1) (Kept.refl _ wc) (p := ⟨q + 1, 0, none⟩) rfl _) (p := ⟨q + 1, 1, none⟩) rfl _) (Nat.le_of_eq HQ.out.symm)
    · have hx0 : 0 ≤ x := by rcases HNEG.out with e | e; exact absurd e hx; exact e
      have HOX : Hid (orW ins l a b = (l2, tf x)) := by show _ = _; rw [HOR.out, if_neg hx]
      have HT3 : Hid (∀ W : World, Calls Try.prog 99 #[.int .i64 x] W fun e w' => e = .returned (.int .i64 (tf x)) ∧ w' = W) := fun W => by rw [← HTF.out]; exact sTurn x W (by omega) (by omega)
      have K9 : Hid (Kept (fun k => k = q + 1) wc ((wc.setCell ⟨q + 1, 0, none⟩ (.int .i64 ins)).setCell ⟨q + 1, 1, none⟩ (.slice a5 (List.length l2) c5)).drew) := Kept.drew (Kept.setCell (S := fun k => k = q + 1) (Kept.setCell (S := fun k => k = q + 1) (Kept.refl _ wc) (p := ⟨q + 1, 0, none⟩) rfl _) (p := ⟨q + 1, 1, none⟩) rfl _)
      have M0 : Hid (Lay wc.drew qo (.int .i64 ins) (.slice a5 (List.length l2) c5)) := HLo.out.drew
      have M9 : Hid (Lay ((wc.setCell ⟨q + 1, 0, none⟩ (.int .i64 ins)).setCell ⟨q + 1, 1, none⟩ (.slice a5 (List.length l2) c5)).drew qo (.int .i64 ins) (.slice a5 (List.length l2) c5)) := HLo.out.kept K9.out hqo
      go_wp2
      go_region_held3 (fun w' => w'.cell? ⟨qo, 0, none⟩ = some (.int .i64 ins) ∧ w'.cell? ⟨qo, 1, none⟩ = some (.slice a5 (List.length l2) c5)) ((first | exact ⟨M0.out.c0, M0.out.c1⟩ | exact ⟨M9.out.c0, M9.out.c1⟩)) ((go_at_call 99; refine (HT3.out _).mono ?_; rintro e x1 ⟨rfl, hx1⟩; have hx2 := hx1.symm; clear hx1; subst hx2))
      all_goals
        go_wp2
        refine bodyPost_ret (v := .tuple #[.agg #[.int .i64 ins, .slice a5 (List.length l2) c5], .int .i64 (tf x)]) (by simp [results, Try.results78, go_sem, y0, y1]) rfl ?_
        rw [HOX.out]
        exact or_fin HOo.out HNo.out HKo.out HVo.out K9.out (Nat.le_of_eq HQ.out.symm)

set_option maxRecDepth 100000 in
set_option maxHeartbeats 8000000 in
theorem sGraphOr (w : World) (ins : Int) (gx ox c : Nat) (l : List An) (h : Ans w (some ⟨gx, ox, none⟩) l) (hR : Rg l) (hl : l.length ≤ 1048576) (a b : Int) :
    Calls Try.prog 32 #[.agg #[.int .i64 ins, .slice (some ⟨gx, ox, none⟩) l.length c], .int .i64 a, .int .i64 b] w (GrPost w ins (gOr ins l a b)) := by
  have H : Hid (Ans w (some ⟨gx, ox, none⟩) l) := h
  have HRg : Hid (Rg l) := hR
  clear h hR
  obtain ⟨W, hW⟩ : ∃ W, W = (w.alloc (.cells #[.int .i64 ins, .slice (some ⟨gx, ox, none⟩) l.length c] 29)).alloc (.cells #[.int .i64 0, .slice none 0 0] 29) := ⟨_, rfl⟩
  have HB : Hid (Below w.heap.size w W) := by rw [hW]; exact ((Below.refl _ _).alloc (Nat.le_refl _) _).alloc (by simp) _
  have hs : W.heap.size = w.heap.size + 1 + 1 := by rw [hW]; simp
  have LB : Hid (Bx W w.heap.size (.int .i64 ins) (.slice (some ⟨gx, ox, none⟩) l.length c) (.int .i64 0) (.slice none 0 0)) := by rw [hW]; exact Bx.made _ _ _ _ _ _ _
  have HW : Hid (W = (w.alloc (.cells #[.int .i64 ins, .slice (some ⟨gx, ox, none⟩) l.length c] 29)).alloc (.cells #[.int .i64 0, .slice none 0 0] 29)) := hW
  clear hW
  obtain ⟨q, hq⟩ : ∃ q, q = w.heap.size := ⟨_, rfl⟩
  have HQ : Hid (q = w.heap.size) := hq
  rw [← hq] at hs LB
  clear hq
  have hqW : q + 1 < W.heap.size := by omega
  clear hs
  have g0 := LB.out.g.c0
  have g1 := LB.out.g.c1
  go_enter Try.func32, Try.ntmps32
  go_upto_region 1 with fail
  rw [← HW.out, ← HQ.out]
  go_wp2_with fail
  refine (sGraphOk W ins _ c l (H.out.below HB.out) HRg.out).mono ?_
  cases hg : gokB ins l with
  | false =>
    rintro e w2 ⟨rfl, hb2⟩
    have HR : Hid (gOr ins l a b = (l, -1)) := by show _ = _; unfold gOr; rw [if_neg (by rw [hg]; simp)]
    have HB2 : Hid (Below W.heap.size W w2) := hb2
    clear hg hb2 g0 g1
    have d0 : w2.cell? ⟨q, 0, none⟩ = some (.int .i64 ins) := (LB.out.g.below HB2.out).c0
    have d1 : w2.cell? ⟨q, 1, none⟩ = some (.slice (some ⟨gx, ox, none⟩) l.length c) := (LB.out.g.below HB2.out).c1
    go_wp2_with fail
    refine (sCopy w2 ins gx ox c l ((H.out.below HB.out).below HB2.out) hl).mono ?_
    rintro e wq ⟨gq, cq, rfl, hOq, hbq⟩
    have HBq : Hid (Below W.heap.size W wq) := HB2.out.trans (hbq.mono HB2.out.size)
    have hsq := HB2.out.size
    have HOq : Hid (OwAn wq W.heap.size (.slice (some ⟨gq, 0, none⟩) l.length cq) l) := by
      refine ⟨hOq.1, ?_⟩
      rcases hOq.2 with e | ⟨g, cap, cur, q1, q2, q3⟩
      · exact .inl e
      · exact .inr ⟨g, cap, cur, q1, by omega, q3⟩
    clear hOq hbq d0 d1 hsq
    have y0 := (LB.out.r.below HBq.out).c0
    have y1 := (LB.out.r.below HBq.out).c1
    have z0 := (LB.out.r.below HBq.out).z0
    have z1 := (LB.out.r.below HBq.out).z1
    go_wp2
    refine bodyPost_ret (v := .tuple #[.agg #[.int .i64 ins, .slice (some ⟨gq, 0, none⟩) l.length cq], .int .i64 (-1)]) (by simp [results, Try.results32, go_sem, y0, y1]) rfl ?_
    rw [HR.out]
    exact gr_post (q := q + 1) HB.out HBq.out HOq.out (Kept.setCell (S := fun k => k = q + 1) (Kept.setCell (S := fun k => k = q + 1) (Kept.refl _ wq) (p := ⟨q + 1, 0, none⟩) rfl _) (p := ⟨q + 1, 1, none⟩) rfl _) (by have := HQ.out; omega) hqW
  | true =>
    rintro e w2 ⟨rfl, hb2⟩
    have HB2 : Hid (Below W.heap.size W w2) := hb2
    obtain ⟨h0, h1, hl3, hok⟩ := gok_facts hg
    have HG : Hid (gOr ins l a b = kept l (orW ins l a b)) := by show _ = _; unfold gOr; rw [if_pos hg]
    have HOK : Hid (okL ins l = true) := hok
    have d0 : w2.cell? ⟨q, 0, none⟩ = some (.int .i64 ins) := (LB.out.g.below hb2).c0
    have d1 : w2.cell? ⟨q, 1, none⟩ = some (.slice (some ⟨gx, ox, none⟩) l.length c) := (LB.out.g.below hb2).c1
    clear hg hb2 hok g0 g1
    go_wp2_with fail
    refine (sWire _ ins _ l c a h0 h1 hl3).mono ?_
    cases hwa : wireB ins l a with
    | false =>
      rintro e w3 ⟨rfl, hb3⟩
      have HR : Hid (gOr ins l a b = (l, -1)) := by
        show _ = _
        rw [HG.out]
        have e0 : andW ins l (turnW a) (turnW b) = (l, -1) := by
          unfold andW
          rw [if_neg (fun e => by rw [turn_wire, turn_wire, hwa] at e; exact absurd e.1 (by simp))]
        have e1 : orW ins l a b = (l, -1) := by
          unfold orW
          rw [e0]
          rfl
        rw [e1]
        rfl
      have HB3 : Hid (Below W.heap.size W w3) := HB2.out.trans (hb3.mono HB2.out.size)
      clear hwa hb3 d0 d1
      have d0 : w3.cell? ⟨q, 0, none⟩ = some (.int .i64 ins) := (LB.out.g.below HB3.out).c0
      have d1 : w3.cell? ⟨q, 1, none⟩ = some (.slice (some ⟨gx, ox, none⟩) l.length c) := (LB.out.g.below HB3.out).c1
      go_wp2_with fail
      refine (sCopy w3 ins gx ox c l ((H.out.below HB.out).below HB3.out) hl).mono ?_
      rintro e wq ⟨gq, cq, rfl, hOq, hbq⟩
      have HBq : Hid (Below W.heap.size W wq) := HB3.out.trans (hbq.mono HB3.out.size)
      have hsq := HB3.out.size
      have HOq : Hid (OwAn wq W.heap.size (.slice (some ⟨gq, 0, none⟩) l.length cq) l) := by
        refine ⟨hOq.1, ?_⟩
        rcases hOq.2 with e | ⟨g, cap, cur, q1, q2, q3⟩
        · exact .inl e
        · exact .inr ⟨g, cap, cur, q1, by omega, q3⟩
      clear hOq hbq d0 d1 hsq
      have y0 := (LB.out.r.below HBq.out).c0
      have y1 := (LB.out.r.below HBq.out).c1
      have z0 := (LB.out.r.below HBq.out).z0
      have z1 := (LB.out.r.below HBq.out).z1
      go_wp2
      refine bodyPost_ret (v := .tuple #[.agg #[.int .i64 ins, .slice (some ⟨gq, 0, none⟩) l.length cq], .int .i64 (-1)]) (by simp [results, Try.results32, go_sem, y0, y1]) rfl ?_
      rw [HR.out]
      exact gr_post (q := q + 1) HB.out HBq.out HOq.out (Kept.setCell (S := fun k => k = q + 1) (Kept.setCell (S := fun k => k = q + 1) (Kept.refl _ wq) (p := ⟨q + 1, 0, none⟩) rfl _) (p := ⟨q + 1, 1, none⟩) rfl _) (by have := HQ.out; omega) hqW
    | true =>
      rintro e w3 ⟨rfl, hb3⟩
      have HB3 : Hid (Below W.heap.size W w3) := HB2.out.trans (hb3.mono HB2.out.size)
      have d0 : w3.cell? ⟨q, 0, none⟩ = some (.int .i64 ins) := (LB.out.g.below HB3.out).c0
      have d1 : w3.cell? ⟨q, 1, none⟩ = some (.slice (some ⟨gx, ox, none⟩) l.length c) := (LB.out.g.below HB3.out).c1
      clear hb3
      go_wp2_with fail
      refine (sWire _ ins _ l c b h0 h1 hl3).mono ?_
      cases hwb : wireB ins l b with
      | false =>
        rintro e w4 ⟨rfl, hb4⟩
        have HR : Hid (gOr ins l a b = (l, -1)) := by
          show _ = _
          rw [HG.out]
          have e0 : andW ins l (turnW a) (turnW b) = (l, -1) := by
            unfold andW
            rw [if_neg (fun e => by rw [turn_wire, turn_wire, hwb] at e; exact absurd e.2 (by simp))]
          have e1 : orW ins l a b = (l, -1) := by
            unfold orW
            rw [e0]
            rfl
          rw [e1]
          rfl
        have HB4 : Hid (Below W.heap.size W w4) := HB3.out.trans (hb4.mono HB3.out.size)
        clear hwb hwa hb4 d0 d1
        have d0 : w4.cell? ⟨q, 0, none⟩ = some (.int .i64 ins) := (LB.out.g.below HB4.out).c0
        have d1 : w4.cell? ⟨q, 1, none⟩ = some (.slice (some ⟨gx, ox, none⟩) l.length c) := (LB.out.g.below HB4.out).c1
        go_wp2_with fail
        refine (sCopy w4 ins gx ox c l ((H.out.below HB.out).below HB4.out) hl).mono ?_
        rintro e wq ⟨gq, cq, rfl, hOq, hbq⟩
        have HBq : Hid (Below W.heap.size W wq) := HB4.out.trans (hbq.mono HB4.out.size)
        have hsq := HB4.out.size
        have HOq : Hid (OwAn wq W.heap.size (.slice (some ⟨gq, 0, none⟩) l.length cq) l) := by
          refine ⟨hOq.1, ?_⟩
          rcases hOq.2 with e | ⟨g, cap, cur, q1, q2, q3⟩
          · exact .inl e
          · exact .inr ⟨g, cap, cur, q1, by omega, q3⟩
        clear hOq hbq d0 d1 hsq
        have y0 := (LB.out.r.below HBq.out).c0
        have y1 := (LB.out.r.below HBq.out).c1
        have z0 := (LB.out.r.below HBq.out).z0
        have z1 := (LB.out.r.below HBq.out).z1
        go_wp2
        refine bodyPost_ret (v := .tuple #[.agg #[.int .i64 ins, .slice (some ⟨gq, 0, none⟩) l.length cq], .int .i64 (-1)]) (by simp [results, Try.results32, go_sem, y0, y1]) rfl ?_
        rw [HR.out]
        exact gr_post (q := q + 1) HB.out HBq.out HOq.out (Kept.setCell (S := fun k => k = q + 1) (Kept.setCell (S := fun k => k = q + 1) (Kept.refl _ wq) (p := ⟨q + 1, 0, none⟩) rfl _) (p := ⟨q + 1, 1, none⟩) rfl _) (by have := HQ.out; omega) hqW
      | true =>
        rintro e w4 ⟨rfl, hb4⟩
        have HB4 : Hid (Below W.heap.size W w4) := HB3.out.trans (hb4.mono HB3.out.size)
        have ra := of_decide_eq_true hwa
        have rb := of_decide_eq_true hwb
        have HWW : Hid (wireB ins l a = true ∧ wireB ins l b = true) := ⟨hwa, hwb⟩
        clear hb4 hwa hwb d0 d1
        have d0 : w4.cell? ⟨q, 0, none⟩ = some (.int .i64 ins) := (LB.out.g.below HB4.out).c0
        have d1 : w4.cell? ⟨q, 1, none⟩ = some (.slice (some ⟨gx, ox, none⟩) l.length c) := (LB.out.g.below HB4.out).c1
        go_wp2_with fail
        refine (sCopy w4 ins gx ox c l ((H.out.below HB.out).below HB4.out) hl).mono ?_
        rintro e w5 ⟨g5, c5, rfl, hO5, hb5⟩
        have HO5 : Hid (OwAn w5 w4.heap.size (.slice (some ⟨g5, 0, none⟩) l.length c5) l) := hO5
        have HB5 : Hid (Below W.heap.size W w5) := HB4.out.trans (hb5.mono HB4.out.size)
        have hs45 : w4.heap.size ≤ w5.heap.size := hb5.size
        have hsW4 : W.heap.size ≤ w4.heap.size := HB4.out.size
        clear hO5 hb5 d0 d1
        go_wp2_with fail
        refine (sOr w5 w4.heap.size ins _ c5 l HO5.out hs45 a b h0 h1 hl3 HOK.out HWW.out.1 HWW.out.2).mono ?_
        have hpost : (orW ins l a b) = orW ins l a b := by
          rfl
        rw [hpost]
        have HNEG : Hid ((orW ins l a b).2 = -1 ∨ 0 ≤ (orW ins l a b).2) := by
          rcases (orW_ok (a := a) (b := b) h0 HOK.out hl3).2.2 with e | e
          · exact .inl e
          · exact .inr (of_decide_eq_true e).1
        generalize hrr : orW ins l a b = r at HG HNEG
        obtain ⟨l2, x⟩ := r
        clear hrr hpost
        rintro e w6 ⟨v6, rfl, hO6, hK6, hV6⟩
        have HB6 : Hid (Below W.heap.size W w6) := HB5.out.trans (hK6.below (fun k e => by have := (HO5.out.lt k e).1; omega) HB5.out.size)
        have HO6 : Hid (OwAn w6 W.heap.size v6 l2) := by
          refine ⟨hO6.1, ?_⟩
          rcases hO6.2 with e | ⟨g, cap, cur, q1, q2, q3⟩
          · exact .inl e
          · exact .inr ⟨g, cap, cur, q1, by omega, q3⟩
        clear hO6 hK6 hV6
        simp only at HNEG ⊢
        obtain ⟨a6, c6, rfl, _, _⟩ := HO6.out.form
        go_upto_region 4 with fail
        obtain ⟨W7, hW7⟩ : ∃ W7, W7 = w6.alloc (.cells #[.int .i64 ins, .slice a6 l2.length c6] 29) := ⟨_, rfl⟩
        have HB7 : Hid (Below W.heap.size W W7) := by rw [hW7]; exact HB6.out.alloc HB6.out.size _
        have L7 : Hid (Lay W7 w6.heap.size (.int .i64 ins) (.slice a6 l2.length c6)) := by rw [hW7]; exact Lay.made _ _ _ _
        have HO7 : Hid (OwAn W7 W.heap.size (.slice a6 l2.length c6) l2) := by rw [hW7]; exact HO6.out.kept (S := fun _ => False) ((Kept.refl _ _).alloc _) (fun _ _ e => e)
        rw [← hW7]
        clear hW7
        by_cases hx : x = -1
        · subst hx
          have HR : Hid (gOr ins l a b = (l, -1)) := by show _ = _; rw [HG.out]; rfl
          have d0 : W7.cell? ⟨q, 0, none⟩ = some (.int .i64 ins) := (LB.out.g.below HB7.out).c0
          have d1 : W7.cell? ⟨q, 1, none⟩ = some (.slice (some ⟨gx, ox, none⟩) l.length c) := (LB.out.g.below HB7.out).c1
          go_wp2_with fail
          refine (sCopy W7 ins gx ox c l ((H.out.below HB.out).below HB7.out) hl).mono ?_
          rintro e wq ⟨gq, cq, rfl, hOq, hbq⟩
          have HBq : Hid (Below W.heap.size W wq) := HB7.out.trans (hbq.mono HB7.out.size)
          have hsq := HB7.out.size
          have HOq : Hid (OwAn wq W.heap.size (.slice (some ⟨gq, 0, none⟩) l.length cq) l) := by
            refine ⟨hOq.1, ?_⟩
            rcases hOq.2 with e | ⟨g, cap, cur, q1, q2, q3⟩
            · exact .inl e
            · exact .inr ⟨g, cap, cur, q1, by omega, q3⟩
          clear hOq hbq d0 d1 hsq
          have y0 := (LB.out.r.below HBq.out).c0
          have y1 := (LB.out.r.below HBq.out).c1
          have z0 := (LB.out.r.below HBq.out).z0
          have z1 := (LB.out.r.below HBq.out).z1
          go_wp2
          refine bodyPost_ret (v := .tuple #[.agg #[.int .i64 ins, .slice (some ⟨gq, 0, none⟩) l.length cq], .int .i64 (-1)]) (by simp [results, Try.results32, go_sem, y0, y1]) rfl ?_
          rw [HR.out]
          exact gr_post (q := q + 1) HB.out HBq.out HOq.out (Kept.setCell (S := fun k => k = q + 1) (Kept.setCell (S := fun k => k = q + 1) (Kept.refl _ wq) (p := ⟨q + 1, 0, none⟩) rfl _) (p := ⟨q + 1, 1, none⟩) rfl _) (by have := HQ.out; omega) hqW
        · have hx0 : 0 ≤ x := by rcases HNEG.out with e | e; exact absurd e hx; exact e
          have HR : Hid (gOr ins l a b = (l2, x)) := by show _ = _; rw [HG.out]; unfold kept; rw [if_neg hx]
          have y0 := (LB.out.r.below HB7.out).c0
          have y1 := (LB.out.r.below HB7.out).c1
          have z0 := (LB.out.r.below HB7.out).z0
          have z1 := (LB.out.r.below HB7.out).z1
          have t0 := L7.out.c0
          have t1 := L7.out.c1
          go_wp2
          refine bodyPost_ret (v := .tuple #[.agg #[.int .i64 ins, .slice a6 l2.length c6], .int .i64 x]) (by simp [results, Try.results32, go_sem, y0, y1]) rfl ?_
          rw [HR.out]
          exact gr_post (q := q + 1) HB.out HB7.out HO7.out (Kept.setCell (S := fun k => k = q + 1) (Kept.setCell (S := fun k => k = q + 1) (Kept.refl _ W7) (p := ⟨q + 1, 0, none⟩) rfl _) (p := ⟨q + 1, 1, none⟩) rfl _) (by have := HQ.out; omega) hqW

end Go.Proofs.Ytnpfegfjejfaaaa.Gs5
