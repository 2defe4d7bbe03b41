/- Small texts of mine, one behind the other. -/
import Derived.Test.YtnpfegfjejfaaaaGs5
import Derived.Test.YtnpfegfjejfaaaaGr3
import Derived.Test.YtnpfegfjejfaaaaPkGd
/- The model's l07If. -/
namespace Go.Proofs.Ytnpfegfjejfaaaa.Gs9
open Go.RowKit
open Nd0 Qb0 Qb2 Gr0 Gr1 Gr3 Gx0 Ap10 Gs1 Gs2 Gs3 Gs4 Gs5
open Gp5 (GrPost own_w and_range)
set_option linter.unusedVariables false

/-- From a list to one made of it: what else there was is as it was. -/
def Rel (w : World) (v : Value) (w' : World) (v' : Value) : Prop := Kept (fun k => v.ownBlock = some k) w w' ∧ ∀ k, v'.ownBlock = some k → v.ownBlock = some k ∨ w.heap.size ≤ k
theorem Rel.trans {w w1 w2 : World} {v v1 v2 : Value} (h : Rel w v w1 v1) (g : Rel w1 v1 w2 v2) : Rel w v w2 v2 := by
  have hs := h.1.size
  refine ⟨⟨g.1.os.trans h.1.os, g.1.tape.trans h.1.tape, g.1.output.trans h.1.output, Nat.le_trans hs g.1.size, fun k hk hn => ?_⟩, fun k e => ?_⟩
  · refine (g.1.block k (Nat.lt_of_lt_of_le hk hs) (fun e => ?_)).trans (h.1.block k hk hn)
    rcases h.2 k e with x | x
    · exact hn x
    · omega
  · rcases g.2 k e with x | x
    · exact h.2 k x
    · exact .inr (Nat.le_trans hs x)
theorem Rel.below {w w1 : World} {v : Value} (h : Below w.heap.size w w1) : Rel w v w1 v := ⟨Kept.ofBelow h, fun k e => .inl e⟩
theorem Rel.set {w w1 w2 : World} {v v1 : Value} {qa : Nat} (h : Rel w v w1 v1) (k : Kept (fun k => k = qa) w1 w2) (hq : w.heap.size ≤ qa) : Rel w v w2 v1 := by
  have hs := h.1.size
  refine ⟨⟨k.os.trans h.1.os, k.tape.trans h.1.tape, k.output.trans h.1.output, Nat.le_trans hs k.size, fun i hi hn => ?_⟩, h.2⟩
  exact (k.block i (by omega) (by omega)).trans (h.1.block i hi hn)
theorem Rel.post {w w' : World} {B : Nat} {v v' : Value} {ins : Int} {r : List An × Int} (h : Rel w v w' v') (hO : OwAn w' B v' r.1) : SAPost w B v ins r (.returned (.tuple #[.agg #[.int .i64 ins, v'], .int .i64 r.2])) w' := ⟨v', rfl, hO, h.1, h.2⟩
theorem Rel.off {w w' : World} {v v' : Value} {q : Nat} (h : Rel w v w' v') (hq : q < w.heap.size) (hn : v.ownBlock ≠ some q) : v'.ownBlock ≠ some q := fun e => by
  rcases h.2 q e with x | x
  · exact hn x
  · omega
theorem set2 (qa : Nat) (w : World) (x y : Value) : Kept (fun k => k = qa) w ((w.setCell ⟨qa, 0, none⟩ x).setCell ⟨qa, 1, none⟩ y) := Kept.setCell (S := fun k => k = qa) (Kept.setCell (S := fun k => k = qa) (Kept.refl _ w) (p := ⟨qa, 0, none⟩) rfl _) (p := ⟨qa, 1, none⟩) rfl _

/-- Behind an and in a region that draws: a box with the graph, wherever it lies, and the answer's box. -/
def IMid (w : World) (B qa : Nat) (v : Value) (ins : Int) (r : List An × Int) (s8 s9 : Value) (wc : World) : Prop :=
  ∃ (qo : Nat) (v' : Value), s8 = .pointer (some ⟨qo, 0, none⟩) ∧ s9 = .int .i64 r.2 ∧ Lay wc qo (.int .i64 ins) v' ∧ Lay wc qa (.int .i64 0) (.slice none 0 0) ∧ OwAn wc B v' r.1 ∧ v'.ownBlock ≠ some qa ∧ Rel w v wc v'
theorem IMid.late {w w5 : World} {B qa : Nat} {v v' : Value} {ins : Int} {r : List An × Int} {T : Nat} (hO : OwAn w5 B v' r.1) (hR : Rel w v w5 v') (hn : v.ownBlock ≠ some qa) (hL : Lay w qa (.int .i64 0) (.slice none 0 0)) : IMid w B qa v ins r (.pointer (some ⟨w5.heap.size, 0, none⟩)) (.int .i64 r.2) (w5.alloc (.cells #[.int .i64 ins, v'] T)) :=
  ⟨w5.heap.size, v', rfl, rfl, Lay.made _ _ _ _, (hL.kept hR.1 hn).alloc _, hO.kept (S := fun _ => False) ((Kept.refl _ _).alloc _) (fun _ _ e => e), hR.off hL.lt hn, hR.trans (Rel.below ((Below.refl _ _).alloc (Nat.le_refl _) _))⟩
theorem IMid.soon {w V w5 : World} {B qa : Nat} {v v' : Value} {ins : Int} {r : List An × Int} (hV : Below w.heap.size w V) (hM : Lay V w.heap.size (.int .i64 0) (.slice none 0 0)) (hO : OwAn w5 B v' r.1) (hR : Rel V v w5 v') (hn : v.ownBlock ≠ some qa) (hv : ∀ k, v.ownBlock = some k → k < w.heap.size) (hL : Lay w qa (.int .i64 0) (.slice none 0 0)) : IMid w B qa v ins r (.pointer (some ⟨w.heap.size, 0, none⟩)) (.int .i64 r.2) ((w5.setCell ⟨w.heap.size, 0, none⟩ (.int .i64 ins)).setCell ⟨w.heap.size, 1, none⟩ v') := by
  have hl := hL.lt
  have hm := hM.lt
  have nm : v.ownBlock ≠ some w.heap.size := fun e => by have := hv _ e; omega
  have n5 := hR.off hm nm
  have hM5 := hM.kept hR.1 nm
  have h9 := set2 w.heap.size w5 (.int .i64 ins) v'
  refine ⟨w.heap.size, v', rfl, rfl, ?_, ((hL.below hV).kept hR.1 hn).kept h9 (by omega), hO.kept h9 (fun k e h => n5 (by rw [e, h])), hR.off (Nat.lt_of_lt_of_le hl hV.size) hn, ((Rel.below hV).trans hR).set h9 (Nat.le_refl _)⟩
  exact ⟨by rw [set_other (by simp)]; exact set_same hM5.c0, set_same (by rw [set_other (by simp)]; exact hM5.c1), by rw [World.frozen?_setCell, World.frozen?_setCell]; exact hM5.z0, by rw [World.frozen?_setCell, World.frozen?_setCell]; exact hM5.z1⟩

theorem sAndW (w : World) (B : Nat) (ins : Int) (av : Option Addr) (cv : Nat) (l : List An) (hO : OwAn w B (.slice av l.length cv) l) (hBw : B ≤ w.heap.size) (a b : Int) (h0 : 0 ≤ ins) (h1 : ins ≤ 12) (hl : l.length ≤ 3000) (hwa : wireB ins l a = true) (hwb : wireB ins l b = true) :
    Calls Try.prog 72 #[.agg #[.int .i64 ins, .slice av l.length cv], .int .i64 a, .int .i64 b] w (SAPost w B (.slice av l.length cv) ins (andW ins l a b)) := by
  have ra := of_decide_eq_true hwa
  have rb := of_decide_eq_true hwb
  unfold andW
  rw [if_pos ⟨hwa, hwb⟩]
  exact sAnd w B ins av cv l hO hBw a b h0 h1 hl (by omega) (by omega) (by omega) (by omega)

set_option maxRecDepth 100000 in
set_option maxHeartbeats 8000000 in
theorem sIf (w : World) (B : Nat) (ins : Int) (av : Option Addr) (cv : Nat) (l : List An) (hO : OwAn w B (.slice av l.length cv) l) (hBw : B ≤ w.heap.size) (x a b : Int) (h0 : 0 ≤ ins) (h1 : ins ≤ 12) (hl : l.length ≤ 3000) (hok : okL ins l = true) (hwx : wireB ins l x = true) (hwa : wireB ins l a = true) (hwb : wireB ins l b = true) :
    Calls Try.prog 81 #[.agg #[.int .i64 ins, .slice av l.length cv], .int .i64 x, .int .i64 a, .int .i64 b] w (SAPost w B (.slice av l.length cv) ins (ifM ins l x a b)) := by
  have HO : Hid (OwAn w B (.slice av l.length cv) l) := hO
  have rx := of_decide_eq_true hwx
  obtain ⟨ok1, len1, wir1⟩ := andW_ok (a := x) (b := a) h0 hok hl
  obtain ⟨ok2, len2, wir2⟩ := andW_ok (a := turnW x) (b := b) h0 ok1 len1
  have le1 := andW_len (ins := ins) (l := l) (a := x) (b := a)
  have le2 := andW_len (ins := ins) (l := (andW ins l x a).1) (a := turnW x) (b := b)
  have HM : Hid (ifM ins l x a b = if (andW ins l x a).2 = -1 then ((andW ins l x a).1, -1) else if (andW ins (andW ins l x a).1 (turnW x) b).2 = -1 then ((andW ins (andW ins l x a).1 (turnW x) b).1, -1) else orW ins (andW ins (andW ins l x a).1 (turnW x) b).1 (andW ins l x a).2 (andW ins (andW ins l x a).1 (turnW x) b).2) := rfl
  have HTX : Hid (∀ (W : World), Calls Try.prog 99 #[.int .i64 x] W fun e w' => e = .returned (.int .i64 (turnW x)) ∧ w' = W) := fun W => sTurn x W (by omega) (by omega)
  have HS1 : Hid (∀ (W : World), B ≤ W.heap.size → OwAn W B (.slice av l.length cv) l → Calls Try.prog 72 #[.agg #[.int .i64 ins, .slice av l.length cv], .int .i64 x, .int .i64 a] W (SAPost W B (.slice av l.length cv) ins (andW ins l x a))) := fun W hBW hOW => sAndW W B ins av cv l hOW hBW x a h0 h1 hl hwx hwa
  generalize hr1 : andW ins l x a = r1 at *
  clear hr1
  obtain ⟨l1, y1⟩ := r1
  simp only at ok1 len1 wir1 ok2 len2 wir2 le1 le2 HM
  have HS2 : Hid (∀ (W : World) (a1 : Option Addr) (c1 : Nat), B ≤ W.heap.size → OwAn W B (.slice a1 l1.length c1) l1 → Calls Try.prog 72 #[.agg #[.int .i64 ins, .slice a1 l1.length c1], .int .i64 (turnW x), .int .i64 b] W (SAPost W B (.slice a1 l1.length c1) ins (andW ins l1 (turnW x) b))) := fun W a1 c1 hBW hOW => sAndW W B ins a1 c1 l1 hOW hBW (turnW x) b h0 h1 len1 (by rw [turn_wire]; exact wire_le hwx le1) (wire_le hwb le1)
  generalize hr2 : andW ins l1 (turnW x) b = r2 at *
  clear hr2
  obtain ⟨l2, y2⟩ := r2
  simp only at ok2 len2 wir2 le2 HM
  have HS3 : Hid (y1 ≠ -1 → y2 ≠ -1 → ∀ (W : World) (a1 : Option Addr) (c1 : Nat), B ≤ W.heap.size → OwAn W B (.slice a1 l2.length c1) l2 → Calls Try.prog 78 #[.agg #[.int .i64 ins, .slice a1 l2.length c1], .int .i64 y1, .int .i64 y2] W (SAPost W B (.slice a1 l2.length c1) ins (orW ins l2 y1 y2))) := fun n1 n2 W a1 c1 hBW hOW => sOr W B ins a1 c1 l2 hOW hBW y1 y2 h0 h1 len2 ok2 (wire_le (wir1.resolve_left n1) le2) (wir2.resolve_left n2)
  have HN1 : Hid (y1 = -1 ∨ 0 ≤ y1) := by rcases wir1 with e | e; exact .inl e; exact .inr (of_decide_eq_true e).1
  have HN2 : Hid (y2 = -1 ∨ 0 ≤ y2) := by rcases wir2 with e | e; exact .inl e; exact .inr (of_decide_eq_true e).1
  clear hO hwx hwa hwb ok1 ok2 hok wir1 wir2
  generalize turnW x = tx at *
  generalize orW ins l2 y1 y2 = r3 at *
  obtain ⟨l3, y3⟩ := r3
  obtain ⟨W, hW⟩ : ∃ W, W = (w.alloc (.cells #[.int .i64 ins, .slice av l.length cv] 29)).alloc (.cells #[.int .i64 0, .slice none 0 0] 29) := ⟨_, rfl⟩
  have HB : Hid (Below w.heap.size w W) := by rw [hW]; exact ((Below.refl _ _).alloc (Nat.le_refl _) _).alloc (by simp) _
  have hs : W.heap.size = w.heap.size + 1 + 1 := by rw [hW]; simp
  have LB : Hid (Bx W w.heap.size (.int .i64 ins) (.slice av l.length cv) (.int .i64 0) (.slice none 0 0)) := by rw [hW]; exact Bx.made _ _ _ _ _ _ _
  have HW : Hid (W = (w.alloc (.cells #[.int .i64 ins, .slice av l.length cv] 29)).alloc (.cells #[.int .i64 0, .slice none 0 0] 29)) := hW
  clear hW
  obtain ⟨q, hq⟩ : ∃ q, q = w.heap.size := ⟨_, rfl⟩
  have HQ : Hid (q = w.heap.size) := hq
  rw [← hq] at hs LB
  clear hq
  have hqW : q + 1 < W.heap.size := by omega
  clear hs
  have HNV : Hid ((Value.slice av l.length cv).ownBlock ≠ some (q + 1)) := fun e => by have := (HO.out.lt _ e).2; have := HQ.out; omega
  have HOW : Hid (OwAn W B (.slice av l.length cv) l) := HO.out.kept (S := fun _ => False) (Kept.ofBelow HB.out) (fun _ _ e => e)
  have HBW : Hid (B ≤ W.heap.size) := Nat.le_trans hBw HB.out.size
  go_enter Try.func81, Try.ntmps81
  go_upto_region 1 with fail
  rw [← HW.out, ← HQ.out]
  have x0 := LB.out.g.c0
  have x1 := LB.out.g.c1
  go_wp2_with fail
  refine (HS1.out _ HBW.out HOW.out).mono ?_
  rintro e w1 ⟨v1, rfl, hO1, hK1, hV1⟩
  have HR1 : Hid (Rel w (.slice av l.length cv) w1 v1) := (Rel.below HB.out).trans ⟨hK1, hV1⟩
  have HLR1 : Hid (Lay w1 (q + 1) (.int .i64 0) (.slice none 0 0)) := LB.out.r.kept hK1 HNV.out
  have HNV1 : Hid (v1.ownBlock ≠ some (q + 1)) := Rel.off (w := W) ⟨hK1, hV1⟩ hqW HNV.out
  obtain ⟨a1, c1, rfl, -, -⟩ := hO1.form
  have HO1 : Hid (OwAn w1 B (.slice a1 (List.length l1) c1) l1) := hO1
  have HBW1 : Hid (B ≤ w1.heap.size) := Nat.le_trans HBW.out hK1.size
  clear hO1 hK1 hV1 x0 x1
  obtain ⟨W1, hW1⟩ : ∃ W1, W1 = w1.alloc (.cells #[.int .i64 ins, .slice a1 (List.length l1) c1] 29) := ⟨_, rfl⟩
  have HBa : Hid (Below w1.heap.size w1 W1) := by rw [hW1]; exact (Below.refl _ _).alloc (Nat.le_refl _) _
  have HLg : Hid (Lay W1 w1.heap.size (.int .i64 ins) (.slice a1 (List.length l1) c1)) := by rw [hW1]; exact Lay.made _ _ _ _
  have HE1 : Hid (w1.alloc (.cells #[.int .i64 ins, .slice a1 (List.length l1) c1] 29) = W1) := hW1.symm
  clear hW1
  go_upto_region 2 with fail
  simp only [HE1.out]
  have HR1' : Hid (Rel w (.slice av l.length cv) W1 (.slice a1 (List.length l1) c1)) := HR1.out.trans (Rel.below HBa.out)
  have HLR : Hid (Lay W1 (q + 1) (.int .i64 0) (.slice none 0 0)) := HLR1.out.below HBa.out
  have HOo : Hid (OwAn W1 B (.slice a1 (List.length l1) c1) l1) := HO1.out.kept (S := fun _ => False) (Kept.ofBelow HBa.out) (fun _ _ e => e)
  have HBo : Hid (B ≤ W1.heap.size) := Nat.le_trans HBW1.out HBa.out.size
  have HVL : Hid (∀ k, (Value.slice a1 (List.length l1) c1).ownBlock = some k → k < W1.heap.size) := fun k e => (HOo.out.lt k e).2
  have HNg : Hid ((Value.slice a1 (List.length l1) c1).ownBlock ≠ some w1.heap.size) := fun e => by have := (HO1.out.lt _ e).2; omega
  generalize hqg : w1.heap.size = qg at *
  clear hqg HE1 HO1 HR1 HLR1 HBW1 HBa
  have HQW : Hid (w.heap.size ≤ q + 1) := by have := HQ.out; show _ ≤ _; omega
  have t0 := HLg.out.c0
  have t1 := HLg.out.c1
  have y0 := HLR.out.c0
  have y1' := HLR.out.c1
  have z0 := HLR.out.z0
  have z1 := HLR.out.z1
  by_cases hy1 : y1 = -1
  · subst hy1
    have HMf : Hid (ifM ins l x a b = (l1, -1)) := by show _ = _; rw [HM.out, if_pos rfl]
    clear HM HN1
    go_wp2
    refine bodyPost_ret (v := .tuple #[.agg #[.int .i64 ins, .slice a1 (List.length l1) c1], .int .i64 (-1)]) (by simp [results, Try.results81, go_sem, y0, y1']) rfl ?_
    rw [HMf.out]
    exact Rel.post (r := (l1, -1)) (HR1'.out.set (set2 _ _ _ _) HQW.out) (HOo.out.kept (set2 _ _ _ _) (fun k e h => HNV1.out (by rw [e, h])))
  have hy10 : 0 ≤ y1 := by rcases HN1.out with e | e; exact absurd e hy1; exact e
  have HM2 : Hid (ifM ins l x a b = if y2 = -1 then (l2, -1) else (l3, y3)) := by show _ = _; rw [HM.out, if_neg hy1]
  have HY1 : Hid (y1 ≠ -1) := hy1
  clear hy1 HM
  go_upto_region 4 with fail
  clear t0 t1 y0 y1' z0 z1
  have HOd : Hid (OwAn W1.drew B (.slice a1 (List.length l1) c1) l1) := HOo.out.kept (S := fun _ => False) (Kept.refl _ _).drew (fun _ _ e => e)
  have HOa : Hid (OwAn (W1.alloc (.cells #[.int .i64 0, .slice none 0 0] 29)).drew B (.slice a1 (List.length l1) c1) l1) := HOo.out.kept (S := fun _ => False) ((Kept.refl _ _).alloc _).drew (fun _ _ e => e)
  have hBd : B ≤ W1.drew.heap.size := HBo.out
  have HBA : Hid (Below W1.heap.size W1 (W1.alloc (.cells #[.int .i64 0, .slice none 0 0] 29)).drew) := ((Below.refl _ _).alloc (Nat.le_refl _) _).drew
  have hBa : B ≤ (W1.alloc (.cells #[.int .i64 0, .slice none 0 0] 29)).drew.heap.size := Nat.le_trans HBo.out HBA.out.size
  have L0 : Lay W1.drew qg (.int .i64 ins) (.slice a1 (List.length l1) c1) := HLg.out.drew
  have L1 : Lay (W1.alloc (.cells #[.int .i64 0, .slice none 0 0] 29)).drew qg (.int .i64 ins) (.slice a1 (List.length l1) c1) := (HLg.out.alloc _).drew
  have LM : Hid (Lay (W1.alloc (.cells #[.int .i64 0, .slice none 0 0] 29)).drew W1.heap.size (.int .i64 0) (.slice none 0 0)) := (Lay.made _ _ _ _).drew
  have HNM : Hid (¬ (Value.slice a1 (List.length l1) c1).ownBlock = some W1.heap.size) := fun e => by have := HVL.out _ e; omega
  have hqgW : qg < W1.heap.size := HLg.out.lt
  have HBD : Hid (Below W1.heap.size W1 W1.drew) := (Below.refl _ _).drew
  go_cut [12, 13] from 24 to 32 (fun s8 s9 wc => IMid W1 B (q + 1) (.slice a1 (List.length l1) c1) ins (l2, y2) s8 s9 wc)
  case first =>
    go_region_held3 (fun w' => w'.cell? ⟨qg, 0, none⟩ = some (.int .i64 ins) ∧ w'.cell? ⟨qg, 1, none⟩ = some (.slice a1 (List.length l1) c1)) ((first | exact ⟨L0.c0, L0.c1⟩ | exact ⟨L1.c0, L1.c1⟩ | exact ⟨L5.out.c0, L5.out.c1⟩ | exact ⟨(L5.out.alloc _).c0, (L5.out.alloc _).c1⟩ | exact ⟨(L5.out.alloc _).drew.c0, (L5.out.alloc _).drew.c1⟩ | exact ⟨L6.out.c0, L6.out.c1⟩)) ((first | (go_at_call 99; refine (HTX.out _).mono ?_; rintro e x1 ⟨rfl, hx1⟩; have hx2 := hx1.symm; clear hx1; subst hx2) | (go_at_call 72; refine (HS2.out _ _ _ (by first | exact hBd | exact hBa) (by first | exact HOd.out | exact HOa.out)).mono ?_; rintro e w5 ⟨v5, rfl, hO5, hK5, hV5⟩; have L5 : Hid (Lay w5 qg (.int .i64 ins) (.slice a1 (List.length l1) c1)) := (by first | exact L0.kept hK5 HNg.out | exact L1.kept hK5 HNg.out); obtain ⟨a5, c5, rfl, -, -⟩ := hO5.form; (first | (have L8 := LM.out.kept hK5 HNM.out; have m0 := L8.c0; have m1 := L8.c1; have mz0 := L8.z0; have mz1 := L8.z1; have L6 : Hid (Lay ((w5.setCell ⟨W1.heap.size, 0, none⟩ (.int .i64 ins)).setCell ⟨W1.heap.size, 1, none⟩ (.slice a5 (List.length l2) c5)) qg (.int .i64 ins) (.slice a1 (List.length l1) c1)) := L5.out.kept (set2 _ _ _ _) (by omega); clear L8) | skip); have HO5 : Hid (OwAn w5 B (.slice a5 (List.length l2) c5) l2) := hO5; clear hO5)))
    all_goals
      go_wp2_with fail
      go_meet
      case rel => first | exact IMid.late HO5.out ((Rel.below HBD.out).trans ⟨hK5, hV5⟩) HNV1.out HLR.out | exact IMid.soon HBA.out LM.out HO5.out ⟨hK5, hV5⟩ HNV1.out HVL.out HLR.out
  case rest =>
    obtain ⟨qo, v', rfl, rfl, hLo, hLr, hOo, hno, hR⟩ := hcut
    obtain ⟨a5, c5, rfl, -, -⟩ := hOo.form
    have HOc : Hid (OwAn wc B (.slice a5 (List.length l2) c5) l2) := hOo
    have HNo : Hid ((Value.slice a5 (List.length l2) c5).ownBlock ≠ some (q + 1)) := hno
    have HRc : Hid (Rel w (.slice av l.length cv) wc (.slice a5 (List.length l2) c5)) := HR1'.out.trans hR
    have HBc : Hid (B ≤ wc.heap.size) := Nat.le_trans HBo.out hR.1.size
    have HLr : Hid (Lay wc (q + 1) (.int .i64 0) (.slice none 0 0)) := hLr
    have t0 := hLo.c0
    have t1 := hLo.c1
    clear hLo hOo hno hR L0 L1
    by_cases hx : y2 = -1
    · subst hx
      have HMf : Hid (ifM ins l x a b = (l2, -1)) := by show _ = _; rw [HM2.out, if_pos rfl]
      clear HM2 HN2
      have y0 := hLr.c0
      have y1' := hLr.c1
      have z0 := hLr.z0
      have z1 := hLr.z1
      clear hLr
      go_wp2
      refine bodyPost_ret (v := .tuple #[.agg #[.int .i64 ins, .slice a5 (List.length l2) c5], .int .i64 (-1)]) (by simp [results, Try.results81, go_sem, y0, y1']) rfl ?_
      rw [HMf.out]
      exact Rel.post (r := (l2, -1)) (HRc.out.set (set2 _ _ _ _) HQW.out) (HOc.out.kept (set2 _ _ _ _) (fun k e h => HNo.out (by rw [e, h])))
    · have hx0 : 0 ≤ y2 := by rcases HN2.out with e | e; exact absurd e hx; exact e
      have HS3' : Hid (Calls Try.prog 78 #[.agg #[.int .i64 ins, .slice a5 l2.length c5], .int .i64 y1, .int .i64 y2] wc (SAPost wc B (.slice a5 l2.length c5) ins (l3, y3))) := HS3.out HY1.out hx wc a5 c5 HBc.out HOc.out
      have HM3 : Hid (ifM ins l x a b = (l3, y3)) := by show _ = _; rw [HM2.out, if_neg hx]
      clear hLr hx HM2
      go_wp2_with fail
      refine HS3'.out.mono ?_
      rintro e w9 ⟨v9, rfl, hO9, hK9, hV9⟩
      have HR9 : Hid (Rel w (.slice av l.length cv) w9 v9) := HRc.out.trans ⟨hK9, hV9⟩
      have HN9 : Hid (v9.ownBlock ≠ some (q + 1)) := Rel.off (w := wc) ⟨hK9, hV9⟩ HLr.out.lt HNo.out
      have hLr := HLr.out.kept hK9 HNo.out
      obtain ⟨a9, c9, rfl, -, -⟩ := hO9.form
      have HO9 : Hid (OwAn w9 B (.slice a9 (List.length l3) c9) l3) := hO9
      have y0 := hLr.c0
      have y1' := hLr.c1
      have z0 := hLr.z0
      have z1 := hLr.z1
      clear hO9 hK9 hV9 hLr t0 t1
      go_wp2
      refine bodyPost_ret (v := .tuple #[.agg #[.int .i64 ins, .slice a9 (List.length l3) c9], .int .i64 y3]) (by simp [results, Try.results81, go_sem, y0, y1']) rfl ?_
      rw [HM3.out]
      exact Rel.post (r := (l3, y3)) (HR9.out.set (set2 _ _ _ _) HQW.out) (HO9.out.kept (set2 _ _ _ _) (fun k e h => HN9.out (by rw [e, h])))

end Go.Proofs.Ytnpfegfjejfaaaa.Gs9

/- The model's l07Table. -/
namespace Go.Proofs.Ytnpfegfjejfaaaa.Gs10
open Go.RowKit
open Qb0 Qb2 Gr0 Gr1 Gr3 Gx0 Ap10 Gs1 Gs2 Gs3 Gs4 Gs5 Gs9 Ta1 Ta3 Tc2 Td1 Td4
open Nd0 (Kept set_other set_same lt_of_cell)
open Gp5 (GrPost own_w and_range)
open Ss0 (bs bs_size bs_inj)
set_option linter.unusedVariables false

/-- Three boxes, one behind the other. -/
theorem three {w : World} (x0 x1 y0 y1 z0 z1 : Value) (T U V : Nat) {W : World} (hW : W = ((w.alloc (.cells #[x0, x1] T)).alloc (.cells #[y0, y1] U)).alloc (.cells #[z0, z1] V)) :
    Below w.heap.size w W ∧ Lay W w.heap.size x0 x1 ∧ Lay W (w.heap.size + 1) y0 y1 ∧ Lay W (w.heap.size + 1 + 1) z0 z1 := by
  subst hW
  have e1 : (w.alloc (.cells #[x0, x1] T)).heap.size = w.heap.size + 1 := by simp
  have e2 : ((w.alloc (.cells #[x0, x1] T)).alloc (.cells #[y0, y1] U)).heap.size = w.heap.size + 1 + 1 := by simp
  refine ⟨(((Below.refl _ _).alloc (Nat.le_refl _) _).alloc (by simp) _).alloc (by simp; omega) _, ((Lay.made _ _ _ _).alloc _).alloc _, ?_, ?_⟩
  · have h := (Lay.made (w.alloc (.cells #[x0, x1] T)) y0 y1 U).alloc (.cells #[z0, z1] V)
    rw [e1] at h
    exact h
  · have h := Lay.made ((w.alloc (.cells #[x0, x1] T)).alloc (.cells #[y0, y1] U)) z0 z1 V
    rw [e2] at h
    exact h

set_option maxRecDepth 100000 in
set_option maxHeartbeats 4000000 in
theorem tab_known (w : World) (B : Nat) (ins K : Int) (av : Option Addr) (cv : Nat) (l : List An) (hO : OwAn w B (.slice av l.length cv) l) (n : Nat) (G : Nat → Bool) (hn : n ≤ 12) (hk : 0 ≤ knw n G) :
    Calls Try.prog 85 #[.agg #[.int .i64 ins, .slice av l.length cv], tv (n : Int) (bs (tab n G)), .int .i64 K] w (SAPost w B (.slice av l.length cv) ins (l, knw n G)) := by
  have HO : Hid (OwAn w B (.slice av l.length cv) l) := hO
  have HKN : Hid (∀ W, Calls Try.prog 102 #[tv (n : Int) (bs (tab n G))] W fun e w' => e = .returned (.int .i64 (knw n G)) ∧ Below W.heap.size W w') := fun W => sKnown n G W hn
  generalize knw n G = R at *
  generalize bs (tab n G) = S at *
  clear hO
  obtain ⟨W, hW⟩ : ∃ W, W = ((w.alloc (.cells #[.int .i64 ins, .slice av l.length cv] 29)).alloc (.cells #[.int .i64 (n : Int), .string S] 25)).alloc (.cells #[.int .i64 0, .slice none 0 0] 29) := ⟨_, rfl⟩
  obtain ⟨hB, hG, hT, hA⟩ := three _ _ _ _ _ _ _ _ _ hW
  have HB : Hid (Below w.heap.size w W) := hB
  have HG : Hid (Lay W w.heap.size (.int .i64 ins) (.slice av l.length cv)) := hG
  have HA : Hid (Lay W (w.heap.size + 1 + 1) (.int .i64 0) (.slice none 0 0)) := hA
  have x0 := hT.c0
  have x1 := hT.c1
  clear hB hG hT hA
  go_enter Try.func85, Try.ntmps85
  go_upto_region 1 with fail
  rw [← hW]
  clear hW
  go_wp2_with fail
  refine (HKN.out _).mono ?_
  rintro e w1 ⟨rfl, hb⟩
  have HB1 : Hid (Below w.heap.size w w1) := HB.out.trans (hb.mono HB.out.size)
  obtain ⟨t0, t1, _, _⟩ := HG.out.below hb
  obtain ⟨y0, y1, z0, z1⟩ := HA.out.below hb
  clear hb x0 x1
  go_wp2
  refine bodyPost_ret (v := .tuple #[.agg #[.int .i64 ins, .slice av l.length cv], .int .i64 R]) (by simp [results, Try.results85, go_sem, y0, y1]) rfl ?_
  exact Rel.post (r := (l, R)) ((Rel.below HB1.out).set (set2 _ _ _ _) (by omega)) ((HO.out.kept (S := fun _ => False) (Kept.ofBelow HB1.out) (fun _ _ e => e)).kept (set2 _ _ _ _) (fun k e h => by have := (HO.out.lt k e).2; omega))

/-- The model's wire of every table of n bits. -/
def IM (ins : Int) (n : Nat) : Prop := ∀ (G : Nat → Bool) (w : World) (B : Nat) (av : Option Addr) (cv : Nat) (l : List An), OwAn w B (.slice av l.length cv) l → B ≤ w.heap.size → l.length ≤ 3000 → okL ins l = true →
  Calls Try.prog 85 #[.agg #[.int .i64 ins, .slice av l.length cv], tv (n : Int) (bs (tab n G)), .int .i64 (ins - n)] w (SAPost w B (.slice av l.length cv) ins (tM ins n G l))

set_option maxRecDepth 100000 in
set_option maxHeartbeats 4000000 in
theorem tab_step {ins : Int} {n : Nat} (h0 : 0 ≤ ins) (h1 : ins ≤ 12) (hn : ((n + 1 : Nat) : Int) ≤ ins) (ih : IM ins n) {w : World} {B : Nat} {av : Option Addr} {cv : Nat} {l : List An} (hO : OwAn w B (.slice av l.length cv) l) (hBw : B ≤ w.heap.size) (hl : l.length ≤ 3000) (hok : okL ins l = true) (G : Nat → Bool) (hk : ¬ 0 ≤ knw (n + 1) G) :
    Calls Try.prog 85 #[.agg #[.int .i64 ins, .slice av l.length cv], tv ((n + 1 : Nat) : Int) (bs (tab (n + 1) G)), .int .i64 (ins - ((n + 1 : Nat) : Int))] w (SAPost w B (.slice av l.length cv) ins (tM ins (n + 1) G l)) := by
  have HO : Hid (OwAn w B (.slice av l.length cv) l) := hO
  have hK1 : knw (n + 1) G = -1 := by have := knw_range (n + 1) G; omega
  have HKN : Hid (∀ W, Calls Try.prog 102 #[tv ((n + 1 : Nat) : Int) (bs (tab (n + 1) G))] W fun e w' => e = .returned (.int .i64 (-1)) ∧ Below W.heap.size W w') := fun W => by
    have := sKnown (n + 1) G W (by omega)
    rwa [hK1] at this
  have HH0 : Hid (∀ W, Calls Try.prog 103 #[tv ((n + 1 : Nat) : Int) (bs (tab (n + 1) G)), .int .i64 0] W fun e w' => e = .returned (.tuple #[tv (n : Int) (bs (tab n (hb n 0 G))), .bool true]) ∧ Below W.heap.size W w') := fun W => sHalf n 0 G W (by omega) (by omega)
  have HH1 : Hid (∀ W, Calls Try.prog 103 #[tv ((n + 1 : Nat) : Int) (bs (tab (n + 1) G)), .int .i64 1] W fun e w' => e = .returned (.tuple #[tv (n : Int) (bs (tab n (hb n 1 G))), .bool true]) ∧ Below W.heap.size W w') := fun W => sHalf n 1 G W (by omega) (by omega)
  obtain ⟨K, hK⟩ : ∃ K : Int, K = ins - ((n + 1 : Nat) : Int) := ⟨_, rfl⟩
  have hKn : K + 1 = ins - n := by omega
  have hK0 : 0 ≤ K := by omega
  have hK9 : K + 1 ≤ ins := by omega
  have HT : Hid (tM ins (n + 1) G l = if tab n (hb n 0 G) = tab n (hb n 1 G) then tM ins n (hb n 0 G) l else if (tM ins n (hb n 0 G) l).2 = -1 then ((tM ins n (hb n 0 G) l).1, -1) else if (tM ins n (hb n 1 G) (tM ins n (hb n 0 G) l).1).2 = -1 then ((tM ins n (hb n 1 G) (tM ins n (hb n 0 G) l).1).1, -1) else ifM ins (tM ins n (hb n 1 G) (tM ins n (hb n 0 G) l).1).1 (2 * (K + 1)) (tM ins n (hb n 1 G) (tM ins n (hb n 0 G) l).1).2 (tM ins n (hb n 0 G) l).2) := by
    show _ = _
    rw [tM, if_neg hk, hK]
    rfl
  have HI0 : Hid (∀ (W : World) (av : Option Addr) (cv : Nat), OwAn W B (.slice av l.length cv) l → B ≤ W.heap.size → Calls Try.prog 85 #[.agg #[.int .i64 ins, .slice av l.length cv], tv (n : Int) (bs (tab n (hb n 0 G))), .int .i64 (K + 1)] W (SAPost W B (.slice av l.length cv) ins (tM ins n (hb n 0 G) l))) := fun W av cv h1 h2 => by
    have := ih (hb n 0 G) W B av cv l h1 h2 hl hok
    rwa [← hKn] at this
  have HI1 : Hid (∀ (l : List An), l.length ≤ 3000 → okL ins l = true → ∀ (W : World) (av : Option Addr) (cv : Nat), OwAn W B (.slice av l.length cv) l → B ≤ W.heap.size → Calls Try.prog 85 #[.agg #[.int .i64 ins, .slice av l.length cv], tv (n : Int) (bs (tab n (hb n 1 G))), .int .i64 (K + 1)] W (SAPost W B (.slice av l.length cv) ins (tM ins n (hb n 1 G) l))) := fun l hl hok W av cv h1 h2 => by
    have := ih (hb n 1 G) W B av cv l h1 h2 hl hok
    rwa [← hKn] at this
  have HEQ : Hid ((bs (tab n (hb n 0 G))).toList = (bs (tab n (hb n 1 G))).toList ↔ tab n (hb n 0 G) = tab n (hb n 1 G)) := by
    show _ ↔ _
    rw [ByteArray.toList_eq, ByteArray.toList_eq]
    exact ⟨fun e => by have := Ss1.tl_inj (S := bs (tab n (hb n 0 G))) (T := bs (tab n (hb n 1 G))) e; exact bs_inj this, fun e => by rw [e]⟩
  obtain ⟨GA, GB, GC, GD⟩ := tM_gd h0 n (hb n 0 G) l hok hl
  obtain ⟨GA1, GB1, GC1, GD1⟩ := tM_gd h0 n (hb n 1 G) _ GA GB
  rw [← hK]
  have hn2 : ((n + 1 : Nat) : Int) = (n : Int) + 1 := by omega
  rw [hn2] at *
  clear hO hok hk hK1 ih hn hK hKn hn2
  generalize tab n (hb n 0 G) = T0 at *
  generalize tab n (hb n 1 G) = T1 at *
  generalize hb n 0 G = G0 at *
  generalize hb n 1 G = G1 at *
  generalize bs (tab (n + 1) G) = S at *
  generalize bs T0 = S0 at *
  generalize bs T1 = S1 at *
  generalize tM ins n G0 l = r0 at *
  obtain ⟨l0, v0⟩ := r0
  simp only at GA GB GC GD GA1 GB1 GC1 GD1 HT
  have HI1' : Hid (∀ (W : World) (av : Option Addr) (cv : Nat), OwAn W B (.slice av l0.length cv) l0 → B ≤ W.heap.size → Calls Try.prog 85 #[.agg #[.int .i64 ins, .slice av l0.length cv], tv (n : Int) S1, .int .i64 (K + 1)] W (SAPost W B (.slice av l0.length cv) ins (tM ins n G1 l0))) := HI1.out l0 GB GA
  clear HI1
  generalize tM ins n G1 l0 = r1 at *
  obtain ⟨l1, v1⟩ := r1
  simp only at GA1 GB1 GC1 GD1 HT
  have HIF : Hid (v0 ≠ -1 → v1 ≠ -1 → ∀ (W : World) (av : Option Addr) (cv : Nat), OwAn W B (.slice av l1.length cv) l1 → B ≤ W.heap.size → Calls Try.prog 81 #[.agg #[.int .i64 ins, .slice av l1.length cv], .int .i64 (2 * (K + 1)), .int .i64 v1, .int .i64 v0] W (SAPost W B (.slice av l1.length cv) ins (ifM ins l1 (2 * (K + 1)) v1 v0))) := fun n0 n1 W av cv h2 h3 => sIf W B ins av cv l1 h2 h3 _ _ _ h0 h1 GB1 GA1 (decide_eq_true (by omega)) (GD1.resolve_left n1) (wire_le (GD.resolve_left n0) GC1)
  have HN0 : Hid (v0 = -1 ∨ 0 ≤ v0) := by rcases GD with e | e; exact .inl e; exact .inr (of_decide_eq_true e).1
  have HN1 : Hid (v1 = -1 ∨ 0 ≤ v1) := by rcases GD1 with e | e; exact .inl e; exact .inr (of_decide_eq_true e).1
  generalize ifM ins l1 (2 * (K + 1)) v1 v0 = r2 at *
  obtain ⟨l2, v2⟩ := r2
  generalize tM ins (n + 1) G l = R at *
  clear GA GB GC GD GA1 GB1 GC1 GD1
  obtain ⟨W, hW⟩ : ∃ W, W = ((w.alloc (.cells #[.int .i64 ins, .slice av l.length cv] 29)).alloc (.cells #[.int .i64 ((n : Int) + 1), .string S] 25)).alloc (.cells #[.int .i64 0, .slice none 0 0] 29) := ⟨_, rfl⟩
  obtain ⟨hB, hG, hT, hA⟩ := three _ _ _ _ _ _ _ _ _ hW
  have HW : Hid (W = ((w.alloc (.cells #[.int .i64 ins, .slice av l.length cv] 29)).alloc (.cells #[.int .i64 ((n : Int) + 1), .string S] 25)).alloc (.cells #[.int .i64 0, .slice none 0 0] 29)) := hW
  obtain ⟨q, hq⟩ : ∃ q, q = w.heap.size := ⟨_, rfl⟩
  have HQ : Hid (q = w.heap.size) := hq
  have HB : Hid (Below w.heap.size w W) := hB
  rw [← hq] at hG hT hA
  have HG : Hid (Lay W q (.int .i64 ins) (.slice av l.length cv)) := hG
  have HS : Hid (Lay W (q + 1) (.int .i64 ((n : Int) + 1)) (.string S)) := hT
  have HA : Hid (Lay W (q + 1 + 1) (.int .i64 0) (.slice none 0 0)) := hA
  have HVL : Hid (∀ k, (Value.slice av l.length cv).ownBlock = some k → k < w.heap.size) := fun k e => (HO.out.lt k e).2
  have HQW : Hid (w.heap.size ≤ q + 1 + 1) := by have := HQ.out; show _ ≤ _; omega
  clear hB hG hT hA hW hq
  go_enter Try.func85, Try.ntmps85
  go_upto_region 1 with fail
  rw [← HW.out, ← HQ.out]
  obtain ⟨x0, x1, _, _⟩ := HS.out
  go_wp2_with fail
  refine (HKN.out _).mono ?_
  rintro e w1 ⟨rfl, hb⟩
  have HB1 : Hid (Below W.heap.size W w1) := hb
  clear hb x0 x1
  obtain ⟨x0, x1, _, _⟩ := HS.out.below HB1.out
  go_wp2_with fail
  refine (HH0.out _).mono ?_
  rintro e w2 ⟨rfl, hb⟩
  have HB2 : Hid (Below W.heap.size W w2) := HB1.out.trans (hb.mono HB1.out.size)
  clear hb x0 x1 HB1
  obtain ⟨W2, hW2⟩ : ∃ W2, W2 = w2.alloc (.cells #[.int .i64 (n : Int), .string S0] 25) := ⟨_, rfl⟩
  have HW2 : Hid (Below W.heap.size W W2 ∧ Lay W2 w2.heap.size (.int .i64 (n : Int)) (.string S0)) := by
    rw [hW2]
    exact ⟨HB2.out.alloc HB2.out.size _, Lay.made _ _ _ _⟩
  have HE2 : Hid (w2.alloc (.cells #[.int .i64 (n : Int), .string S0] 25) = W2) := hW2.symm
  have HG2 : Hid (W.heap.size ≤ w2.heap.size) := HB2.out.size
  clear hW2
  go_upto_region 5 with fail
  rw [HE2.out]
  generalize hq2 : w2.heap.size = q2 at *
  clear hq2 HE2 HB2
  obtain ⟨x0, x1, _, _⟩ := HS.out.below HW2.out.1
  go_wp2_with fail
  refine (HH1.out _).mono ?_
  rintro e w3 ⟨rfl, hb⟩
  have HB3 : Hid (Below W.heap.size W w3) := HW2.out.1.trans (hb.mono HW2.out.1.size)
  have HM3 : Hid (Lay w3 q2 (.int .i64 (n : Int)) (.string S0)) := HW2.out.2.below hb
  clear hb x0 x1 HW2
  obtain ⟨W3, hW3⟩ : ∃ W3, W3 = w3.alloc (.cells #[.int .i64 (n : Int), .string S1] 25) := ⟨_, rfl⟩
  have HW3 : Hid (Below W.heap.size W W3 ∧ Lay W3 q2 (.int .i64 (n : Int)) (.string S0) ∧ Lay W3 w3.heap.size (.int .i64 (n : Int)) (.string S1)) := by
    rw [hW3]
    exact ⟨HB3.out.alloc HB3.out.size _, HM3.out.alloc _, Lay.made _ _ _ _⟩
  have HE3 : Hid (w3.alloc (.cells #[.int .i64 (n : Int), .string S1] 25) = W3) := hW3.symm
  have HG3 : Hid (W.heap.size ≤ w3.heap.size) := HB3.out.size
  clear hW3
  go_upto_region 6 with fail
  rw [HE3.out]
  generalize hq3 : w3.heap.size = q3 at *
  clear hq3 HE3 HB3 HM3
  have HBw : Hid (Below w.heap.size w W3) := HB.out.trans (HW3.out.1.mono HB.out.size)
  have HR3 : Hid (Rel w (.slice av l.length cv) W3 (.slice av l.length cv)) := Rel.below HBw.out
  have HO3 : Hid (OwAn W3 B (.slice av l.length cv) l) := HO.out.kept (S := fun _ => False) (Kept.ofBelow HBw.out) (fun _ _ e => e)
  have HB3 : Hid (B ≤ W3.heap.size) := Nat.le_trans hBw HBw.out.size
  have HA3 : Hid (Lay W3 (q + 1 + 1) (.int .i64 0) (.slice none 0 0)) := HA.out.below HW3.out.1
  have HNV : Hid ((Value.slice av l.length cv).ownBlock ≠ some (q + 1 + 1) ∧ (Value.slice av l.length cv).ownBlock ≠ some q3) := ⟨fun e => by have := HVL.out _ e; have := HQ.out; omega, fun e => by have := HVL.out _ e; have := HG3.out; have := HB.out.size; omega⟩
  obtain ⟨x0, x1, _, _⟩ := HG.out.below HW3.out.1
  obtain ⟨y0, y1, _, _⟩ := HW3.out.2.1
  obtain ⟨z0, z1, _, _⟩ := HW3.out.2.2
  by_cases hT : T0 = T1
  · have hq : S0.toList = S1.toList := HEQ.out.2 hT
    have HR : Hid (R = (l0, v0)) := by show _ = _; rw [HT.out, if_pos hT]
    clear hT HT
    go_wp2_with fail
    refine (HI0.out _ _ _ HO3.out HB3.out).mono ?_
    rintro e w9 ⟨v9, rfl, hO9, hK9, hV9⟩
    have HR9 : Hid (Rel w (.slice av l.length cv) w9 v9) := HR3.out.trans ⟨hK9, hV9⟩
    have HN9 : Hid (v9.ownBlock ≠ some (q + 1 + 1)) := Rel.off (w := W3) ⟨hK9, hV9⟩ HA3.out.lt HNV.out.1
    have hLr := HA3.out.kept hK9 HNV.out.1
    obtain ⟨a9, c9, rfl, -, -⟩ := hO9.form
    have HO9 : Hid (OwAn w9 B (.slice a9 (List.length l0) c9) l0) := hO9
    clear x0 x1 y0 y1 z0 z1
    obtain ⟨y0, y1, z0, z1⟩ := hLr
    clear hO9 hK9 hV9
    go_wp2
    refine bodyPost_ret (v := .tuple #[.agg #[.int .i64 ins, .slice a9 (List.length l0) c9], .int .i64 v0]) (by simp [results, Try.results85, go_sem, y0, y1]) rfl ?_
    rw [HR.out]
    exact Rel.post (r := (l0, v0)) (HR9.out.set (set2 _ _ _ _) HQW.out) (HO9.out.kept (set2 _ _ _ _) (fun k e h => HN9.out (by rw [e, h])))
  have hq : ¬ S0.toList = S1.toList := fun e => hT (HEQ.out.1 e)
  have HT1 : Hid (R = if v0 = -1 then (l0, -1) else if v1 = -1 then (l1, -1) else (l2, v2)) := by show _ = _; rw [HT.out, if_neg hT]
  clear hT HT HEQ
  go_wp2_with fail
  refine (HI0.out _ _ _ HO3.out HB3.out).mono ?_
  rintro e w4 ⟨v4v, rfl, hO4, hK4, hV4⟩
  have HNA3 : Hid ((Value.slice av l.length cv).ownBlock ≠ some (q + 1 + 1)) := HNV.out.1
  have HR4 : Hid (Rel w (.slice av l.length cv) w4 v4v) := HR3.out.trans ⟨hK4, hV4⟩
  have HNA4 : Hid (v4v.ownBlock ≠ some (q + 1 + 1)) := Rel.off (w := W3) ⟨hK4, hV4⟩ HA3.out.lt HNA3.out
  have HAw4 : Hid (Lay w4 (q + 1 + 1) (.int .i64 0) (.slice none 0 0)) := HA3.out.kept hK4 HNA3.out
  have HSw4 : Hid (Lay w4 q3 (.int .i64 (n : Int)) (.string S1)) := HW3.out.2.2.kept hK4 HNV.out.2
  obtain ⟨a4, c4, rfl, -, -⟩ := hO4.form
  have HO4w : Hid (OwAn w4 B (.slice a4 (List.length l0) c4) l0) := hO4
  have HBk4 : Hid (B ≤ w4.heap.size) := Nat.le_trans HB3.out hK4.size
  clear hO4 hK4 hV4
  obtain ⟨W4, hW4⟩ : ∃ W4, W4 = w4.alloc (.cells #[.int .i64 ins, .slice a4 (List.length l0) c4] 29) := ⟨_, rfl⟩
  have HBa4 : Hid (Below w4.heap.size w4 W4) := by rw [hW4]; exact (Below.refl _ _).alloc (Nat.le_refl _) _
  have HLg4 : Hid (Lay W4 w4.heap.size (.int .i64 ins) (.slice a4 (List.length l0) c4)) := by rw [hW4]; exact Lay.made _ _ _ _
  have HE4 : Hid (w4.alloc (.cells #[.int .i64 ins, .slice a4 (List.length l0) c4] 29) = W4) := hW4.symm
  clear hW4
  clear x0 x1 y0 y1 z0 z1
  go_upto_region 9 with fail
  simp only [HE4.out]
  have HRW4 : Hid (Rel w (.slice av l.length cv) W4 (.slice a4 (List.length l0) c4)) := HR4.out.trans (Rel.below HBa4.out)
  have HO4 : Hid (OwAn W4 B (.slice a4 (List.length l0) c4) l0) := HO4w.out.kept (S := fun _ => False) (Kept.ofBelow HBa4.out) (fun _ _ e => e)
  have HB4 : Hid (B ≤ W4.heap.size) := Nat.le_trans HBk4.out HBa4.out.size
  have HA4 : Hid (Lay W4 (q + 1 + 1) (.int .i64 0) (.slice none 0 0)) := HAw4.out.below HBa4.out
  have HS4 : Hid (Lay W4 q3 (.int .i64 (n : Int)) (.string S1)) := HSw4.out.below HBa4.out
  generalize hq4 : w4.heap.size = q4 at *
  clear hq4 HE4 HO4w HR4 HAw4 HBk4 HBa4 HSw4
  obtain ⟨t0, t1, _, _⟩ := HLg4.out
  by_cases hv : v0 = -1
  · subst hv
    have HMf : Hid (R = (l0, -1)) := by show _ = _; rw [HT1.out, if_pos rfl]
    clear HT1 HN0 HIF
    obtain ⟨y0, y1, z0, z1⟩ := HA4.out
    go_wp2
    refine bodyPost_ret (v := .tuple #[.agg #[.int .i64 ins, .slice a4 (List.length l0) c4], .int .i64 (-1)]) (by simp [results, Try.results85, go_sem, y0, y1]) rfl ?_
    rw [HMf.out]
    exact Rel.post (r := (l0, -1)) (HRW4.out.set (set2 _ _ _ _) HQW.out) (HO4.out.kept (set2 _ _ _ _) (fun k e h => HNA4.out (by rw [e, h])))
  have hv04 : 0 ≤ v0 := by rcases HN0.out with e | e; exact absurd e hv; exact e
  have HY0 : Hid (v0 ≠ -1) := hv
  have HT2 : Hid (R = if v1 = -1 then (l1, -1) else (l2, v2)) := by show _ = _; rw [HT1.out, if_neg hv]
  clear hv HT1
  obtain ⟨x0, x1, _, _⟩ := HS4.out
  go_wp2_with fail
  refine (HI1'.out _ _ _ HO4.out HB4.out).mono ?_
  rintro e w5 ⟨v5v, rfl, hO5, hK5, hV5⟩
  have HR5 : Hid (Rel w (.slice av l.length cv) w5 v5v) := HRW4.out.trans ⟨hK5, hV5⟩
  have HNA5 : Hid (v5v.ownBlock ≠ some (q + 1 + 1)) := Rel.off (w := W4) ⟨hK5, hV5⟩ HA4.out.lt HNA4.out
  have HAw5 : Hid (Lay w5 (q + 1 + 1) (.int .i64 0) (.slice none 0 0)) := HA4.out.kept hK5 HNA4.out
  obtain ⟨a5, c5, rfl, -, -⟩ := hO5.form
  have HO5w : Hid (OwAn w5 B (.slice a5 (List.length l1) c5) l1) := hO5
  have HBk5 : Hid (B ≤ w5.heap.size) := Nat.le_trans HB4.out hK5.size
  clear hO5 hK5 hV5
  obtain ⟨W5, hW5⟩ : ∃ W5, W5 = w5.alloc (.cells #[.int .i64 ins, .slice a5 (List.length l1) c5] 29) := ⟨_, rfl⟩
  have HBa5 : Hid (Below w5.heap.size w5 W5) := by rw [hW5]; exact (Below.refl _ _).alloc (Nat.le_refl _) _
  have HLg5 : Hid (Lay W5 w5.heap.size (.int .i64 ins) (.slice a5 (List.length l1) c5)) := by rw [hW5]; exact Lay.made _ _ _ _
  have HE5 : Hid (w5.alloc (.cells #[.int .i64 ins, .slice a5 (List.length l1) c5] 29) = W5) := hW5.symm
  clear hW5
  clear x0 x1 t0 t1
  go_upto_region 12 with fail
  simp only [HE5.out]
  have HRW5 : Hid (Rel w (.slice av l.length cv) W5 (.slice a5 (List.length l1) c5)) := HR5.out.trans (Rel.below HBa5.out)
  have HO5 : Hid (OwAn W5 B (.slice a5 (List.length l1) c5) l1) := HO5w.out.kept (S := fun _ => False) (Kept.ofBelow HBa5.out) (fun _ _ e => e)
  have HB5 : Hid (B ≤ W5.heap.size) := Nat.le_trans HBk5.out HBa5.out.size
  have HA5 : Hid (Lay W5 (q + 1 + 1) (.int .i64 0) (.slice none 0 0)) := HAw5.out.below HBa5.out
  generalize hq5 : w5.heap.size = q5 at *
  clear hq5 HE5 HO5w HR5 HAw5 HBk5 HBa5
  obtain ⟨t0, t1, _, _⟩ := HLg5.out
  by_cases hv : v1 = -1
  · subst hv
    have HMf : Hid (R = (l1, -1)) := by show _ = _; rw [HT2.out, if_pos rfl]
    clear HT2 HN1 HIF
    obtain ⟨y0, y1, z0, z1⟩ := HA5.out
    go_wp2
    refine bodyPost_ret (v := .tuple #[.agg #[.int .i64 ins, .slice a5 (List.length l1) c5], .int .i64 (-1)]) (by simp [results, Try.results85, go_sem, y0, y1]) rfl ?_
    rw [HMf.out]
    exact Rel.post (r := (l1, -1)) (HRW5.out.set (set2 _ _ _ _) HQW.out) (HO5.out.kept (set2 _ _ _ _) (fun k e h => HNA5.out (by rw [e, h])))
  have hv05 : 0 ≤ v1 := by rcases HN1.out with e | e; exact absurd e hv; exact e
  have HY1 : Hid (v1 ≠ -1) := hv
  have HT3 : Hid (R = (l2, v2)) := by show _ = _; rw [HT2.out, if_neg hv]
  clear hv HT2
  have HIF' : Hid (Calls Try.prog 81 #[.agg #[.int .i64 ins, .slice a5 (List.length l1) c5], .int .i64 (2 * (K + 1)), .int .i64 v1, .int .i64 v0] W5 (SAPost W5 B (.slice a5 (List.length l1) c5) ins (l2, v2))) := HIF.out HY0.out HY1.out W5 a5 c5 HO5.out HB5.out
  go_wp2_with fail
  refine HIF'.out.mono ?_
  rintro e w9 ⟨v9, rfl, hO9, hK9, hV9⟩
  have HR9 : Hid (Rel w (.slice av l.length cv) w9 v9) := HRW5.out.trans ⟨hK9, hV9⟩
  have HN9 : Hid (v9.ownBlock ≠ some (q + 1 + 1)) := Rel.off (w := W5) ⟨hK9, hV9⟩ HA5.out.lt HNA5.out
  have hLr := HA5.out.kept hK9 HNA5.out
  obtain ⟨a9, c9, rfl, -, -⟩ := hO9.form
  have HO9 : Hid (OwAn w9 B (.slice a9 (List.length l2) c9) l2) := hO9
  clear t0 t1
  obtain ⟨y0, y1, z0, z1⟩ := hLr
  clear hO9 hK9 hV9
  go_wp2
  refine bodyPost_ret (v := .tuple #[.agg #[.int .i64 ins, .slice a9 (List.length l2) c9], .int .i64 v2]) (by simp [results, Try.results85, go_sem, y0, y1]) rfl ?_
  rw [HT3.out]
  exact Rel.post (r := (l2, v2)) (HR9.out.set (set2 _ _ _ _) HQW.out) (HO9.out.kept (set2 _ _ _ _) (fun k e h => HN9.out (by rw [e, h])))

theorem sTables {ins : Int} (h0 : 0 ≤ ins) (h1 : ins ≤ 12) (n : Nat) (hn : (n : Int) ≤ ins) : IM ins n := by
  induction n with
  | zero =>
    intro G w B av cv l h hB hl hok
    exact tab_known w B ins _ av cv l h 0 G (by omega) (knw_zero G)
  | succ n ih =>
    intro G w B av cv l h hB hl hok
    by_cases hk : 0 ≤ knw (n + 1) G
    · have := tab_known w B ins (ins - ((n + 1 : Nat) : Int)) av cv l h (n + 1) G (by omega) hk
      rw [tM, if_pos hk]
      exact this
    · exact tab_step h0 h1 hn (ih (by omega)) h hB hl hok G hk

end Go.Proofs.Ytnpfegfjejfaaaa.Gs10
