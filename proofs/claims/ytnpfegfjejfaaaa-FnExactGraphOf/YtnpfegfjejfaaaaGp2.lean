/- The program's net: an and more. -/
import Derived.Deep.RegionHeld3
import Derived.Deep.RegionLaw
import Derived.Test.YtnpfegfjejfaaaaGp1
import Derived.Test.YtnpfegfjejfaaaaAp10
namespace Go.Proofs.Ytnpfegfjejfaaaa.Gp2
open Go.RowKit
open Nd0 Qb0 Qb2 Gr0 Mq0 Nt0 Gp1 Ap10
set_option linter.unusedVariables false

theorem fin {w w1 Z w9 wu : World} {F : Nat → Prop} {p : Nat} {ins : Int} {l : List An} {x : An} {v : Value} {bm g cap : Nat} (hB : Below w.heap.size w w1) (hZ : Kept (fun _ => False) w1 Z) (hN : Nt Z.drew F p ins l v bm) (hO : OwAn w9 0 (Value.slice (some ⟨g, 0, none⟩) (l.length + 1) cap) (l ++ [x])) (hK : Kept (fun k => k = bm ∨ v.ownBlock = some k) Z.drew w9) (hG : v.ownBlock = some g ∨ wu.heap.size ≤ g) (hM : Mq w9 bm ins (l ++ [x])) (hs : Z.drew.heap.size ≤ wu.heap.size) :
    Ne (w9.setCell ⟨p, 1, none⟩ (.slice (some ⟨g, 0, none⟩) (l.length + 1) cap)) F p ins (l ++ [x]) ∧ Kept (fun k => ¬ F k) w (w9.setCell ⟨p, 1, none⟩ (.slice (some ⟨g, 0, none⟩) (l.length + 1) cap)) := by
  have hp := hN.lt
  have np : ¬ (p = bm ∨ v.ownBlock = some p) := fun e => by rcases e with e | e; exact hN.pm e; exact hN.vp e
  have hgp : g ≠ p := fun e => by rcases hG with h | h; exact hN.vp (by rw [h, e]); omega
  have hgm : g ≠ bm := fun e => by rcases hG with h | h; exact hN.vm (by rw [h, e]); have := hN.map.lt; omega
  have hgf : ¬ F g := fun e => by rcases hG with h | h; exact hN.fv g h e; have := hN.f g e; omega
  have K2 : Kept (fun k => k = p) w9 (w9.setCell ⟨p, 1, none⟩ (.slice (some ⟨g, 0, none⟩) (l.length + 1) cap)) := Kept.setCell (S := fun k => k = p) (Kept.refl _ _) (p := ⟨p, 1, none⟩) rfl _
  have KA : Kept (fun k => ¬ F k) w Z.drew := ⟨hZ.drew.os.trans hB.os, hZ.drew.tape.trans hB.tape, hZ.drew.output.trans hB.output, Nat.le_trans hB.size hZ.drew.size, fun i hi _ => (hZ.drew.block i (Nat.lt_of_lt_of_le hi hB.size) (fun e => e)).trans (hB.block i hi)⟩
  have KB : Kept (fun k => ¬ F k) Z.drew w9 := Nt.kf hK (fun k hk e => by rcases hk with h | h; exact hN.fm (h ▸ e); exact hN.fv k h e)
  have KC : Kept (fun k => ¬ F k) w9 (w9.setCell ⟨p, 1, none⟩ (.slice (some ⟨g, 0, none⟩) (l.length + 1) cap)) := Nt.kf K2 (fun k hk e => hN.fp (hk ▸ e))
  refine ⟨⟨.slice (some ⟨g, 0, none⟩) (l.length + 1) cap, bm, ?_⟩, KA.trans (KB.trans KC)⟩
  have x0 : w9.cell? ⟨p, 0, none⟩ = some (.int .i64 ins) := by rw [hK.cell (p := ⟨p, 0, none⟩) hp np]; exact hN.c0
  have x1 : w9.cell? ⟨p, 1, none⟩ = some v := by rw [hK.cell (p := ⟨p, 1, none⟩) hp np]; exact hN.c1
  have x2 : w9.cell? ⟨p, 2, none⟩ = some (.map (some bm)) := by rw [hK.cell (p := ⟨p, 2, none⟩) hp np]; exact hN.c2
  refine ⟨by rw [set_other (by simp)]; exact x0, set_same x1, by rw [set_other (by simp)]; exact x2, ?_, ?_, ?_, hO.kept K2 (fun i e h => ?_), hM.kept K2 (fun e => hN.pm e.symm), hN.pm, fun e => ?_, fun e => ?_, hN.fp, hN.fm, fun k e => ?_, fun k hk => ?_⟩
  · rw [World.frozen?_setCell, hK.frozen (p := ⟨p, 0, none⟩) hp np]; exact hN.z0
  · rw [World.frozen?_setCell, hK.frozen (p := ⟨p, 1, none⟩) hp np]; exact hN.z1
  · rw [World.frozen?_setCell, hK.frozen (p := ⟨p, 2, none⟩) hp np]; exact hN.z2
  · cases e; exact hgp h
  · cases e; exact hgp rfl
  · cases e; exact hgm rfl
  · cases e; exact hgf
  · have := hN.f k hk
    have h1 := hK.size
    have h2 := K2.size
    omega

set_option maxRecDepth 100000 in
set_option maxHeartbeats 4000000 in
theorem iPut {w : World} {F : Nat → Prop} {p : Nat} {ins : Int} {l : List An} (h : Ne w F p ins l) (h0 : 0 ≤ ins) (h1 : ins ≤ 12) (hl : l.length < 3000) (x : An) (hx : Sm x) (hp : posOf l x = none) :
    Calls Try.prog 93 #[.pointer (some ⟨p, 0, none⟩), .agg #[.int .i64 x.a, .int .i64 x.b]] w fun e w' => e = .returned (.int .i64 (2 * (ins + 1 + (l.length : Int)))) ∧ Ne w' F p ins (l ++ [x]) ∧ Kept (fun k => ¬ F k) w w' := by
  obtain ⟨v, bm, h⟩ := h
  obtain ⟨xa, xb⟩ := x
  obtain ⟨w1, hw1⟩ : ∃ w1 : World, w1 = w.alloc (.cells #[.int .i64 xa, .int .i64 xb] 112) := ⟨_, rfl⟩
  have hb1 : Below w.heap.size w w1 := by rw [hw1]; exact (Below.refl _ _).alloc (Nat.le_refl _) _
  have HB1 : Hid (Below w.heap.size w w1) := hb1
  obtain ⟨bn, hbn⟩ : ∃ bn : Nat, bn = w.heap.size := ⟨_, rfl⟩
  have Q0 : Hid (w1.cell? ⟨bn, 0, none⟩ = some (.int .i64 xa)) := by show _ = _; rw [hw1, hbn, World.cell?_alloc_new]; rfl
  have Q1 : Hid (w1.cell? ⟨bn, 1, none⟩ = some (.int .i64 xb)) := by show _ = _; rw [hw1, hbn, World.cell?_alloc_new]; rfl
  have H1 : Hid (Nt w1 F p ins l v bm) := h.below hb1
  have HW1 : Hid (w1 = w.alloc (.cells #[.int .i64 xa, .int .i64 xb] 112)) := hw1
  have HBN : Hid (bn = w.heap.size) := hbn
  have hbl : bn < w1.heap.size := by rw [hw1, hbn]; simp
  have HNE : Hid (bn ≠ p ∧ bn ≠ bm ∧ v.ownBlock ≠ some bn) := ⟨fun e => by have := h.lt; omega, fun e => by have := h.map.lt; omega, fun e => by have := (h.own.lt _ e).2; omega⟩
  have HPO : Hid (posOf l ⟨xa, xb⟩ = none) := hp
  clear hw1 hb1 h hp
  go_enter Try.func93, Try.ntmps93
  go_wp2_with fail
  rw [← HW1.out, ← hbn]
  clear hbn
  refine (iNodes H1.out h0 h1 (by omega)).mono ?_
  rintro e w2 ⟨rfl, m, rfl⟩
  go_wp2_with fail
  refine (iWireOf _ _ (by omega) (by omega)).mono ?_
  rintro e w2 ⟨rfl, hw2⟩
  have hw2' := hw2.symm
  clear hw2
  subst hw2'
  go_wp2
  generalize hZ : (w1.drewN m) = Z
  have HZ : Hid (Kept (fun _ => False) w1 Z) := by rw [← hZ]; exact (Kept.refl _ _).drewN _
  clear hZ
  have HND : Hid (Nt Z.drew F p ins l v bm) := H1.out.kept HZ.out.drew (fun _ e => e.elim)
  obtain ⟨wu, hrun, hmu, hku⟩ := HND.out.map.store hx HPO.out (by omega) h0 h1
  have HMU : Hid (Mq wu bm ins (l ++ [⟨xa, xb⟩])) := hmu
  have HKU : Hid (Kept (fun k => k = bm) Z.drew wu) := hku
  clear hmu hku
  have c2 := HND.out.c2
  have d0 : Z.drew.cell? ⟨bn, 0, none⟩ = some (.int .i64 xa) := by rw [HZ.out.drew.cell hbl (fun e => e)]; exact Q0.out
  have d1 : Z.drew.cell? ⟨bn, 1, none⟩ = some (.int .i64 xb) := by rw [HZ.out.drew.cell hbl (fun e => e)]; exact Q1.out
  have hblz : bn < Z.drew.heap.size := Nat.lt_of_lt_of_le hbl HZ.out.drew.size
  have hplz : p < Z.drew.heap.size := HND.out.lt
  have C0 : Hid (wu.cell? ⟨p, 0, none⟩ = some (.int .i64 ins)) := by show _ = _; rw [HKU.out.cell hplz HND.out.pm]; exact HND.out.c0
  have C1 : Hid (wu.cell? ⟨p, 1, none⟩ = some v) := by show _ = _; rw [HKU.out.cell hplz HND.out.pm]; exact HND.out.c1
  have C2 : Hid (wu.cell? ⟨p, 2, none⟩ = some (.map (some bm))) := by show _ = _; rw [HKU.out.cell hplz HND.out.pm]; exact HND.out.c2
  have E0 : Hid (wu.cell? ⟨bn, 0, none⟩ = some (.int .i64 xa)) := by show _ = _; rw [HKU.out.cell hblz HNE.out.2.1]; exact d0
  have E1 : Hid (wu.cell? ⟨bn, 1, none⟩ = some (.int .i64 xb)) := by show _ = _; rw [HKU.out.cell hblz HNE.out.2.1]; exact d1
  unfold agg at hrun
  go_region_held3 (fun w' => w'.cell? ⟨p, 2, none⟩ = some (.map (some bm)) ∧ w'.cell? ⟨bn, 0, none⟩ = some (.int .i64 xa) ∧ w'.cell? ⟨bn, 1, none⟩ = some (.int .i64 xb)) ((first | exact ⟨c2, d0, d1⟩ | exact ⟨C2.out, E0.out, E1.out⟩)) (fail)
  go_wp2
  clear hrun c2 d0 d1
  have c1 : wu.cell? ⟨p, 1, none⟩ = some v := C1.out
  have hplu : p < wu.heap.size := Nat.lt_of_lt_of_le hplz HKU.out.size
  have hblu : bn < wu.heap.size := Nat.lt_of_lt_of_le hblz HKU.out.size
  have z1 : wu.frozen? ⟨p, 1, none⟩ = false := by rw [HKU.out.frozen (p := ⟨p, 1, none⟩) hplz HND.out.pm]; exact HND.out.z1
  have HOU : Hid (OwAn wu 0 v l) := HND.out.own.kept HKU.out (fun k hk e => HND.out.vm (by rw [hk, e]))
  have HOD : Hid (OwAn (wu.alloc (.cells #[.int .i64 xa, .int .i64 xb] 89)).drew 0 v l) := HOU.out.kept (S := fun _ => False) (((Kept.refl _ _).alloc _).drew) (fun _ _ e => e)
  have CD : Hid ((wu.alloc (.cells #[.int .i64 xa, .int .i64 xb] 89)).drew.cell? ⟨p, 1, none⟩ = some v) := by show _ = _; rw [((Kept.refl (fun _ => False) wu).alloc _).drew.cell (p := ⟨p, 1, none⟩) hplu (fun e => e)]; exact c1
  have ZD : Hid ((wu.alloc (.cells #[.int .i64 xa, .int .i64 xb] 89)).drew.frozen? ⟨p, 1, none⟩ = false) := by show _ = _; rw [((Kept.refl (fun _ => False) wu).alloc _).drew.frozen (p := ⟨p, 1, none⟩) hplu (fun e => e)]; exact z1
  have KD : Hid (Kept (fun _ => False) wu (wu.alloc (.cells #[.int .i64 xa, .int .i64 xb] 89)).drew) := ((Kept.refl (fun _ => False) wu).alloc _).drew
  have e0 : wu.cell? ⟨bn, 0, none⟩ = some (.int .i64 xa) := E0.out
  have e1 : wu.cell? ⟨bn, 1, none⟩ = some (.int .i64 xb) := E1.out
  go_region_law ((refine step_an _ (by rfl) _ _ (by rfl) 0 v l ⟨xa, xb⟩ (by rfl) _ (by rfl) (by simp) (by simp) HOD.out (Nat.zero_le _) (by omega) ?_; intro g cap w9 hO9 hK9 hg9; have f1 : w9.frozen? ⟨p, 1, none⟩ = false := (by rw [hK9.frozen (p := ⟨p, 1, none⟩) (by simp; omega) (fun e => HND.out.vp e)]; exact ZD.out); have k1 : w9.cell? ⟨p, 1, none⟩ = some v := (by rw [hK9.cell (p := ⟨p, 1, none⟩) (by simp; omega) (fun e => HND.out.vp e)]; exact CD.out)))
  all_goals
    have HO9 : Hid (OwAn w9 0 (Value.slice (some ⟨g, 0, none⟩) (l.length + 1) cap) (l ++ [⟨xa, xb⟩])) := hO9
    have HK9 : Hid (Kept (fun k => k = bm ∨ v.ownBlock = some k) Z.drew w9) := (HKU.out.mono (fun _ e => .inl e)).trans ((KD.out.mono (fun _ e => e.elim)).trans (hK9.mono (fun _ e => .inr e)))
    have HG9 : Hid (v.ownBlock = some g ∨ wu.heap.size ≤ g) := by
      rcases hg9 with e | e
      · exact .inl e
      · exact .inr (by have := KD.out.size; omega)
    have HM9 : Hid (Mq w9 bm ins (l ++ [⟨xa, xb⟩])) := (HMU.out.kept KD.out (fun e => e)).kept hK9 (fun e => HND.out.vm e)
    clear hO9 hK9 hg9
    go_wp2
    go_ret
    refine ⟨rfl, ?_⟩
    exact fin HB1.out HZ.out HND.out HO9.out HK9.out HG9.out HM9.out HKU.out.size

end Go.Proofs.Ytnpfegfjejfaaaa.Gp2
