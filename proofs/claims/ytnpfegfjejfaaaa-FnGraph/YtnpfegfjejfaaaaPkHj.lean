/- Small texts of mine, one behind the other. -/
import Derived.Deep.RegionHeld3
import Derived.Deep.RegionLaw
import Derived.Test.YtnpfegfjejfaaaaNt0
import Derived.Test.YtnpfegfjejfaaaaAp10
/- The program's small functions over a net. -/
namespace Go.Proofs.Ytnpfegfjejfaaaa.Gp1
open Go.RowKit
open Nd0 Qb0 Qb2 Gr0 Mq0 Nt0
set_option linter.unusedVariables false

theorem nxor1 (n : Nat) : n ^^^ 1 = if n % 2 = 0 then n + 1 else n - 1 := by
  have h1 : (n ^^^ 1) / 2 = n / 2 := by rw [Nat.xor_div_two]; simp
  have h2 : decide ((n ^^^ 1) % 2 = 1) = !decide (n % 2 = 1) := by
    have h := Nat.testBit_xor n 1 0
    simp only [Nat.testBit_zero] at h
    rw [h]; simp
  split
  · rename_i h
    rw [show decide (n % 2 = 1) = false from decide_eq_false (by omega)] at h2
    have := of_decide_eq_true h2
    omega
  · rename_i h
    rw [show decide (n % 2 = 1) = true from decide_eq_true (by omega)] at h2
    have := of_decide_eq_false h2
    omega
theorem xor1 {x : Int} (h0 : -9223372036854775808 ≤ x) (h1 : x ≤ 9223372036854775807) : bits .xor .i64 x 1 = turnW x := by
  have e : bits .xor .i64 x 1 = IntKind.i64.wrap ((BitVec.ofInt 64 x ^^^ BitVec.ofInt 64 1).toNat : Int) := rfl
  rw [e, BitVec.toNat_xor, BitVec.toNat_ofInt, BitVec.toNat_ofInt]
  have e1 : ((1 : Int) % ((2 ^ 64 : Nat) : Int)).toNat = 1 := by decide
  rw [e1, nxor1, IntKind.wrap_i64]
  unfold turnW
  have e2 : ((2 ^ 64 : Nat) : Int) = 18446744073709551616 := by decide
  rw [e2]
  split <;> split <;> omega
theorem iNodeOf (x : Int) (w : World) : Calls Try.prog 60 #[.int .i64 x] w fun e w' => e = .returned (.int .i64 (x / 2)) ∧ w' = w := by
  go_enter Try.func60, Try.ntmps60
  go_wp2
  go_ret
  exact ⟨rfl, rfl⟩
theorem iTurned (x : Int) (w : World) (h0 : -9223372036854775808 ≤ x) (h1 : x ≤ 9223372036854775807) : Calls Try.prog 101 #[.int .i64 x] w fun e w' => e = .returned (.int .i64 (turnW x)) ∧ w' = w := by
  have e := xor1 h0 h1
  go_enter Try.func101, Try.ntmps101
  go_wp2
  go_ret
  exact ⟨rfl, rfl⟩
theorem iWireOf (x : Int) (w : World) (h0 : 0 ≤ x) (h1 : x ≤ 1000000) : Calls Try.prog 91 #[.int .i64 x] w fun e w' => e = .returned (.int .i64 (2 * x)) ∧ w' = w := by
  go_enter Try.func91, Try.ntmps91
  go_wp2
  go_ret
  exact ⟨by rw [Int.mul_comm]; rfl, rfl⟩
theorem iFirst {w : World} {F : Nat → Prop} {p : Nat} {ins : Int} {l : List An} {v : Value} {bm : Nat} (h : Nt w F p ins l v bm) (h0 : 0 ≤ ins) (h1 : ins ≤ 12) : Calls Try.prog 61 #[.pointer (some ⟨p, 0, none⟩)] w fun e w' => e = .returned (.int .i64 (ins + 1)) ∧ w' = w := by
  have c0 := h.c0
  clear h
  go_enter Try.func61, Try.ntmps61
  go_wp2
  go_ret
  exact ⟨rfl, rfl⟩
theorem iNodes {w : World} {F : Nat → Prop} {p : Nat} {ins : Int} {l : List An} {v : Value} {bm : Nat} (h : Nt w F p ins l v bm) (h0 : 0 ≤ ins) (h1 : ins ≤ 12) (hl : l.length ≤ 3000) : Calls Try.prog 59 #[.pointer (some ⟨p, 0, none⟩)] w fun e w' => e = .returned (.int .i64 (ins + 1 + (l.length : Int))) ∧ ∃ m, w' = w.drewN m := by
  obtain ⟨a, c, rfl, hA, hc⟩ := h.slice
  have H : Hid (Nt w F p ins l (.slice a l.length c) bm) := h
  have c0 := h.c0
  have c1 := h.c1
  clear h hA
  go_enter Try.func59, Try.ntmps59
  go_wp2
  go_quiet ((go_at_call 61; exact Calls.quiet_of_same (iFirst (H.out.kept (S := fun _ => False) ((Kept.refl _ _).drewN _) (fun _ e => e.elim)) h0 h1)))
  go_wp2
  go_ret
  exact ⟨rfl, _, rfl⟩
theorem iHasWire {w : World} {F : Nat → Prop} {p : Nat} {ins : Int} {l : List An} {v : Value} {bm : Nat} (h : Nt w F p ins l v bm) (h0 : 0 ≤ ins) (h1 : ins ≤ 12) (hl : l.length ≤ 3000) (x : Int) : Calls Try.prog 53 #[.pointer (some ⟨p, 0, none⟩), .int .i64 x] w fun e w' => e = .returned (.bool (wireB ins l x)) ∧ ∃ m, w' = w.drewN m := by
  by_cases hx : 0 ≤ x
  · go_enter Try.func53, Try.ntmps53
    go_wp2_with fail
    refine (iNodeOf _ _).mono ?_
    rintro e w0 ⟨rfl, rfl⟩
    go_wp2_with fail
    refine (iNodes h h0 h1 hl).mono ?_
    rintro e w1 ⟨rfl, m, rfl⟩
    go_wp2
    go_ret
    refine ⟨?_, m, rfl⟩
    have e : wireB ins l x = decide (x / 2 < ins + 1 + (l.length : Int)) := decide_eq_decide.2 (by omega)
    rw [e]; rfl
  · go_enter Try.func53, Try.ntmps53
    go_wp2
    go_ret
    refine ⟨?_, 0, rfl⟩
    have e : wireB ins l x = false := decide_eq_false (by omega)
    rw [e]; rfl
set_option maxRecDepth 100000 in
set_option maxHeartbeats 2000000 in
theorem iTakes {w : World} {F : Nat → Prop} {p : Nat} {ins : Int} {l : List An} {v : Value} {bm : Nat} (h : Nt w F p ins l v bm) (h0 : 0 ≤ ins) (h1 : ins ≤ 12) (hl : l.length ≤ 3000) (x : An) :
    Calls Try.prog 92 #[.pointer (some ⟨p, 0, none⟩), .agg #[.int .i64 x.a, .int .i64 x.b]] w fun e w' => e = .returned (.bool (takeB ins l x)) ∧ Below w.heap.size w w' := by
  obtain ⟨xa, xb⟩ := x
  obtain ⟨w1, hw1⟩ : ∃ w1 : World, w1 = w.alloc (.cells #[.int .i64 xa, .int .i64 xb] 112) := ⟨_, rfl⟩
  have hb1 : Below w.heap.size w w1 := by rw [hw1]; exact (Below.refl _ _).alloc (Nat.le_refl _) _
  have HB1 : Hid (Below w.heap.size w w1) := hb1
  obtain ⟨bn, hbn⟩ : ∃ bn : Nat, bn = w.heap.size := ⟨_, rfl⟩
  have q0 : w1.cell? ⟨bn, 0, none⟩ = some (.int .i64 xa) := by rw [hw1, hbn, World.cell?_alloc_new]; rfl
  have q1 : w1.cell? ⟨bn, 1, none⟩ = some (.int .i64 xb) := by rw [hw1, hbn, World.cell?_alloc_new]; rfl
  have hbl : bn < w1.heap.size := by rw [hw1, hbn]; simp
  have H1 : Hid (Nt w1 F p ins l v bm) := h.below hb1
  have c2 := H1.out.c2
  have hpl : p < w1.heap.size := H1.out.lt
  have HW1 : Hid (w1 = w.alloc (.cells #[.int .i64 xa, .int .i64 xb] 112)) := hw1
  have HBN : Hid (bn = w.heap.size) := hbn
  have HD : ∀ n, Nt (w1.drewN n) F p ins l v bm := fun n => H1.out.kept (S := fun _ => False) ((Kept.refl _ _).drewN _) (fun _ e => e.elim)
  have HD' : Hid (∀ n, Nt (w1.drewN n) F p ins l v bm) := HD
  have hbd : ∀ n, Below w.heap.size w (w1.drewN n) := fun n => ⟨HB1.out.os, HB1.out.tape, HB1.out.output, HB1.out.size, HB1.out.block⟩
  have HBD : Hid (∀ n, Below w.heap.size w (w1.drewN n)) := hbd
  clear hw1 hb1 h HD hbd
  go_enter Try.func92, Try.ntmps92
  go_wp2
  rw [← HW1.out, ← hbn]
  clear hbn
  go_quiet (fail)
  by_cases ha : xa ≤ 1
  · go_wp2
    go_ret
    refine ⟨?_, HBD.out _⟩
    have e : takeB ins l ⟨xa, xb⟩ = false := by unfold takeB; rw [decide_eq_false (by simp only; omega)]; rfl
    rw [e]; rfl
  go_wp2_with fail
  refine (iNodeOf _ _).mono ?_
  rintro e w2 ⟨rfl, hw2⟩
  have hw2' := hw2.symm
  clear hw2
  subst hw2'
  go_wp2_with fail
  refine (iNodeOf _ _).mono ?_
  rintro e w2 ⟨rfl, hw2⟩
  have hw2' := hw2.symm
  clear hw2
  subst hw2'
  by_cases hab : xb / 2 ≤ xa / 2
  · go_wp2
    go_ret
    refine ⟨?_, HBD.out _⟩
    have e : takeB ins l ⟨xa, xb⟩ = false := by unfold takeB; rw [decide_eq_false (by simp only; omega)]; rfl
    rw [e]; rfl
  go_wp2_with fail
  refine (iHasWire (HD'.out _) h0 h1 hl _).mono ?_
  rintro e w3 ⟨rfl, m, rfl⟩
  cases hwb : wireB ins l xb with
  | false =>
    go_wp2
    go_ret
    have hw := of_decide_eq_false hwb
    refine ⟨?_, ?_⟩
    · have e : takeB ins l ⟨xa, xb⟩ = false := by unfold takeB; rw [decide_eq_false (by simp only; omega)]; rfl
      rw [e]; rfl
    · exact HBD.out _
  | true =>
    have hw := of_decide_eq_true hwb
    clear hwb
    have hsm : Sm ⟨xa, xb⟩ := ⟨by simp only; omega, by simp only; omega, by simp only; omega, by simp only; omega⟩
    have hlook : ∀ n, (Instr.lookup 79 (.map (some bm)) (.agg #[.int .i64 xa, .int .i64 xb]) true).run Try.prog (w1.drewN n) = .ok (.tuple #[.int .i64 (lookW ins l ⟨xa, xb⟩), .bool (posOf l ⟨xa, xb⟩).isSome]) (w1.drewN n) := fun n => (HD'.out n).map.look hsm
    have ht : takeB ins l ⟨xa, xb⟩ = !(posOf l ⟨xa, xb⟩).isSome := by
      unfold takeB
      rw [decide_eq_true (by simp only; omega)]
      cases posOf l ⟨xa, xb⟩ <;> rfl
    have HT : Hid (takeB ins l ⟨xa, xb⟩ = !(posOf l ⟨xa, xb⟩).isSome) := ht
    clear ht hsm
    generalize (posOf l ⟨xa, xb⟩).isSome = pb at hlook HT
    generalize lookW ins l ⟨xa, xb⟩ = lw at hlook
    rw [World.drewN_drewN]
    go_wp2
    go_quiet (fail)
    go_wp2
    go_ret
    refine ⟨?_, ?_⟩
    · rw [HT.out]; rfl
    · exact HBD.out _

end Go.Proofs.Ytnpfegfjejfaaaa.Gp1

/- The program's net: an and more. -/
namespace Go.Proofs.Ytnpfegfjejfaaaa.Gp2
open Go.RowKit
open Nd0 Qb0 Qb2 Gr0 Mq0 Nt0 Gp1 Ap10
set_option linter.unusedVariables false

theorem fin {w w1 Z w9 wu : World} {F : Nat → Prop} {p : Nat} {ins : Int} {l : List An} {x : An} {v : Value} {bm g cap : Nat} (hB : Below w.heap.size w w1) (hZ : Kept (fun _ => False) w1 Z) (hN : Nt Z.drew F p ins l v bm) (hO : OwAn w9 0 (Value.slice (some ⟨g, 0, none⟩) (l.length + 1) cap) (l ++ [x])) (hK : Kept (fun k => k = bm ∨ v.ownBlock = some k) Z.drew w9) (hG : v.ownBlock = some g ∨ wu.heap.size ≤ g) (hM : Mq w9 bm ins (l ++ [x])) (hs : Z.drew.heap.size ≤ wu.heap.size) :
    Ne (w9.setCell ⟨p, 1, none⟩ (.slice (some ⟨g, 0, none⟩) (l.length + 1) cap)) F p ins (l ++ [x]) ∧ Kept (fun k => ¬ F k) w (w9.setCell ⟨p, 1, none⟩ (.slice (some ⟨g, 0, none⟩) (l.length + 1) cap)) := by
  have hp := hN.lt
  have np : ¬ (p = bm ∨ v.ownBlock = some p) := fun e => by rcases e with e | e; exact hN.pm e; exact hN.vp e
  have hgp : g ≠ p := fun e => by rcases hG with h | h; exact hN.vp (by rw [h, e]); omega
  have hgm : g ≠ bm := fun e => by rcases hG with h | h; exact hN.vm (by rw [h, e]); have := hN.map.lt; omega
  have hgf : ¬ F g := fun e => by rcases hG with h | h; exact hN.fv g h e; have := hN.f g e; omega
  have K2 : Kept (fun k => k = p) w9 (w9.setCell ⟨p, 1, none⟩ (.slice (some ⟨g, 0, none⟩) (l.length + 1) cap)) := Kept.setCell (S := fun k => k = p) (Kept.refl _ _) (p := ⟨p, 1, none⟩) rfl _
  have KA : Kept (fun k => ¬ F k) w Z.drew := ⟨hZ.drew.os.trans hB.os, hZ.drew.tape.trans hB.tape, hZ.drew.output.trans hB.output, Nat.le_trans hB.size hZ.drew.size, fun i hi _ => (hZ.drew.block i (Nat.lt_of_lt_of_le hi hB.size) (fun e => e)).trans (hB.block i hi)⟩
  have KB : Kept (fun k => ¬ F k) Z.drew w9 := Nt.kf hK (fun k hk e => by rcases hk with h | h; exact hN.fm (h ▸ e); exact hN.fv k h e)
  have KC : Kept (fun k => ¬ F k) w9 (w9.setCell ⟨p, 1, none⟩ (.slice (some ⟨g, 0, none⟩) (l.length + 1) cap)) := Nt.kf K2 (fun k hk e => hN.fp (hk ▸ e))
  refine ⟨⟨.slice (some ⟨g, 0, none⟩) (l.length + 1) cap, bm, ?_⟩, KA.trans (KB.trans KC)⟩
  have x0 : w9.cell? ⟨p, 0, none⟩ = some (.int .i64 ins) := by rw [hK.cell (p := ⟨p, 0, none⟩) hp np]; exact hN.c0
  have x1 : w9.cell? ⟨p, 1, none⟩ = some v := by rw [hK.cell (p := ⟨p, 1, none⟩) hp np]; exact hN.c1
  have x2 : w9.cell? ⟨p, 2, none⟩ = some (.map (some bm)) := by rw [hK.cell (p := ⟨p, 2, none⟩) hp np]; exact hN.c2
  refine ⟨by rw [set_other (by simp)]; exact x0, set_same x1, by rw [set_other (by simp)]; exact x2, ?_, ?_, ?_, hO.kept K2 (fun i e h => ?_), hM.kept K2 (fun e => hN.pm e.symm), hN.pm, fun e => ?_, fun e => ?_, hN.fp, hN.fm, fun k e => ?_, fun k hk => ?_⟩
  · rw [World.frozen?_setCell, hK.frozen (p := ⟨p, 0, none⟩) hp np]; exact hN.z0
  · rw [World.frozen?_setCell, hK.frozen (p := ⟨p, 1, none⟩) hp np]; exact hN.z1
  · rw [World.frozen?_setCell, hK.frozen (p := ⟨p, 2, none⟩) hp np]; exact hN.z2
  · cases e; exact hgp h
  · cases e; exact hgp rfl
  · cases e; exact hgm rfl
  · cases e; exact hgf
  · have := hN.f k hk
    have h1 := hK.size
    have h2 := K2.size
    omega

set_option maxRecDepth 100000 in
set_option maxHeartbeats 4000000 in
theorem iPut {w : World} {F : Nat → Prop} {p : Nat} {ins : Int} {l : List An} (h : Ne w F p ins l) (h0 : 0 ≤ ins) (h1 : ins ≤ 12) (hl : l.length < 3000) (x : An) (hx : Sm x) (hp : posOf l x = none) :
    Calls Try.prog 93 #[.pointer (some ⟨p, 0, none⟩), .agg #[.int .i64 x.a, .int .i64 x.b]] w fun e w' => e = .returned (.int .i64 (2 * (ins + 1 + (l.length : Int)))) ∧ Ne w' F p ins (l ++ [x]) ∧ Kept (fun k => ¬ F k) w w' := by
  obtain ⟨v, bm, h⟩ := h
  obtain ⟨xa, xb⟩ := x
  obtain ⟨w1, hw1⟩ : ∃ w1 : World, w1 = w.alloc (.cells #[.int .i64 xa, .int .i64 xb] 112) := ⟨_, rfl⟩
  have hb1 : Below w.heap.size w w1 := by rw [hw1]; exact (Below.refl _ _).alloc (Nat.le_refl _) _
  have HB1 : Hid (Below w.heap.size w w1) := hb1
  obtain ⟨bn, hbn⟩ : ∃ bn : Nat, bn = w.heap.size := ⟨_, rfl⟩
  have Q0 : Hid (w1.cell? ⟨bn, 0, none⟩ = some (.int .i64 xa)) := by show _ = _; rw [hw1, hbn, World.cell?_alloc_new]; rfl
  have Q1 : Hid (w1.cell? ⟨bn, 1, none⟩ = some (.int .i64 xb)) := by show _ = _; rw [hw1, hbn, World.cell?_alloc_new]; rfl
  have H1 : Hid (Nt w1 F p ins l v bm) := h.below hb1
  have HW1 : Hid (w1 = w.alloc (.cells #[.int .i64 xa, .int .i64 xb] 112)) := hw1
  have HBN : Hid (bn = w.heap.size) := hbn
  have hbl : bn < w1.heap.size := by rw [hw1, hbn]; simp
  have HNE : Hid (bn ≠ p ∧ bn ≠ bm ∧ v.ownBlock ≠ some bn) := ⟨fun e => by have := h.lt; omega, fun e => by have := h.map.lt; omega, fun e => by have := (h.own.lt _ e).2; omega⟩
  have HPO : Hid (posOf l ⟨xa, xb⟩ = none) := hp
  clear hw1 hb1 h hp
  go_enter Try.func93, Try.ntmps93
  go_wp2_with fail
  rw [← HW1.out, ← hbn]
  clear hbn
  refine (iNodes H1.out h0 h1 (by omega)).mono ?_
  rintro e w2 ⟨rfl, m, rfl⟩
  go_wp2_with fail
  refine (iWireOf _ _ (by omega) (by omega)).mono ?_
  rintro e w2 ⟨rfl, hw2⟩
  have hw2' := hw2.symm
  clear hw2
  subst hw2'
  go_wp2
  generalize hZ : (w1.drewN m) = Z
  have HZ : Hid (Kept (fun _ => False) w1 Z) := by rw [← hZ]; exact (Kept.refl _ _).drewN _
  clear hZ
  have HND : Hid (Nt Z.drew F p ins l v bm) := H1.out.kept HZ.out.drew (fun _ e => e.elim)
  obtain ⟨wu, hrun, hmu, hku⟩ := HND.out.map.store hx HPO.out (by omega) h0 h1
  have HMU : Hid (Mq wu bm ins (l ++ [⟨xa, xb⟩])) := hmu
  have HKU : Hid (Kept (fun k => k = bm) Z.drew wu) := hku
  clear hmu hku
  have c2 := HND.out.c2
  have d0 : Z.drew.cell? ⟨bn, 0, none⟩ = some (.int .i64 xa) := by rw [HZ.out.drew.cell hbl (fun e => e)]; exact Q0.out
  have d1 : Z.drew.cell? ⟨bn, 1, none⟩ = some (.int .i64 xb) := by rw [HZ.out.drew.cell hbl (fun e => e)]; exact Q1.out
  have hblz : bn < Z.drew.heap.size := Nat.lt_of_lt_of_le hbl HZ.out.drew.size
  have hplz : p < Z.drew.heap.size := HND.out.lt
  have C0 : Hid (wu.cell? ⟨p, 0, none⟩ = some (.int .i64 ins)) := by show _ = _; rw [HKU.out.cell hplz HND.out.pm]; exact HND.out.c0
  have C1 : Hid (wu.cell? ⟨p, 1, none⟩ = some v) := by show _ = _; rw [HKU.out.cell hplz HND.out.pm]; exact HND.out.c1
  have C2 : Hid (wu.cell? ⟨p, 2, none⟩ = some (.map (some bm))) := by show _ = _; rw [HKU.out.cell hplz HND.out.pm]; exact HND.out.c2
  have E0 : Hid (wu.cell? ⟨bn, 0, none⟩ = some (.int .i64 xa)) := by show _ = _; rw [HKU.out.cell hblz HNE.out.2.1]; exact d0
  have E1 : Hid (wu.cell? ⟨bn, 1, none⟩ = some (.int .i64 xb)) := by show _ = _; rw [HKU.out.cell hblz HNE.out.2.1]; exact d1
  unfold agg at hrun
  go_region_held3 (fun w' => w'.cell? ⟨p, 2, none⟩ = some (.map (some bm)) ∧ w'.cell? ⟨bn, 0, none⟩ = some (.int .i64 xa) ∧ w'.cell? ⟨bn, 1, none⟩ = some (.int .i64 xb)) ((first | exact ⟨c2, d0, d1⟩ | exact ⟨C2.out, E0.out, E1.out⟩)) (fail)
  go_wp2
  clear hrun c2 d0 d1
  have c1 : wu.cell? ⟨p, 1, none⟩ = some v := C1.out
  have hplu : p < wu.heap.size := Nat.lt_of_lt_of_le hplz HKU.out.size
  have hblu : bn < wu.heap.size := Nat.lt_of_lt_of_le hblz HKU.out.size
  have z1 : wu.frozen? ⟨p, 1, none⟩ = false := by rw [HKU.out.frozen (p := ⟨p, 1, none⟩) hplz HND.out.pm]; exact HND.out.z1
  have HOU : Hid (OwAn wu 0 v l) := HND.out.own.kept HKU.out (fun k hk e => HND.out.vm (by rw [hk, e]))
  have HOD : Hid (OwAn (wu.alloc (.cells #[.int .i64 xa, .int .i64 xb] 89)).drew 0 v l) := HOU.out.kept (S := fun _ => False) (((Kept.refl _ _).alloc _).drew) (fun _ _ e => e)
  have CD : Hid ((wu.alloc (.cells #[.int .i64 xa, .int .i64 xb] 89)).drew.cell? ⟨p, 1, none⟩ = some v) := by show _ = _; rw [((Kept.refl (fun _ => False) wu).alloc _).drew.cell (p := ⟨p, 1, none⟩) hplu (fun e => e)]; exact c1
  have ZD : Hid ((wu.alloc (.cells #[.int .i64 xa, .int .i64 xb] 89)).drew.frozen? ⟨p, 1, none⟩ = false) := by show _ = _; rw [((Kept.refl (fun _ => False) wu).alloc _).drew.frozen (p := ⟨p, 1, none⟩) hplu (fun e => e)]; exact z1
  have KD : Hid (Kept (fun _ => False) wu (wu.alloc (.cells #[.int .i64 xa, .int .i64 xb] 89)).drew) := ((Kept.refl (fun _ => False) wu).alloc _).drew
  have e0 : wu.cell? ⟨bn, 0, none⟩ = some (.int .i64 xa) := E0.out
  have e1 : wu.cell? ⟨bn, 1, none⟩ = some (.int .i64 xb) := E1.out
  go_region_law ((refine step_an _ (by rfl) _ _ (by rfl) 0 v l ⟨xa, xb⟩ (by rfl) _ (by rfl) (by simp) (by simp) HOD.out (Nat.zero_le _) (by omega) ?_; intro g cap w9 hO9 hK9 hg9; have f1 : w9.frozen? ⟨p, 1, none⟩ = false := (by rw [hK9.frozen (p := ⟨p, 1, none⟩) (by simp; omega) (fun e => HND.out.vp e)]; exact ZD.out); have k1 : w9.cell? ⟨p, 1, none⟩ = some v := (by rw [hK9.cell (p := ⟨p, 1, none⟩) (by simp; omega) (fun e => HND.out.vp e)]; exact CD.out)))
  all_goals
    have HO9 : Hid (OwAn w9 0 (Value.slice (some ⟨g, 0, none⟩) (l.length + 1) cap) (l ++ [⟨xa, xb⟩])) := hO9
    have HK9 : Hid (Kept (fun k => k = bm ∨ v.ownBlock = some k) Z.drew w9) := (HKU.out.mono (fun _ e => .inl e)).trans ((KD.out.mono (fun _ e => e.elim)).trans (hK9.mono (fun _ e => .inr e)))
    have HG9 : Hid (v.ownBlock = some g ∨ wu.heap.size ≤ g) := by
      rcases hg9 with e | e
      · exact .inl e
      · exact .inr (by have := KD.out.size; omega)
    have HM9 : Hid (Mq w9 bm ins (l ++ [⟨xa, xb⟩])) := (HMU.out.kept KD.out (fun e => e)).kept hK9 (fun e => HND.out.vm e)
    clear hO9 hK9 hg9
    go_wp2
    go_ret
    refine ⟨rfl, ?_⟩
    exact fin HB1.out HZ.out HND.out HO9.out HK9.out HG9.out HM9.out HKU.out.size

end Go.Proofs.Ytnpfegfjejfaaaa.Gp2

/- The program's netOf, GraphOk. -/
namespace Go.Proofs.Ytnpfegfjejfaaaa.Gp3
open Go.RowKit
open Nd0 Qb0 Qb2 Gr0 Mq0 Nt0 Gp1 Gp2
set_option linter.unusedVariables false

def gv (ins : Int) (a : Option Addr) (n c : Nat) : Value := .agg #[.int .i64 ins, .slice a n c]
set_option maxHeartbeats 2000000 in
theorem iNew (ins : Int) (w : World) : Calls Try.prog 47 #[.int .i64 ins] w fun e w' => e = .returned (.pointer (some ⟨w.heap.size + 1, 0, none⟩)) ∧ Ne w' (fun k => k < w.heap.size) (w.heap.size + 1) ins [] ∧ Below w.heap.size w w' := by
  have hmm := @run_makeMap Try.prog
  go_enter Try.func47, Try.ntmps47
  go_wp2
  go_ret
  have K : Kept (fun _ => False) (w.alloc (.map #[] 0)) ((w.alloc (.map #[] 0)).alloc (.cells #[.int .i64 ins, .slice none 0 0, .map (some w.heap.size)] 81)) := (Kept.refl _ _).alloc _
  have hs : (w.alloc (.map #[] 0)).heap.size = w.heap.size + 1 := by simp
  refine ⟨rfl, ⟨.slice none 0 0, w.heap.size, ?_⟩, ((Below.refl _ _).alloc (Nat.le_refl _) _).alloc (by simp) _⟩
  rw [← hs]
  refine ⟨by rw [World.cell?_alloc_new]; rfl, by rw [World.cell?_alloc_new]; rfl, by rw [World.cell?_alloc_new]; rfl, by simp, by simp, by simp, ⟨rfl, .inl ⟨rfl, rfl⟩⟩, (Mq.new w ins).kept K (fun e => e), by omega, by simp [Value.ownBlock], by simp [Value.ownBlock], by simp, by simp, by simp [Value.ownBlock], fun k hk => by simp; omega⟩

/-- What netOf does: a net in new memory, or none. -/
def NetPost (w : World) (ins : Int) (l : List An) (e : Ending) (w' : World) : Prop :=
  (gokB ins l = false ∧ e = .returned (.tuple #[.pointer none, .bool false]) ∧ Below w.heap.size w w') ∨
  (gokB ins l = true ∧ ∃ p, e = .returned (.tuple #[.pointer (some ⟨p, 0, none⟩), .bool true]) ∧ Ne w' (fun k => k < w.heap.size) p ins l ∧ Below w.heap.size w w')
theorem NetPost.no {w w' : World} {ins : Int} {l : List An} (h : gokB ins l = false) (hb : Below w.heap.size w w') : NetPost w ins l (.returned (.tuple #[.pointer none, .bool false])) w' := .inl ⟨h, rfl, hb⟩
theorem keptB {B : Nat} {w w' : World} (h : Kept (fun k => ¬ k < B) w w') (hB : B ≤ w.heap.size) : Below B w w' := h.below (fun k hk => by omega) hB

set_option maxRecDepth 100000 in
set_option maxHeartbeats 4000000 in
theorem iNetOf (w : World) (ins : Int) (a : Option Addr) (c : Nat) (l : List An) (h : Ans w a l) :
    Calls Try.prog 52 #[.agg #[.int .i64 ins, .slice a l.length c]] w (NetPost w ins l) := by
  have H : Hid (Ans w a l) := h
  have hm := h.1
  unfold maxLen at hm
  clear h
  by_cases hi0 : ins < 0
  · have hg : gokB ins l = false := gok_no (by omega)
    go_enter Try.func52, Try.ntmps52
    go_wp2
    go_ret2
    exact NetPost.no hg ((Below.refl _ _).alloc (Nat.le_refl _) _)
  by_cases hi1 : 12 < ins
  · have hg : gokB ins l = false := gok_no (by omega)
    go_enter Try.func52, Try.ntmps52
    go_wp2
    go_ret2
    exact NetPost.no hg ((Below.refl _ _).alloc (Nat.le_refl _) _)
  by_cases hl : 3000 < l.length
  · have hg : gokB ins l = false := gok_no (by omega)
    have hlz : (3000 : Int) < (l.length : Int) := by omega
    go_enter Try.func52, Try.ntmps52
    go_wp2
    go_ret2
    exact NetPost.no hg ((Below.refl _ _).alloc (Nat.le_refl _) _)
  have hlz : ¬ (3000 : Int) < (l.length : Int) := by omega
  have h0 : 0 ≤ ins := by omega
  have h1 : ins ≤ 12 := by omega
  go_enter Try.func52, Try.ntmps52
  go_wp2_with fail
  refine (iNew ins _).mono ?_
  rintro e w2 ⟨rfl, hne, hb2⟩
  generalize hW : w.alloc (.cells #[.int .i64 ins, .slice a l.length c] 29) = W at *
  have HWB : Hid (Below w.heap.size w W) := by rw [← hW]; exact (Below.refl _ _).alloc (Nat.le_refl _) _
  have HW : Hid (W.cell? ⟨w.heap.size, 1, none⟩ = some (.slice a l.length c)) := by show _ = _; rw [← hW, World.cell?_alloc_new]; rfl
  have hWs : w.heap.size < W.heap.size := by rw [← hW]; simp
  clear hW
  generalize W.heap.size + 1 = p at hne ⊢
  have HNE : Hid (Ne w2 (fun k => k < W.heap.size) p ins []) := hne
  have HB2 : Hid (Below W.heap.size W w2) := hb2
  have c1 : w2.cell? ⟨w.heap.size, 1, none⟩ = some (.slice a l.length c) := by rw [hb2.cell hWs]; exact HW.out
  clear hne hb2
  go_wp2
  go_loopw [28] (fun i wr => ∃ k : Nat, k ≤ l.length ∧ i = .int .i64 k ∧ okL ins (l.take k) = true ∧ Ne wr (fun k => k < W.heap.size) p ins (l.take k) ∧ Below W.heap.size W wr) (fun i _ => l.length - (intOf i).toNat)
  case atStart => exact ⟨0, Nat.zero_le _, rfl, rfl, HNE.out, HB2.out⟩
  case round =>
    obtain ⟨k, hk, rfl, hok, hnet, hbw⟩ := hrel
    have HO : Hid (okL ins (l.take k) = true) := hok
    have HN : Hid (Ne wr (fun k => k < W.heap.size) p ins (l.take k)) := hnet
    have HBW : Hid (Below W.heap.size W wr) := hbw
    clear hok hnet hbw
    by_cases hlt : k < l.length
    · have hkz : (k : Int) < (l.length : Int) := by omega
      have HA := (H.out.below HWB.out).below HBW.out
      rcases HA.2 with e | ⟨xb, xo, rfl, hc⟩
      · omega
      obtain ⟨p0, p1⟩ := hc k hlt
      have hx : xb < wr.heap.size := (hc k hlt).lt
      rw [nth_get hlt] at p0 p1
      clear hc HA
      have htk : (l.take k).length = k := by rw [List.length_take]; omega
      have HTK : Hid ((l.take k).length = k) := htk
      have HTS : Hid (l.take (k + 1) = l.take k ++ [nth l k]) := take_snoc hlt
      obtain ⟨xx, hxx⟩ : ∃ xx, xx = nth l k := ⟨_, rfl⟩
      have HXX : Hid (xx = nth l k) := hxx
      rw [← hxx] at p0 p1
      clear hxx htk
      go_wp2_with fail
      obtain ⟨v, bm, hn⟩ := HN.out
      obtain ⟨W3, hW3⟩ : ∃ W3, W3 = (wr.alloc (.cells #[.int .i64 xx.a, .int .i64 xx.b] 89)).alloc (.cells #[.int .i64 xx.a, .int .i64 xx.b] 112) := ⟨_, rfl⟩
      have HB3 : Hid (Below wr.heap.size wr W3) := by rw [hW3]; exact ((Below.refl _ _).alloc (Nat.le_refl _) _).alloc (by simp) _
      have hs3 : wr.heap.size + 1 < W3.heap.size := by rw [hW3]; simp
      have y0 : W3.cell? ⟨wr.heap.size + 1, 0, none⟩ = some (.int .i64 xx.a) := by
        have e : (wr.alloc (.cells #[.int .i64 xx.a, .int .i64 xx.b] 89)).heap.size = wr.heap.size + 1 := by simp
        rw [hW3, ← e, World.cell?_alloc_new]; rfl
      have y1 : W3.cell? ⟨wr.heap.size + 1, 1, none⟩ = some (.int .i64 xx.b) := by
        have e : (wr.alloc (.cells #[.int .i64 xx.a, .int .i64 xx.b] 89)).heap.size = wr.heap.size + 1 := by simp
        rw [hW3, ← e, World.cell?_alloc_new]; rfl
      have HN3 : Hid (Nt W3 (fun k => k < W.heap.size) p ins (l.take k) v bm) := hn.below HB3.out
      rw [← hW3]
      clear hW3 hn
      refine (iTakes HN3.out h0 h1 (by rw [HTK.out]; omega) xx).mono ?_
      rintro e w4 ⟨rfl, hb4⟩
      have HB4 : Hid (Below W3.heap.size W3 w4) := hb4
      have hbw4 : Below W.heap.size W w4 := HBW.out.trans ((HB3.out.mono HBW.out.size).trans (hb4.mono (Nat.le_trans HBW.out.size HB3.out.size)))
      have HBW4 : Hid (Below W.heap.size W w4) := hbw4
      have x0 : w4.cell? ⟨wr.heap.size + 1, 0, none⟩ = some (.int .i64 xx.a) := by rw [hb4.cell hs3]; exact y0
      have x1 : w4.cell? ⟨wr.heap.size + 1, 1, none⟩ = some (.int .i64 xx.b) := by rw [hb4.cell hs3]; exact y1
      clear hb4 y0 y1 hbw4
      cases htb : takeB ins (l.take k) xx with
      | false =>
        have hg : gokB ins l = false := by rw [gok_of h0 h1 (by omega)]; exact ok_stop hlt (by rw [← HXX.out]; exact htb)
        have HG : Hid (gokB ins l = false) := hg
        clear hg htb
        go_wp2
        go_ret2
        exact NetPost.no HG.out (HWB.out.trans (HBW4.out.mono (Nat.le_of_lt hWs)))
      | true =>
        have HTB : Hid (takeB ins (l.take k) xx = true) := htb
        clear htb
        go_wp2_with fail
        obtain ⟨g1, g2, g3, g4⟩ := take_facts HTB.out
        rw [HTK.out] at g3
        have hsm : Sm xx := ⟨by omega, by omega, by omega, by omega⟩
        refine (iPut ⟨v, bm, HN3.out.below HB4.out⟩ h0 h1 (by rw [HTK.out]; omega) xx hsm g4).mono ?_
        rintro e w5 ⟨rfl, hne5, hk5⟩
        have HN5 : Hid (Ne w5 (fun k => k < W.heap.size) p ins (l.take (k + 1))) := by show Ne _ _ _ _ _; rw [HTS.out, ← HXX.out]; exact hne5
        have HO5 : Hid (okL ins (l.take (k + 1)) = true) := by show _ = _; rw [HTS.out, ← HXX.out]; exact ok_snoc HO.out HTB.out
        have HB5 : Hid (Below W.heap.size W w5) := HBW4.out.trans (keptB hk5 HBW4.out.size)
        clear hne5 hk5 g1 g2 g3 g4 hsm x0 x1 p0 p1
        go_wp2
        go_roundw
        case rel => exact ⟨k + 1, by omega, by go_num, HO5.out, HN5.out, HB5.out⟩
        case measure => simp [intOf]; omega
    · have e : k = l.length := by omega
      subst e
      go_wp2
      go_ret2
      have ht : l.take l.length = l := List.take_length
      refine .inr ⟨by rw [gok_of h0 h1 (by omega)]; have := HO.out; rwa [ht] at this, p, rfl, ?_, HWB.out.trans (HBW.out.mono (Nat.le_of_lt hWs))⟩
      have := HN.out
      rw [ht] at this
      exact this.narrow (fun k hk => by omega)

set_option maxHeartbeats 2000000 in
theorem iGraphOk (w : World) (ins : Int) (a : Option Addr) (c : Nat) (l : List An) (h : Ans w a l) :
    Calls Try.prog 17 #[.agg #[.int .i64 ins, .slice a l.length c]] w fun e w' => e = .returned (.bool (gokB ins l)) ∧ Below w.heap.size w w' := by
  have H : Hid (Ans w a l) := h
  clear h
  go_enter Try.func17, Try.ntmps17
  go_wp2_with fail
  have hb : Below w.heap.size w (w.alloc (.cells #[.int .i64 ins, .slice a l.length c] 29)) := (Below.refl _ _).alloc (Nat.le_refl _) _
  refine (iNetOf _ ins a c l (H.out.below hb)).mono ?_
  rintro e w2 (⟨hg, rfl, hb2⟩ | ⟨hg, p, rfl, _, hb2⟩)
  all_goals
    have HG : Hid (gokB ins l = _) := hg
    have HB : Hid (Below w.heap.size w w2) := hb.trans (hb2.mono hb.size)
    clear hg hb hb2
    go_wp2
    go_ret
    exact ⟨by rw [HG.out]; rfl, HB.out⟩

end Go.Proofs.Ytnpfegfjejfaaaa.Gp3
