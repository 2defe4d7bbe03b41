/- The program's small functions over a net. -/
import Derived.Deep.RegionHeld3
import Derived.Test.YtnpfegfjejfaaaaNt0
namespace Go.Proofs.Ytnpfegfjejfaaaa.Gp1
open Go.RowKit
open Nd0 Qb0 Qb2 Gr0 Mq0 Nt0
set_option linter.unusedVariables false

theorem nxor1 (n : Nat) : n ^^^ 1 = if n % 2 = 0 then n + 1 else n - 1 := by
  have h1 : (n ^^^ 1) / 2 = n / 2 := by rw [Nat.xor_div_two]; simp
  have h2 : decide ((n ^^^ 1) % 2 = 1) = !decide (n % 2 = 1) := by
    have h := Nat.testBit_xor n 1 0
    simp only [Nat.testBit_zero] at h
    rw [h]; simp
  split
  · rename_i h
    rw [show decide (n % 2 = 1) = false from decide_eq_false (by omega)] at h2
    have := of_decide_eq_true h2
    omega
  · rename_i h
    rw [show decide (n % 2 = 1) = true from decide_eq_true (by omega)] at h2
    have := of_decide_eq_false h2
    omega
theorem xor1 {x : Int} (h0 : -9223372036854775808 ≤ x) (h1 : x ≤ 9223372036854775807) : bits .xor .i64 x 1 = turnW x := by
  have e : bits .xor .i64 x 1 = IntKind.i64.wrap ((BitVec.ofInt 64 x ^^^ BitVec.ofInt 64 1).toNat : Int) := rfl
  rw [e, BitVec.toNat_xor, BitVec.toNat_ofInt, BitVec.toNat_ofInt]
  have e1 : ((1 : Int) % ((2 ^ 64 : Nat) : Int)).toNat = 1 := by decide
  rw [e1, nxor1, IntKind.wrap_i64]
  unfold turnW
  have e2 : ((2 ^ 64 : Nat) : Int) = 18446744073709551616 := by decide
  rw [e2]
  split <;> split <;> omega
theorem iNodeOf (x : Int) (w : World) : Calls Try.prog 60 #[.int .i64 x] w fun e w' => e = .returned (.int .i64 (x / 2)) ∧ w' = w := by
  go_enter Try.func60, Try.ntmps60
  go_wp2
  go_ret
  exact ⟨rfl, rfl⟩
theorem iTurned (x : Int) (w : World) (h0 : -9223372036854775808 ≤ x) (h1 : x ≤ 9223372036854775807) : Calls Try.prog 101 #[.int .i64 x] w fun e w' => e = .returned (.int .i64 (turnW x)) ∧ w' = w := by
  have e := xor1 h0 h1
  go_enter Try.func101, Try.ntmps101
  go_wp2
  go_ret
  exact ⟨rfl, rfl⟩
theorem iWireOf (x : Int) (w : World) (h0 : 0 ≤ x) (h1 : x ≤ 1000000) : Calls Try.prog 91 #[.int .i64 x] w fun e w' => e = .returned (.int .i64 (2 * x)) ∧ w' = w := by
  go_enter Try.func91, Try.ntmps91
  go_wp2
  go_ret
  exact ⟨by rw [Int.mul_comm]; rfl, rfl⟩
theorem iFirst {w : World} {F : Nat → Prop} {p : Nat} {ins : Int} {l : List An} {v : Value} {bm : Nat} (h : Nt w F p ins l v bm) (h0 : 0 ≤ ins) (h1 : ins ≤ 12) : Calls Try.prog 61 #[.pointer (some ⟨p, 0, none⟩)] w fun e w' => e = .returned (.int .i64 (ins + 1)) ∧ w' = w := by
  have c0 := h.c0
  clear h
  go_enter Try.func61, Try.ntmps61
  go_wp2
  go_ret
  exact ⟨rfl, rfl⟩
theorem iNodes {w : World} {F : Nat → Prop} {p : Nat} {ins : Int} {l : List An} {v : Value} {bm : Nat} (h : Nt w F p ins l v bm) (h0 : 0 ≤ ins) (h1 : ins ≤ 12) (hl : l.length ≤ 3000) : Calls Try.prog 59 #[.pointer (some ⟨p, 0, none⟩)] w fun e w' => e = .returned (.int .i64 (ins + 1 + (l.length : Int))) ∧ ∃ m, w' = w.drewN m := by
  obtain ⟨a, c, rfl, hA, hc⟩ := h.slice
  have H : Hid (Nt w F p ins l (.slice a l.length c) bm) := h
  have c0 := h.c0
  have c1 := h.c1
  clear h hA
  go_enter Try.func59, Try.ntmps59
  go_wp2
  go_quiet ((go_at_call 61; exact Calls.quiet_of_same (iFirst (H.out.kept (S := fun _ => False) ((Kept.refl _ _).drewN _) (fun _ e => e.elim)) h0 h1)))
  go_wp2
  go_ret
  exact ⟨rfl, _, rfl⟩
theorem iHasWire {w : World} {F : Nat → Prop} {p : Nat} {ins : Int} {l : List An} {v : Value} {bm : Nat} (h : Nt w F p ins l v bm) (h0 : 0 ≤ ins) (h1 : ins ≤ 12) (hl : l.length ≤ 3000) (x : Int) : Calls Try.prog 53 #[.pointer (some ⟨p, 0, none⟩), .int .i64 x] w fun e w' => e = .returned (.bool (wireB ins l x)) ∧ ∃ m, w' = w.drewN m := by
  by_cases hx : 0 ≤ x
  · go_enter Try.func53, Try.ntmps53
    go_wp2_with fail
    refine (iNodeOf _ _).mono ?_
    rintro e w0 ⟨rfl, rfl⟩
    go_wp2_with fail
    refine (iNodes h h0 h1 hl).mono ?_
    rintro e w1 ⟨rfl, m, rfl⟩
    go_wp2
    go_ret
    refine ⟨?_, m, rfl⟩
    have e : wireB ins l x = decide (x / 2 < ins + 1 + (l.length : Int)) := decide_eq_decide.2 (by omega)
    rw [e]; rfl
  · go_enter Try.func53, Try.ntmps53
    go_wp2
    go_ret
    refine ⟨?_, 0, rfl⟩
    have e : wireB ins l x = false := decide_eq_false (by omega)
    rw [e]; rfl
set_option maxRecDepth 100000 in
set_option maxHeartbeats 2000000 in
theorem iTakes {w : World} {F : Nat → Prop} {p : Nat} {ins : Int} {l : List An} {v : Value} {bm : Nat} (h : Nt w F p ins l v bm) (h0 : 0 ≤ ins) (h1 : ins ≤ 12) (hl : l.length ≤ 3000) (x : An) :
    Calls Try.prog 92 #[.pointer (some ⟨p, 0, none⟩), .agg #[.int .i64 x.a, .int .i64 x.b]] w fun e w' => e = .returned (.bool (takeB ins l x)) ∧ Below w.heap.size w w' := by
  obtain ⟨xa, xb⟩ := x
  obtain ⟨w1, hw1⟩ : ∃ w1 : World, w1 = w.alloc (.cells #[.int .i64 xa, .int .i64 xb] 112) := ⟨_, rfl⟩
  have hb1 : Below w.heap.size w w1 := by rw [hw1]; exact (Below.refl _ _).alloc (Nat.le_refl _) _
  have HB1 : Hid (Below w.heap.size w w1) := hb1
  obtain ⟨bn, hbn⟩ : ∃ bn : Nat, bn = w.heap.size := ⟨_, rfl⟩
  have q0 : w1.cell? ⟨bn, 0, none⟩ = some (.int .i64 xa) := by rw [hw1, hbn, World.cell?_alloc_new]; rfl
  have q1 : w1.cell? ⟨bn, 1, none⟩ = some (.int .i64 xb) := by rw [hw1, hbn, World.cell?_alloc_new]; rfl
  have hbl : bn < w1.heap.size := by rw [hw1, hbn]; simp
  have H1 : Hid (Nt w1 F p ins l v bm) := h.below hb1
  have c2 := H1.out.c2
  have hpl : p < w1.heap.size := H1.out.lt
  have HW1 : Hid (w1 = w.alloc (.cells #[.int .i64 xa, .int .i64 xb] 112)) := hw1
  have HBN : Hid (bn = w.heap.size) := hbn
  have HD : ∀ n, Nt (w1.drewN n) F p ins l v bm := fun n => H1.out.kept (S := fun _ => False) ((Kept.refl _ _).drewN _) (fun _ e => e.elim)
  have HD' : Hid (∀ n, Nt (w1.drewN n) F p ins l v bm) := HD
  have hbd : ∀ n, Below w.heap.size w (w1.drewN n) := fun n => ⟨HB1.out.os, HB1.out.tape, HB1.out.output, HB1.out.size, HB1.out.block⟩
  have HBD : Hid (∀ n, Below w.heap.size w (w1.drewN n)) := hbd
  clear hw1 hb1 h HD hbd
  go_enter Try.func92, Try.ntmps92
  go_wp2
  rw [← HW1.out, ← hbn]
  clear hbn
  go_quiet (fail)
  by_cases ha : xa ≤ 1
  · go_wp2
    go_ret
    refine ⟨?_, HBD.out _⟩
    have e : takeB ins l ⟨xa, xb⟩ = false := by unfold takeB; rw [decide_eq_false (by simp only; omega)]; rfl
    rw [e]; rfl
  go_wp2_with fail
  refine (iNodeOf _ _).mono ?_
  rintro e w2 ⟨rfl, hw2⟩
  have hw2' := hw2.symm
  clear hw2
  subst hw2'
  go_wp2_with fail
  refine (iNodeOf _ _).mono ?_
  rintro e w2 ⟨rfl, hw2⟩
  have hw2' := hw2.symm
  clear hw2
  subst hw2'
  by_cases hab : xb / 2 ≤ xa / 2
  · go_wp2
    go_ret
    refine ⟨?_, HBD.out _⟩
    have e : takeB ins l ⟨xa, xb⟩ = false := by unfold takeB; rw [decide_eq_false (by simp only; omega)]; rfl
    rw [e]; rfl
  go_wp2_with fail
  refine (iHasWire (HD'.out _) h0 h1 hl _).mono ?_
  rintro e w3 ⟨rfl, m, rfl⟩
  cases hwb : wireB ins l xb with
  | false =>
    go_wp2
    go_ret
    have hw := of_decide_eq_false hwb
    refine ⟨?_, ?_⟩
    · have e : takeB ins l ⟨xa, xb⟩ = false := by unfold takeB; rw [decide_eq_false (by simp only; omega)]; rfl
      rw [e]; rfl
    · exact HBD.out _
  | true =>
    have hw := of_decide_eq_true hwb
    clear hwb
    have hsm : Sm ⟨xa, xb⟩ := ⟨by simp only; omega, by simp only; omega, by simp only; omega, by simp only; omega⟩
    have hlook : ∀ n, (Instr.lookup 79 (.map (some bm)) (.agg #[.int .i64 xa, .int .i64 xb]) true).run Try.prog (w1.drewN n) = .ok (.tuple #[.int .i64 (lookW ins l ⟨xa, xb⟩), .bool (posOf l ⟨xa, xb⟩).isSome]) (w1.drewN n) := fun n => (HD'.out n).map.look hsm
    have ht : takeB ins l ⟨xa, xb⟩ = !(posOf l ⟨xa, xb⟩).isSome := by
      unfold takeB
      rw [decide_eq_true (by simp only; omega)]
      cases posOf l ⟨xa, xb⟩ <;> rfl
    have HT : Hid (takeB ins l ⟨xa, xb⟩ = !(posOf l ⟨xa, xb⟩).isSome) := ht
    clear ht hsm
    generalize (posOf l ⟨xa, xb⟩).isSome = pb at hlook HT
    generalize lookW ins l ⟨xa, xb⟩ = lw at hlook
    rw [World.drewN_drewN]
    go_wp2
    go_quiet (fail)
    go_wp2
    go_ret
    refine ⟨?_, ?_⟩
    · rw [HT.out]; rfl
    · exact HBD.out _

end Go.Proofs.Ytnpfegfjejfaaaa.Gp1
