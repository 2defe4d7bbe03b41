/- Small texts of mine, one behind the other. -/
import Derived.Test.YtnpfegfjejfaaaaGp5
import Derived.Test.YtnpfegfjejfaaaaPkHi
import Derived.Test.YtnpfegfjejfaaaaTe3
/- The program's choose. -/
namespace Go.Proofs.Ytnpfegfjejfaaaa.Gp10
open Go.RowKit
open Nd0 Qb0 Qb2 Gr0 Gr1 Gr3 Mq0 Nt0 Ap10 Gp1 Gp2 Gp3 Gp4 Gp5
set_option linter.unusedVariables false

set_option maxHeartbeats 2000000 in
theorem iChoose {w : World} {F : Nat → Prop} {p : Nat} {ins : Int} {l : List An} (h : Ne w F p ins l) (h0 : 0 ≤ ins) (h1 : ins ≤ 12) (hl : l.length ≤ 3000) (hok : okL ins l = true) (x a b : Int) (hx : -9223372036854775808 ≤ x) (hx' : x ≤ 9223372036854775807) :
    Calls Try.prog 83 #[.pointer (some ⟨p, 0, none⟩), .int .i64 x, .int .i64 a, .int .i64 b] w (AndPost w F p ins (ifW ins l x a b)) := by
  have H : Hid (Ne w F p ins l) := h
  have hr1 := and_range (a := x) (b := a) h0 h1 hl hok
  obtain ⟨ok1, len1, -⟩ := andW_ok (a := x) (b := a) h0 hok hl
  have hr2 := and_range (a := turnW x) (b := b) h0 h1 len1 ok1
  obtain ⟨ok2, len2, -⟩ := andW_ok (a := turnW x) (b := b) h0 ok1 len1
  have HIF : Hid (ifW ins l x a b = orW ins (andW ins (andW ins l x a).1 (turnW x) b).1 (andW ins l x a).2 (andW ins (andW ins l x a).1 (turnW x) b).2) := rfl
  have HA1 : Hid (Calls Try.prog 75 #[.pointer (some ⟨p, 0, none⟩), .int .i64 x, .int .i64 a] w (AndPost w F p ins (andW ins l x a))) := iAnd H.out h0 h1 hl x a
  clear h
  generalize hR1 : andW ins l x a = r1 at *
  clear hR1
  obtain ⟨l1, y1⟩ := r1
  simp only at hr1 ok1 len1 hr2 ok2 len2 HIF
  have HA2 : Hid (∀ W : World, Ne W F p ins l1 → Calls Try.prog 75 #[.pointer (some ⟨p, 0, none⟩), .int .i64 (turnW x), .int .i64 b] W (AndPost W F p ins (andW ins l1 (turnW x) b))) := fun W h => iAnd h h0 h1 len1 (turnW x) b
  generalize hR2 : andW ins l1 (turnW x) b = r2 at *
  clear hR2
  obtain ⟨l2, y2⟩ := r2
  simp only at hr2 ok2 len2 HIF
  have HOK2 : Hid (okL ins l2 = true) := ok2
  clear ok1 ok2 hok
  go_enter Try.func83, Try.ntmps83
  go_wp2_with fail
  refine HA1.out.mono ?_
  rintro e w2 ⟨rfl, hne, hk⟩
  have HN2 : Hid (Ne w2 F p ins l1) := hne
  have HK2 : Hid (Kept (fun k => ¬ F k) w w2) := hk
  clear hne hk
  go_wp2_with fail
  refine (iTurned x _ hx hx').mono ?_
  rintro e w3 ⟨rfl, hw3⟩
  have hw3' := hw3.symm
  clear hw3
  subst hw3'
  go_wp2_with fail
  refine (HA2.out _ HN2.out).mono ?_
  rintro e w4 ⟨rfl, hne, hk⟩
  have HN4 : Hid (Ne w4 F p ins l2) := hne
  have HK4 : Hid (Kept (fun k => ¬ F k) w w4) := HK2.out.trans hk
  clear hne hk
  go_wp2_with fail
  refine (iOr HN4.out h0 h1 len2 HOK2.out y1 y2 (by omega) (by omega) (by omega) (by omega)).mono ?_
  rintro e w5 ⟨rfl, hne, hk⟩
  have HN5 : Hid (Ne w5 F p ins (orW ins l2 y1 y2).1) := hne
  have HK5 : Hid (Kept (fun k => ¬ F k) w w5) := HK4.out.trans hk
  clear hne hk
  go_wp2
  go_ret
  rw [HIF.out]
  exact ⟨rfl, HN5.out, HK5.out⟩

end Go.Proofs.Ytnpfegfjejfaaaa.Gp10

/- The program's wireOf. -/
namespace Go.Proofs.Ytnpfegfjejfaaaa.Gp11
open Go.RowKit
open Qb0 Qb2 Gr0 Gr1 Gr3 Mq0 Nt0 Ap10 Gp1 Gp2 Gp3 Gp4 Gp5 Gp10 Ta1 Ta3 Tc2 Tc5 Td1 Te1 Te3
open Nd0 (Kept set_other set_same lt_of_cell)
open Ss0 (bs bs_size bs_inj)
set_option linter.unusedVariables false

set_option maxHeartbeats 2000000 in
theorem wire_known {w : World} {F : Nat → Prop} {p : Nat} {ins : Int} {l : List An} (h : Ne w F p ins l) (n : Nat) (G : Nat → Bool) (hn : n ≤ 12) (hk : 0 ≤ knw n G) :
    Calls Try.prog 48 #[.pointer (some ⟨p, 0, none⟩), tv (n : Int) (bs (tab n G))] w (AndPost w F p ins (l, knw n G)) := by
  have H : Hid (Ne w F p ins l) := h
  have HKN : Hid (∀ W, Calls Try.prog 89 #[tv (n : Int) (bs (tab n G))] W fun e w' => e = .returned (.int .i64 (knw n G)) ∧ Below W.heap.size W w') := fun W => iKnown n G W hn
  generalize knw n G = K at *
  generalize bs (tab n G) = S at *
  have HA : Hid (Below w.heap.size w (w.alloc (.cells #[.int .i64 (n : Int), .string S] 25))) := (Below.refl _ _).alloc (Nat.le_refl _) _
  clear h
  go_enter Try.func48, Try.ntmps48
  go_wp2_with fail
  refine (HKN.out _).mono ?_
  rintro e w1 ⟨rfl, hb⟩
  have HB : Hid (Below w.heap.size w w1) := HA.out.trans (hb.mono HA.out.size)
  clear hb
  go_wp2
  go_ret
  exact ⟨rfl, H.out.below HB.out, keptF_below HB.out⟩

/-- The net's wire of every table of n bits. -/
def IW (ins : Int) (p n : Nat) : Prop := ∀ (G : Nat → Bool) (w : World) (F : Nat → Prop) (l : List An), Ne w F p ins l → l.length ≤ 3000 → okL ins l = true →
  Calls Try.prog 48 #[.pointer (some ⟨p, 0, none⟩), tv (n : Int) (bs (tab n G))] w (AndPost w F p ins (tW ins n G l))
theorem keptF_mono {F G : Nat → Prop} {w w' : World} (h : Kept (fun k => ¬ G k) w w') (hg : ∀ k, F k → G k) : Kept (fun k => ¬ F k) w w' := h.mono fun k e x => e (hg k x)

set_option maxRecDepth 100000 in
set_option maxHeartbeats 4000000 in
theorem wire_step {ins : Int} {p n : Nat} (h0 : 0 ≤ ins) (h1 : ins ≤ 12) (hn : ((n + 1 : Nat) : Int) ≤ ins) (ih : IW ins p n) {w : World} {F : Nat → Prop} {l : List An} (h : Ne w F p ins l) (hl : l.length ≤ 3000) (hok : okL ins l = true) (G : Nat → Bool) (hk : ¬ 0 ≤ knw (n + 1) G) :
    Calls Try.prog 48 #[.pointer (some ⟨p, 0, none⟩), tv ((n + 1 : Nat) : Int) (bs (tab (n + 1) G))] w (AndPost w F p ins (tW ins (n + 1) G l)) := by
  have H : Hid (Ne w F p ins l) := h
  have HIH : Hid (IW ins p n) := ih
  have HOK : Hid (okL ins l = true) := hok
  have hK1 : knw (n + 1) G = -1 := by have := knw_range (n + 1) G; omega
  have HKN : Hid (∀ W, Calls Try.prog 89 #[tv ((n + 1 : Nat) : Int) (bs (tab (n + 1) G))] W fun e w' => e = .returned (.int .i64 (-1)) ∧ Below W.heap.size W w') := fun W => by
    have := iKnown (n + 1) G W (by omega)
    rwa [hK1] at this
  have HH0 : Hid (∀ W, Calls Try.prog 90 #[tv ((n + 1 : Nat) : Int) (bs (tab (n + 1) G)), .int .i64 0] W fun e w' => e = .returned (.tuple #[tv (n : Int) (bs (tab n (hb n 0 G))), .bool true]) ∧ Below W.heap.size W w') := fun W => iHalf n 0 G W (by omega) (by omega)
  have HH1 : Hid (∀ W, Calls Try.prog 90 #[tv ((n + 1 : Nat) : Int) (bs (tab (n + 1) G)), .int .i64 1] W fun e w' => e = .returned (.tuple #[tv (n : Int) (bs (tab n (hb n 1 G))), .bool true]) ∧ Below W.heap.size W w') := fun W => iHalf n 1 G W (by omega) (by omega)
  have HT : Hid (tW ins (n + 1) G l = if tab n (hb n 0 G) = tab n (hb n 1 G) then tW ins n (hb n 0 G) l else ifW ins (tW ins n (hb n 1 G) (tW ins n (hb n 0 G) l).1).1 (inW ins (n + 1)) (tW ins n (hb n 1 G) (tW ins n (hb n 0 G) l).1).2 (tW ins n (hb n 0 G) l).2) := by
    show _ = _
    rw [tW, if_neg hk]
  have HI0 : Hid (∀ (W : World) (F : Nat → Prop) (l : List An), Ne W F p ins l → l.length ≤ 3000 → okL ins l = true → Calls Try.prog 48 #[.pointer (some ⟨p, 0, none⟩), tv (n : Int) (bs (tab n (hb n 0 G)))] W (AndPost W F p ins (tW ins n (hb n 0 G) l))) := HIH.out (hb n 0 G)
  have HI1 : Hid (∀ (W : World) (F : Nat → Prop) (l : List An), Ne W F p ins l → l.length ≤ 3000 → okL ins l = true → Calls Try.prog 48 #[.pointer (some ⟨p, 0, none⟩), tv (n : Int) (bs (tab n (hb n 1 G)))] W (AndPost W F p ins (tW ins n (hb n 1 G) l))) := HIH.out (hb n 1 G)
  have HEQ : Hid ((bs (tab n (hb n 0 G))).toList = (bs (tab n (hb n 1 G))).toList ↔ tab n (hb n 0 G) = tab n (hb n 1 G)) := by
    show _ ↔ _
    rw [ByteArray.toList_eq, ByteArray.toList_eq]
    exact ⟨fun e => by have := Ss1.tl_inj (S := bs (tab n (hb n 0 G))) (T := bs (tab n (hb n 1 G))) e; exact bs_inj this, fun e => by rw [e]⟩
  obtain ⟨GA, GB, GC, GD⟩ := tW_gd h0 n (hb n 0 G) l hok hl
  obtain ⟨GA1, GB1, GC1, GD1⟩ := tW_gd h0 n (hb n 1 G) _ GA GB
  have HGA : Hid (okL ins (tW ins n (hb n 0 G) l).1 = true) := GA
  have HGA1 : Hid (okL ins (tW ins n (hb n 1 G) (tW ins n (hb n 0 G) l).1).1 = true) := GA1
  generalize tab n (hb n 0 G) = T0 at *
  generalize tab n (hb n 1 G) = T1 at *
  generalize hb n 0 G = G0 at *
  generalize hb n 1 G = G1 at *
  generalize bs (tab (n + 1) G) = S at *
  generalize bs T0 = S0 at *
  generalize bs T1 = S1 at *
  have hn2 : ((n + 1 : Nat) : Int) = (n : Int) + 1 := by omega
  rw [hn2] at *
  have hn3 : (n : Int) + 1 ≤ ins := by omega
  clear h hok hk hK1 ih hn hn2 GA GD GA1 GD1
  have HA : Hid (Below w.heap.size w (w.alloc (.cells #[.int .i64 ((n : Int) + 1), .string S] 25))) := (Below.refl _ _).alloc (Nat.le_refl _) _
  have HL0 : Hid (Lay (w.alloc (.cells #[.int .i64 ((n : Int) + 1), .string S] 25)) w.heap.size (.int .i64 ((n : Int) + 1)) (.string S)) := Lay.made _ _ _ _
  go_enter Try.func48, Try.ntmps48
  go_wp2_with fail
  refine (HKN.out _).mono ?_
  rintro e w1 ⟨rfl, hb⟩
  have HB1 : Hid (Below w.heap.size w w1) := HA.out.trans (hb.mono HA.out.size)
  have HL1 : Hid (Lay w1 w.heap.size (.int .i64 ((n : Int) + 1)) (.string S)) := HL0.out.below hb
  obtain ⟨x0, x1, _, _⟩ := HL1.out
  clear hb HA HL0
  obtain ⟨q, hq⟩ : ∃ q, q = w.heap.size := ⟨_, rfl⟩
  have HQ : Hid (q = w.heap.size) := hq
  rw [← hq] at x0 x1 HL1
  rw [← hq]
  clear hq
  go_wp2_with fail
  refine (HH0.out _).mono ?_
  rintro e w2 ⟨rfl, hb⟩
  have HB2 : Hid (Below w.heap.size w w2) := HB1.out.trans (hb.mono HB1.out.size)
  have HL2 : Hid (Lay w2 q (.int .i64 ((n : Int) + 1)) (.string S)) := HL1.out.below hb
  clear hb x0 x1 HL1 HB1
  obtain ⟨W2, hW2⟩ : ∃ W2, W2 = w2.alloc (.cells #[.int .i64 (n : Int), .string S0] 25) := ⟨_, rfl⟩
  have HW2 : Hid (Below w.heap.size w W2 ∧ Lay W2 q (.int .i64 ((n : Int) + 1)) (.string S) ∧ Lay W2 w2.heap.size (.int .i64 (n : Int)) (.string S0)) := by
    rw [hW2]
    exact ⟨HB2.out.alloc HB2.out.size _, HL2.out.alloc _, Lay.made _ _ _ _⟩
  have HE2 : Hid (w2.alloc (.cells #[.int .i64 (n : Int), .string S0] 25) = W2) := hW2.symm
  clear hW2
  go_upto_region 5 with fail
  rw [HE2.out]
  obtain ⟨x0, x1, _, _⟩ := HW2.out.2.1
  have HG2 : Hid (w.heap.size ≤ w2.heap.size) := HB2.out.size
  generalize hq2 : w2.heap.size = q2 at *
  clear hq2 HE2 HB2 HL2
  go_wp2_with fail
  refine (HH1.out _).mono ?_
  rintro e w3 ⟨rfl, hb⟩
  have HB3 : Hid (Below w.heap.size w w3) := HW2.out.1.trans (hb.mono HW2.out.1.size)
  have HL3 : Hid (Lay w3 q (.int .i64 ((n : Int) + 1)) (.string S)) := HW2.out.2.1.below hb
  have HM3 : Hid (Lay w3 q2 (.int .i64 (n : Int)) (.string S0)) := HW2.out.2.2.below hb
  clear hb x0 x1 HW2
  obtain ⟨W3, hW3⟩ : ∃ W3, W3 = w3.alloc (.cells #[.int .i64 (n : Int), .string S1] 25) := ⟨_, rfl⟩
  have HW3 : Hid (Below w.heap.size w W3 ∧ Lay W3 q (.int .i64 ((n : Int) + 1)) (.string S) ∧ Lay W3 q2 (.int .i64 (n : Int)) (.string S0) ∧ Lay W3 w3.heap.size (.int .i64 (n : Int)) (.string S1)) := by
    rw [hW3]
    exact ⟨HB3.out.alloc HB3.out.size _, HL3.out.alloc _, HM3.out.alloc _, Lay.made _ _ _ _⟩
  have HE3 : Hid (w3.alloc (.cells #[.int .i64 (n : Int), .string S1] 25) = W3) := hW3.symm
  clear hW3
  go_upto_region 6 with fail
  rw [HE3.out]
  obtain ⟨x0, x1, _, _⟩ := HW3.out.2.1
  obtain ⟨y0, y1, _, _⟩ := HW3.out.2.2.1
  obtain ⟨z0, z1, _, _⟩ := HW3.out.2.2.2
  have HG : Hid (w.heap.size ≤ q ∧ w.heap.size ≤ q2 ∧ w.heap.size ≤ w3.heap.size) := ⟨Nat.le_of_eq HQ.out.symm, HG2.out, HB3.out.size⟩
  generalize hq3 : w3.heap.size = q3 at *
  clear hq3 HE3 HB3 HL3 HM3
  obtain ⟨F3, hF3⟩ : ∃ F3 : Nat → Prop, F3 = fun i => F i ∨ (w.heap.size ≤ i ∧ i < W3.heap.size) := ⟨_, rfl⟩
  have HN3 : Hid (Ne W3 F3 p ins l) := by rw [hF3]; exact H.out.since HW3.out.1
  have HKF : Hid (Kept (fun k => ¬ F k) w W3) := keptF_below HW3.out.1
  have HF1 : Hid (∀ k, F k → F3 k) := fun k e => by rw [hF3]; exact .inl e
  have HFQ : Hid (F3 q ∧ F3 q2 ∧ F3 q3) := by rw [hF3]; exact ⟨.inr ⟨HG.out.1, HW3.out.2.1.lt⟩, .inr ⟨HG.out.2.1, HW3.out.2.2.1.lt⟩, .inr ⟨HG.out.2.2, HW3.out.2.2.2.lt⟩⟩
  clear hF3
  generalize hR0 : tW ins n G0 l = r0 at *
  have HI0' : Hid (Calls Try.prog 48 #[.pointer (some ⟨p, 0, none⟩), tv (n : Int) S0] W3 (AndPost W3 F3 p ins r0)) := by rw [← hR0]; exact HI0.out _ _ _ HN3.out hl HOK.out
  clear hR0 HI0
  obtain ⟨l0, v0⟩ := r0
  simp only at GB GC GB1 GC1 HGA HGA1 HT
  by_cases hT : T0 = T1
  · have hq : S0.toList = S1.toList := HEQ.out.2 hT
    have HR : Hid (tW ins (n + 1) G l = (l0, v0)) := by show _ = _; rw [HT.out, if_pos hT]
    clear hT HT
    go_wp2_with fail
    refine HI0'.out.mono ?_
    rintro e w4 ⟨rfl, hne, hk⟩
    have HN4 : Hid (Ne w4 F3 p ins l0) := hne
    have HK4 : Hid (Kept (fun k => ¬ F3 k) W3 w4) := hk
    clear hne hk x0 x1 y0 y1 z0 z1
    go_wp2
    go_ret
    rw [HR.out]
    exact ⟨rfl, HN4.out.narrow HF1.out, HKF.out.trans (keptF_mono HK4.out HF1.out)⟩
  · have hq : ¬ S0.toList = S1.toList := fun e => hT (HEQ.out.1 e)
    have HI1' : Hid (∀ W : World, Ne W F3 p ins l0 → Calls Try.prog 48 #[.pointer (some ⟨p, 0, none⟩), tv (n : Int) S1] W (AndPost W F3 p ins (tW ins n G1 l0))) := fun W h => HI1.out _ _ _ h GB HGA.out
    generalize hR1 : tW ins n G1 l0 = r1 at *
    clear hR1 HI1
    obtain ⟨l1, v1⟩ := r1
    simp only at GB1 GC1 HGA1 HT
    have HR : Hid (tW ins (n + 1) G l = ifW ins l1 (2 * (ins - ((n : Int) + 1) + 1)) v1 v0) := by show _ = _; rw [HT.out, if_neg hT]; rfl
    clear hT HT
    go_wp2_with fail
    refine HI0'.out.mono ?_
    rintro e w4 ⟨rfl, hne, hk⟩
    have HN4 : Hid (Ne w4 F3 p ins l0) := hne
    have HK4 : Hid (Kept (fun k => ¬ F3 k) W3 w4) := hk
    clear hne hk x0 x1 y0 y1 z0 z1
    obtain ⟨z0, z1, _, _⟩ := HW3.out.2.2.2.kept HK4.out (fun e => e HFQ.out.2.2)
    go_wp2_with fail
    refine (HI1'.out _ HN4.out).mono ?_
    rintro e w5 ⟨rfl, hne, hk⟩
    have HN5 : Hid (Ne w5 F3 p ins l1) := hne
    have HK5 : Hid (Kept (fun k => ¬ F3 k) W3 w5) := HK4.out.trans hk
    clear hne hk z0 z1 HK4 HN4
    obtain ⟨x0, x1, _, _⟩ := HW3.out.2.1.kept HK5.out (fun e => e HFQ.out.1)
    have c0 : w5.cell? ⟨p, 0, none⟩ = some (.int .i64 ins) := by obtain ⟨_, _, hN⟩ := HN5.out; exact hN.c0
    go_wp2_with fail
    go_quiet (fail)
    go_wp2_with fail
    refine (iWireOf _ _ (by omega) (by omega)).mono ?_
    rintro e w6 ⟨rfl, hw6⟩
    have hw6' := hw6.symm
    clear hw6
    subst hw6'
    go_wp2_with fail
    refine (iChoose (Ne.drewN HN5.out _) h0 h1 GB1 HGA1.out _ v1 v0 (by omega) (by omega)).mono ?_
    rintro e w7 ⟨rfl, hne, hk⟩
    have HN7 : Hid (Ne w7 F3 p ins (ifW ins l1 (2 * (ins - ((n : Int) + 1) + 1)) v1 v0).1) := hne
    have HK7 : Hid (Kept (fun k => ¬ F3 k) W3 w7) := (HK5.out.drewN _).trans hk
    clear hne hk x0 x1 c0
    go_wp2
    go_ret
    rw [HR.out]
    exact ⟨rfl, HN7.out.narrow HF1.out, HKF.out.trans (keptF_mono HK7.out HF1.out)⟩

theorem iWires {ins : Int} (h0 : 0 ≤ ins) (h1 : ins ≤ 12) (p n : Nat) (hn : (n : Int) ≤ ins) : IW ins p n := by
  induction n with
  | zero =>
    intro G w F l h hl hok
    exact wire_known h 0 G (by omega) (knw_zero G)
  | succ n ih =>
    intro G w F l h hl hok
    by_cases hk : 0 ≤ knw (n + 1) G
    · have := wire_known h (n + 1) G (by omega) hk
      rw [tW, if_pos hk]
      exact this
    · exact wire_step h0 h1 hn (ih (by omega)) h hl hok G hk

end Go.Proofs.Ytnpfegfjejfaaaa.Gp11

/- The program's GraphOf. -/
namespace Go.Proofs.Ytnpfegfjejfaaaa.Gp12
open Go.RowKit
open Qb0 Qb2 Gr0 Gr1 Gr3 Mq0 Nt0 Ap10 Gp1 Gp2 Gp3 Gp4 Gp5 Gp10 Gp11 Ta1 Ta3 Tc2 Tc5 Td1 Te1 Te3
open Nd0 (Kept set_other set_same lt_of_cell)
open Ss0 (bs bs_size bs_inj)
open Ss1 (tl)
set_option linter.unusedVariables false

theorem none_post {w w' : World} (h : Below w.heap.size w w') : GrPost w 0 ([], -1) (.returned (.tuple #[.agg #[.int .i64 0, .slice none 0 0], .int .i64 (-1)])) w' :=
  ⟨none, 0, rfl, ⟨Nat.zero_le _, .inl rfl⟩, h⟩

set_option maxHeartbeats 2000000 in
theorem iGraphOf0 {N : Int} {S : ByteArray} (w : World) (hS : S.size ≤ 1048576) (h : tokB N (tl S) = false) :
    Calls Try.prog 14 #[tv N S] w (GrPost w 0 ([], -1)) := by
  have HO : Hid (∀ W, Calls Try.prog 46 #[tv N S] W fun e w' => e = .returned (.bool false) ∧ Below W.heap.size W w') := fun W => iOk0 W hS h
  clear h
  obtain ⟨W, hW⟩ : ∃ W, W = (w.alloc (.cells #[.int .i64 N, .string S] 25)).alloc (.cells #[.int .i64 0, .slice none 0 0] 29) := ⟨_, rfl⟩
  have HB : Hid (Below w.heap.size w W) := by rw [hW]; exact ((Below.refl _ _).alloc (Nat.le_refl _) _).alloc (by simp) _
  have hs : W.heap.size = w.heap.size + 1 + 1 := by rw [hW]; simp
  have LG : Hid (Lay W w.heap.size (.int .i64 N) (.string S)) := by rw [hW]; exact (Lay.made _ _ _ _).alloc _
  have LR : Hid (Lay W (w.heap.size + 1) (.int .i64 0) (.slice none 0 0)) := by
    rw [hW]
    have h := Lay.made (w.alloc (.cells #[.int .i64 N, .string S] 25)) (.int .i64 0) (.slice none 0 0) 29
    have hA : (w.alloc (.cells #[.int .i64 N, .string S] 25)).heap.size = w.heap.size + 1 := by simp
    rw [hA] at h
    exact h
  go_enter Try.func14, Try.ntmps14
  go_upto_region 1 with fail
  rw [← hW]
  clear hW
  obtain ⟨x0, x1, _, _⟩ := LG.out
  go_wp2_with fail
  refine (HO.out _).mono ?_
  rintro e w1 ⟨rfl, hb⟩
  have HB1 : Hid (Below w.heap.size w w1) := HB.out.trans (hb.mono HB.out.size)
  obtain ⟨y0, y1, z0, z1⟩ := LR.out.below hb
  clear hb x0 x1
  go_wp2
  exact bodyPost_ret (v := .tuple #[.agg #[.int .i64 0, .slice none 0 0], .int .i64 (-1)]) (by simp [results, Try.results14, go_sem, y0, y1]) rfl (none_post (HB1.out.trans (Kept.below (S := fun k => k = w.heap.size + 1) (Kept.setCell (S := fun k => k = w.heap.size + 1) (Kept.setCell (S := fun k => k = w.heap.size + 1) (Kept.refl _ w1) (p := ⟨w.heap.size + 1, 0, none⟩) rfl _) (p := ⟨w.heap.size + 1, 1, none⟩) rfl _) (fun k e => by omega) HB1.out.size)))

set_option maxHeartbeats 2000000 in
theorem iGraphOf (n : Nat) (G : Nat → Bool) (w : World) (hn : n ≤ 12) :
    Calls Try.prog 14 #[tv (n : Int) (bs (tab n G))] w (GrPost w (gOf n G).1 (gOf n G).2) := by
  have HO : Hid (∀ W, Calls Try.prog 46 #[tv (n : Int) (bs (tab n G))] W fun e w' => e = .returned (.bool true) ∧ Below W.heap.size W w') := fun W => iOk1 n G W hn
  have HIW : Hid (∀ (W : World) (F : Nat → Prop) (p : Nat), Ne W F p n [] → Calls Try.prog 48 #[.pointer (some ⟨p, 0, none⟩), tv (n : Int) (bs (tab n G))] W (AndPost W F p n (tW n n G []))) := fun W F p h => iWires (by omega) (by omega) p n (Int.le_refl _) G W F [] h (Nat.zero_le _) rfl
  have HGF : Hid (gOf n G = if (tW n n G []).2 = -1 then (0, [], -1) else ((n : Int), (tW n n G []).1, (tW n n G []).2)) := rfl
  generalize tW n n G [] = r at *
  obtain ⟨l2, x⟩ := r
  simp only at HGF
  generalize gOf n G = R at *
  generalize bs (tab n G) = S at *
  obtain ⟨W, hW⟩ : ∃ W, W = (w.alloc (.cells #[.int .i64 (n : Int), .string S] 25)).alloc (.cells #[.int .i64 0, .slice none 0 0] 29) := ⟨_, rfl⟩
  have HB : Hid (Below w.heap.size w W) := by rw [hW]; exact ((Below.refl _ _).alloc (Nat.le_refl _) _).alloc (by simp) _
  have hs : W.heap.size = w.heap.size + 1 + 1 := by rw [hW]; simp
  have LG : Hid (Lay W w.heap.size (.int .i64 (n : Int)) (.string S)) := by rw [hW]; exact (Lay.made _ _ _ _).alloc _
  have LR : Hid (Lay W (w.heap.size + 1) (.int .i64 0) (.slice none 0 0)) := by
    rw [hW]
    have h := Lay.made (w.alloc (.cells #[.int .i64 (n : Int), .string S] 25)) (.int .i64 0) (.slice none 0 0) 29
    have hA : (w.alloc (.cells #[.int .i64 (n : Int), .string S] 25)).heap.size = w.heap.size + 1 := by simp
    rw [hA] at h
    exact h
  go_enter Try.func14, Try.ntmps14
  go_upto_region 1 with fail
  rw [← hW]
  clear hW
  obtain ⟨x0, x1, _, _⟩ := LG.out
  go_wp2_with fail
  refine (HO.out _).mono ?_
  rintro e w1 ⟨rfl, hb⟩
  have HB1 : Hid (Below W.heap.size W w1) := hb
  clear hb x0 x1
  obtain ⟨x0, x1, _, _⟩ := LG.out.below HB1.out
  go_wp2_with fail
  refine (iNew (n : Int) w1).mono ?_
  rintro e w2 ⟨rfl, hne, hb⟩
  have HB2 : Hid (Below W.heap.size W w2) := HB1.out.trans (hb.mono HB1.out.size)
  have HNE : Hid (Ne w2 (fun k => k < W.heap.size) (w1.heap.size + 1) n []) := hne.narrow (fun k e => Nat.lt_of_lt_of_le e HB1.out.size)
  clear hb hne x0 x1
  obtain ⟨x0, x1, _, _⟩ := LG.out.below HB2.out
  generalize w1.heap.size + 1 = p at *
  go_wp2_with fail
  refine (HIW.out _ _ _ HNE.out).mono ?_
  rintro e w3 ⟨rfl, hne3, hk3⟩
  have HB3 : Hid (Below W.heap.size W w3) := HB2.out.trans (keptB hk3 HB2.out.size)
  have HN3 : Hid (Ne w3 (fun k => k < W.heap.size) p n l2) := hne3
  clear hne3 hk3 x0 x1
  simp only
  by_cases hx : x = -1
  · subst hx
    have HR : Hid (R = (0, [], -1)) := HGF.out
    obtain ⟨y0, y1, z0, z1⟩ := LR.out.below HB3.out
    go_wp2
    refine bodyPost_ret (v := .tuple #[.agg #[.int .i64 0, .slice none 0 0], .int .i64 (-1)]) (by simp [results, Try.results14, go_sem, y0, y1]) rfl ?_
    rw [HR.out]
    have hb3 : Below w.heap.size w w3 := HB.out.trans (HB3.out.mono HB.out.size)
    exact none_post (hb3.trans (Kept.below (S := fun k => k = w.heap.size + 1) (Kept.setCell (S := fun k => k = w.heap.size + 1) (Kept.setCell (S := fun k => k = w.heap.size + 1) (Kept.refl _ w3) (p := ⟨w.heap.size + 1, 0, none⟩) rfl _) (p := ⟨w.heap.size + 1, 1, none⟩) rfl _) (fun k e => by omega) hb3.size))
  have HR : Hid (R = ((n : Int), l2, x)) := by show _ = _; rw [HGF.out, if_neg hx]
  have hxb : (x == -1) = false := beq_eq_false_iff_ne.2 hx
  clear hx
  obtain ⟨v, bm, hn3⟩ := HN3.out
  obtain ⟨av, cv, rfl, _, _⟩ := hn3.slice
  have HNT : Hid (Nt w3 (fun k => k < W.heap.size) p n l2 (.slice av l2.length cv) bm) := hn3
  clear hn3
  go_wp2_with fail
  refine (iGraph HNT.out).mono ?_
  rintro e w9 ⟨rfl, hb9⟩
  have HB9 : Hid (Below W.heap.size W w9) := HB3.out.trans (hb9.mono HB3.out.size)
  have HN9 : Hid (Nt w9 (fun k => k < W.heap.size) p n l2 (.slice av l2.length cv) bm) := HNT.out.below hb9
  obtain ⟨y0, y1, z0, z1⟩ := LR.out.below HB9.out
  clear hb9
  go_wp2
  refine bodyPost_ret (v := .tuple #[.agg #[.int .i64 (n : Int), .slice av l2.length cv], .int .i64 x]) (by simp [results, Try.results14, go_sem, y0, y1]) rfl ?_
  rw [HR.out]
  have K3 : Kept (fun k => k = w.heap.size + 1) w9 ((w9.setCell ⟨w.heap.size + 1, 0, none⟩ (.int .i64 (n : Int))).setCell ⟨w.heap.size + 1, 1, none⟩ (.slice av l2.length cv)) := Kept.setCell (S := fun k => k = w.heap.size + 1) (Kept.setCell (S := fun k => k = w.heap.size + 1) (Kept.refl _ w9) (p := ⟨w.heap.size + 1, 0, none⟩) rfl _) (p := ⟨w.heap.size + 1, 1, none⟩) rfl _
  have hN9 := HN9.out
  have hfv : ∀ k, (Value.slice av l2.length cv).ownBlock = some k → W.heap.size ≤ k := fun k e => Nat.le_of_not_lt (hN9.fv k e)
  have hO := (own_w hN9.own (B := w.heap.size) (fun k e => by have := hfv k e; omega)).kept K3 (fun k e h => by have := hfv k e; omega)
  obtain ⟨a2, c2, e2, hw2, _⟩ := hO.form
  cases e2
  exact ⟨_, _, rfl, hw2, HB.out.trans ((HB9.out.mono HB.out.size).trans (K3.below (fun k e => by omega) (Nat.le_trans HB.out.size HB9.out.size)))⟩

end Go.Proofs.Ytnpfegfjejfaaaa.Gp12
