/- The program's and, or over a net. -/
import Derived.Deep.CutBlock
import Derived.Deep.CutRange
import Derived.Test.YtnpfegfjejfaaaaPkHj
import Derived.Test.YtnpfegfjejfaaaaGr1
namespace Go.Proofs.Ytnpfegfjejfaaaa.Gp4
open Go.RowKit
open Nd0 Qb0 Qb2 Gr0 Gr1 Mq0 Nt0 Gp1 Gp2 Gp3
set_option linter.unusedVariables false

set_option maxHeartbeats 1000000 in
theorem iWithout (lo hi : Int) (w : World) (h0 : 0 ≤ lo) (h1 : lo ≤ hi) (h2 : hi ≤ 1000000) :
    Calls Try.prog 100 #[.int .i64 lo, .int .i64 hi] w fun e w' => e = .returned (.tuple #[.int .i64 (if lo = 0 ∨ lo = turnW hi then 0 else if lo = 1 ∨ lo = hi then hi else -1), .bool (decide (lo = 0 ∨ lo = turnW hi ∨ lo = 1 ∨ lo = hi))]) ∧ w' = w := by
  have ht : turnW hi = turnW hi := rfl
  generalize hq : turnW hi = q
  have HQ : Hid (turnW hi = q) := hq
  by_cases e1 : lo = q
  · have b1 : (lo == q) = true := beq_iff_eq.2 e1
    rw [if_pos (.inr e1), decide_eq_true (.inr (.inl e1))]
    clear e1 hq ht
    go_enter Try.func100, Try.ntmps100
    go_wp2_with fail
    refine (iTurned _ _ (by omega) (by omega)).mono ?_
    rw [HQ.out]
    rintro e w2 ⟨rfl, rfl⟩
    go_wp2
    go_ret2
    exact ⟨rfl, rfl⟩
  have b1 : (lo == q) = false := beq_eq_false_iff_ne.2 e1
  by_cases e2 : lo = 0
  · have b2 : (lo == 0) = true := beq_iff_eq.2 e2
    rw [if_pos (.inl e2), decide_eq_true (.inl e2)]
    clear e1 hq ht e2
    go_enter Try.func100, Try.ntmps100
    go_wp2_with fail
    refine (iTurned _ _ (by omega) (by omega)).mono ?_
    rw [HQ.out]
    rintro e w2 ⟨rfl, rfl⟩
    go_wp2
    go_ret2
    exact ⟨rfl, rfl⟩
  have b2 : (lo == 0) = false := beq_eq_false_iff_ne.2 e2
  rw [if_neg (fun e => by rcases e with e | e; exact e2 e; exact e1 e)]
  by_cases e3 : lo = hi
  · have b3 : (lo == hi) = true := beq_iff_eq.2 e3
    rw [if_pos (.inr e3), decide_eq_true (.inr (.inr (.inr e3)))]
    clear e1 hq ht e2 e3
    go_enter Try.func100, Try.ntmps100
    go_wp2_with fail
    refine (iTurned _ _ (by omega) (by omega)).mono ?_
    rw [HQ.out]
    rintro e w2 ⟨rfl, rfl⟩
    go_wp2
    go_ret2
    exact ⟨rfl, rfl⟩
  have b3 : (lo == hi) = false := beq_eq_false_iff_ne.2 e3
  by_cases e4 : lo = 1
  · have b4 : (lo == 1) = true := beq_iff_eq.2 e4
    rw [if_pos (.inl e4), decide_eq_true (.inr (.inr (.inl e4)))]
    clear e1 hq ht e2 e3 e4
    go_enter Try.func100, Try.ntmps100
    go_wp2_with fail
    refine (iTurned _ _ (by omega) (by omega)).mono ?_
    rw [HQ.out]
    rintro e w2 ⟨rfl, rfl⟩
    go_wp2
    go_ret2
    exact ⟨rfl, rfl⟩
  have b4 : (lo == 1) = false := beq_eq_false_iff_ne.2 e4
  rw [if_neg (fun e => by rcases e with e | e; exact e4 e; exact e3 e), decide_eq_false (fun e => by rcases e with e | e | e | e; exact e2 e; exact e1 e; exact e4 e; exact e3 e)]
  clear e1 hq ht e2 e3 e4
  go_enter Try.func100, Try.ntmps100
  go_wp2_with fail
  refine (iTurned _ _ (by omega) (by omega)).mono ?_
  rw [HQ.out]
  rintro e w2 ⟨rfl, rfl⟩
  go_wp2
  go_ret2
  exact ⟨rfl, rfl⟩

/-- What and does to a net. -/
def AndPost (w : World) (F : Nat → Prop) (p : Nat) (ins : Int) (r : List An × Int) (e : Ending) (w' : World) : Prop :=
  e = .returned (.int .i64 r.2) ∧ Ne w' F p ins r.1 ∧ Kept (fun k => ¬ F k) w w'
theorem keptF_drewN {F : Nat → Prop} {w : World} (n : Nat) : Kept (fun k => ¬ F k) w (w.drewN n) := (Kept.refl _ _).drewN _
theorem Ne.drewN {w : World} {F : Nat → Prop} {p : Nat} {ins : Int} {l : List An} (h : Ne w F p ins l) (n : Nat) : Ne (w.drewN n) F p ins l := by
  obtain ⟨v, bm, h⟩ := h; exact ⟨v, bm, h.kept (S := fun _ => False) ((Kept.refl _ _).drewN _) (fun _ e => e.elim)⟩

set_option maxRecDepth 100000 in
set_option maxHeartbeats 4000000 in
theorem iAnd {w : World} {F : Nat → Prop} {p : Nat} {ins : Int} {l : List An} (h : Ne w F p ins l) (h0 : 0 ≤ ins) (h1 : ins ≤ 12) (hl : l.length ≤ 3000) (a b : Int) :
    Calls Try.prog 75 #[.pointer (some ⟨p, 0, none⟩), .int .i64 a, .int .i64 b] w (AndPost w F p ins (andW ins l a b)) := by
  obtain ⟨v, bm, hn⟩ := h
  have H : Hid (∀ n, Nt (w.drewN n) F p ins l v bm) := fun n => hn.kept (S := fun _ => False) ((Kept.refl _ _).drewN _) (fun _ e => e.elim)
  have HN : Hid (Nt w F p ins l v bm) := hn
  clear hn
  cases hwa : wireB ins l a with
  | false =>
    have HR : Hid (andW ins l a b = (l, -1)) := by show _ = _; unfold andW; rw [if_neg (fun e => by rw [hwa] at e; exact absurd e.1 (by simp))]
    go_enter Try.func75, Try.ntmps75
    go_wp2_with fail
    refine (iHasWire HN.out h0 h1 hl a).mono ?_
    rw [hwa]
    rintro e w2 ⟨rfl, m, rfl⟩
    go_wp2
    go_ret
    rw [HR.out]
    exact ⟨rfl, ⟨v, bm, H.out m⟩, keptF_drewN m⟩
  | true =>
    cases hwb : wireB ins l b with
    | false =>
      have HR : Hid (andW ins l a b = (l, -1)) := by show _ = _; unfold andW; rw [if_neg (fun e => by rw [hwb] at e; exact absurd e.2 (by simp))]
      go_enter Try.func75, Try.ntmps75
      go_wp2_with fail
      refine (iHasWire HN.out h0 h1 hl a).mono ?_
      rw [hwa]
      rintro e w2 ⟨rfl, m, rfl⟩
      go_wp2_with fail
      refine (iHasWire (H.out m) h0 h1 hl b).mono ?_
      rw [hwb]
      rintro e w3 ⟨rfl, m2, rfl⟩
      rw [World.drewN_drewN]
      go_wp2
      go_ret
      rw [HR.out]
      exact ⟨rfl, ⟨v, bm, H.out _⟩, keptF_drewN _⟩
    | true =>
      have ra := of_decide_eq_true hwa
      have rb := of_decide_eq_true hwb
      rcases Int.lt_trichotomy a b with hab | hab | hab
      · skip
        have HR : Hid (andW ins l a b = andL ins l a b) := by
          show _ = _
          unfold andW
          rw [if_pos ⟨hwa, hwb⟩, if_pos (by omega)]
        have HWL : Hid (wireB ins l a = true ∧ wireB ins l b = true) := ⟨hwa, hwb⟩
        go_enter Try.func75, Try.ntmps75
        go_wp2_with fail
        refine (iHasWire HN.out h0 h1 hl a).mono ?_
        rw [hwa]
        rintro e w2 ⟨rfl, m, rfl⟩
        go_wp2_with fail
        refine (iHasWire (H.out m) h0 h1 hl b).mono ?_
        rw [hwb]
        rintro e w3 ⟨rfl, m2, rfl⟩
        rw [World.drewN_drewN]
        generalize m + m2 = m3
        clear hwa hwb
        go_wp2_with fail
        refine (iWithout a b _ (by omega) (by omega) (by omega)).mono ?_
        by_cases hz : a = 0 ∨ a = turnW b
        · rw [if_pos hz, decide_eq_true (by rcases hz with e | e; exact .inl e; exact .inr (.inl e))]
          have HR2 : Hid (andL ins l a b = (l, 0)) := by show _ = _; unfold andL; rw [if_pos hz]
          clear hz
          rintro e w2 ⟨rfl, hw2⟩
          have hw2' := hw2.symm
          clear hw2
          subst hw2'
          go_wp2
          go_ret
          rw [HR.out, HR2.out]
          exact ⟨rfl, ⟨v, bm, H.out m3⟩, keptF_drewN m3⟩
        rw [if_neg hz]
        by_cases hy : a = 1 ∨ a = b
        · rw [if_pos hy, decide_eq_true (.inr (.inr hy))]
          have HR2 : Hid (andL ins l a b = (l, b)) := by show _ = _; unfold andL; rw [if_neg hz, if_pos hy]
          clear hz hy
          rintro e w2 ⟨rfl, hw2⟩
          have hw2' := hw2.symm
          clear hw2
          subst hw2'
          go_wp2
          go_ret
          rw [HR.out, HR2.out]
          exact ⟨rfl, ⟨v, bm, H.out m3⟩, keptF_drewN m3⟩
        rw [if_neg hy, decide_eq_false (fun e => by rcases e with e | e | e; exact hz (.inl e); exact hz (.inr e); exact hy e)]
        rintro e w2 ⟨rfl, hw2⟩
        have hw2' := hw2.symm
        clear hw2
        subst hw2'
        have HZY : Hid (¬ (a = 0 ∨ a = turnW b) ∧ ¬ (a = 1 ∨ a = b)) := ⟨hz, hy⟩
        clear hz hy
        obtain ⟨Z, hZ⟩ : ∃ Z, Z = w.drewN m3 := ⟨_, rfl⟩
        have HKZ : Hid (Kept (fun k => ¬ F k) w Z) := by rw [hZ]; exact keptF_drewN m3
        have HNZ : Hid (Nt Z F p ins l v bm) := by rw [hZ]; exact H.out m3
        rw [← hZ]
        clear hZ
        go_upto_region 8 with fail
        obtain ⟨w1, hw1⟩ : ∃ w1 : World, w1 = Z.alloc (.cells #[.int .i64 a, .int .i64 b] 112) := ⟨_, rfl⟩
        obtain ⟨bn, hbn⟩ : ∃ bn : Nat, bn = Z.heap.size := ⟨_, rfl⟩
        have HB1 : Hid (Below Z.heap.size Z w1) := by rw [hw1]; exact (Below.refl _ _).alloc (Nat.le_refl _) _
        have q0 : w1.cell? ⟨bn, 0, none⟩ = some (.int .i64 a) := by rw [hw1, hbn, World.cell?_alloc_new]; rfl
        have q1 : w1.cell? ⟨bn, 1, none⟩ = some (.int .i64 b) := by rw [hw1, hbn, World.cell?_alloc_new]; rfl
        have hbl : bn < w1.heap.size := by rw [hw1, hbn]; simp
        have H1 : Hid (∀ n, Nt (w1.drewN n) F p ins l v bm) := fun n => (HNZ.out.below HB1.out).kept (S := fun _ => False) ((Kept.refl _ _).drewN _) (fun _ e => e.elim)
        have HK1 : Hid (∀ n, Kept (fun k => ¬ F k) w (w1.drewN n)) := fun n => HKZ.out.trans ((keptF_below HB1.out).trans (keptF_drewN n))
        rw [← hw1, ← hbn]
        clear hw1 hbn
        obtain ⟨av, cv, rfl, hA, hcv⟩ := HNZ.out.slice
        clear hA
        have hN0 := H1.out 0
        have c1 : w1.cell? ⟨p, 1, none⟩ = some (.slice av l.length cv) := hN0.c1
        have c2 : w1.cell? ⟨p, 2, none⟩ = some (.map (some bm)) := hN0.c2
        have hpl : p < w1.heap.size := hN0.lt
        clear hN0
        have hsm : Sm ⟨a, b⟩ := ⟨by simp only; omega, by simp only; omega, by simp only; omega, by simp only; omega⟩
        have hlook : ∀ n, (Instr.lookup 79 (.map (some bm)) (.agg #[.int .i64 a, .int .i64 b]) true).run Try.prog (w1.drewN n) = .ok (.tuple #[.int .i64 (lookW ins l ⟨a, b⟩), .bool (posOf l ⟨a, b⟩).isSome]) (w1.drewN n) := fun n => (H1.out n).map.look hsm
        cases hpo : posOf l ⟨a, b⟩ with
        | some i =>
          have HR2 : Hid (andL ins l a b = (l, 2 * (ins + 1 + (i : Int)))) := by show _ = _; unfold andL; rw [if_neg HZY.out.1, if_neg HZY.out.2, hpo]
          have hlw : lookW ins l ⟨a, b⟩ = 2 * (ins + 1 + (i : Int)) := by unfold lookW; rw [hpo]
          rw [hpo, hlw] at hlook
          simp only [Option.isSome_some] at hlook
          clear hpo hlw
          go_wp2
          go_quiet (fail)
          go_wp2
          go_ret
          rw [HR.out, HR2.out]
          exact ⟨rfl, ⟨_, bm, H1.out _⟩, HK1.out _⟩
        | none =>
          have HPO : Hid (posOf l ⟨a, b⟩ = none) := hpo
          have hlw : lookW ins l ⟨a, b⟩ = 0 := by unfold lookW; rw [hpo]
          rw [hpo, hlw] at hlook
          simp only [Option.isSome_none] at hlook
          clear hpo hlw
          by_cases hfull : 3000 ≤ l.length
          · have HR2 : Hid (andL ins l a b = (l, -1)) := by show _ = _; unfold andL; rw [if_neg HZY.out.1, if_neg HZY.out.2, HPO.out]; simp only; rw [if_pos hfull]
            have hq : ((l.length : Int) == 3000) = true := beq_iff_eq.2 (by omega)
            clear hfull
            go_wp2
            go_quiet (fail)
            go_wp2
            go_ret
            rw [HR.out, HR2.out]
            exact ⟨rfl, ⟨_, bm, H1.out _⟩, HK1.out _⟩
          · have HR2 : Hid (andL ins l a b = (l ++ [⟨a, b⟩], 2 * (ins + 1 + (l.length : Int)))) := by show _ = _; unfold andL; rw [if_neg HZY.out.1, if_neg HZY.out.2, HPO.out]; simp only; rw [if_neg hfull]
            have hq : ((l.length : Int) == 3000) = false := beq_eq_false_iff_ne.2 (by omega)
            have HFL : Hid (l.length < 3000) := by show _ < _; omega
            clear hfull
            go_wp2
            go_quiet (fail)
            go_wp2_with fail
            refine (iPut ⟨_, bm, H1.out _⟩ h0 h1 HFL.out ⟨a, b⟩ hsm HPO.out).mono ?_
            rintro e w9 ⟨rfl, hne9, hk9⟩
            have HN9 : Hid (Ne w9 F p ins (l ++ [⟨a, b⟩])) := hne9
            have HK9 : Hid (Kept (fun k => ¬ F k) w w9) := (HK1.out _).trans hk9
            clear hne9 hk9
            go_wp2
            go_ret
            rw [HR.out, HR2.out]
            exact ⟨rfl, HN9.out, HK9.out⟩
      · subst hab
        have HR : Hid (andW ins l a a = andL ins l a a) := by
          show _ = _
          unfold andW
          rw [if_pos ⟨hwa, hwb⟩, if_pos (by omega)]
        have HWL : Hid (wireB ins l a = true ∧ wireB ins l a = true) := ⟨hwa, hwa⟩
        go_enter Try.func75, Try.ntmps75
        go_wp2_with fail
        refine (iHasWire HN.out h0 h1 hl a).mono ?_
        rw [hwa]
        rintro e w2 ⟨rfl, m, rfl⟩
        go_wp2_with fail
        refine (iHasWire (H.out m) h0 h1 hl a).mono ?_
        rw [hwb]
        rintro e w3 ⟨rfl, m2, rfl⟩
        rw [World.drewN_drewN]
        generalize m + m2 = m3
        clear hwa hwb
        go_wp2_with fail
        refine (iWithout a a _ (by omega) (by omega) (by omega)).mono ?_
        by_cases hz : a = 0 ∨ a = turnW a
        · rw [if_pos hz, decide_eq_true (by rcases hz with e | e; exact .inl e; exact .inr (.inl e))]
          have HR2 : Hid (andL ins l a a = (l, 0)) := by show _ = _; unfold andL; rw [if_pos hz]
          clear hz
          rintro e w2 ⟨rfl, hw2⟩
          have hw2' := hw2.symm
          clear hw2
          subst hw2'
          go_wp2
          go_ret
          rw [HR.out, HR2.out]
          exact ⟨rfl, ⟨v, bm, H.out m3⟩, keptF_drewN m3⟩
        rw [if_neg hz]
        by_cases hy : a = 1 ∨ a = a
        · rw [if_pos hy, decide_eq_true (.inr (.inr hy))]
          have HR2 : Hid (andL ins l a a = (l, a)) := by show _ = _; unfold andL; rw [if_neg hz, if_pos hy]
          clear hz hy
          rintro e w2 ⟨rfl, hw2⟩
          have hw2' := hw2.symm
          clear hw2
          subst hw2'
          go_wp2
          go_ret
          rw [HR.out, HR2.out]
          exact ⟨rfl, ⟨v, bm, H.out m3⟩, keptF_drewN m3⟩
        exact absurd (.inr rfl) hy
      · skip
        have HR : Hid (andW ins l a b = andL ins l b a) := by
          show _ = _
          unfold andW
          rw [if_pos ⟨hwa, hwb⟩, if_neg (by omega)]
        have HWL : Hid (wireB ins l b = true ∧ wireB ins l a = true) := ⟨hwb, hwa⟩
        go_enter Try.func75, Try.ntmps75
        go_wp2_with fail
        refine (iHasWire HN.out h0 h1 hl a).mono ?_
        rw [hwa]
        rintro e w2 ⟨rfl, m, rfl⟩
        go_wp2_with fail
        refine (iHasWire (H.out m) h0 h1 hl b).mono ?_
        rw [hwb]
        rintro e w3 ⟨rfl, m2, rfl⟩
        rw [World.drewN_drewN]
        generalize m + m2 = m3
        clear hwa hwb
        go_wp2_with fail
        refine (iWithout b a _ (by omega) (by omega) (by omega)).mono ?_
        by_cases hz : b = 0 ∨ b = turnW a
        · rw [if_pos hz, decide_eq_true (by rcases hz with e | e; exact .inl e; exact .inr (.inl e))]
          have HR2 : Hid (andL ins l b a = (l, 0)) := by show _ = _; unfold andL; rw [if_pos hz]
          clear hz
          rintro e w2 ⟨rfl, hw2⟩
          have hw2' := hw2.symm
          clear hw2
          subst hw2'
          go_wp2
          go_ret
          rw [HR.out, HR2.out]
          exact ⟨rfl, ⟨v, bm, H.out m3⟩, keptF_drewN m3⟩
        rw [if_neg hz]
        by_cases hy : b = 1 ∨ b = a
        · rw [if_pos hy, decide_eq_true (.inr (.inr hy))]
          have HR2 : Hid (andL ins l b a = (l, a)) := by show _ = _; unfold andL; rw [if_neg hz, if_pos hy]
          clear hz hy
          rintro e w2 ⟨rfl, hw2⟩
          have hw2' := hw2.symm
          clear hw2
          subst hw2'
          go_wp2
          go_ret
          rw [HR.out, HR2.out]
          exact ⟨rfl, ⟨v, bm, H.out m3⟩, keptF_drewN m3⟩
        rw [if_neg hy, decide_eq_false (fun e => by rcases e with e | e | e; exact hz (.inl e); exact hz (.inr e); exact hy e)]
        rintro e w2 ⟨rfl, hw2⟩
        have hw2' := hw2.symm
        clear hw2
        subst hw2'
        have HZY : Hid (¬ (b = 0 ∨ b = turnW a) ∧ ¬ (b = 1 ∨ b = a)) := ⟨hz, hy⟩
        clear hz hy
        obtain ⟨Z, hZ⟩ : ∃ Z, Z = w.drewN m3 := ⟨_, rfl⟩
        have HKZ : Hid (Kept (fun k => ¬ F k) w Z) := by rw [hZ]; exact keptF_drewN m3
        have HNZ : Hid (Nt Z F p ins l v bm) := by rw [hZ]; exact H.out m3
        rw [← hZ]
        clear hZ
        go_upto_region 8 with fail
        obtain ⟨w1, hw1⟩ : ∃ w1 : World, w1 = Z.alloc (.cells #[.int .i64 b, .int .i64 a] 112) := ⟨_, rfl⟩
        obtain ⟨bn, hbn⟩ : ∃ bn : Nat, bn = Z.heap.size := ⟨_, rfl⟩
        have HB1 : Hid (Below Z.heap.size Z w1) := by rw [hw1]; exact (Below.refl _ _).alloc (Nat.le_refl _) _
        have q0 : w1.cell? ⟨bn, 0, none⟩ = some (.int .i64 b) := by rw [hw1, hbn, World.cell?_alloc_new]; rfl
        have q1 : w1.cell? ⟨bn, 1, none⟩ = some (.int .i64 a) := by rw [hw1, hbn, World.cell?_alloc_new]; rfl
        have hbl : bn < w1.heap.size := by rw [hw1, hbn]; simp
        have H1 : Hid (∀ n, Nt (w1.drewN n) F p ins l v bm) := fun n => (HNZ.out.below HB1.out).kept (S := fun _ => False) ((Kept.refl _ _).drewN _) (fun _ e => e.elim)
        have HK1 : Hid (∀ n, Kept (fun k => ¬ F k) w (w1.drewN n)) := fun n => HKZ.out.trans ((keptF_below HB1.out).trans (keptF_drewN n))
        rw [← hw1, ← hbn]
        clear hw1 hbn
        obtain ⟨av, cv, rfl, hA, hcv⟩ := HNZ.out.slice
        clear hA
        have hN0 := H1.out 0
        have c1 : w1.cell? ⟨p, 1, none⟩ = some (.slice av l.length cv) := hN0.c1
        have c2 : w1.cell? ⟨p, 2, none⟩ = some (.map (some bm)) := hN0.c2
        have hpl : p < w1.heap.size := hN0.lt
        clear hN0
        have hsm : Sm ⟨b, a⟩ := ⟨by simp only; omega, by simp only; omega, by simp only; omega, by simp only; omega⟩
        have hlook : ∀ n, (Instr.lookup 79 (.map (some bm)) (.agg #[.int .i64 b, .int .i64 a]) true).run Try.prog (w1.drewN n) = .ok (.tuple #[.int .i64 (lookW ins l ⟨b, a⟩), .bool (posOf l ⟨b, a⟩).isSome]) (w1.drewN n) := fun n => (H1.out n).map.look hsm
        cases hpo : posOf l ⟨b, a⟩ with
        | some i =>
          have HR2 : Hid (andL ins l b a = (l, 2 * (ins + 1 + (i : Int)))) := by show _ = _; unfold andL; rw [if_neg HZY.out.1, if_neg HZY.out.2, hpo]
          have hlw : lookW ins l ⟨b, a⟩ = 2 * (ins + 1 + (i : Int)) := by unfold lookW; rw [hpo]
          rw [hpo, hlw] at hlook
          simp only [Option.isSome_some] at hlook
          clear hpo hlw
          go_wp2
          go_quiet (fail)
          go_wp2
          go_ret
          rw [HR.out, HR2.out]
          exact ⟨rfl, ⟨_, bm, H1.out _⟩, HK1.out _⟩
        | none =>
          have HPO : Hid (posOf l ⟨b, a⟩ = none) := hpo
          have hlw : lookW ins l ⟨b, a⟩ = 0 := by unfold lookW; rw [hpo]
          rw [hpo, hlw] at hlook
          simp only [Option.isSome_none] at hlook
          clear hpo hlw
          by_cases hfull : 3000 ≤ l.length
          · have HR2 : Hid (andL ins l b a = (l, -1)) := by show _ = _; unfold andL; rw [if_neg HZY.out.1, if_neg HZY.out.2, HPO.out]; simp only; rw [if_pos hfull]
            have hq : ((l.length : Int) == 3000) = true := beq_iff_eq.2 (by omega)
            clear hfull
            go_wp2
            go_quiet (fail)
            go_wp2
            go_ret
            rw [HR.out, HR2.out]
            exact ⟨rfl, ⟨_, bm, H1.out _⟩, HK1.out _⟩
          · have HR2 : Hid (andL ins l b a = (l ++ [⟨b, a⟩], 2 * (ins + 1 + (l.length : Int)))) := by show _ = _; unfold andL; rw [if_neg HZY.out.1, if_neg HZY.out.2, HPO.out]; simp only; rw [if_neg hfull]
            have hq : ((l.length : Int) == 3000) = false := beq_eq_false_iff_ne.2 (by omega)
            have HFL : Hid (l.length < 3000) := by show _ < _; omega
            clear hfull
            go_wp2
            go_quiet (fail)
            go_wp2_with fail
            refine (iPut ⟨_, bm, H1.out _⟩ h0 h1 HFL.out ⟨b, a⟩ hsm HPO.out).mono ?_
            rintro e w9 ⟨rfl, hne9, hk9⟩
            have HN9 : Hid (Ne w9 F p ins (l ++ [⟨b, a⟩])) := hne9
            have HK9 : Hid (Kept (fun k => ¬ F k) w w9) := (HK1.out _).trans hk9
            clear hne9 hk9
            go_wp2
            go_ret
            rw [HR.out, HR2.out]
            exact ⟨rfl, HN9.out, HK9.out⟩

end Go.Proofs.Ytnpfegfjejfaaaa.Gp4
