/- The model's GraphOk. -/
import Derived.Test.YtnpfegfjejfaaaaRows
import Derived.Deep.QuietTactic
import Derived.Test.YtnpfegfjejfaaaaGr0
namespace Go.Proofs.Ytnpfegfjejfaaaa.Gs1
open Go.RowKit
open Nd0 Qb0 Gr0
set_option linter.unusedVariables false

theorem sIn (x a b : Int) (w : World) :
    Calls Try.prog 50 #[.int .i64 x, .int .i64 a, .int .i64 b] w fun e w' => e = .returned (.bool (decide (a ≤ x ∧ x ≤ b))) ∧ w' = w := by
  by_cases h1 : a ≤ x <;> by_cases h2 : x ≤ b
  all_goals
    go_enter Try.func50, Try.ntmps50
    go_wp2
    go_ret
    exact ⟨congrArg (fun b => Ending.returned (Value.bool b)) (by simp <;> omega), rfl⟩

theorem sInT {x a b : Int} (w : World) (h : a ≤ x ∧ x ≤ b) :
    Calls Try.prog 50 #[.int .i64 x, .int .i64 a, .int .i64 b] w fun e w' => e = .returned (.bool true) ∧ w' = w := by
  have := sIn x a b w
  rwa [decide_eq_true h] at this
theorem sInF {x a b : Int} (w : World) (h : ¬ (a ≤ x ∧ x ≤ b)) :
    Calls Try.prog 50 #[.int .i64 x, .int .i64 a, .int .i64 b] w fun e w' => e = .returned (.bool false) ∧ w' = w := by
  have := sIn x a b w
  rwa [decide_eq_false h] at this
theorem take_of {ins : Int} {l : List An} {i : Nat} (hi : i < l.length) (h1 : 2 ≤ (nth l i).a) (h2 : (nth l i).a < (nth l i).b) (h3 : (nth l i).b / 2 ≤ ins + i) (h4 : (nth l i).b / 2 ≠ (nth l i).a / 2) (h5 : ∀ k, k < i → nth l k ≠ nth l i) : takeB ins (l.take i) (nth l i) = true := by
  unfold takeB
  have hl : (l.take i).length = i := by rw [List.length_take]; omega
  rw [Bool.and_eq_true]
  refine ⟨decide_eq_true ⟨h1, by omega, by rw [hl]; exact h3⟩, ?_⟩
  rw [pos_is_none (fun k hk => by rw [hl] at hk; rw [nth_take hk]; exact h5 k hk)]
  rfl
theorem take_not {ins : Int} {l : List An} {i : Nat} (hi : i < l.length) (h : ¬ (2 ≤ (nth l i).a ∧ (nth l i).a < (nth l i).b ∧ (nth l i).b / 2 ≤ ins + i ∧ (nth l i).b / 2 ≠ (nth l i).a / 2)) : takeB ins (l.take i) (nth l i) = false := by
  unfold takeB
  have hl : (l.take i).length = i := by rw [List.length_take]; omega
  rw [decide_eq_false (fun e => h ⟨e.1, by omega, by have := e.2.2; rw [hl] at this; exact this, by omega⟩)]
  rfl
theorem take_twice {ins : Int} {l : List An} {i k : Nat} (hi : i < l.length) (hk : k < i) (h : nth l k = nth l i) : takeB ins (l.take i) (nth l i) = false := by
  cases e : takeB ins (l.take i) (nth l i) with
  | false => rfl
  | true =>
    obtain ⟨_, _, _, h4⟩ := take_facts e
    exact absurd (by rw [nth_take hk]; exact h) (pos_none h4 k (by rw [List.length_take]; omega))

set_option maxRecDepth 100000 in
set_option maxHeartbeats 4000000 in
theorem sGraphOk (w : World) (ins : Int) (a : Option Addr) (c : Nat) (l : List An) (h : Ans w a l) (hR : Rg l) :
    Calls Try.prog 25 #[.agg #[.int .i64 ins, .slice a l.length c]] w fun e w' => e = .returned (.bool (gokB ins l)) ∧ Below w.heap.size w w' := by
  have H : Hid (Ans w a l) := h
  have hm := h.1
  have HR : Hid (Rg l) := hR
  unfold maxLen at hm
  clear h hR
  by_cases hi : 0 ≤ ins ∧ ins ≤ 12
  rotate_left
  · have hg : gokB ins l = false := gok_no (by omega)
    go_enter Try.func25, Try.ntmps25
    go_wp2_with fail
    refine (sInF _ hi).mono ?_
    rintro e w' ⟨rfl, rfl⟩
    go_wp2
    go_ret
    exact ⟨by rw [hg]; rfl, (Below.refl _ _).alloc (Nat.le_refl _) _⟩
  obtain ⟨h0, h1⟩ := hi
  by_cases hl : 3000 < l.length
  · have hg : gokB ins l = false := gok_no (by omega)
    have hlz : (3000 : Int) < (l.length : Int) := by omega
    go_enter Try.func25, Try.ntmps25
    go_wp2_with fail
    refine (sInT _ ⟨h0, h1⟩).mono ?_
    rintro e w' ⟨rfl, rfl⟩
    go_wp2
    go_ret
    exact ⟨by rw [hg]; rfl, (Below.refl _ _).alloc (Nat.le_refl _) _⟩
  have hlz : ¬ (3000 : Int) < (l.length : Int) := by omega
  obtain ⟨W, hW⟩ : ∃ W, W = w.alloc (.cells #[.int .i64 ins, .slice a l.length c] 29) := ⟨_, rfl⟩
  have HWB : Hid (Below w.heap.size w W) := by rw [hW]; exact (Below.refl _ _).alloc (Nat.le_refl _) _
  obtain ⟨bg, hbg⟩ : ∃ bg, bg = w.heap.size := ⟨_, rfl⟩
  have C0 : Hid (W.cell? ⟨bg, 0, none⟩ = some (.int .i64 ins)) := by show _ = _; rw [hW, hbg, World.cell?_alloc_new]; rfl
  have C1 : Hid (W.cell? ⟨bg, 1, none⟩ = some (.slice a l.length c)) := by show _ = _; rw [hW, hbg, World.cell?_alloc_new]; rfl
  have hWs : bg < W.heap.size := by rw [hW, hbg]; simp
  have HA : Hid (Ans W a l) := H.out.below HWB.out
  have HW : Hid (W = w.alloc (.cells #[.int .i64 ins, .slice a l.length c] 29)) := hW
  have HBG : Hid (bg = w.heap.size) := hbg
  clear hW hbg
  go_enter Try.func25, Try.ntmps25
  go_wp2_with fail
  refine (sInT _ ⟨h0, h1⟩).mono ?_
  rintro e w' ⟨rfl, hw'⟩
  rw [← HW.out] at hw'
  subst hw'
  rw [← HBG.out]
  have c1 : w'.cell? ⟨bg, 1, none⟩ = some (.slice a l.length c) := C1.out
  go_wp2
  clear c1
  go_loopw [3] (fun i wr => ∃ k : Nat, k ≤ l.length ∧ i = .int .i64 k ∧ (∀ j, j < k → takeB ins (l.take j) (nth l j) = true) ∧ Below w'.heap.size w' wr) (fun i _ => l.length - (intOf i).toNat)
  case atStart => exact ⟨0, Nat.zero_le _, rfl, fun j hj => by omega, Below.refl _ _⟩
  case round =>
    obtain ⟨k, hk, rfl, hok, hbw⟩ := hrel
    have HO : Hid (∀ j, j < k → takeB ins (l.take j) (nth l j) = true) := hok
    have HBW : Hid (Below w'.heap.size w' wr) := hbw
    have c0 : wr.cell? ⟨bg, 0, none⟩ = some (.int .i64 ins) := by rw [hbw.cell hWs]; exact C0.out
    have c1 : wr.cell? ⟨bg, 1, none⟩ = some (.slice a l.length c) := by rw [hbw.cell hWs]; exact C1.out
    have hbl : bg < wr.heap.size := Nat.lt_of_lt_of_le hWs hbw.size
    clear hok hbw
    by_cases hlt : k < l.length
    · have hkz : (k : Int) < (l.length : Int) := by omega
      have HAr := HA.out.below HBW.out
      rcases HAr.2 with e | ⟨xb, xo, rfl, hc⟩
      · omega
      obtain ⟨p0, p1⟩ := hc k hlt
      have hx : xb < wr.heap.size := (hc k hlt).lt
      have HC : Hid (∀ i (h : i < l.length), AnAt wr xb (xo + i * 2) l[i]) := hc
      rw [nth_get hlt] at p0 p1
      clear hc HAr
      obtain ⟨xx, hxx⟩ : ∃ xx, xx = nth l k := ⟨_, rfl⟩
      have HXX : Hid (xx = nth l k) := hxx
      rw [← hxx] at p0 p1
      clear hxx
      have hrn : Rn xx := by rw [HXX.out]; exact HR.out k hlt
      obtain ⟨xa, xv⟩ := xx
      obtain ⟨rn0, rn1, rn2, rn3⟩ := hrn
      simp only at p0 p1 rn0 rn1 rn2 rn3
      go_wp2
      go_quiet (fail)
      have HBQ : Hid (Below w'.heap.size w' (wr.drewN nq)) := ⟨HBW.out.os, HBW.out.tape, HBW.out.output, HBW.out.size, HBW.out.block⟩
      have HC2 : Hid (∀ i (h : i < l.length), AnAt (wr.drewN nq) xb (xo + i * 2) l[i]) := fun i h => by obtain ⟨x0, x1⟩ := HC.out i h; exact ⟨x0, x1⟩
      have hbl2 : bg < (wr.drewN nq).heap.size := hbl
      have hx2 : xb < (wr.drewN nq).heap.size := hx
      have d0 : (wr.drewN nq).cell? ⟨bg, 0, none⟩ = some (.int .i64 ins) := c0
      have d1 : (wr.drewN nq).cell? ⟨bg, 1, none⟩ = some (.slice (some ⟨xb, xo, none⟩) l.length c) := c1
      clear c0 c1 p0 p1 hbl hx
      generalize (wr.drewN nq) = W2 at *
      by_cases hbad : 2 ≤ xa ∧ xa < xv ∧ xv / 2 ≤ ins + k ∧ xv / 2 ≠ xa / 2
      rotate_left
      · have hg : gokB ins l = false := by rw [gok_of h0 h1 (by omega)]; exact ok_stop hlt (take_not hlt (by rw [← HXX.out]; exact hbad))
        have HG : Hid (gokB ins l = false) := hg
        clear hg
        by_cases g1 : xa < 2
        · go_wp2
          go_ret
          exact ⟨by rw [HG.out]; rfl, HWB.out.trans (HBQ.out.mono HWB.out.size)⟩
        by_cases g2 : xv ≤ xa
        · go_wp2
          go_ret
          exact ⟨by rw [HG.out]; rfl, HWB.out.trans (HBQ.out.mono HWB.out.size)⟩
        have q1 : xv.tdiv 2 = xv / 2 := Int.tdiv_eq_ediv_of_nonneg (by omega)
        have q2 : xa.tdiv 2 = xa / 2 := Int.tdiv_eq_ediv_of_nonneg (by omega)
        by_cases g3 : ins + k < xv / 2
        · go_wp2
          go_ret
          exact ⟨by rw [HG.out]; rfl, HWB.out.trans (HBQ.out.mono HWB.out.size)⟩
        have g4 : (xv / 2 == xa / 2) = true := beq_iff_eq.2 (by omega)
        have g5 : xv / 2 = xa / 2 := by omega
        go_wp2
        go_ret
        exact ⟨by rw [HG.out]; rfl, HWB.out.trans (HBQ.out.mono HWB.out.size)⟩
      have HGD : Hid (2 ≤ xa ∧ xa < xv ∧ xv / 2 ≤ ins + k ∧ xv / 2 ≠ xa / 2) := hbad
      obtain ⟨g1, g2, g3, g4⟩ := hbad
      have q1 : xv.tdiv 2 = xv / 2 := Int.tdiv_eq_ediv_of_nonneg (by omega)
      have q2 : xa.tdiv 2 = xa / 2 := Int.tdiv_eq_ediv_of_nonneg (by omega)
      have g5 : (xv / 2 == xa / 2) = false := beq_eq_false_iff_ne.2 g4
      go_wp2
      clear q1 q2 g1 g2 g3 g4 g5
      go_loopw [6] (fun i wr => ∃ m : Nat, m ≤ k ∧ i = .int .i64 m ∧ (∀ j, j < m → nth l j ≠ nth l k) ∧ Below W2.heap.size W2 wr) (fun i _ => k - (intOf i).toNat)
      case atStart => exact ⟨0, Nat.zero_le _, rfl, fun j hj => by omega, Below.refl _ _⟩
      case round =>
        obtain ⟨m, hm2, rfl, hne, hb3⟩ := hrel
        have HNE : Hid (∀ j, j < m → nth l j ≠ nth l k) := hne
        have HB3 : Hid (Below W2.heap.size W2 wr) := hb3
        have HB4 : Hid (Below w'.heap.size w' wr) := HBQ.out.trans (hb3.mono HBQ.out.size)
        by_cases hmk : m < k
        · have hml : m < l.length := by omega
          have hmz : (m : Int) < (k : Int) := by omega
          have hmlz : (m : Int) < (l.length : Int) := by omega
          obtain ⟨r0, r1⟩ := (HC2.out m hml).below hb3 hx2
          obtain ⟨t0, t1⟩ := (HC2.out k hlt).below hb3 hx2
          rw [nth_get hml] at r0 r1
          rw [nth_get hlt, ← HXX.out] at t0 t1
          have e1 : wr.cell? ⟨bg, 1, none⟩ = some (.slice (some ⟨xb, xo, none⟩) l.length c) := by rw [hb3.cell hbl2]; exact d1
          obtain ⟨yy, hyy⟩ : ∃ yy, yy = nth l m := ⟨_, rfl⟩
          have HYY : Hid (yy = nth l m) := hyy
          rw [← hyy] at r0 r1
          clear hyy hne hb3 d0 d1
          obtain ⟨ya, yv⟩ := yy
          simp only at r0 r1 t0 t1
          go_wp2
          by_cases hab : ya = xa ∧ yv = xv
          · obtain ⟨rfl, rfl⟩ := hab
            have hg : gokB ins l = false := by rw [gok_of h0 h1 (by omega)]; exact ok_stop hlt (take_twice hlt hmk (by rw [← HYY.out, ← HXX.out]))
            have HG : Hid (gokB ins l = false) := hg
            clear hg
            have b1 : (ya == ya) = true := by simp
            have b2 : (yv == yv) = true := by simp
            go_quiet (fail)
            go_wp2
            go_ret
            exact ⟨by rw [HG.out]; rfl, HWB.out.trans (Below.mono ⟨HB4.out.os, HB4.out.tape, HB4.out.output, HB4.out.size, HB4.out.block⟩ HWB.out.size)⟩
          · have HN2 : Hid (∀ j, j < m + 1 → nth l j ≠ nth l k) := fun j hj => by
              by_cases e : j = m
              · subst e; rw [← HYY.out, ← HXX.out]; intro e; cases e; exact hab ⟨rfl, rfl⟩
              · exact HNE.out j (by omega)
            have HB5 : Hid (∀ n, Below W2.heap.size W2 (wr.drewN n)) := fun n => ⟨HB3.out.os, HB3.out.tape, HB3.out.output, HB3.out.size, HB3.out.block⟩
            by_cases hya : ya = xa
            · subst hya
              have b1 : (ya == ya) = true := by simp
              have b2 : (yv == xv) = false := beq_eq_false_iff_ne.2 (fun e => hab ⟨rfl, e⟩)
              go_quiet (fail)
              go_wp2
              go_roundw
              case rel => exact ⟨m + 1, by omega, by go_num, HN2.out, HB5.out _⟩
              case measure => simp [intOf]; omega
            · have b1 : (ya == xa) = false := beq_eq_false_iff_ne.2 hya
              go_quiet (fail)
              go_wp2
              go_roundw
              case rel => exact ⟨m + 1, by omega, by go_num, HN2.out, HB5.out _⟩
              case measure => simp [intOf]; omega
        · have e : m = k := by omega
          subst e
          clear hne hb3 d0 d1
          have HO2 : Hid (∀ j, j < m + 1 → takeB ins (l.take j) (nth l j) = true) := fun j hj => by
            by_cases e : j = m
            · subst e
              obtain ⟨g1, g2, g3, g4⟩ := HGD.out
              have hX := HXX.out
              exact take_of hlt (by rw [← hX]; exact g1) (by rw [← hX]; exact g2) (by rw [← hX]; exact g3) (by rw [← hX]; exact g4) HNE.out
            · exact HO.out j (by omega)
          go_wp2
          go_roundw
          case rel => exact ⟨m + 1, by omega, by go_num, HO2.out, HB4.out⟩
          case measure => simp [intOf]; omega
    · have e : k = l.length := by omega
      subst e
      go_wp2
      go_ret
      refine ⟨?_, HWB.out.trans (HBW.out.mono HWB.out.size)⟩
      have e : gokB ins l = true := by rw [gok_of h0 h1 (by omega)]; exact ok_all HO.out
      rw [e]; rfl

end Go.Proofs.Ytnpfegfjejfaaaa.Gs1
