/- Small texts of mine, one behind the other. -/
import Derived.Test.YtnpfegfjejfaaaaRows
import Derived.Deep.QuietTactic
import Derived.Deep.CutBlock
import Derived.Deep.CutRange
import Derived.Test.YtnpfegfjejfaaaaGr0
import Derived.Test.YtnpfegfjejfaaaaGr2
import Derived.Test.YtnpfegfjejfaaaaAp1
/- The model's GraphOk. -/
namespace Go.Proofs.Ytnpfegfjejfaaaa.Gs1
open Go.RowKit
open Nd0 Qb0 Gr0
set_option linter.unusedVariables false

theorem sIn (x a b : Int) (w : World) :
    Calls Try.prog 50 #[.int .i64 x, .int .i64 a, .int .i64 b] w fun e w' => e = .returned (.bool (decide (a ≤ x ∧ x ≤ b))) ∧ w' = w := by
  by_cases h1 : a ≤ x <;> by_cases h2 : x ≤ b
  all_goals
    go_enter Try.func50, Try.ntmps50
    go_wp2
    go_ret
    exact ⟨congrArg (fun b => Ending.returned (Value.bool b)) (by simp <;> omega), rfl⟩

theorem sInT {x a b : Int} (w : World) (h : a ≤ x ∧ x ≤ b) :
    Calls Try.prog 50 #[.int .i64 x, .int .i64 a, .int .i64 b] w fun e w' => e = .returned (.bool true) ∧ w' = w := by
  have := sIn x a b w
  rwa [decide_eq_true h] at this
theorem sInF {x a b : Int} (w : World) (h : ¬ (a ≤ x ∧ x ≤ b)) :
    Calls Try.prog 50 #[.int .i64 x, .int .i64 a, .int .i64 b] w fun e w' => e = .returned (.bool false) ∧ w' = w := by
  have := sIn x a b w
  rwa [decide_eq_false h] at this
theorem take_of {ins : Int} {l : List An} {i : Nat} (hi : i < l.length) (h1 : 2 ≤ (nth l i).a) (h2 : (nth l i).a < (nth l i).b) (h3 : (nth l i).b / 2 ≤ ins + i) (h4 : (nth l i).b / 2 ≠ (nth l i).a / 2) (h5 : ∀ k, k < i → nth l k ≠ nth l i) : takeB ins (l.take i) (nth l i) = true := by
  unfold takeB
  have hl : (l.take i).length = i := by rw [List.length_take]; omega
  rw [Bool.and_eq_true]
  refine ⟨decide_eq_true ⟨h1, by omega, by rw [hl]; exact h3⟩, ?_⟩
  rw [pos_is_none (fun k hk => by rw [hl] at hk; rw [nth_take hk]; exact h5 k hk)]
  rfl
theorem take_not {ins : Int} {l : List An} {i : Nat} (hi : i < l.length) (h : ¬ (2 ≤ (nth l i).a ∧ (nth l i).a < (nth l i).b ∧ (nth l i).b / 2 ≤ ins + i ∧ (nth l i).b / 2 ≠ (nth l i).a / 2)) : takeB ins (l.take i) (nth l i) = false := by
  unfold takeB
  have hl : (l.take i).length = i := by rw [List.length_take]; omega
  rw [decide_eq_false (fun e => h ⟨e.1, by omega, by have := e.2.2; rw [hl] at this; exact this, by omega⟩)]
  rfl
theorem take_twice {ins : Int} {l : List An} {i k : Nat} (hi : i < l.length) (hk : k < i) (h : nth l k = nth l i) : takeB ins (l.take i) (nth l i) = false := by
  cases e : takeB ins (l.take i) (nth l i) with
  | false => rfl
  | true =>
    obtain ⟨_, _, _, h4⟩ := take_facts e
    exact absurd (by rw [nth_take hk]; exact h) (pos_none h4 k (by rw [List.length_take]; omega))

set_option maxRecDepth 100000 in
set_option maxHeartbeats 4000000 in
theorem sGraphOk (w : World) (ins : Int) (a : Option Addr) (c : Nat) (l : List An) (h : Ans w a l) (hR : Rg l) :
    Calls Try.prog 25 #[.agg #[.int .i64 ins, .slice a l.length c]] w fun e w' => e = .returned (.bool (gokB ins l)) ∧ Below w.heap.size w w' := by
  have H : Hid (Ans w a l) := h
  have hm := h.1
  have HR : Hid (Rg l) := hR
  unfold maxLen at hm
  clear h hR
  by_cases hi : 0 ≤ ins ∧ ins ≤ 12
  rotate_left
  · have hg : gokB ins l = false := gok_no (by omega)
    go_enter Try.func25, Try.ntmps25
    go_wp2_with fail
    refine (sInF _ hi).mono ?_
    rintro e w' ⟨rfl, rfl⟩
    go_wp2
    go_ret
    exact ⟨by rw [hg]; rfl, (Below.refl _ _).alloc (Nat.le_refl _) _⟩
  obtain ⟨h0, h1⟩ := hi
  by_cases hl : 3000 < l.length
  · have hg : gokB ins l = false := gok_no (by omega)
    have hlz : (3000 : Int) < (l.length : Int) := by omega
    go_enter Try.func25, Try.ntmps25
    go_wp2_with fail
    refine (sInT _ ⟨h0, h1⟩).mono ?_
    rintro e w' ⟨rfl, rfl⟩
    go_wp2
    go_ret
    exact ⟨by rw [hg]; rfl, (Below.refl _ _).alloc (Nat.le_refl _) _⟩
  have hlz : ¬ (3000 : Int) < (l.length : Int) := by omega
  obtain ⟨W, hW⟩ : ∃ W, W = w.alloc (.cells #[.int .i64 ins, .slice a l.length c] 29) := ⟨_, rfl⟩
  have HWB : Hid (Below w.heap.size w W) := by rw [hW]; exact (Below.refl _ _).alloc (Nat.le_refl _) _
  obtain ⟨bg, hbg⟩ : ∃ bg, bg = w.heap.size := ⟨_, rfl⟩
  have C0 : Hid (W.cell? ⟨bg, 0, none⟩ = some (.int .i64 ins)) := by show _ = _; rw [hW, hbg, World.cell?_alloc_new]; rfl
  have C1 : Hid (W.cell? ⟨bg, 1, none⟩ = some (.slice a l.length c)) := by show _ = _; rw [hW, hbg, World.cell?_alloc_new]; rfl
  have hWs : bg < W.heap.size := by rw [hW, hbg]; simp
  have HA : Hid (Ans W a l) := H.out.below HWB.out
  have HW : Hid (W = w.alloc (.cells #[.int .i64 ins, .slice a l.length c] 29)) := hW
  have HBG : Hid (bg = w.heap.size) := hbg
  clear hW hbg
  go_enter Try.func25, Try.ntmps25
  go_wp2_with fail
  refine (sInT _ ⟨h0, h1⟩).mono ?_
  rintro e w' ⟨rfl, hw'⟩
  rw [← HW.out] at hw'
  subst hw'
  rw [← HBG.out]
  have c1 : w'.cell? ⟨bg, 1, none⟩ = some (.slice a l.length c) := C1.out
  go_wp2
  clear c1
  go_loopw [3] (fun i wr => ∃ k : Nat, k ≤ l.length ∧ i = .int .i64 k ∧ (∀ j, j < k → takeB ins (l.take j) (nth l j) = true) ∧ Below w'.heap.size w' wr) (fun i _ => l.length - (intOf i).toNat)
  case atStart => exact ⟨0, Nat.zero_le _, rfl, fun j hj => by omega, Below.refl _ _⟩
  case round =>
    obtain ⟨k, hk, rfl, hok, hbw⟩ := hrel
    have HO : Hid (∀ j, j < k → takeB ins (l.take j) (nth l j) = true) := hok
    have HBW : Hid (Below w'.heap.size w' wr) := hbw
    have c0 : wr.cell? ⟨bg, 0, none⟩ = some (.int .i64 ins) := by rw [hbw.cell hWs]; exact C0.out
    have c1 : wr.cell? ⟨bg, 1, none⟩ = some (.slice a l.length c) := by rw [hbw.cell hWs]; exact C1.out
    have hbl : bg < wr.heap.size := Nat.lt_of_lt_of_le hWs hbw.size
    clear hok hbw
    by_cases hlt : k < l.length
    · have hkz : (k : Int) < (l.length : Int) := by omega
      have HAr := HA.out.below HBW.out
      rcases HAr.2 with e | ⟨xb, xo, rfl, hc⟩
      · omega
      obtain ⟨p0, p1⟩ := hc k hlt
      have hx : xb < wr.heap.size := (hc k hlt).lt
      have HC : Hid (∀ i (h : i < l.length), AnAt wr xb (xo + i * 2) l[i]) := hc
      rw [nth_get hlt] at p0 p1
      clear hc HAr
      obtain ⟨xx, hxx⟩ : ∃ xx, xx = nth l k := ⟨_, rfl⟩
      have HXX : Hid (xx = nth l k) := hxx
      rw [← hxx] at p0 p1
      clear hxx
      have hrn : Rn xx := by rw [HXX.out]; exact HR.out k hlt
      obtain ⟨xa, xv⟩ := xx
      obtain ⟨rn0, rn1, rn2, rn3⟩ := hrn
      simp only at p0 p1 rn0 rn1 rn2 rn3
      go_wp2
      go_quiet (fail)
      have HBQ : Hid (Below w'.heap.size w' (wr.drewN nq)) := ⟨HBW.out.os, HBW.out.tape, HBW.out.output, HBW.out.size, HBW.out.block⟩
      have HC2 : Hid (∀ i (h : i < l.length), AnAt (wr.drewN nq) xb (xo + i * 2) l[i]) := fun i h => by obtain ⟨x0, x1⟩ := HC.out i h; exact ⟨x0, x1⟩
      have hbl2 : bg < (wr.drewN nq).heap.size := hbl
      have hx2 : xb < (wr.drewN nq).heap.size := hx
      have d0 : (wr.drewN nq).cell? ⟨bg, 0, none⟩ = some (.int .i64 ins) := c0
      have d1 : (wr.drewN nq).cell? ⟨bg, 1, none⟩ = some (.slice (some ⟨xb, xo, none⟩) l.length c) := c1
      clear c0 c1 p0 p1 hbl hx
      generalize (wr.drewN nq) = W2 at *
      by_cases hbad : 2 ≤ xa ∧ xa < xv ∧ xv / 2 ≤ ins + k ∧ xv / 2 ≠ xa / 2
      rotate_left
      · have hg : gokB ins l = false := by rw [gok_of h0 h1 (by omega)]; exact ok_stop hlt (take_not hlt (by rw [← HXX.out]; exact hbad))
        have HG : Hid (gokB ins l = false) := hg
        clear hg
        by_cases g1 : xa < 2
        · go_wp2
          go_ret
          exact ⟨by rw [HG.out]; rfl, HWB.out.trans (HBQ.out.mono HWB.out.size)⟩
        by_cases g2 : xv ≤ xa
        · go_wp2
          go_ret
          exact ⟨by rw [HG.out]; rfl, HWB.out.trans (HBQ.out.mono HWB.out.size)⟩
        have q1 : xv.tdiv 2 = xv / 2 := Int.tdiv_eq_ediv_of_nonneg (by omega)
        have q2 : xa.tdiv 2 = xa / 2 := Int.tdiv_eq_ediv_of_nonneg (by omega)
        by_cases g3 : ins + k < xv / 2
        · go_wp2
          go_ret
          exact ⟨by rw [HG.out]; rfl, HWB.out.trans (HBQ.out.mono HWB.out.size)⟩
        have g4 : (xv / 2 == xa / 2) = true := beq_iff_eq.2 (by omega)
        have g5 : xv / 2 = xa / 2 := by omega
        go_wp2
        go_ret
        exact ⟨by rw [HG.out]; rfl, HWB.out.trans (HBQ.out.mono HWB.out.size)⟩
      have HGD : Hid (2 ≤ xa ∧ xa < xv ∧ xv / 2 ≤ ins + k ∧ xv / 2 ≠ xa / 2) := hbad
      obtain ⟨g1, g2, g3, g4⟩ := hbad
      have q1 : xv.tdiv 2 = xv / 2 := Int.tdiv_eq_ediv_of_nonneg (by omega)
      have q2 : xa.tdiv 2 = xa / 2 := Int.tdiv_eq_ediv_of_nonneg (by omega)
      have g5 : (xv / 2 == xa / 2) = false := beq_eq_false_iff_ne.2 g4
      go_wp2
      clear q1 q2 g1 g2 g3 g4 g5
      go_loopw [6] (fun i wr => ∃ m : Nat, m ≤ k ∧ i = .int .i64 m ∧ (∀ j, j < m → nth l j ≠ nth l k) ∧ Below W2.heap.size W2 wr) (fun i _ => k - (intOf i).toNat)
      case atStart => exact ⟨0, Nat.zero_le _, rfl, fun j hj => by omega, Below.refl _ _⟩
      case round =>
        obtain ⟨m, hm2, rfl, hne, hb3⟩ := hrel
        have HNE : Hid (∀ j, j < m → nth l j ≠ nth l k) := hne
        have HB3 : Hid (Below W2.heap.size W2 wr) := hb3
        have HB4 : Hid (Below w'.heap.size w' wr) := HBQ.out.trans (hb3.mono HBQ.out.size)
        by_cases hmk : m < k
        · have hml : m < l.length := by omega
          have hmz : (m : Int) < (k : Int) := by omega
          have hmlz : (m : Int) < (l.length : Int) := by omega
          obtain ⟨r0, r1⟩ := (HC2.out m hml).below hb3 hx2
          obtain ⟨t0, t1⟩ := (HC2.out k hlt).below hb3 hx2
          rw [nth_get hml] at r0 r1
          rw [nth_get hlt, ← HXX.out] at t0 t1
          have e1 : wr.cell? ⟨bg, 1, none⟩ = some (.slice (some ⟨xb, xo, none⟩) l.length c) := by rw [hb3.cell hbl2]; exact d1
          obtain ⟨yy, hyy⟩ : ∃ yy, yy = nth l m := ⟨_, rfl⟩
          have HYY : Hid (yy = nth l m) := hyy
          rw [← hyy] at r0 r1
          clear hyy hne hb3 d0 d1
          obtain ⟨ya, yv⟩ := yy
          simp only at r0 r1 t0 t1
          go_wp2
          by_cases hab : ya = xa ∧ yv = xv
          · obtain ⟨rfl, rfl⟩ := hab
            have hg : gokB ins l = false := by rw [gok_of h0 h1 (by omega)]; exact ok_stop hlt (take_twice hlt hmk (by rw [← HYY.out, ← HXX.out]))
            have HG : Hid (gokB ins l = false) := hg
            clear hg
            have b1 : (ya == ya) = true := by simp
            have b2 : (yv == yv) = true := by simp
            go_quiet (fail)
            go_wp2
            go_ret
            exact ⟨by rw [HG.out]; rfl, HWB.out.trans (Below.mono ⟨HB4.out.os, HB4.out.tape, HB4.out.output, HB4.out.size, HB4.out.block⟩ HWB.out.size)⟩
          · have HN2 : Hid (∀ j, j < m + 1 → nth l j ≠ nth l k) := fun j hj => by
              by_cases e : j = m
              · subst e; rw [← HYY.out, ← HXX.out]; intro e; cases e; exact hab ⟨rfl, rfl⟩
              · exact HNE.out j (by omega)
            have HB5 : Hid (∀ n, Below W2.heap.size W2 (wr.drewN n)) := fun n => ⟨HB3.out.os, HB3.out.tape, HB3.out.output, HB3.out.size, HB3.out.block⟩
            by_cases hya : ya = xa
            · subst hya
              have b1 : (ya == ya) = true := by simp
              have b2 : (yv == xv) = false := beq_eq_false_iff_ne.2 (fun e => hab ⟨rfl, e⟩)
              go_quiet (fail)
              go_wp2
              go_roundw
              case rel => exact ⟨m + 1, by omega, by go_num, HN2.out, HB5.out _⟩
              case measure => simp [intOf]; omega
            · have b1 : (ya == xa) = false := beq_eq_false_iff_ne.2 hya
              go_quiet (fail)
              go_wp2
              go_roundw
              case rel => exact ⟨m + 1, by omega, by go_num, HN2.out, HB5.out _⟩
              case measure => simp [intOf]; omega
        · have e : m = k := by omega
          subst e
          clear hne hb3 d0 d1
          have HO2 : Hid (∀ j, j < m + 1 → takeB ins (l.take j) (nth l j) = true) := fun j hj => by
            by_cases e : j = m
            · subst e
              obtain ⟨g1, g2, g3, g4⟩ := HGD.out
              have hX := HXX.out
              exact take_of hlt (by rw [← hX]; exact g1) (by rw [← hX]; exact g2) (by rw [← hX]; exact g3) (by rw [← hX]; exact g4) HNE.out
            · exact HO.out j (by omega)
          go_wp2
          go_roundw
          case rel => exact ⟨m + 1, by omega, by go_num, HO2.out, HB4.out⟩
          case measure => simp [intOf]; omega
    · have e : k = l.length := by omega
      subst e
      go_wp2
      go_ret
      refine ⟨?_, HWB.out.trans (HBW.out.mono HWB.out.size)⟩
      have e : gokB ins l = true := by rw [gok_of h0 h1 (by omega)]; exact ok_all HO.out
      rw [e]; rfl

end Go.Proofs.Ytnpfegfjejfaaaa.Gs1

/- The model's l07Wire, GraphSize. -/
namespace Go.Proofs.Ytnpfegfjejfaaaa.Gs2
open Go.RowKit
open Nd0 Qb0 Gr0 Gr2 Gs1
open Ap1 (Owb app_bool)
set_option linter.unusedVariables false

set_option maxHeartbeats 1000000 in
theorem sWire (w : World) (ins : Int) (a : Option Addr) (l : List An) (c : Nat) (x : Int) (h0 : 0 ≤ ins) (h1 : ins ≤ 12) (hl : l.length ≤ 3000) :
    Calls Try.prog 62 #[.agg #[.int .i64 ins, .slice a l.length c], .int .i64 x] w fun e w' => e = .returned (.bool (wireB ins l x)) ∧ Below w.heap.size w w' := by
  go_enter Try.func62, Try.ntmps62
  go_wp2_with fail
  refine (sIn _ _ _ _).mono ?_
  rintro e w2 ⟨rfl, rfl⟩
  go_wp2
  go_ret
  refine ⟨?_, (Below.refl _ _).alloc (Nat.le_refl _) _⟩
  have e : wireB ins l x = (decide (0 ≤ x) && decide (x ≤ 2 * (ins + (l.length : Int)) + 1)) := by unfold wireB; rw [Bool.decide_and]
  rw [e]; rfl

/-- The flags of the ands alone. -/
def sh (n : Nat) (R : Nat → Bool) (k : Nat) : Bool := R (n + 1 + k)
theorem sh_in {n a : Nat} (R : Nat → Bool) (h : n + 1 ≤ a) : hitR (sh n R) (a - (n + 1)) = sh n (hitR R a) := by
  funext k
  unfold hitR sh
  rw [show decide (k = a - (n + 1)) = decide (n + 1 + k = a) from decide_eq_decide.2 (by omega)]
theorem sh_out {n a : Nat} (R : Nat → Bool) (h : a < n + 1) : sh n (hitR R a) = sh n R := by
  funext k
  show (R (n + 1 + k) || decide (n + 1 + k = a)) = R (n + 1 + k)
  rw [decide_eq_false (by omega : ¬ n + 1 + k = a), Bool.or_false]
theorem row_of {w : World} {B g cap k : Nat} (h : Owb w B (.slice (some ⟨g, 0, none⟩) k cap) (List.replicate k false)) : RowB w g k (fun _ => false) := by
  intro j hj
  have := h.cell' (by simp) j hj
  simpa using this

set_option maxRecDepth 100000 in
set_option maxHeartbeats 8000000 in
theorem sGraphSize (w : World) (ins : Int) (a : Option Addr) (c : Nat) (l : List An) (h : Ans w a l) (hR : Rg l) (x : Int) :
    Calls Try.prog 20 #[.agg #[.int .i64 ins, .slice a l.length c], .int .i64 x] w fun e w' => e = .returned (.int .i64 (sizeG ins l x)) ∧ Below w.heap.size w w' := by
  obtain ⟨W, hW⟩ : ∃ W, W = w.alloc (.cells #[.int .i64 ins, .slice a l.length c] 29) := ⟨_, rfl⟩
  have HWB : Hid (Below w.heap.size w W) := by rw [hW]; exact (Below.refl _ _).alloc (Nat.le_refl _) _
  obtain ⟨bg, hbg⟩ : ∃ bg, bg = w.heap.size := ⟨_, rfl⟩
  have C0 : Hid (W.cell? ⟨bg, 0, none⟩ = some (.int .i64 ins)) := by show _ = _; rw [hW, hbg, World.cell?_alloc_new]; rfl
  have C1 : Hid (W.cell? ⟨bg, 1, none⟩ = some (.slice a l.length c)) := by show _ = _; rw [hW, hbg, World.cell?_alloc_new]; rfl
  have hWs : bg < W.heap.size := by rw [hW, hbg]; simp
  have HA : Hid (Ans W a l) := h.below HWB.out
  have HRg : Hid (Rg l) := hR
  have HW : Hid (W = w.alloc (.cells #[.int .i64 ins, .slice a l.length c] 29)) := hW
  have HBG : Hid (bg = w.heap.size) := hbg
  clear hW hbg h hR
  go_enter Try.func20, Try.ntmps20
  go_upto_region 1 with fail
  rw [← HW.out, ← HBG.out]
  have c0 := C0.out
  have c1 := C1.out
  go_wp2_with fail
  refine (sGraphOk _ ins a c l HA.out HRg.out).mono ?_
  cases hg : gokB ins l with
  | false =>
    rintro e w2 ⟨rfl, hb2⟩
    have HG : Hid (sizeG ins l x = -1) := by show _ = _; unfold sizeG; rw [if_neg (fun e => by rw [hg] at e; exact absurd e.1 (by simp))]
    have HB : Hid (Below w.heap.size w w2) := HWB.out.trans (hb2.mono HWB.out.size)
    clear hg hb2
    go_wp2
    go_ret
    exact ⟨by rw [HG.out]; rfl, HB.out⟩
  | true =>
    rintro e w2 ⟨rfl, hb2⟩
    have HB2 : Hid (Below W.heap.size W w2) := hb2
    have d0 : w2.cell? ⟨bg, 0, none⟩ = some (.int .i64 ins) := by rw [hb2.cell hWs]; exact c0
    have d1 : w2.cell? ⟨bg, 1, none⟩ = some (.slice a l.length c) := by rw [hb2.cell hWs]; exact c1
    obtain ⟨h0, h1, hl, hok⟩ := gok_facts hg
    have HG : Hid (gokB ins l = true) := hg
    have HOK : Hid (okL ins l = true) := hok
    clear hg hb2 c0 c1 hok
    go_wp2_with fail
    refine (sWire _ ins a l c x h0 h1 hl).mono ?_
    cases hwx : wireB ins l x with
    | false =>
      rintro e w3 ⟨rfl, hb3⟩
      have HG2 : Hid (sizeG ins l x = -1) := by show _ = _; unfold sizeG; rw [if_neg (fun e => by rw [hwx] at e; exact absurd e.2 (by simp))]
      have HB3 : Hid (Below W.heap.size W w3) := HB2.out.trans (hb3.mono HB2.out.size)
      clear hwx hb3 d0 d1
      go_wp2
      go_ret
      exact ⟨by rw [HG2.out]; rfl, HWB.out.trans (HB3.out.mono HWB.out.size)⟩
    | true =>
      rintro e w3 ⟨rfl, hb3⟩
      have HS : Hid (sizeG ins l x = (szC ins.toNat l (x.toNat / 2) l.length : Int)) := by show _ = _; unfold sizeG; rw [if_pos ⟨HG.out, hwx⟩]
      have HB3 : Hid (Below W.heap.size W w3) := HB2.out.trans (hb3.mono HB2.out.size)
      have rx := of_decide_eq_true hwx
      have hWs3 : W.heap.size ≤ w3.heap.size := HB3.out.size
      clear hwx hb3 d0 d1
      obtain ⟨n, rfl⟩ : ∃ n : Nat, ins = (n : Int) := ⟨ins.toNat, by omega⟩
      obtain ⟨y, rfl⟩ : ∃ y : Nat, x = (y : Int) := ⟨x.toNat, by omega⟩
      simp only [Int.toNat_natCast] at HS
      go_upto_region 5 with fail
      obtain ⟨W4, hW4⟩ : ∃ W4, W4 = w3.alloc (.cells #[] 4) := ⟨_, rfl⟩
      have HO4 : Hid (Owb W4 W.heap.size (.slice (some ⟨w3.heap.size, 0, none⟩) 0 0) (List.replicate 0 false)) := by rw [hW4]; exact Owb.lit w3 W.heap.size hWs3
      have HB4 : Hid (Below W.heap.size W W4) := by rw [hW4]; exact HB3.out.alloc HB3.out.size _
      rw [← hW4]
      clear hW4
      go_loopw [5, 6] (fun v i wr => ∃ k : Nat, k ≤ l.length ∧ i = .int .i64 k ∧ (∃ g cap : Nat, v = .slice (some ⟨g, 0, none⟩) k cap) ∧ Owb wr W.heap.size v (List.replicate k false) ∧ Below W.heap.size W wr) (fun _ i _ => l.length - (intOf i).toNat)
      case atStart => exact ⟨0, Nat.zero_le _, rfl, ⟨_, 0, rfl⟩, HO4.out, HB4.out⟩
      case round =>
        obtain ⟨k, hk, rfl, hv, hown, hbw⟩ := hrel
        have HV : Hid (∃ g cap : Nat, u5 = .slice (some ⟨g, 0, none⟩) k cap) := hv
        clear hv
        have HO : Hid (Owb wr W.heap.size u5 (List.replicate k false)) := hown
        have HBW : Hid (Below W.heap.size W wr) := hbw
        have c1 : wr.cell? ⟨bg, 1, none⟩ = some (.slice a l.length c) := by rw [hbw.cell hWs]; exact C1.out
        clear hown hbw
        by_cases hlt : k < l.length
        · have hlz : (k : Int) < (l.length : Int) := by omega
          obtain ⟨L, hL⟩ : ∃ L : List Bool, L = List.replicate k false := ⟨_, rfl⟩
          have HLN : Hid (L.length = k) := by rw [hL]; exact List.length_replicate
          have HLL : Hid (L ++ [false] = List.replicate (k + 1) false) := by rw [hL]; exact List.replicate_succ'.symm
          have HOL : Hid (Owb wr W.heap.size u5 L) := by rw [hL]; exact HO.out
          have hbs : W.heap.size ≤ wr.heap.size := HBW.out.size
          clear hL
          go_wp2_with (at_builtin; refine app_bool _ rfl _ _ rfl W.heap.size u5 L false rfl rfl HOL.out hbs (by rw [HLN.out]; omega) ?_; intro g2 cap2 w5 ho5 hk5 hg5; have HO5 : Hid (Owb w5 W.heap.size (.slice (some ⟨g2, 0, none⟩) (L.length + 1) cap2) (L ++ [false])) := ho5; have HB5 : Hid (Below W.heap.size W w5) := HBW.out.trans (hk5.below (fun i hi => (HOL.out.lt i hi).1) hbs); clear ho5 hk5 hg5)
          go_roundw
          case rel => exact ⟨k + 1, by omega, by go_num, ⟨g2, cap2, by rw [HLN.out]⟩, by have h := HO5.out; rw [HLL.out] at h; exact h, HB5.out⟩
          case measure => simp [intOf]; omega
        · have e : k = l.length := by omega
          subst e
          obtain ⟨g, cap, rfl⟩ := HV.out
          have hgl := HO.out.lt g rfl
          have HROW : Hid (RowB wr g l.length (fun _ => false)) := row_of HO.out
          have c0 : wr.cell? ⟨bg, 0, none⟩ = some (.int .i64 (n : Int)) := by rw [HBW.out.cell hWs]; exact C0.out
          have ty : (y : Int).tdiv 2 = ((y / 2 : Nat) : Int) := by rw [Int.tdiv_eq_ediv_of_nonneg (by omega)]; omega
          have hyl : y / 2 < n + 1 + l.length := by omega
          obtain ⟨y2, hy2⟩ : ∃ y2, y2 = y / 2 := ⟨_, rfl⟩
          have ty' : (y : Int) / 2 = (y2 : Int) := by omega
          rw [← hy2] at ty hyl HS
          clear hy2
          by_cases hyn : n < y2
          · have hynz : (n : Int) < (y2 : Int) := by omega
            obtain ⟨q, hq⟩ : ∃ q : Nat, y2 = n + 1 + q := ⟨y2 - n - 1, by omega⟩
            have hqz : (y2 : Int) - (n : Int) - 1 = (q : Int) := by omega
            have hql : q < l.length := by omega
            have hqlz : (q : Int) < (l.length : Int) := by omega
            have HQY : Hid (y2 = n + 1 + q) := hq
            obtain ⟨r1, r2⟩ := HROW.out q hql
            clear hq
            go_upto_region 11 with fail
            have hq := HQY.out
            obtain ⟨W6, hW6⟩ : ∃ W6, W6 = wr.setCell ⟨g, q, none⟩ (.bool true) := ⟨_, rfl⟩
            have HK6 : Hid (Kept (fun k => k = g) wr W6) := by rw [hW6]; exact Kept.setCell (S := fun k => k = g) (Kept.refl _ _) (p := ⟨g, q, none⟩) rfl _
            have HR6 : Hid (RowB W6 g l.length (sh n (szR n l y2 0))) := by
              have h := HROW.out.hit q
              rw [← hW6] at h
              have e : hitR (fun _ => false) q = sh n (szR n l y2 0) := by
                funext k
                unfold hitR sh szR
                rw [Bool.false_or]
                exact decide_eq_decide.2 (by omega)
              rw [e] at h
              exact h
            have HB6 : Hid (Below W.heap.size W W6) := HBW.out.trans (HK6.out.below (fun k e => by omega) HBW.out.size)
            rw [← hW6]
            clear hW6 r1 r2 c0 c1 hqz hq hql hqlz hynz ty ty'
            have c1 : W6.cell? ⟨bg, 1, none⟩ = some (.slice a l.length c) := by rw [HB6.out.cell hWs]; exact C1.out
            go_wp2
            clear c1
            go_loopw [7, 8] (fun q i w9 => ∃ k : Nat, k ≤ l.length ∧ i = .int .i64 ((k : Int) - 1) ∧ q = .int .i64 (szC n l y2 (l.length - k) : Int) ∧ RowB w9 g l.length (sh n (szR n l y2 (l.length - k))) ∧ Below W.heap.size W w9) (fun _ i _ => (intOf i + 1).toNat)
            case atStart => exact ⟨l.length, Nat.le_refl _, rfl, by rw [Nat.sub_self]; rfl, by rw [Nat.sub_self]; exact HR6.out, HB6.out⟩
            case round =>
              obtain ⟨k, hk2, rfl, rfl, hrow, hbw⟩ := hrel
              have HR : Hid (RowB wr g l.length (sh n (szR n l y2 (l.length - k)))) := hrow
              have HBR : Hid (Below W.heap.size W wr) := hbw
              clear hrow hbw
              have hcb : szC n l y2 (l.length - k) ≤ l.length - k := szC_le n l y2 (l.length - k)
              cases k with
              | zero =>
                go_wp2
                go_ret
                refine ⟨?_, HWB.out.trans (HBR.out.mono HWB.out.size)⟩
                rw [HS.out]; rfl
              | succ j =>
                have ej : ((j + 1 : Nat) : Int) - 1 = (j : Int) := by omega
                rw [ej]
                have hjl : j < l.length := by omega
                have hjz : (j : Int) < (l.length : Int) := by omega
                have hm : l.length - (l.length - (j + 1) + 1) = j := by omega
                have hm2 : l.length - (j + 1) + 1 = l.length - j := by omega
                have HM : Hid (l.length - (l.length - (j + 1) + 1) = j ∧ l.length - (j + 1) + 1 = l.length - j) := ⟨hm, hm2⟩
                obtain ⟨C, hC⟩ : ∃ C, C = szC n l y2 (l.length - (j + 1)) := ⟨_, rfl⟩
                rw [← hC] at hcb ⊢
                have HC : Hid (C = szC n l y2 (l.length - (j + 1))) := hC
                clear hm hm2 hC ej
                obtain ⟨f1, f2, f3⟩ := ok_facts HOK.out hjl
                obtain ⟨r1, r2⟩ := HR.out j hjl
                cases hbit : sh n (szR n l y2 (l.length - (j + 1))) j with
                | false =>
                  rw [hbit] at r1
                  obtain ⟨hR3, hC3⟩ := szR_no HM.out.1 hbit
                  rw [HM.out.2] at hR3 hC3
                  have HR3 : Hid (szR n l y2 (l.length - j) = szR n l y2 (l.length - (j + 1))) := hR3
                  have HC3 : Hid (szC n l y2 (l.length - j) = szC n l y2 (l.length - (j + 1))) := hC3
                  clear hR3 hC3 hbit
                  go_wp2
                  go_roundw
                  case rel => exact ⟨j, by omega, rfl, by rw [HC3.out, ← HC.out], by rw [HR3.out]; exact HR.out, HBR.out⟩
                  case measure => simp [intOf]
                | true =>
                  rw [hbit] at r1
                  obtain ⟨hR3, hC3⟩ := szR_yes HM.out.1 hbit
                  rw [HM.out.2] at hR3 hC3
                  have HR3 : Hid (szR n l y2 (l.length - j) = _) := hR3
                  have HC3 : Hid (szC n l y2 (l.length - j) = szC n l y2 (l.length - (j + 1)) + 1) := hC3
                  clear hR3 hC3 hbit
                  obtain ⟨xx, hxx⟩ : ∃ xx, xx = nth l j := ⟨_, rfl⟩
                  rw [← hxx] at f1 f2 f3 HR3
                  have HXX : Hid (xx = nth l j) := hxx
                  clear hxx
                  rcases (HA.out.below HBR.out).2 with e | ⟨xb, xo, rfl, hc⟩
                  · omega
                  obtain ⟨p0, p1⟩ := hc j hjl
                  rw [nth_get hjl, ← HXX.out] at p0 p1
                  clear hc
                  obtain ⟨A, B, hxAB⟩ : ∃ A B : Nat, xx.a = (A : Int) ∧ xx.b = (B : Int) := ⟨xx.a.toNat, xx.b.toNat, by omega, by omega⟩
                  rw [hxAB.1] at p0 f1 f2
                  rw [hxAB.2] at p1 f2 f3
                  rw [hxAB.1, hxAB.2, Int.toNat_natCast, Int.toNat_natCast] at HR3
                  clear hxAB
                  have qa : (A : Int).tdiv 2 = ((A / 2 : Nat) : Int) := by rw [Int.tdiv_eq_ediv_of_nonneg (by omega)]; omega
                  have qb : (B : Int).tdiv 2 = ((B / 2 : Nat) : Int) := by rw [Int.tdiv_eq_ediv_of_nonneg (by omega)]; omega
                  have qa' : (A : Int) / 2 = ((A / 2 : Nat) : Int) := by omega
                  have qb' : (B : Int) / 2 = ((B / 2 : Nat) : Int) := by omega
                  have la : A / 2 < n + 1 + l.length := by omega
                  have lb : B / 2 < n + 1 + l.length := by omega
                  clear f1 f2 f3
                  generalize A / 2 = A2 at *
                  generalize B / 2 = B2 at *
                  have c0 : wr.cell? ⟨bg, 0, none⟩ = some (.int .i64 (n : Int)) := by rw [HBR.out.cell hWs]; exact C0.out
                  have c1 : wr.cell? ⟨bg, 1, none⟩ = some (.slice (some ⟨xb, xo, none⟩) l.length c) := by rw [HBR.out.cell hWs]; exact C1.out
                  go_wp2
                  go_quiet (fail)
                  obtain ⟨W7, hW7⟩ : ∃ W7, W7 = wr.drewN nq := ⟨_, rfl⟩
                  have HR7 : Hid (RowB W7 g l.length (sh n (szR n l y2 (l.length - (j + 1))))) := by rw [hW7]; exact HR.out.kept (S := fun _ => False) ((Kept.refl _ _).drewN _) (fun e => e)
                  have HB7 : Hid (Below W.heap.size W W7) := by rw [hW7]; exact ⟨HBR.out.os, HBR.out.tape, HBR.out.output, HBR.out.size, HBR.out.block⟩
                  rw [← hW7]
                  clear hW7 c0 c1 p0 p1 r1 r2 qa qb qa' qb'
                  obtain ⟨da, hda⟩ : ∃ da : Int, da = (A2 : Int) - (n : Int) - 1 := ⟨_, rfl⟩
                  obtain ⟨db, hdb⟩ : ∃ db : Int, db = (B2 : Int) - (n : Int) - 1 := ⟨_, rfl⟩
                  rw [← hda, ← hdb]
                  have HDA : Hid (da = (A2 : Int) - (n : Int) - 1) := hda
                  have HDB : Hid (db = (B2 : Int) - (n : Int) - 1) := hdb
                  clear hda hdb
                  by_cases ha0 : 0 ≤ da
                  · obtain ⟨qq, rfl⟩ : ∃ q : Nat, da = (q : Int) := ⟨da.toNat, by omega⟩
                    have hda := HDA.out
                    have hql2 : qq < l.length := by omega
                    have hqlz2 : (qq : Int) < (l.length : Int) := by omega
                    have HQ2 : Hid (n + 1 ≤ A2 ∧ qq = A2 - (n + 1)) := ⟨by omega, by omega⟩
                    obtain ⟨r1, r2⟩ := HR7.out qq hql2
                    clear hda
                    go_upto_region 19 with fail
                    clear r1 r2
                    obtain ⟨W8, hW8⟩ : ∃ W8, W8 = W7.setCell ⟨g, qq, none⟩ (.bool true) := ⟨_, rfl⟩
                    have HK8 : Hid (Kept (fun k => k = g) W7 W8) := by rw [hW8]; exact Kept.setCell (S := fun k => k = g) (Kept.refl _ _) (p := ⟨g, qq, none⟩) rfl _
                    have HR8 : Hid (RowB W8 g l.length (sh n (hitR (szR n l y2 (l.length - (j + 1))) A2))) := by
                      have h := HR7.out.hit qq
                      rw [← hW8, HQ2.out.2, sh_in _ HQ2.out.1] at h
                      exact h
                    have HB8 : Hid (Below W.heap.size W W8) := HB7.out.trans (HK8.out.below (fun k e => by omega) HB7.out.size)
                    rw [← hW8]
                    clear hW8
                    by_cases hb0 : 0 ≤ db
                    · obtain ⟨q, rfl⟩ : ∃ q : Nat, db = (q : Int) := ⟨db.toNat, by omega⟩
                      have hdb := HDB.out
                      have hql : q < l.length := by omega
                      have hqlz : (q : Int) < (l.length : Int) := by omega
                      have HQ : Hid (n + 1 ≤ B2 ∧ q = B2 - (n + 1)) := ⟨by omega, by omega⟩
                      obtain ⟨r1, r2⟩ := HR8.out q hql
                      clear hdb
                      go_upto_region 13 with fail
                      clear r1 r2
                      have K9 : Kept (fun k => k = g) W8 (W8.setCell ⟨g, q, none⟩ (.bool true)) := Kept.setCell (S := fun k => k = g) (Kept.refl _ _) (p := ⟨g, q, none⟩) rfl _
                      have HR9 : Hid (RowB (W8.setCell ⟨g, q, none⟩ (.bool true)) g l.length (sh n (szR n l y2 (l.length - j)))) := by
                        have h := HR8.out.hit q
                        rw [HQ.out.2, sh_in _ HQ.out.1] at h
                        show RowB _ _ _ _
                        rw [HR3.out, HQ.out.2]; exact h
                      have HB9 : Hid (Below W.heap.size W (W8.setCell ⟨g, q, none⟩ (.bool true))) := HB8.out.trans (K9.below (fun k e => by omega) HB8.out.size)
                      clear K9
                      generalize W8.setCell ⟨g, q, none⟩ (.bool true) = W9 at *
                      go_wp2
                      go_roundw
                      case rel => exact ⟨j, by omega, rfl, by rw [HC3.out, ← HC.out]; push_cast; rfl, HR9.out, HB9.out⟩
                      case measure => simp [intOf]
                    · have HR9 : Hid (RowB W8 g l.length (sh n (szR n l y2 (l.length - j)))) := by
                        show RowB _ _ _ _
                        rw [HR3.out, sh_out _ (by have := HDB.out; omega : B2 < n + 1)]; exact HR8.out
                      go_wp2
                      go_roundw
                      case rel => exact ⟨j, by omega, rfl, by rw [HC3.out, ← HC.out]; push_cast; rfl, HR9.out, HB8.out⟩
                      case measure => simp [intOf]
                  · go_upto_region 19 with fail
                    have HR8 : Hid (RowB W7 g l.length (sh n (hitR (szR n l y2 (l.length - (j + 1))) A2))) := by
                      show RowB _ _ _ _
                      rw [sh_out _ (by have := HDA.out; omega : A2 < n + 1)]; exact HR7.out
                    by_cases hb0 : 0 ≤ db
                    · obtain ⟨q, rfl⟩ : ∃ q : Nat, db = (q : Int) := ⟨db.toNat, by omega⟩
                      have hdb := HDB.out
                      have hql : q < l.length := by omega
                      have hqlz : (q : Int) < (l.length : Int) := by omega
                      have HQ : Hid (n + 1 ≤ B2 ∧ q = B2 - (n + 1)) := ⟨by omega, by omega⟩
                      obtain ⟨r1, r2⟩ := HR8.out q hql
                      clear hdb
                      go_upto_region 13 with fail
                      clear r1 r2
                      have K9 : Kept (fun k => k = g) W7 (W7.setCell ⟨g, q, none⟩ (.bool true)) := Kept.setCell (S := fun k => k = g) (Kept.refl _ _) (p := ⟨g, q, none⟩) rfl _
                      have HR9 : Hid (RowB (W7.setCell ⟨g, q, none⟩ (.bool true)) g l.length (sh n (szR n l y2 (l.length - j)))) := by
                        have h := HR8.out.hit q
                        rw [HQ.out.2, sh_in _ HQ.out.1] at h
                        show RowB _ _ _ _
                        rw [HR3.out, HQ.out.2]; exact h
                      have HB9 : Hid (Below W.heap.size W (W7.setCell ⟨g, q, none⟩ (.bool true))) := HB7.out.trans (K9.below (fun k e => by omega) HB7.out.size)
                      clear K9
                      generalize W7.setCell ⟨g, q, none⟩ (.bool true) = W9 at *
                      go_wp2
                      go_roundw
                      case rel => exact ⟨j, by omega, rfl, by rw [HC3.out, ← HC.out]; push_cast; rfl, HR9.out, HB9.out⟩
                      case measure => simp [intOf]
                    · have HR9 : Hid (RowB W7 g l.length (sh n (szR n l y2 (l.length - j)))) := by
                        show RowB _ _ _ _
                        rw [HR3.out, sh_out _ (by have := HDB.out; omega : B2 < n + 1)]; exact HR8.out
                      go_wp2
                      go_roundw
                      case rel => exact ⟨j, by omega, rfl, by rw [HC3.out, ← HC.out]; push_cast; rfl, HR9.out, HB7.out⟩
                      case measure => simp [intOf]
          · have hynz : ¬ (n : Int) < (y2 : Int) := by omega
            go_upto_region 11 with fail
            have HR6 : Hid (RowB wr g l.length (sh n (szR n l y2 0))) := by
              have e : (fun _ => false) = sh n (szR n l y2 0) := by
                funext k
                unfold sh szR
                exact (decide_eq_false (by omega)).symm
              show RowB _ _ _ _
              rw [← e]; exact HROW.out
            have HB6 : Hid (Below W.heap.size W wr) := HBW.out
            clear c0 c1 hynz ty ty'
            have c1 : wr.cell? ⟨bg, 1, none⟩ = some (.slice a l.length c) := by rw [HB6.out.cell hWs]; exact C1.out
            go_wp2
            clear c1
            go_loopw [7, 8] (fun q i w9 => ∃ k : Nat, k ≤ l.length ∧ i = .int .i64 ((k : Int) - 1) ∧ q = .int .i64 (szC n l y2 (l.length - k) : Int) ∧ RowB w9 g l.length (sh n (szR n l y2 (l.length - k))) ∧ Below W.heap.size W w9) (fun _ i _ => (intOf i + 1).toNat)
            case atStart => exact ⟨l.length, Nat.le_refl _, rfl, by rw [Nat.sub_self]; rfl, by rw [Nat.sub_self]; exact HR6.out, HB6.out⟩
            case round =>
              obtain ⟨k, hk2, rfl, rfl, hrow, hbw⟩ := hrel
              have HR : Hid (RowB wr g l.length (sh n (szR n l y2 (l.length - k)))) := hrow
              have HBR : Hid (Below W.heap.size W wr) := hbw
              clear hrow hbw
              have hcb : szC n l y2 (l.length - k) ≤ l.length - k := szC_le n l y2 (l.length - k)
              cases k with
              | zero =>
                go_wp2
                go_ret
                refine ⟨?_, HWB.out.trans (HBR.out.mono HWB.out.size)⟩
                rw [HS.out]; rfl
              | succ j =>
                have ej : ((j + 1 : Nat) : Int) - 1 = (j : Int) := by omega
                rw [ej]
                have hjl : j < l.length := by omega
                have hjz : (j : Int) < (l.length : Int) := by omega
                have hm : l.length - (l.length - (j + 1) + 1) = j := by omega
                have hm2 : l.length - (j + 1) + 1 = l.length - j := by omega
                have HM : Hid (l.length - (l.length - (j + 1) + 1) = j ∧ l.length - (j + 1) + 1 = l.length - j) := ⟨hm, hm2⟩
                obtain ⟨C, hC⟩ : ∃ C, C = szC n l y2 (l.length - (j + 1)) := ⟨_, rfl⟩
                rw [← hC] at hcb ⊢
                have HC : Hid (C = szC n l y2 (l.length - (j + 1))) := hC
                clear hm hm2 hC ej
                obtain ⟨f1, f2, f3⟩ := ok_facts HOK.out hjl
                obtain ⟨r1, r2⟩ := HR.out j hjl
                cases hbit : sh n (szR n l y2 (l.length - (j + 1))) j with
                | false =>
                  rw [hbit] at r1
                  obtain ⟨hR3, hC3⟩ := szR_no HM.out.1 hbit
                  rw [HM.out.2] at hR3 hC3
                  have HR3 : Hid (szR n l y2 (l.length - j) = szR n l y2 (l.length - (j + 1))) := hR3
                  have HC3 : Hid (szC n l y2 (l.length - j) = szC n l y2 (l.length - (j + 1))) := hC3
                  clear hR3 hC3 hbit
                  go_wp2
                  go_roundw
                  case rel => exact ⟨j, by omega, rfl, by rw [HC3.out, ← HC.out], by rw [HR3.out]; exact HR.out, HBR.out⟩
                  case measure => simp [intOf]
                | true =>
                  rw [hbit] at r1
                  obtain ⟨hR3, hC3⟩ := szR_yes HM.out.1 hbit
                  rw [HM.out.2] at hR3 hC3
                  have HR3 : Hid (szR n l y2 (l.length - j) = _) := hR3
                  have HC3 : Hid (szC n l y2 (l.length - j) = szC n l y2 (l.length - (j + 1)) + 1) := hC3
                  clear hR3 hC3 hbit
                  obtain ⟨xx, hxx⟩ : ∃ xx, xx = nth l j := ⟨_, rfl⟩
                  rw [← hxx] at f1 f2 f3 HR3
                  have HXX : Hid (xx = nth l j) := hxx
                  clear hxx
                  rcases (HA.out.below HBR.out).2 with e | ⟨xb, xo, rfl, hc⟩
                  · omega
                  obtain ⟨p0, p1⟩ := hc j hjl
                  rw [nth_get hjl, ← HXX.out] at p0 p1
                  clear hc
                  obtain ⟨A, B, hxAB⟩ : ∃ A B : Nat, xx.a = (A : Int) ∧ xx.b = (B : Int) := ⟨xx.a.toNat, xx.b.toNat, by omega, by omega⟩
                  rw [hxAB.1] at p0 f1 f2
                  rw [hxAB.2] at p1 f2 f3
                  rw [hxAB.1, hxAB.2, Int.toNat_natCast, Int.toNat_natCast] at HR3
                  clear hxAB
                  have qa : (A : Int).tdiv 2 = ((A / 2 : Nat) : Int) := by rw [Int.tdiv_eq_ediv_of_nonneg (by omega)]; omega
                  have qb : (B : Int).tdiv 2 = ((B / 2 : Nat) : Int) := by rw [Int.tdiv_eq_ediv_of_nonneg (by omega)]; omega
                  have qa' : (A : Int) / 2 = ((A / 2 : Nat) : Int) := by omega
                  have qb' : (B : Int) / 2 = ((B / 2 : Nat) : Int) := by omega
                  have la : A / 2 < n + 1 + l.length := by omega
                  have lb : B / 2 < n + 1 + l.length := by omega
                  clear f1 f2 f3
                  generalize A / 2 = A2 at *
                  generalize B / 2 = B2 at *
                  have c0 : wr.cell? ⟨bg, 0, none⟩ = some (.int .i64 (n : Int)) := by rw [HBR.out.cell hWs]; exact C0.out
                  have c1 : wr.cell? ⟨bg, 1, none⟩ = some (.slice (some ⟨xb, xo, none⟩) l.length c) := by rw [HBR.out.cell hWs]; exact C1.out
                  go_wp2
                  go_quiet (fail)
                  obtain ⟨W7, hW7⟩ : ∃ W7, W7 = wr.drewN nq := ⟨_, rfl⟩
                  have HR7 : Hid (RowB W7 g l.length (sh n (szR n l y2 (l.length - (j + 1))))) := by rw [hW7]; exact HR.out.kept (S := fun _ => False) ((Kept.refl _ _).drewN _) (fun e => e)
                  have HB7 : Hid (Below W.heap.size W W7) := by rw [hW7]; exact ⟨HBR.out.os, HBR.out.tape, HBR.out.output, HBR.out.size, HBR.out.block⟩
                  rw [← hW7]
                  clear hW7 c0 c1 p0 p1 r1 r2 qa qb qa' qb'
                  obtain ⟨da, hda⟩ : ∃ da : Int, da = (A2 : Int) - (n : Int) - 1 := ⟨_, rfl⟩
                  obtain ⟨db, hdb⟩ : ∃ db : Int, db = (B2 : Int) - (n : Int) - 1 := ⟨_, rfl⟩
                  rw [← hda, ← hdb]
                  have HDA : Hid (da = (A2 : Int) - (n : Int) - 1) := hda
                  have HDB : Hid (db = (B2 : Int) - (n : Int) - 1) := hdb
                  clear hda hdb
                  by_cases ha0 : 0 ≤ da
                  · obtain ⟨qq, rfl⟩ : ∃ q : Nat, da = (q : Int) := ⟨da.toNat, by omega⟩
                    have hda := HDA.out
                    have hql2 : qq < l.length := by omega
                    have hqlz2 : (qq : Int) < (l.length : Int) := by omega
                    have HQ2 : Hid (n + 1 ≤ A2 ∧ qq = A2 - (n + 1)) := ⟨by omega, by omega⟩
                    obtain ⟨r1, r2⟩ := HR7.out qq hql2
                    clear hda
                    go_upto_region 19 with fail
                    clear r1 r2
                    obtain ⟨W8, hW8⟩ : ∃ W8, W8 = W7.setCell ⟨g, qq, none⟩ (.bool true) := ⟨_, rfl⟩
                    have HK8 : Hid (Kept (fun k => k = g) W7 W8) := by rw [hW8]; exact Kept.setCell (S := fun k => k = g) (Kept.refl _ _) (p := ⟨g, qq, none⟩) rfl _
                    have HR8 : Hid (RowB W8 g l.length (sh n (hitR (szR n l y2 (l.length - (j + 1))) A2))) := by
                      have h := HR7.out.hit qq
                      rw [← hW8, HQ2.out.2, sh_in _ HQ2.out.1] at h
                      exact h
                    have HB8 : Hid (Below W.heap.size W W8) := HB7.out.trans (HK8.out.below (fun k e => by omega) HB7.out.size)
                    rw [← hW8]
                    clear hW8
                    by_cases hb0 : 0 ≤ db
                    · obtain ⟨q, rfl⟩ : ∃ q : Nat, db = (q : Int) := ⟨db.toNat, by omega⟩
                      have hdb := HDB.out
                      have hql : q < l.length := by omega
                      have hqlz : (q : Int) < (l.length : Int) := by omega
                      have HQ : Hid (n + 1 ≤ B2 ∧ q = B2 - (n + 1)) := ⟨by omega, by omega⟩
                      obtain ⟨r1, r2⟩ := HR8.out q hql
                      clear hdb
                      go_upto_region 13 with fail
                      clear r1 r2
                      have K9 : Kept (fun k => k = g) W8 (W8.setCell ⟨g, q, none⟩ (.bool true)) := Kept.setCell (S := fun k => k = g) (Kept.refl _ _) (p := ⟨g, q, none⟩) rfl _
                      have HR9 : Hid (RowB (W8.setCell ⟨g, q, none⟩ (.bool true)) g l.length (sh n (szR n l y2 (l.length - j)))) := by
                        have h := HR8.out.hit q
                        rw [HQ.out.2, sh_in _ HQ.out.1] at h
                        show RowB _ _ _ _
                        rw [HR3.out, HQ.out.2]; exact h
                      have HB9 : Hid (Below W.heap.size W (W8.setCell ⟨g, q, none⟩ (.bool true))) := HB8.out.trans (K9.below (fun k e => by omega) HB8.out.size)
                      clear K9
                      generalize W8.setCell ⟨g, q, none⟩ (.bool true) = W9 at *
                      go_wp2
                      go_roundw
                      case rel => exact ⟨j, by omega, rfl, by rw [HC3.out, ← HC.out]; push_cast; rfl, HR9.out, HB9.out⟩
                      case measure => simp [intOf]
                    · have HR9 : Hid (RowB W8 g l.length (sh n (szR n l y2 (l.length - j)))) := by
                        show RowB _ _ _ _
                        rw [HR3.out, sh_out _ (by have := HDB.out; omega : B2 < n + 1)]; exact HR8.out
                      go_wp2
                      go_roundw
                      case rel => exact ⟨j, by omega, rfl, by rw [HC3.out, ← HC.out]; push_cast; rfl, HR9.out, HB8.out⟩
                      case measure => simp [intOf]
                  · go_upto_region 19 with fail
                    have HR8 : Hid (RowB W7 g l.length (sh n (hitR (szR n l y2 (l.length - (j + 1))) A2))) := by
                      show RowB _ _ _ _
                      rw [sh_out _ (by have := HDA.out; omega : A2 < n + 1)]; exact HR7.out
                    by_cases hb0 : 0 ≤ db
                    · obtain ⟨q, rfl⟩ : ∃ q : Nat, db = (q : Int) := ⟨db.toNat, by omega⟩
                      have hdb := HDB.out
                      have hql : q < l.length := by omega
                      have hqlz : (q : Int) < (l.length : Int) := by omega
                      have HQ : Hid (n + 1 ≤ B2 ∧ q = B2 - (n + 1)) := ⟨by omega, by omega⟩
                      obtain ⟨r1, r2⟩ := HR8.out q hql
                      clear hdb
                      go_upto_region 13 with fail
                      clear r1 r2
                      have K9 : Kept (fun k => k = g) W7 (W7.setCell ⟨g, q, none⟩ (.bool true)) := Kept.setCell (S := fun k => k = g) (Kept.refl _ _) (p := ⟨g, q, none⟩) rfl _
                      have HR9 : Hid (RowB (W7.setCell ⟨g, q, none⟩ (.bool true)) g l.length (sh n (szR n l y2 (l.length - j)))) := by
                        have h := HR8.out.hit q
                        rw [HQ.out.2, sh_in _ HQ.out.1] at h
                        show RowB _ _ _ _
                        rw [HR3.out, HQ.out.2]; exact h
                      have HB9 : Hid (Below W.heap.size W (W7.setCell ⟨g, q, none⟩ (.bool true))) := HB7.out.trans (K9.below (fun k e => by omega) HB7.out.size)
                      clear K9
                      generalize W7.setCell ⟨g, q, none⟩ (.bool true) = W9 at *
                      go_wp2
                      go_roundw
                      case rel => exact ⟨j, by omega, rfl, by rw [HC3.out, ← HC.out]; push_cast; rfl, HR9.out, HB9.out⟩
                      case measure => simp [intOf]
                    · have HR9 : Hid (RowB W7 g l.length (sh n (szR n l y2 (l.length - j)))) := by
                        show RowB _ _ _ _
                        rw [HR3.out, sh_out _ (by have := HDB.out; omega : B2 < n + 1)]; exact HR8.out
                      go_wp2
                      go_roundw
                      case rel => exact ⟨j, by omega, rfl, by rw [HC3.out, ← HC.out]; push_cast; rfl, HR9.out, HB7.out⟩
                      case measure => simp [intOf]

end Go.Proofs.Ytnpfegfjejfaaaa.Gs2
