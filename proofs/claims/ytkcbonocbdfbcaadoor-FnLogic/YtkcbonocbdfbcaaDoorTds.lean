/- What tables the laws draw: any, known. -/
import Derived.Test.YtkcbonocbdfbcaaDoorTdr
namespace Go.Proofs.YtkcbonocbdfbcaaDoor.Tds
open Go.RowKit
open Ta0 Ta1 Tc2 Tc5 Td1 Td2 Tdr
open Nd0 (Kept set_same)
open Dr0 (Cur Only Bytes)
set_option linter.unusedVariables false

/-- What stands while any table is drawn. -/
structure DA (w : World) (b : Nat) (a : Option Addr) (len cap q : Nat) (N : Int) (S : ByteArray) (W : World) : Prop where
  cur : Cur W b a len cap
  res : Lay W w.heap.size (.int .i64 0) (.string ByteArray.empty)
  box : Lay W q (.int .i64 N) (.string S)
  onl : Only b w W
theorem DA.only {w W W' : World} {b : Nat} {a : Option Addr} {len cap q : Nat} {N : Int} {S : ByteArray} (h : DA w b a len cap q N S W) (hb : b < w.heap.size) (hq : w.heap.size < q) (hc : Cur W' b a len cap) (ho : Only b W W') : DA w b a len cap q N S W' :=
  ⟨hc, h.res.kept (kept_of_only ho) (by omega), h.box.kept (kept_of_only ho) (by omega), h.onl.trans ho⟩
theorem only_set {b z o : Nat} {u W : World} (h : Only b u W) (hz : u.heap.size ≤ z) (x : Value) : Only b u (W.setCell ⟨z, o, none⟩ x) := by
  have K := kset (S := fun k => k = z) (Kept.refl (fun k => k = z) W) (b := z) (o := o) rfl x
  exact ⟨K.os.trans h.os, K.tape.trans h.tape, K.output.trans h.output, Nat.le_trans h.size K.size, fun i hi hb => (K.block i (Nat.lt_of_lt_of_le hi h.size) (by omega)).trans (h.block i hi hb)⟩
theorem cur_set {b z o : Nat} {W : World} {a : Option Addr} {len cap B : Nat} (h : Cur W b a len cap) (hb : b < B) (hlo : Low a len B) (hz : B ≤ z) (x : Value) : Cur (W.setCell ⟨z, o, none⟩ x) b a len cap := by
  have K := kset (S := fun k => k = z) (Kept.refl (fun k => k = z) W) (b := z) (o := o) rfl x
  exact cur_kept h K (by omega) (hlo.imp id fun h x hx => by have := h x hx; omega)

theorem DA.setN {w W : World} {b : Nat} {a : Option Addr} {len cap q : Nat} {N : Int} {S : ByteArray} (h : DA w b a len cap q N S W) (hb : b < w.heap.size) (hlo : Low a len w.heap.size) (hq : w.heap.size < q) (x : Int) : DA w b a len cap q x S (W.setCell ⟨q, 0, none⟩ (.int .i64 x)) := by
  have K := kset (S := fun k => k = q) (Kept.refl (fun k => k = q) W) (b := q) (o := 0) rfl (.int .i64 x)
  exact ⟨cur_set h.cur hb hlo (by omega) _, h.res.kept K (by omega), ⟨set_same h.box.c0, by rw [Nd0.set_other (by simp)]; exact h.box.c1, by rw [World.frozen?_setCell]; exact h.box.f0, by rw [World.frozen?_setCell]; exact h.box.f1⟩, only_set h.onl (by omega) _⟩
theorem DA.setS {w W : World} {b : Nat} {a : Option Addr} {len cap q : Nat} {N : Int} {S : ByteArray} (h : DA w b a len cap q N S W) (hb : b < w.heap.size) (hlo : Low a len w.heap.size) (hq : w.heap.size < q) (T : ByteArray) : DA w b a len cap q N T (W.setCell ⟨q, 1, none⟩ (.string T)) := by
  have K := kset (S := fun k => k = q) (Kept.refl (fun k => k = q) W) (b := q) (o := 1) rfl (.string T)
  exact ⟨cur_set h.cur hb hlo (by omega) _, h.res.kept K (by omega), ⟨by rw [Nd0.set_other (by simp)]; exact h.box.c0, set_same h.box.c1, by rw [World.frozen?_setCell]; exact h.box.f0, by rw [World.frozen?_setCell]; exact h.box.f1⟩, only_set h.onl (by omega) _⟩

set_option maxRecDepth 100000 in
set_option maxHeartbeats 4000000 in
theorem l06Any (w : World) (b : Nat) (a : Option Addr) (len cap : Nat) (hc : Cur w b a len cap) :
    Calls Tryd.prog 22 #[.pointer (some ⟨b, 0, none⟩)] w fun e w' => (∃ (N : Int) (S : ByteArray), e = .returned (tv N S) ∧ S.size ≤ 64) ∧ Cur w' b a len cap ∧ Only b w w' := by
  have HLO : Hid (Low a len w.heap.size) := low_of hc.bytes
  have hbl : b < w.heap.size := hc.lt
  have HC0 : Hid (Cur (w.alloc (.cells #[.int .i64 0, .string ByteArray.empty] 25)) b a len cap) := hc.alloc _
  have HR0 : Hid (Lay (w.alloc (.cells #[.int .i64 0, .string ByteArray.empty] 25)) w.heap.size (.int .i64 0) (.string ByteArray.empty)) := Lay.made _ _ _ _
  have HO0 : Hid (Only b w (w.alloc (.cells #[.int .i64 0, .string ByteArray.empty] 25))) := (Only.refl _ _).alloc _
  clear hc
  go_enter Tryd.func22, Tryd.ntmps22
  go_wp2_with fail
  refine (Dr1.below _ b a len cap 6 (by omega) (by omega) HC0.out).mono ?_
  rintro e w1 ⟨⟨x, rfl, hx0, hx1⟩, hc1, ho1⟩
  obtain ⟨n, rfl⟩ := Int.eq_ofNat_of_zero_le hx0
  have HC1 : Hid (Cur w1 b a len cap) := hc1
  have HR1 : Hid (Lay w1 w.heap.size (.int .i64 0) (.string ByteArray.empty)) := HR0.out.kept (kept_of_only ho1) (by omega)
  have HO1 : Hid (Only b w w1) := HO0.out.trans ho1
  clear hc1 ho1
  go_wp2_with fail
  refine (l06Table _ b a len cap n (by omega) HC1.out).mono ?_
  rintro e w2 ⟨⟨S, rfl, hS1, hS2⟩, hc2, ho2⟩
  have HD2 : Hid (DA w b a len cap w2.heap.size (n : Int) S (w2.alloc (.cells #[.int .i64 (n : Int), .string S] 25))) :=
    ⟨hc2.alloc _, (HR1.out.kept (kept_of_only ho2) (by omega)).alloc _, Lay.made _ _ _ _, (HO1.out.trans ho2).alloc _⟩
  have hq : w.heap.size < w2.heap.size := (HR1.out.kept (kept_of_only ho2) (by omega)).lt
  clear hc2 ho2
  go_wp2_with fail
  refine (Dr1.below _ b a len cap 14 (by omega) (by omega) HD2.out.cur).mono ?_
  rintro e w3 ⟨⟨y, rfl, hy0, hy1⟩, hc3, ho3⟩
  have HD3 : Hid (DA w b a len cap w2.heap.size (n : Int) S w3) := HD2.out.only hbl hq hc3 ho3
  clear hc3 ho3
  have hFIN : Hid (∀ (N : Int) (T : ByteArray) (W : World), DA w b a len cap w2.heap.size N T W → ∃ W', W' = (W.setCell ⟨w.heap.size, 0, none⟩ (.int .i64 N)).setCell ⟨w.heap.size, 1, none⟩ (.string T) ∧ Lay W' w.heap.size (.int .i64 N) (.string T) ∧ Cur W' b a len cap ∧ Only b w W') := fun N T W h =>
    ⟨_, rfl, h.res.put _ _, cur_set (cur_set h.cur hbl HLO.out (Nat.le_refl _) _) hbl HLO.out (Nat.le_refl _) _, only_set (only_set h.onl (Nat.le_refl _) _) (Nat.le_refl _) _⟩
  by_cases h0 : y = 0
  · have hw0 : (y == 0) = true := by rw [h0]; rfl
    clear h0
    obtain ⟨x0, x1, x2, x3⟩ := HD3.out.box
    go_wp2_with fail
    refine (Dr4.pickNew w3 b a len cap _ _ 3 (by omega) (by omega) (fun i hi => by
      rcases (by omega : i = 0 ∨ i = 1 ∨ i = 2) with rfl | rfl | rfl
      · exact ⟨_, rfl⟩
      · exact ⟨_, rfl⟩
      · exact ⟨_, rfl⟩) HD3.out.cur).mono ?_
    rintro e w4 ⟨⟨x, rfl⟩, hc4, ho4⟩
    have HD4 : Hid (DA w b a len cap w2.heap.size (n : Int) S w4) := HD3.out.only hbl hq hc4 ho4
    clear hc4 ho4 x0 x1 x2 x3
    obtain ⟨x0, x1, x2, x3⟩ := HD4.out.box
    have HD5 := HD4.out.setN hbl HLO.out hq x
    have HD6 : Hid _ := HD5
    clear HD5
    obtain ⟨y0, y1, _, _⟩ := HD6.out.box
    obtain ⟨r0, r1, r2, r3⟩ := HD6.out.res
    go_wp2
    obtain ⟨W, hW, hz, hcw, how⟩ := hFIN.out _ _ _ HD6.out
    rw [← hW]
    obtain ⟨z0, z1, _, _⟩ := hz
    exact bodyPost_ret (v := tv x S) (by simp [results, Tryd.results22, go_sem, z0, z1]) rfl ⟨⟨x, S, rfl, hS2⟩, hcw, how⟩
  · have hw0 : (y == 0) = false := beq_eq_false_iff_ne.2 h0
    clear h0
    obtain ⟨x0, x1, x2, x3⟩ := HD3.out.box
    obtain ⟨r0, r1, r2, r3⟩ := HD3.out.res
    by_cases h1 : y = 1
    · have hw1 : (y == 1) = true := by rw [h1]; rfl
      clear h1
      have hSz : (1 : Int) ≤ (S.size : Int) := by omega
      have HD5 : Hid (DA w b a len cap w2.heap.size (n : Int) (S.extract 1 S.size ++ ⟨#[50]⟩) (w3.setCell ⟨w2.heap.size, 1, none⟩ (.string (S.extract 1 S.size ++ ⟨#[50]⟩)))) := HD3.out.setS hbl HLO.out hq _
      obtain ⟨y0, y1, _, _⟩ := HD5.out.box
      obtain ⟨s0, s1, s2, s3⟩ := HD5.out.res
      have HZ : Hid ((S.extract 1 S.size ++ ⟨#[50]⟩).size ≤ 64) := by
        show _ ≤ _
        have h2 : (S.extract 1 S.size).size = S.size - 1 := by rw [ByteArray.size_extract]; omega
        rw [ByteArray.size_append, h2]
        show S.size - 1 + 1 ≤ 64
        omega
      go_wp2
      obtain ⟨W, hW, hz, hcw, how⟩ := hFIN.out _ _ _ HD5.out
      rw [← hW]
      obtain ⟨z0, z1, _, _⟩ := hz
      exact bodyPost_ret (v := tv (n : Int) (S.extract 1 S.size ++ ⟨#[50]⟩)) (by simp [results, Tryd.results22, go_sem, z0, z1]) rfl ⟨⟨_, _, rfl, HZ.out⟩, hcw, how⟩
    · have hw1 : (y == 1) = false := beq_eq_false_iff_ne.2 h1
      clear h1
      go_wp2
      obtain ⟨W, hW, hz, hcw, how⟩ := hFIN.out _ _ _ HD3.out
      rw [← hW]
      obtain ⟨z0, z1, _, _⟩ := hz
      exact bodyPost_ret (v := tv (n : Int) S) (by simp [results, Tryd.results22, go_sem, z0, z1]) rfl ⟨⟨(n : Int), S, rfl, hS2⟩, hcw, how⟩

set_option maxHeartbeats 2000000 in
theorem drawKnown (w : World) (a : Option Addr) (len cap : Nat) (hb : Bytes w a len) :
    Calls Tryd.prog 7 #[.slice a len cap] w fun e w' => (∃ (N : Int) (S : ByteArray), e = .returned (tv N S) ∧ S.size ≤ 64) ∧ Below w.heap.size w w' := by
  have HB0 : Hid (Bytes (w.alloc (.cells #[.int .i64 0, .string ByteArray.empty] 25)) a len) := hb.below ((Below.refl _ _).alloc (Nat.le_refl _) _)
  clear hb
  go_enter Tryd.func7, Tryd.ntmps7
  go_wp2_with fail
  refine (Dr4.new _ a len cap HB0.out).mono ?_
  rintro e w1 ⟨rfl, hc1, hb1⟩
  have HR1 : Hid (Lay w1 w.heap.size (.int .i64 0) (.string ByteArray.empty)) := (Lay.made w _ _ _).below hb1
  have HB1 : Hid (Below w.heap.size w w1) := ((Below.refl _ _).alloc (Nat.le_refl _) _).trans (hb1.mono (by simp))
  have hc1' : Cur w1 (w.heap.size + 1) a len cap := by simpa using hc1
  clear hb1 hc1
  have hsz1 : w.heap.size ≤ w1.heap.size := HB1.out.size
  go_wp2_with fail
  refine (l06Any _ (w.heap.size + 1) a len cap hc1').mono ?_
  rintro e w2 ⟨⟨N, S, rfl, hS⟩, hc2, ho2⟩
  have HR2 : Hid (Lay w2 w.heap.size (.int .i64 0) (.string ByteArray.empty)) := HR1.out.kept (kept_of_only ho2) (by omega)
  have HB2 : Hid (Below w.heap.size w w2) := HB1.out.trans (ho2.below (by omega) HB1.out.size)
  clear hc1' hc2 ho2
  obtain ⟨r0, r1, r2, r3⟩ := HR2.out
  have HFN : Hid _ := finT HR2.out HB2.out (Nat.le_refl _) (.int .i64 N) (.string S)
  go_wp2
  obtain ⟨W, hW, hz, hbz⟩ := HFN.out
  rw [← hW]
  obtain ⟨z0, z1, _, _⟩ := hz
  exact bodyPost_ret (v := tv N S) (by simp [results, Tryd.results7, go_sem, z0, z1]) rfl ⟨⟨N, S, rfl, hS⟩, hbz⟩

end Go.Proofs.YtkcbonocbdfbcaaDoor.Tds
