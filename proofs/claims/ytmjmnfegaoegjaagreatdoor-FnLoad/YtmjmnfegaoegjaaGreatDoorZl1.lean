/- A machine at reading, in memory; the closures that read the first six lines. Written by tools/mkzl1.py. -/
import Derived.Test.YtmjmnfegaoegjaaGreatDoorPkLD36
import Derived.Test.YtmjmnfegaoegjaaGreatDoorWp4
import Derived.Test.YtmjmnfegaoegjaaGreatDoorPkLD20
import Derived.Test.YtmjmnfegaoegjaaGreatDoorPkLD7
namespace Go.Proofs.YtmjmnfegaoegjaaGreatDoor.Zl1
open Go.RowKit
open Nd0 (Kept Ints WInts IntsIn At lt_of_cell)
open Nd6 (Bools BoolsIn)
open Mm0 (Mc Mb Mr Mok mval)
open Mx0 (Mf Mz)
open Mw9 (OwSo)
open Tc2 (tv)
open Ss0 (bs bs_size)
open Ss1 (tl tl_bs bs_tl tl_length)
open Za1 (rrB rrL iReadRow)
open Zk0 (rnP rkB rkN cutF cutS cutF_le cutS_le)
open Zk1 (RkP iReadKey)
open Zt0 (TabZ iReadNumber iCut)
open Wp3 (rvB rvL)
open Wp4 (iReadVals)
open Zl0
set_option linter.unusedVariables false

structure Ld (W : World) (q : Nat) (m : Mc) (ra va ma : Option Addr) (rc vc mc u1 u2 : Nat) : Prop where
  mf : Mf W q [.slice ra m.row.length rc, .int .i64 m.N, .string m.S, .int .i64 m.room, .slice va m.vals.length vc, .int .i64 m.ret, .bool m.over, .int .i64 m.steps, .int .i64 m.looks, .int .i64 m.hits, .slice ma m.memo.length mc]
  h1 : q + 1 ≤ u1
  h2 : u1 ≤ u2
  h3 : u2 ≤ W.heap.size
  row : BoolsIn W (q + 1) u1 ra m.row
  vals : IntsIn W u1 u2 va m.vals
  memo : OwSo W u2 (.slice ma m.memo.length mc) m.memo
  nm : m.memo = [] → Value.slice ma m.memo.length mc = .slice none 0 0
theorem Ld.lt {W : World} {q : Nat} {m : Mc} {ra va ma : Option Addr} {rc vc mc u1 u2 : Nat} (h : Ld W q m ra va ma rc vc mc u1 u2) : q < W.heap.size := h.mf.lt (by simp)
theorem Ld.kept {W W' : World} {q : Nat} {m : Mc} {ra va ma : Option Addr} {rc vc mc u1 u2 : Nat} (h : Ld W q m ra va ma rc vc mc u1 u2) {S : Nat → Prop} (k : Kept S W W') (hq : ∀ b, q ≤ b → b < W.heap.size → ¬ S b) : Ld W' q m ra va ma rc vc mc u1 u2 :=
  ⟨h.mf.kept k (hq q (Nat.le_refl _) h.lt), h.h1, h.h2, Nat.le_trans h.h3 k.size, h.row.kept k (fun b h1 h2 => hq b (by omega) (by have := h.h2; have := h.h3; omega)), h.vals.kept k (fun b h1 h2 => hq b (by have := h.h1; omega) (by have := h.h3; omega)), h.memo.kept k (fun g o n c e => hq g (by have := (h.memo.lt g o n c e).1; have := h.h1; have := h.h2; omega) (h.memo.lt g o n c e).2), h.nm⟩
theorem Ld.below {W W' : World} {q : Nat} {m : Mc} {ra va ma : Option Addr} {rc vc mc u1 u2 : Nat} (h : Ld W q m ra va ma rc vc mc u1 u2) (k : Below W.heap.size W W') : Ld W' q m ra va ma rc vc mc u1 u2 := h.kept (S := fun _ => False) (Kept.ofBelow k) (fun _ _ _ h => h)
theorem Ld.mr {W : World} {q : Nat} {m : Mc} {ra va ma : Option Addr} {rc vc mc u1 u2 : Nat} (h : Ld W q m ra va ma rc vc mc u1 u2) : Mr W m ra va ma := by
  obtain ⟨a, c, e, hw, _⟩ := h.memo.form
  cases e
  exact ⟨h.row.plain, h.vals.ints, hw.plain⟩
def RdO (W : World) (q : Nat) (ma : Option Addr) (o : Option Mc) (e : Ending) (w' : World) : Prop :=
  e = .returned (.bool o.isSome) ∧ (∀ m', o = some m' → ∃ ra va ma rc vc mc u1 u2, Ld w' q m' ra va ma rc vc mc u1 u2) ∧ Kept (fun b => b = q ∨ At ma b) W w'
theorem nil_bools {W : World} {B U : Nat} (a : Option Addr) {l : List Bool} (h : l = []) : BoolsIn W B U a l := by subst h; exact ⟨Nat.zero_le _, .inl rfl⟩
theorem nil_ints {W : World} {B U : Nat} (a : Option Addr) {l : List Int} (h : l = []) : IntsIn W B U a l := by subst h; exact ⟨Nat.zero_le _, .inl rfl⟩
theorem kq (W W1 : World) (q : Nat) (ma : Option Addr) (hb : Below W.heap.size W W1) (j : Nat) (v : Value) : Kept (fun b => b = q ∨ At ma b) W (W1.setCell ⟨q, j, none⟩ v) := (Kept.ofBelow hb).trans ((Kept.refl (fun b => b = q ∨ At ma b) W1).setCell (p := ⟨q, j, none⟩) (.inl rfl) v)

theorem low_bools {W : World} {B B' U : Nat} {a : Option Addr} {l : List Bool} (h : BoolsIn W B U a l) (hB : B' ≤ B) : BoolsIn W B' U a l := by
  refine ⟨h.1, ?_⟩
  rcases h.2 with e | ⟨b, o, ha, h1, h2, hc⟩
  · exact .inl e
  · exact .inr ⟨b, o, ha, by omega, h2, hc⟩
theorem low_ints {W : World} {B B' U : Nat} {a : Option Addr} {l : List Int} (h : IntsIn W B U a l) (hB : B' ≤ B) : IntsIn W B' U a l := by
  refine ⟨h.1, ?_⟩
  rcases h.2 with e | ⟨b, o, ha, h1, h2, hc⟩
  · exact .inl e
  · exact .inr ⟨b, o, ha, by omega, h2, hc⟩
theorem nil_memo {W : World} {B : Nat} {ma : Option Addr} {m : Mc} {mc : Nat} (h : Value.slice ma m.memo.length mc = .slice none 0 0) (h2 : m.memo = []) : OwSo W B (.slice ma m.memo.length mc) m.memo := .inl ⟨h, h2⟩
set_option maxRecDepth 100000 in
set_option maxHeartbeats 4000000 in
theorem r1 (W : World) (q : Nat) (m : Mc) (ra va ma : Option Addr) (rc vc mc u1 u2 : Nat) (h : Ld W q m ra va ma rc vc mc u1 u2) (b : List UInt8) (hb : b.length ≤ 400000) (hT : TabZ W) :
    Calls Tryz.prog 141 #[.pointer (some ⟨q, 0, none⟩), .string (bs b)] W (RdO W q ma (rd m b 1)) := by
  have HL : Hid (Ld W q m ra va ma rc vc mc u1 u2) := h
  have hk := iReadKey (bs b) W hT (by rw [bs_size]; omega)
  unfold RkP at hk
  rw [tl_bs] at hk
  obtain ⟨x, hx⟩ : ∃ x, x = if rkB b = true then rkN b else 0 := ⟨_, rfl⟩
  obtain ⟨t, ht⟩ : ∃ t, t = bs (if rkB b = true then cutS 58 b else []) := ⟨_, rfl⟩
  obtain ⟨y, hy⟩ : ∃ y, y = rkB b := ⟨_, rfl⟩
  have HR : Hid (rd m b 1 = if y = true then some { m with N := x, S := t } else none) := by
    show _ = _
    rw [hx, ht, hy]
    show (if rkB b = true then _ else none) = _
    split
    · rfl
    · rfl
  rw [← hx, ← ht, ← hy] at hk
  have HN : Hid _ := hk
  clear h hT hb hx hy ht hk
  go_enter Tryz.func141, Tryz.ntmps141
  go_wp2_with fail
  refine Calls.mono HN.out ?_
  rintro e w1 ⟨rfl, hb1⟩
  have HB : Hid (Below W.heap.size W w1) := hb1
  have HL1 : Hid (Ld w1 q m ra va ma rc vc mc u1 u2) := HL.out.below hb1
  clear hb1
  obtain ⟨c0, c1, c2, c3, c4, c5, c6, c7, c8, c9, c10, z0, z1, z2, z3, z4, z5, z6, z7, z8, z9, z10⟩ := HL1.out.mf.all
  have hq := HL1.out.lt
  go_wp2
  go_ret
  have K : Kept (fun b => b = q) w1 ((w1.setCell ⟨q, 1, none⟩ (.int .i64 x)).setCell ⟨q, 2, none⟩ (.string t)) := ((Kept.refl (fun b => b = q) w1).setCell (p := ⟨q, 1, none⟩) rfl _).setCell (p := ⟨q, 2, none⟩) rfl _
  refine ⟨?_, fun m' hm' => ?_, (Kept.ofBelow HB.out).trans (K.mono (fun b hb => .inl hb))⟩
  · rw [HR.out]; cases y <;> rfl
  · rw [HR.out] at hm'
    cases y
    · cases hm'
    · cases hm'
      have L := HL1.out
      exact ⟨ra, va, ma, rc, vc, mc, u1, u2, (L.mf.set 1 (.int .i64 x)).set 2 (.string t), L.h1, L.h2, Nat.le_trans L.h3 K.size, L.row.kept K (fun b h1 h2 => by omega), L.vals.kept K (fun b h1 h2 => by have := L.h1; omega), L.memo.kept K (fun g o n c e => by have := (L.memo.lt g o n c e).1; have := L.h1; have := L.h2; omega), L.nm⟩
set_option maxRecDepth 100000 in
set_option maxHeartbeats 4000000 in
theorem r5 (W : World) (q : Nat) (m : Mc) (ra va ma : Option Addr) (rc vc mc u1 u2 : Nat) (h : Ld W q m ra va ma rc vc mc u1 u2) (b : List UInt8) (hb : b.length ≤ 400000) (hT : TabZ W) :
    Calls Tryz.prog 152 #[.pointer (some ⟨q, 0, none⟩), .string (bs b)] W (RdO W q ma (rd m b 5)) := by
  have HL : Hid (Ld W q m ra va ma rc vc mc u1 u2) := h
  have HN : Hid _ := iReadNumber (bs b) W hT (by rw [bs_size]; omega)
  rw [tl_bs] at HN
  obtain ⟨x, hx⟩ : ∃ x, x = (rnP b).1 := ⟨_, rfl⟩
  obtain ⟨y, hy⟩ : ∃ y, y = (rnP b).2 := ⟨_, rfl⟩
  rw [← hx, ← hy] at HN
  obtain ⟨v, hv⟩ : ∃ v, v = decide (x = 1) := ⟨_, rfl⟩
  have HR : Hid (rd m b 5 = if y = true then some { m with over := v } else none) := by show _ = _; rw [hv, hx, hy]; rfl
  have hxv : (x == 1) = v := by rw [hv]; by_cases e : x = 1 <;> simp [e]
  have hxw : decide (x = 1) = v := hv.symm
  clear h hT hb hx hy hv
  go_enter Tryz.func152, Tryz.ntmps152
  go_wp2_with fail
  refine Calls.mono HN.out ?_
  rintro e w1 ⟨rfl, hb1⟩
  have HB : Hid (Below W.heap.size W w1) := hb1
  have HL1 : Hid (Ld w1 q m ra va ma rc vc mc u1 u2) := HL.out.below hb1
  clear hb1
  obtain ⟨c0, c1, c2, c3, c4, c5, c6, c7, c8, c9, c10, z0, z1, z2, z3, z4, z5, z6, z7, z8, z9, z10⟩ := HL1.out.mf.all
  have hq := HL1.out.lt
  go_wp2
  go_ret
  refine ⟨?_, fun m' hm' => ?_, kq W w1 q ma HB.out 6 _⟩
  · rw [HR.out]; cases y <;> rfl
  · rw [HR.out] at hm'
    cases y
    · cases hm'
    · cases hm'
      have K : Kept (fun b => b = q) w1 (w1.setCell ⟨q, 6, none⟩ (.bool v)) := (Kept.refl (fun b => b = q) w1).setCell (p := ⟨q, 6, none⟩) rfl _
      have L := HL1.out
      exact ⟨ra, va, ma, rc, vc, mc, u1, u2, L.mf.set 6 (.bool v), L.h1, L.h2, Nat.le_trans L.h3 K.size, L.row.kept K (fun b h1 h2 => by omega), L.vals.kept K (fun b h1 h2 => by have := L.h1; omega), L.memo.kept K (fun g o n c e => by have := (L.memo.lt g o n c e).1; have := L.h1; have := L.h2; omega), L.nm⟩
set_option maxRecDepth 100000 in
set_option maxHeartbeats 4000000 in
theorem r0 (W : World) (q : Nat) (m : Mc) (ra va ma : Option Addr) (rc vc mc u1 u2 : Nat) (h : Ld W q m ra va ma rc vc mc u1 u2) (b : List UInt8) (hb : b.length ≤ 400000) (hT : TabZ W) (hv : m.vals = []) (hm : m.memo = []) (hs : Value.slice ma m.memo.length mc = .slice none 0 0) :
    Calls Tryz.prog 139 #[.pointer (some ⟨q, 0, none⟩), .string (bs b)] W (RdO W q ma (rd m b 0)) := by
  have HL : Hid (Ld W q m ra va ma rc vc mc u1 u2) := h
  have hn := iReadRow (bs b) W (by rw [bs_size]; omega)
  rw [tl_bs] at hn
  have HN : Hid _ := hn
  obtain ⟨l, hl⟩ : ∃ l, l = rrL b := ⟨_, rfl⟩
  obtain ⟨y, hy⟩ : ∃ y, y = rrB b := ⟨_, rfl⟩
  rw [← hl, ← hy] at HN
  have HR : Hid (rd m b 0 = if y = true then some { m with row := l } else none) := by show _ = _; rw [hl, hy]; rfl
  have HE : Hid (m.vals = [] ∧ m.memo = [] ∧ Value.slice ma m.memo.length mc = .slice none 0 0) := ⟨hv, hm, hs⟩
  clear h hT hb hl hy hn hv hm hs
  go_enter Tryz.func139, Tryz.ntmps139
  go_wp2_with fail
  refine Calls.mono HN.out ?_
  rintro e w1 ⟨v, rfl, hov, hb1⟩
  obtain ⟨a', c', rfl, hwb⟩ := hov.form
  have HB : Hid (Below W.heap.size W w1) := hb1
  have HL1 : Hid (Ld w1 q m ra va ma rc vc mc u1 u2) := HL.out.below hb1
  have HW : Hid (BoolsIn w1 (q + 1) w1.heap.size a' l) := low_bools (Nd6.WBools.within hwb) HL.out.lt
  clear hb1 hov hwb
  obtain ⟨c0, c1, c2, c3, c4, c5, c6, c7, c8, c9, c10, z0, z1, z2, z3, z4, z5, z6, z7, z8, z9, z10⟩ := HL1.out.mf.all
  have hq := HL1.out.lt
  go_wp2
  go_ret
  refine ⟨?_, fun m' hm' => ?_, kq W w1 q ma HB.out 0 _⟩
  · rw [HR.out]; cases y <;> rfl
  · rw [HR.out] at hm'
    cases y
    · cases hm'
    · cases hm'
      have K : Kept (fun b => b = q) w1 (w1.setCell ⟨q, 0, none⟩ (.slice a' l.length c')) := (Kept.refl (fun b => b = q) w1).setCell (p := ⟨q, 0, none⟩) rfl _
      have L := HL1.out
      have hqW := HL.out.lt
      have hs := HB.out.size
      exact ⟨a', va, ma, c', vc, mc, w1.heap.size, w1.heap.size, L.mf.set 0 (.slice a' l.length c'), by omega, Nat.le_refl _, K.size, HW.out.kept K (fun b h1 h2 => by omega), nil_ints va HE.out.1, nil_memo (m := { m with row := l }) HE.out.2.2 HE.out.2.1, fun _ => HE.out.2.2⟩
set_option maxRecDepth 100000 in
set_option maxHeartbeats 4000000 in
theorem r3 (W : World) (q : Nat) (m : Mc) (ra va ma : Option Addr) (rc vc mc u1 u2 : Nat) (h : Ld W q m ra va ma rc vc mc u1 u2) (b : List UInt8) (hb : b.length ≤ 400000) (hT : TabZ W) (hm : m.memo = []) (hs : Value.slice ma m.memo.length mc = .slice none 0 0) :
    Calls Tryz.prog 147 #[.pointer (some ⟨q, 0, none⟩), .string (bs b)] W (RdO W q ma (rd m b 3)) := by
  have HL : Hid (Ld W q m ra va ma rc vc mc u1 u2) := h
  have hn := iReadVals (bs b) W (by rw [bs_size]; omega)
  rw [tl_bs] at hn
  have HN : Hid _ := hn
  obtain ⟨l, hl⟩ : ∃ l, l = rvL b := ⟨_, rfl⟩
  obtain ⟨y, hy⟩ : ∃ y, y = rvB b := ⟨_, rfl⟩
  rw [← hl, ← hy] at HN
  have HR : Hid (rd m b 3 = if y = true then some { m with vals := l } else none) := by show _ = _; rw [hl, hy]; rfl
  have HE : Hid (m.memo = [] ∧ Value.slice ma m.memo.length mc = .slice none 0 0) := ⟨hm, hs⟩
  clear h hT hb hl hy hn hm hs
  go_enter Tryz.func147, Tryz.ntmps147
  go_wp2_with fail
  refine Calls.mono HN.out ?_
  rintro e w1 ⟨v, rfl, hov, hb1⟩
  obtain ⟨a', c', rfl, hwb⟩ := hov.form
  have HB : Hid (Below W.heap.size W w1) := hb1
  have HL1 : Hid (Ld w1 q m ra va ma rc vc mc u1 u2) := HL.out.below hb1
  have HW : Hid (IntsIn w1 u1 w1.heap.size a' l) := low_ints (Nd0.WInts.within hwb) (by have := HL.out.h2; have := HL.out.h3; omega)
  clear hb1 hov hwb
  obtain ⟨c0, c1, c2, c3, c4, c5, c6, c7, c8, c9, c10, z0, z1, z2, z3, z4, z5, z6, z7, z8, z9, z10⟩ := HL1.out.mf.all
  have hq := HL1.out.lt
  go_wp2
  go_ret
  refine ⟨?_, fun m' hm' => ?_, kq W w1 q ma HB.out 4 _⟩
  · rw [HR.out]; cases y <;> rfl
  · rw [HR.out] at hm'
    cases y
    · cases hm'
    · cases hm'
      have K : Kept (fun b => b = q) w1 (w1.setCell ⟨q, 4, none⟩ (.slice a' l.length c')) := (Kept.refl (fun b => b = q) w1).setCell (p := ⟨q, 4, none⟩) rfl _
      have L := HL1.out
      have hqW := HL.out.lt
      have hs := HB.out.size
      exact ⟨ra, a', ma, rc, c', mc, u1, w1.heap.size, L.mf.set 4 (.slice a' l.length c'), L.h1, by have := L.h2; have := L.h3; omega, K.size, L.row.kept K (fun b h1 h2 => by omega), HW.out.kept K (fun b h1 h2 => by have := L.h1; omega), nil_memo (m := { m with vals := l }) HE.out.2 HE.out.1, fun _ => HE.out.2⟩
set_option maxRecDepth 100000 in
set_option maxHeartbeats 4000000 in
theorem r2 (W : World) (q : Nat) (m : Mc) (ra va ma : Option Addr) (rc vc mc u1 u2 : Nat) (h : Ld W q m ra va ma rc vc mc u1 u2) (b : List UInt8) (hb : b.length ≤ 400000) (hT : TabZ W) :
    Calls Tryz.prog 144 #[.pointer (some ⟨q, 0, none⟩), .string (bs b)] W (RdO W q ma (rd m b 2)) := by
  have HL : Hid (Ld W q m ra va ma rc vc mc u1 u2) := h
  have HN : Hid _ := iReadNumber (bs b) W hT (by rw [bs_size]; omega)
  rw [tl_bs] at HN
  obtain ⟨x, hx⟩ : ∃ x, x = (rnP b).1 := ⟨_, rfl⟩
  obtain ⟨y, hy⟩ : ∃ y, y = (rnP b).2 := ⟨_, rfl⟩
  rw [← hx, ← hy] at HN
  have HR : Hid (rd m b 2 = if y = true then some { m with room := x } else none) := by show _ = _; rw [hx, hy]; rfl
  clear h hT hb hx hy
  go_enter Tryz.func144, Tryz.ntmps144
  go_wp2_with fail
  refine Calls.mono HN.out ?_
  rintro e w1 ⟨rfl, hb1⟩
  have HB : Hid (Below W.heap.size W w1) := hb1
  have HL1 : Hid (Ld w1 q m ra va ma rc vc mc u1 u2) := HL.out.below hb1
  clear hb1
  obtain ⟨c0, c1, c2, c3, c4, c5, c6, c7, c8, c9, c10, z0, z1, z2, z3, z4, z5, z6, z7, z8, z9, z10⟩ := HL1.out.mf.all
  have hq := HL1.out.lt
  go_wp2
  go_ret
  refine ⟨?_, fun m' hm' => ?_, kq W w1 q ma HB.out 3 _⟩
  · rw [HR.out]; cases y <;> rfl
  · rw [HR.out] at hm'
    cases y
    · cases hm'
    · cases hm'
      have K : Kept (fun b => b = q) w1 (w1.setCell ⟨q, 3, none⟩ (.int .i64 x)) := (Kept.refl (fun b => b = q) w1).setCell (p := ⟨q, 3, none⟩) rfl _
      have L := HL1.out
      exact ⟨ra, va, ma, rc, vc, mc, u1, u2, L.mf.set 3 (.int .i64 x), L.h1, L.h2, Nat.le_trans L.h3 K.size, L.row.kept K (fun b h1 h2 => by omega), L.vals.kept K (fun b h1 h2 => by have := L.h1; omega), L.memo.kept K (fun g o n c e => by have := (L.memo.lt g o n c e).1; have := L.h1; have := L.h2; omega), L.nm⟩
set_option maxRecDepth 100000 in
set_option maxHeartbeats 4000000 in
theorem r4 (W : World) (q : Nat) (m : Mc) (ra va ma : Option Addr) (rc vc mc u1 u2 : Nat) (h : Ld W q m ra va ma rc vc mc u1 u2) (b : List UInt8) (hb : b.length ≤ 400000) (hT : TabZ W) :
    Calls Tryz.prog 150 #[.pointer (some ⟨q, 0, none⟩), .string (bs b)] W (RdO W q ma (rd m b 4)) := by
  have HL : Hid (Ld W q m ra va ma rc vc mc u1 u2) := h
  have HN : Hid _ := iReadNumber (bs b) W hT (by rw [bs_size]; omega)
  rw [tl_bs] at HN
  obtain ⟨x, hx⟩ : ∃ x, x = (rnP b).1 := ⟨_, rfl⟩
  obtain ⟨y, hy⟩ : ∃ y, y = (rnP b).2 := ⟨_, rfl⟩
  rw [← hx, ← hy] at HN
  have HR : Hid (rd m b 4 = if y = true then some { m with ret := x } else none) := by show _ = _; rw [hx, hy]; rfl
  clear h hT hb hx hy
  go_enter Tryz.func150, Tryz.ntmps150
  go_wp2_with fail
  refine Calls.mono HN.out ?_
  rintro e w1 ⟨rfl, hb1⟩
  have HB : Hid (Below W.heap.size W w1) := hb1
  have HL1 : Hid (Ld w1 q m ra va ma rc vc mc u1 u2) := HL.out.below hb1
  clear hb1
  obtain ⟨c0, c1, c2, c3, c4, c5, c6, c7, c8, c9, c10, z0, z1, z2, z3, z4, z5, z6, z7, z8, z9, z10⟩ := HL1.out.mf.all
  have hq := HL1.out.lt
  go_wp2
  go_ret
  refine ⟨?_, fun m' hm' => ?_, kq W w1 q ma HB.out 5 _⟩
  · rw [HR.out]; cases y <;> rfl
  · rw [HR.out] at hm'
    cases y
    · cases hm'
    · cases hm'
      have K : Kept (fun b => b = q) w1 (w1.setCell ⟨q, 5, none⟩ (.int .i64 x)) := (Kept.refl (fun b => b = q) w1).setCell (p := ⟨q, 5, none⟩) rfl _
      have L := HL1.out
      exact ⟨ra, va, ma, rc, vc, mc, u1, u2, L.mf.set 5 (.int .i64 x), L.h1, L.h2, Nat.le_trans L.h3 K.size, L.row.kept K (fun b h1 h2 => by omega), L.vals.kept K (fun b h1 h2 => by have := L.h1; omega), L.memo.kept K (fun g o n c e => by have := (L.memo.lt g o n c e).1; have := L.h1; have := L.h2; omega), L.nm⟩
end Go.Proofs.YtmjmnfegaoegjaaGreatDoor.Zl1
