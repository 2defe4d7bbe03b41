/- Small texts of mine, one behind the other. -/
import Derived.Test.YtnpfegfjejfaaaaTd2
import Derived.Test.YtnpfegfjejfaaaaPkHe
/- What tables the laws draw. -/
namespace Go.Proofs.Ytnpfegfjejfaaaa.Tdr
open Go.RowKit
open Ta0 Ta1 Tc2 Tc5 Ap9 Td1 Td2
open Nd0 (Kept set_same)
open Dr0 (Cur Only Bytes)
open Ss0 (bs bs_size)
set_option linter.unusedVariables false

/-- What stands while a table is drawn: the cursor, the result's box, the bytes so far. -/
structure DT (w : World) (b : Nat) (a : Option Addr) (len cap : Nat) (v : Value) (k : Nat) (W : World) : Prop where
  cur : Cur W b a len cap
  res : Lay W w.heap.size (.int .i64 0) (.string ByteArray.empty)
  own : ∃ l : List UInt8, l.length = k ∧ Owu W (w.heap.size + 1) v l
  siz : w.heap.size + 1 ≤ W.heap.size
  onl : Only b w W
theorem kept_of_only {b : Nat} {W W' : World} (h : Only b W W') : Kept (fun x => x = b) W W' := ⟨h.os, h.tape, h.output, h.size, h.block⟩
theorem DT.only {w W W' : World} {b : Nat} {a : Option Addr} {len cap : Nat} {v : Value} {k : Nat} (h : DT w b a len cap v k W) (hb : b < w.heap.size) (hc : Cur W' b a len cap) (ho : Only b W W') : DT w b a len cap v k W' := by
  obtain ⟨l, h1, h2⟩ := h.own
  refine ⟨hc, h.res.kept (kept_of_only ho) (by omega), ⟨l, h1, h2.kept (kept_of_only ho) (fun i hi e => by have := (h2.lt i hi).1; omega)⟩, by have := ho.size; have := h.siz; omega, h.onl.trans ho⟩

theorem only_app {b : Nat} {u W W' : World} {v : Value} (h : Only b u W) (hk : Kept (fun k => v.ownBlock = some k) W W') (hv : ∀ k, v.ownBlock = some k → u.heap.size ≤ k) : Only b u W' :=
  ⟨hk.os.trans h.os, hk.tape.trans h.tape, hk.output.trans h.output, Nat.le_trans h.size hk.size, fun i hi hb => (hk.block i (Nat.lt_of_lt_of_le hi h.size) (fun e => by have := hv i e; omega)).trans (h.block i hi hb)⟩
theorem cur_kept {b : Nat} {W W' : World} {a : Option Addr} {len cap : Nat} (h : Cur W b a len cap) {S : Nat → Prop} (hk : Kept S W W') (hb : ¬ S b) (ha : len = 0 ∨ ∀ x, a = some x → ¬ S x.block) : Cur W' b a len cap := by
  have hl := h.lt
  obtain ⟨i, hi, hc1⟩ := h.c1
  obtain ⟨q, hc2⟩ := h.c2
  refine ⟨by rw [hk.cell (p := ⟨b, 0, none⟩) hl hb]; exact h.c0, ⟨i, hi, by rw [hk.cell (p := ⟨b, 1, none⟩) hl hb]; exact hc1⟩, ⟨q, by rw [hk.cell (p := ⟨b, 2, none⟩) hl hb]; exact hc2⟩, by rw [hk.frozen (p := ⟨b, 1, none⟩) hl hb]; exact h.f1, by rw [hk.frozen (p := ⟨b, 2, none⟩) hl hb]; exact h.f2, ⟨h.bytes.1, ?_⟩, h.off⟩
  rcases h.bytes.2 with h0 | ⟨xb, xo, rfl, hc⟩
  · exact .inl h0
  · rcases ha with h0 | ha
    · exact .inl h0
    · refine .inr ⟨xb, xo, rfl, fun i hi => ?_⟩
      obtain ⟨v, h1, h2, h3⟩ := hc i hi
      exact ⟨v, h1, h2, by rw [hk.cell (Dr0.lt_of_cell h3) (ha ⟨xb, xo, none⟩ rfl)]; exact h3⟩
/-- The bytes that are drawn from lie in a block below B. -/
def Low (a : Option Addr) (len B : Nat) : Prop := len = 0 ∨ ∀ x, a = some x → x.block < B
theorem low_of {W : World} {a : Option Addr} {len : Nat} (h : Bytes W a len) : Low a len W.heap.size := by
  rcases h.2 with h0 | ⟨xb, xo, rfl, hc⟩
  · exact .inl h0
  · by_cases h0 : len = 0
    · exact .inl h0
    · refine .inr fun x hx => ?_
      cases hx
      obtain ⟨v, _, _, h3⟩ := hc 0 (by omega)
      exact Dr0.lt_of_cell h3
theorem DT.next {w W W' : World} {b : Nat} {a : Option Addr} {len cap : Nat} {v v' : Value} {k k' : Nat} {l' : List UInt8} (h : DT w b a len cap v k W) (hb : b < w.heap.size) (hlo : Low a len w.heap.size) (hk : Kept (fun x => v.ownBlock = some x) W W') (hl : l'.length = k') (ho : Owu W' (w.heap.size + 1) v' l') : DT w b a len cap v' k' W' := by
  obtain ⟨l, h1, h2⟩ := h.own
  have hv : ∀ x, v.ownBlock = some x → w.heap.size + 1 ≤ x := fun x hx => (h2.lt x hx).1
  refine ⟨cur_kept h.cur hk (fun e => by have := hv _ e; omega) ?_, h.res.kept hk (fun e => by have := hv _ e; omega), ⟨l', hl, ho⟩, by have := hk.size; have := h.siz; omega, only_app h.onl hk (fun x hx => by have := hv x hx; omega)⟩
  rcases hlo with h0 | h0
  · exact .inl h0
  · exact .inr fun x hx e => by have := h0 x hx; have := hv _ e; omega

theorem sgn_lit (x : Int) (h : x = 0 ∨ x = 1) : ∃ y : UInt8, IntKind.u8.wrap (48 + x) = (y.toNat : Int) ∧ (48 + x) = (y.toNat : Int) := by
  rcases h with rfl | rfl
  · exact ⟨48, by decide, rfl⟩
  · exact ⟨49, by decide, rfl⟩

set_option maxRecDepth 100000 in
set_option maxHeartbeats 8000000 in
theorem l06Table (w : World) (b : Nat) (a : Option Addr) (len cap : Nat) (n : Nat) (hn : n ≤ 6) (hc : Cur w b a len cap) :
    Calls Try.prog 86 #[.pointer (some ⟨b, 0, none⟩), .int .i64 (n : Int)] w fun e w' => (∃ S : ByteArray, e = .returned (tv (n : Int) S) ∧ 1 ≤ S.size ∧ S.size ≤ 64) ∧ Cur w' b a len cap ∧ Only b w w' := by
  have HLO : Hid (Low a len w.heap.size) := low_of hc.bytes
  have hbl : b < w.heap.size := hc.lt
  have HPW : Hid (∀ W, Calls Try.prog 51 #[.int .i64 (n : Int)] W fun e w' => e = .returned (.int .i64 ((2 ^ n : Nat) : Int)) ∧ w' = W) := fun W => sPow n W (by omega)
  have hp : 1 ≤ 2 ^ n := Nat.one_le_two_pow
  have hl : 2 ^ n ≤ 64 := Nat.pow_le_pow_right (n := 2) (by omega) hn
  generalize 2 ^ n = P at *
  have HD0 : Hid (DT w b a len cap (.slice (some ⟨w.heap.size + 1, 0, none⟩) 0 0) 0 ((w.alloc (.cells #[.int .i64 0, .string ByteArray.empty] 25)).alloc (.cells #[] 5))) := by
    have h1 := Owu.lit (w.alloc (.cells #[.int .i64 0, .string ByteArray.empty] 25)) (w.heap.size + 1) (by simp)
    refine ⟨(hc.alloc _).alloc _, (Lay.made _ _ _ _).alloc _, ⟨[], rfl, by simpa using h1⟩, by simp, ((Only.refl _ _).alloc _).alloc _⟩
  clear hc
  go_enter Try.func86, Try.ntmps86
  go_wp2_with fail
  refine (Dr1.below _ b a len cap 4 (by omega) (by omega) HD0.out.cur).mono ?_
  rintro e w1 ⟨⟨wy, rfl, hy0, hy1⟩, hc1, ho1⟩
  have HD1 : Hid (DT w b a len cap (.slice (some ⟨w.heap.size + 1, 0, none⟩) 0 0) 0 w1) := HD0.out.only hbl hc1 ho1
  clear hc1 ho1
  go_wp2_with fail
  go_loopw [5, 7] (fun v i wr => ∃ k : Nat, k ≤ P ∧ i = .int .i64 k ∧ DT w b a len cap v k wr) (fun _ i _ => P - (intOf i).toNat)
  case atStart => exact ⟨0, Nat.zero_le _, rfl, HD1.out⟩
  case round =>
    obtain ⟨k, hk, rfl, hdt⟩ := hrel
    have HD : Hid (DT w b a len cap u5 k wr) := hdt
    clear hdt
    by_cases hlt : k < P
    · have hkz : (k : Int) < (P : Int) := by omega
      go_wp2_with (go_at_call 51; refine (HPW.out _).mono ?_; rintro e w' ⟨rfl, hw'⟩; have hw2 := hw'.symm; clear hw'; subst hw2)
      refine (Dr1.below _ b a len cap 2 (by omega) (by omega) HD.out.cur).mono ?_
      rintro e w2 ⟨⟨x, rfl, hx0, hx1⟩, hc2, ho2⟩
      have HD2 : Hid (DT w b a len cap u5 k w2) := HD.out.only hbl hc2 ho2
      clear hc2 ho2
      by_cases h0 : wy = 0
      · have hw0 : (wy == 0) = true := by rw [h0]; rfl
        clear h0
        rcases (by omega : (k : Int) / 2 % 2 = 0 ∨ (k : Int) / 2 % 2 = 1) with hx | hx
        · have hx9 : (48 : Int) + (k : Int) / 2 % 2 = 48 := by omega
          obtain ⟨l, hll, hol⟩ := HD2.out.own
          have HLL : Hid (l.length = k) := hll
          have HO : Hid (Owu w2 (w.heap.size + 1) u5 l) := hol
          have hsz := HD2.out.siz
          clear hll hol
          go_wp2_with (at_builtin; go_must (refine app_byte _ rfl _ _ rfl (w.heap.size + 1) u5 l (sgn _) _ (by first | exact show (49 : Int) = ((sgn true).toNat : Int) from rfl | exact show (48 : Int) = ((sgn false).toNat : Int) from rfl) rfl rfl HO.out hsz (by rw [HLL.out]; omega) ?_; intro g5 cp5 w5 ho5 hk5 hg5; have HD5 : Hid (DT w b a len cap (.slice (some ⟨g5, 0, none⟩) (l.length + 1) cp5) (k + 1) w5) := HD2.out.next hbl HLO.out hk5 (by rw [List.length_append, HLL.out]; rfl) ho5; clear ho5 hk5 hg5))
          go_roundw
          case rel => exact ⟨k + 1, by omega, by go_num, HD5.out⟩
          case measure => simp [intOf]; omega
        · have hx9 : (48 : Int) + (k : Int) / 2 % 2 = 49 := by omega
          obtain ⟨l, hll, hol⟩ := HD2.out.own
          have HLL : Hid (l.length = k) := hll
          have HO : Hid (Owu w2 (w.heap.size + 1) u5 l) := hol
          have hsz := HD2.out.siz
          clear hll hol
          go_wp2_with (at_builtin; go_must (refine app_byte _ rfl _ _ rfl (w.heap.size + 1) u5 l (sgn _) _ (by first | exact show (49 : Int) = ((sgn true).toNat : Int) from rfl | exact show (48 : Int) = ((sgn false).toNat : Int) from rfl) rfl rfl HO.out hsz (by rw [HLL.out]; omega) ?_; intro g5 cp5 w5 ho5 hk5 hg5; have HD5 : Hid (DT w b a len cap (.slice (some ⟨g5, 0, none⟩) (l.length + 1) cp5) (k + 1) w5) := HD2.out.next hbl HLO.out hk5 (by rw [List.length_append, HLL.out]; rfl) ho5; clear ho5 hk5 hg5))
          go_roundw
          case rel => exact ⟨k + 1, by omega, by go_num, HD5.out⟩
          case measure => simp [intOf]; omega
      · have hw0 : (wy == 0) = false := beq_eq_false_iff_ne.2 h0
        by_cases h1 : wy = 1
        · have hw1 : (wy == 1) = true := by rw [h1]; rfl
          clear h0 h1
          rcases (by omega : x = 0 ∨ x = 1) with rfl | rfl
          all_goals
            go_wp2_with fail
            refine (Dr1.once _ b a len cap 2 (by omega) (by omega) HD2.out.cur).mono ?_
            rintro e w3 ⟨⟨z, rfl⟩, hc3, ho3⟩
            have HD3 : Hid (DT w b a len cap u5 k w3) := HD2.out.only hbl hc3 ho3
            clear hc3 ho3
            cases z
            all_goals
              obtain ⟨l, hll, hol⟩ := HD3.out.own
              have HLL : Hid (l.length = k) := hll
              have HO : Hid (Owu w3 (w.heap.size + 1) u5 l) := hol
              have hsz := HD3.out.siz
              clear hll hol
              go_wp2_with (at_builtin; go_must (refine app_byte _ rfl _ _ rfl (w.heap.size + 1) u5 l (sgn _) _ (by first | exact show (49 : Int) = ((sgn true).toNat : Int) from rfl | exact show (48 : Int) = ((sgn false).toNat : Int) from rfl) rfl rfl HO.out hsz (by rw [HLL.out]; omega) ?_; intro g5 cp5 w5 ho5 hk5 hg5; have HD5 : Hid (DT w b a len cap (.slice (some ⟨g5, 0, none⟩) (l.length + 1) cp5) (k + 1) w5) := HD3.out.next hbl HLO.out hk5 (by rw [List.length_append, HLL.out]; rfl) ho5; clear ho5 hk5 hg5))
              go_roundw
              case rel => exact ⟨k + 1, by omega, by go_num, HD5.out⟩
              case measure => simp [intOf]; omega
        · have hw1 : (wy == 1) = false := beq_eq_false_iff_ne.2 h1
          clear h0 h1
          rcases (by omega : x = 0 ∨ x = 1) with rfl | rfl
          all_goals
            obtain ⟨l, hll, hol⟩ := HD2.out.own
            have HLL : Hid (l.length = k) := hll
            have HO : Hid (Owu w2 (w.heap.size + 1) u5 l) := hol
            have hsz := HD2.out.siz
            clear hll hol
            go_wp2_with (at_builtin; go_must (refine app_byte _ rfl _ _ rfl (w.heap.size + 1) u5 l (sgn _) _ (by first | exact show (49 : Int) = ((sgn true).toNat : Int) from rfl | exact show (48 : Int) = ((sgn false).toNat : Int) from rfl) rfl rfl HO.out hsz (by rw [HLL.out]; omega) ?_; intro g5 cp5 w5 ho5 hk5 hg5; have HD5 : Hid (DT w b a len cap (.slice (some ⟨g5, 0, none⟩) (l.length + 1) cp5) (k + 1) w5) := HD2.out.next hbl HLO.out hk5 (by rw [List.length_append, HLL.out]; rfl) ho5; clear ho5 hk5 hg5))
            go_roundw
            case rel => exact ⟨k + 1, by omega, by go_num, HD5.out⟩
            case measure => simp [intOf]; omega
    · have hkP : k = P := by omega
      have HDP : Hid (DT w b a len cap u5 P wr) := by have h := HD.out; rw [hkP] at h; exact h
      have hkz : ¬ (k : Int) < (P : Int) := by omega
      clear hkP HD
      go_wp2_with (go_at_call 51; refine (HPW.out _).mono ?_; rintro e w' ⟨rfl, hw'⟩; have hw2 := hw'.symm; clear hw'; subst hw2)
      refine (Dr1.once _ b a len cap 8 (by omega) (by omega) HDP.out.cur).mono ?_
      rintro e w3 ⟨⟨z, rfl⟩, hc3, ho3⟩
      have HD3 : Hid (DT w b a len cap u5 P w3) := HDP.out.only hbl hc3 ho3
      clear hc3 ho3
      obtain ⟨l, hll, hol⟩ := HD3.out.own
      obtain ⟨g, c, hv, hgB, hgl⟩ := hol.at (by omega)
      subst hll
      subst hv
      clear hol
      cases z
      · obtain ⟨l3, hl3, ho3⟩ := HD3.out.own
        have hcv := ho3.text (by omega)
        obtain ⟨r0, r1, r2, r3⟩ := HD3.out.res
        have HS3 : Hid (1 ≤ (bs l3).size ∧ (bs l3).size ≤ 64) := by show _ ∧ _; rw [bs_size]; omega
        have HC3 : Hid (Cur w3 b a len cap) := HD3.out.cur
        have HON : Hid (Only b w w3) := HD3.out.onl
        have HL3 : Hid (Lay w3 w.heap.size (.int .i64 0) (.string ByteArray.empty)) := HD3.out.res
        generalize bs l3 = RS at *
        clear ho3
        go_wp2
        have K : Kept (fun x => x = w.heap.size) w3 ((w3.setCell ⟨w.heap.size, 0, none⟩ (.int .i64 (n : Int))).setCell ⟨w.heap.size, 1, none⟩ (.string RS)) := kset (S := fun x => x = w.heap.size) (kset (S := fun x => x = w.heap.size) (Kept.refl (fun x => x = w.heap.size) w3) rfl _) rfl _
        have hz := HL3.out.put (.int .i64 (n : Int)) (.string RS)
        have hcc := cur_kept HC3.out K (by omega) (HLO.out.imp id fun h x hx => by have := h x hx; omega)
        have hoo : Only b w ((w3.setCell ⟨w.heap.size, 0, none⟩ (.int .i64 (n : Int))).setCell ⟨w.heap.size, 1, none⟩ (.string RS)) := ⟨K.os.trans HON.out.os, K.tape.trans HON.out.tape, K.output.trans HON.out.output, Nat.le_trans HON.out.size K.size, fun i hi hb => (K.block i (Nat.lt_of_lt_of_le hi HON.out.size) (by omega)).trans (HON.out.block i hi hb)⟩
        obtain ⟨z0, z1, _, _⟩ := hz
        generalize (w3.setCell ⟨w.heap.size, 0, none⟩ (.int .i64 (n : Int))).setCell ⟨w.heap.size, 1, none⟩ (.string RS) = WF at *
        exact bodyPost_ret (v := tv (n : Int) RS) (by simp [results, Try.results86, go_sem, z0, z1]) rfl ⟨⟨RS, rfl, HS3.out⟩, hcc, hoo⟩
      · go_wp2_with fail
        go_loopw [9] (fun i wq => ∃ j : Nat, j ≤ l.length ∧ i = .int .i64 j ∧ DT w b a len cap (.slice (some ⟨g, 0, none⟩) l.length c) l.length wq) (fun i _ => l.length - (intOf i).toNat)
        case atStart => exact ⟨0, Nat.zero_le _, rfl, HD3.out⟩
        case round =>
          obtain ⟨j, hj, rfl, hdq⟩ := hrel
          have HQ : Hid (DT w b a len cap (.slice (some ⟨g, 0, none⟩) l.length c) l.length wr) := hdq
          clear hdq
          by_cases hjl : j < l.length
          · have hjz : (j : Int) < (l.length : Int) := by omega
            obtain ⟨l2, hl2, ho2⟩ := HQ.out.own
            obtain ⟨v0, v1⟩ := ho2.cell' hl2 j hjl
            have HW2 : Hid (DT w b a len cap (.slice (some ⟨g, 0, none⟩) l.length c) l.length (wr.setCell ⟨g, j, none⟩ (.int .u8 49))) :=
              HQ.out.next hbl HLO.out (kset (S := fun x => (Value.slice (some ⟨g, 0, none⟩) l.length c).ownBlock = some x) (Kept.refl _ wr) (by simp [Value.ownBlock]) _) (by rw [List.length_set]; exact hl2) (ho2.set' hl2 j 49)
            clear ho2
            go_wp2
            go_roundw
            case rel => exact ⟨j + 1, by omega, by go_num, HW2.out⟩
            case measure => simp [intOf]; omega
          · have hjz : ¬ (j : Int) < (l.length : Int) := by omega
            obtain ⟨l3, hl3, ho3⟩ := HQ.out.own
            have hcv := ho3.text (by omega)
            obtain ⟨r0, r1, r2, r3⟩ := HQ.out.res
            have HS3 : Hid (1 ≤ (bs l3).size ∧ (bs l3).size ≤ 64) := by show _ ∧ _; rw [bs_size]; omega
            have HC3 : Hid (Cur wr b a len cap) := HQ.out.cur
            have HON : Hid (Only b w wr) := HQ.out.onl
            have HL3 : Hid (Lay wr w.heap.size (.int .i64 0) (.string ByteArray.empty)) := HQ.out.res
            generalize bs l3 = RS at *
            clear ho3
            go_wp2
            have K : Kept (fun x => x = w.heap.size) wr ((wr.setCell ⟨w.heap.size, 0, none⟩ (.int .i64 (n : Int))).setCell ⟨w.heap.size, 1, none⟩ (.string RS)) := kset (S := fun x => x = w.heap.size) (kset (S := fun x => x = w.heap.size) (Kept.refl (fun x => x = w.heap.size) wr) rfl _) rfl _
            have hz := HL3.out.put (.int .i64 (n : Int)) (.string RS)
            have hcc := cur_kept HC3.out K (by omega) (HLO.out.imp id fun h x hx => by have := h x hx; omega)
            have hoo : Only b w ((wr.setCell ⟨w.heap.size, 0, none⟩ (.int .i64 (n : Int))).setCell ⟨w.heap.size, 1, none⟩ (.string RS)) := ⟨K.os.trans HON.out.os, K.tape.trans HON.out.tape, K.output.trans HON.out.output, Nat.le_trans HON.out.size K.size, fun i hi hb => (K.block i (Nat.lt_of_lt_of_le hi HON.out.size) (by omega)).trans (HON.out.block i hi hb)⟩
            obtain ⟨z0, z1, _, _⟩ := hz
            generalize (wr.setCell ⟨w.heap.size, 0, none⟩ (.int .i64 (n : Int))).setCell ⟨w.heap.size, 1, none⟩ (.string RS) = WF at *
            exact bodyPost_ret (v := tv (n : Int) RS) (by simp [results, Try.results86, go_sem, z0, z1]) rfl ⟨⟨RS, rfl, HS3.out⟩, hcc, hoo⟩

end Go.Proofs.Ytnpfegfjejfaaaa.Tdr

/- What tables the laws draw: any, known. -/
namespace Go.Proofs.Ytnpfegfjejfaaaa.Tds
open Go.RowKit
open Ta0 Ta1 Tc2 Tc5 Td1 Td2 Tdr
open Nd0 (Kept set_same)
open Dr0 (Cur Only Bytes)
set_option linter.unusedVariables false

/-- What stands while any table is drawn. -/
structure DA (w : World) (b : Nat) (a : Option Addr) (len cap q : Nat) (N : Int) (S : ByteArray) (W : World) : Prop where
  cur : Cur W b a len cap
  res : Lay W w.heap.size (.int .i64 0) (.string ByteArray.empty)
  box : Lay W q (.int .i64 N) (.string S)
  onl : Only b w W
theorem DA.only {w W W' : World} {b : Nat} {a : Option Addr} {len cap q : Nat} {N : Int} {S : ByteArray} (h : DA w b a len cap q N S W) (hb : b < w.heap.size) (hq : w.heap.size < q) (hc : Cur W' b a len cap) (ho : Only b W W') : DA w b a len cap q N S W' :=
  ⟨hc, h.res.kept (kept_of_only ho) (by omega), h.box.kept (kept_of_only ho) (by omega), h.onl.trans ho⟩
theorem only_set {b z o : Nat} {u W : World} (h : Only b u W) (hz : u.heap.size ≤ z) (x : Value) : Only b u (W.setCell ⟨z, o, none⟩ x) := by
  have K := kset (S := fun k => k = z) (Kept.refl (fun k => k = z) W) (b := z) (o := o) rfl x
  exact ⟨K.os.trans h.os, K.tape.trans h.tape, K.output.trans h.output, Nat.le_trans h.size K.size, fun i hi hb => (K.block i (Nat.lt_of_lt_of_le hi h.size) (by omega)).trans (h.block i hi hb)⟩
theorem cur_set {b z o : Nat} {W : World} {a : Option Addr} {len cap B : Nat} (h : Cur W b a len cap) (hb : b < B) (hlo : Low a len B) (hz : B ≤ z) (x : Value) : Cur (W.setCell ⟨z, o, none⟩ x) b a len cap := by
  have K := kset (S := fun k => k = z) (Kept.refl (fun k => k = z) W) (b := z) (o := o) rfl x
  exact cur_kept h K (by omega) (hlo.imp id fun h x hx => by have := h x hx; omega)

theorem DA.setN {w W : World} {b : Nat} {a : Option Addr} {len cap q : Nat} {N : Int} {S : ByteArray} (h : DA w b a len cap q N S W) (hb : b < w.heap.size) (hlo : Low a len w.heap.size) (hq : w.heap.size < q) (x : Int) : DA w b a len cap q x S (W.setCell ⟨q, 0, none⟩ (.int .i64 x)) := by
  have K := kset (S := fun k => k = q) (Kept.refl (fun k => k = q) W) (b := q) (o := 0) rfl (.int .i64 x)
  exact ⟨cur_set h.cur hb hlo (by omega) _, h.res.kept K (by omega), ⟨set_same h.box.c0, by rw [Nd0.set_other (by simp)]; exact h.box.c1, by rw [World.frozen?_setCell]; exact h.box.f0, by rw [World.frozen?_setCell]; exact h.box.f1⟩, only_set h.onl (by omega) _⟩
theorem DA.setS {w W : World} {b : Nat} {a : Option Addr} {len cap q : Nat} {N : Int} {S : ByteArray} (h : DA w b a len cap q N S W) (hb : b < w.heap.size) (hlo : Low a len w.heap.size) (hq : w.heap.size < q) (T : ByteArray) : DA w b a len cap q N T (W.setCell ⟨q, 1, none⟩ (.string T)) := by
  have K := kset (S := fun k => k = q) (Kept.refl (fun k => k = q) W) (b := q) (o := 1) rfl (.string T)
  exact ⟨cur_set h.cur hb hlo (by omega) _, h.res.kept K (by omega), ⟨by rw [Nd0.set_other (by simp)]; exact h.box.c0, set_same h.box.c1, by rw [World.frozen?_setCell]; exact h.box.f0, by rw [World.frozen?_setCell]; exact h.box.f1⟩, only_set h.onl (by omega) _⟩

set_option maxRecDepth 100000 in
set_option maxHeartbeats 4000000 in
theorem l06Any (w : World) (b : Nat) (a : Option Addr) (len cap : Nat) (hc : Cur w b a len cap) :
    Calls Try.prog 44 #[.pointer (some ⟨b, 0, none⟩)] w fun e w' => (∃ (N : Int) (S : ByteArray), e = .returned (tv N S) ∧ S.size ≤ 64) ∧ Cur w' b a len cap ∧ Only b w w' := by
  have HLO : Hid (Low a len w.heap.size) := low_of hc.bytes
  have hbl : b < w.heap.size := hc.lt
  have HC0 : Hid (Cur (w.alloc (.cells #[.int .i64 0, .string ByteArray.empty] 25)) b a len cap) := hc.alloc _
  have HR0 : Hid (Lay (w.alloc (.cells #[.int .i64 0, .string ByteArray.empty] 25)) w.heap.size (.int .i64 0) (.string ByteArray.empty)) := Lay.made _ _ _ _
  have HO0 : Hid (Only b w (w.alloc (.cells #[.int .i64 0, .string ByteArray.empty] 25))) := (Only.refl _ _).alloc _
  clear hc
  go_enter Try.func44, Try.ntmps44
  go_wp2_with fail
  refine (Dr1.below _ b a len cap 6 (by omega) (by omega) HC0.out).mono ?_
  rintro e w1 ⟨⟨x, rfl, hx0, hx1⟩, hc1, ho1⟩
  obtain ⟨n, rfl⟩ := Int.eq_ofNat_of_zero_le hx0
  have HC1 : Hid (Cur w1 b a len cap) := hc1
  have HR1 : Hid (Lay w1 w.heap.size (.int .i64 0) (.string ByteArray.empty)) := HR0.out.kept (kept_of_only ho1) (by omega)
  have HO1 : Hid (Only b w w1) := HO0.out.trans ho1
  clear hc1 ho1
  go_wp2_with fail
  refine (l06Table _ b a len cap n (by omega) HC1.out).mono ?_
  rintro e w2 ⟨⟨S, rfl, hS1, hS2⟩, hc2, ho2⟩
  have HD2 : Hid (DA w b a len cap w2.heap.size (n : Int) S (w2.alloc (.cells #[.int .i64 (n : Int), .string S] 25))) :=
    ⟨hc2.alloc _, (HR1.out.kept (kept_of_only ho2) (by omega)).alloc _, Lay.made _ _ _ _, (HO1.out.trans ho2).alloc _⟩
  have hq : w.heap.size < w2.heap.size := (HR1.out.kept (kept_of_only ho2) (by omega)).lt
  clear hc2 ho2
  go_wp2_with fail
  refine (Dr1.below _ b a len cap 14 (by omega) (by omega) HD2.out.cur).mono ?_
  rintro e w3 ⟨⟨y, rfl, hy0, hy1⟩, hc3, ho3⟩
  have HD3 : Hid (DA w b a len cap w2.heap.size (n : Int) S w3) := HD2.out.only hbl hq hc3 ho3
  clear hc3 ho3
  have hFIN : Hid (∀ (N : Int) (T : ByteArray) (W : World), DA w b a len cap w2.heap.size N T W → ∃ W', W' = (W.setCell ⟨w.heap.size, 0, none⟩ (.int .i64 N)).setCell ⟨w.heap.size, 1, none⟩ (.string T) ∧ Lay W' w.heap.size (.int .i64 N) (.string T) ∧ Cur W' b a len cap ∧ Only b w W') := fun N T W h =>
    ⟨_, rfl, h.res.put _ _, cur_set (cur_set h.cur hbl HLO.out (Nat.le_refl _) _) hbl HLO.out (Nat.le_refl _) _, only_set (only_set h.onl (Nat.le_refl _) _) (Nat.le_refl _) _⟩
  by_cases h0 : y = 0
  · have hw0 : (y == 0) = true := by rw [h0]; rfl
    clear h0
    obtain ⟨x0, x1, x2, x3⟩ := HD3.out.box
    go_wp2_with fail
    refine (Dr4.pickNew w3 b a len cap _ _ 3 (by omega) (by omega) (fun i hi => by
      rcases (by omega : i = 0 ∨ i = 1 ∨ i = 2) with rfl | rfl | rfl
      · exact ⟨_, rfl⟩
      · exact ⟨_, rfl⟩
      · exact ⟨_, rfl⟩) HD3.out.cur).mono ?_
    rintro e w4 ⟨⟨x, rfl⟩, hc4, ho4⟩
    have HD4 : Hid (DA w b a len cap w2.heap.size (n : Int) S w4) := HD3.out.only hbl hq hc4 ho4
    clear hc4 ho4 x0 x1 x2 x3
    obtain ⟨x0, x1, x2, x3⟩ := HD4.out.box
    have HD5 := HD4.out.setN hbl HLO.out hq x
    have HD6 : Hid _ := HD5
    clear HD5
    obtain ⟨y0, y1, _, _⟩ := HD6.out.box
    obtain ⟨r0, r1, r2, r3⟩ := HD6.out.res
    go_wp2
    obtain ⟨W, hW, hz, hcw, how⟩ := hFIN.out _ _ _ HD6.out
    rw [← hW]
    obtain ⟨z0, z1, _, _⟩ := hz
    exact bodyPost_ret (v := tv x S) (by simp [results, Try.results44, go_sem, z0, z1]) rfl ⟨⟨x, S, rfl, hS2⟩, hcw, how⟩
  · have hw0 : (y == 0) = false := beq_eq_false_iff_ne.2 h0
    clear h0
    obtain ⟨x0, x1, x2, x3⟩ := HD3.out.box
    obtain ⟨r0, r1, r2, r3⟩ := HD3.out.res
    by_cases h1 : y = 1
    · have hw1 : (y == 1) = true := by rw [h1]; rfl
      clear h1
      have hSz : (1 : Int) ≤ (S.size : Int) := by omega
      have HD5 : Hid (DA w b a len cap w2.heap.size (n : Int) (S.extract 1 S.size ++ ⟨#[50]⟩) (w3.setCell ⟨w2.heap.size, 1, none⟩ (.string (S.extract 1 S.size ++ ⟨#[50]⟩)))) := HD3.out.setS hbl HLO.out hq _
      obtain ⟨y0, y1, _, _⟩ := HD5.out.box
      obtain ⟨s0, s1, s2, s3⟩ := HD5.out.res
      have HZ : Hid ((S.extract 1 S.size ++ ⟨#[50]⟩).size ≤ 64) := by
        show _ ≤ _
        have h2 : (S.extract 1 S.size).size = S.size - 1 := by rw [ByteArray.size_extract]; omega
        rw [ByteArray.size_append, h2]
        show S.size - 1 + 1 ≤ 64
        omega
      go_wp2
      obtain ⟨W, hW, hz, hcw, how⟩ := hFIN.out _ _ _ HD5.out
      rw [← hW]
      obtain ⟨z0, z1, _, _⟩ := hz
      exact bodyPost_ret (v := tv (n : Int) (S.extract 1 S.size ++ ⟨#[50]⟩)) (by simp [results, Try.results44, go_sem, z0, z1]) rfl ⟨⟨_, _, rfl, HZ.out⟩, hcw, how⟩
    · have hw1 : (y == 1) = false := beq_eq_false_iff_ne.2 h1
      clear h1
      go_wp2
      obtain ⟨W, hW, hz, hcw, how⟩ := hFIN.out _ _ _ HD3.out
      rw [← hW]
      obtain ⟨z0, z1, _, _⟩ := hz
      exact bodyPost_ret (v := tv (n : Int) S) (by simp [results, Try.results44, go_sem, z0, z1]) rfl ⟨⟨(n : Int), S, rfl, hS2⟩, hcw, how⟩

end Go.Proofs.Ytnpfegfjejfaaaa.Tds

/- The draw of a table for GraphOf. -/
namespace Go.Proofs.Ytnpfegfjejfaaaa.Tdv
open Go.RowKit
open Ta0 Ta1 Tc2 Tc5 Td1 Td2 Tdr Tds
open Nd0 (Kept set_same)
open Dr0 (Cur Only Bytes)
set_option linter.unusedVariables false

set_option maxHeartbeats 2000000 in
theorem drawGraphOf (w : World) (a : Option Addr) (len cap : Nat) (hb : Bytes w a len) :
    Calls Try.prog 13 #[.slice a len cap] w fun e w' => (∃ (N : Int) (S : ByteArray), e = .returned (tv N S) ∧ S.size ≤ 64) ∧ Below w.heap.size w w' := by
  have HB0 : Hid (Bytes (w.alloc (.cells #[.int .i64 0, .string ByteArray.empty] 25)) a len) := hb.below ((Below.refl _ _).alloc (Nat.le_refl _) _)
  clear hb
  go_enter Try.func13, Try.ntmps13
  go_wp2_with fail
  refine (Dr4.new _ a len cap HB0.out).mono ?_
  rintro e w1 ⟨rfl, hc1, hb1⟩
  have HR1 : Hid (Lay w1 w.heap.size (.int .i64 0) (.string ByteArray.empty)) := (Lay.made w _ _ _).below hb1
  have HB1 : Hid (Below w.heap.size w w1) := ((Below.refl _ _).alloc (Nat.le_refl _) _).trans (hb1.mono (by simp))
  have hc1' : Cur w1 (w.heap.size + 1) a len cap := by simpa using hc1
  clear hb1 hc1
  have hsz1 : w.heap.size ≤ w1.heap.size := HB1.out.size
  go_wp2_with fail
  refine (l06Any _ (w.heap.size + 1) a len cap hc1').mono ?_
  rintro e w2 ⟨⟨N, S, rfl, hS⟩, hc2, ho2⟩
  have HR2 : Hid (Lay w2 w.heap.size (.int .i64 0) (.string ByteArray.empty)) := HR1.out.kept (kept_of_only ho2) (by omega)
  have HB2 : Hid (Below w.heap.size w w2) := HB1.out.trans (ho2.below (by omega) HB1.out.size)
  clear hc1' hc2 ho2
  obtain ⟨r0, r1, r2, r3⟩ := HR2.out
  have HFN : Hid _ := finT HR2.out HB2.out (Nat.le_refl _) (.int .i64 N) (.string S)
  go_wp2
  obtain ⟨W, hW, hz, hbz⟩ := HFN.out
  rw [← hW]
  obtain ⟨z0, z1, _, _⟩ := hz
  exact bodyPost_ret (v := tv N S) (by simp [results, Try.results13, go_sem, z0, z1]) rfl ⟨⟨N, S, rfl, hS⟩, hbz⟩

end Go.Proofs.Ytnpfegfjejfaaaa.Tdv
