/- Small texts of mine, one behind the other. -/
import Derived.Test.YtiojfommmmggoaaTdw
import Derived.Test.YtiojfommmmggoaaPkDE39
import Derived.Test.YtiojfommmmggoaaPkDE41
import Derived.Test.YtiojfommmmggoaaPkDE12
/- The draw of a row and a table. -/
namespace Go.Proofs.Ytiojfommmmggoaa.Ddr
open Go.RowKit
open Ta0 Ta1 Tc2 Tc5 Td2 Tdw Ap1
open Nd0 (Kept set_same)
open Nd6 (Bools)
open Dr0 (Cur Only Bytes)
open Ss0 (bs bs_size)
set_option linter.unusedVariables false

structure DB (w : World) (b : Nat) (a : Option Addr) (len cap : Nat) (v : Value) (k : Nat) (W : World) : Prop where
  cur : Cur W b a len cap
  own : ∃ l : List Bool, l.length = k ∧ Owb W w.heap.size v l
  siz : w.heap.size ≤ W.heap.size
  onl : Only b w W
theorem DB.only {w W W' : World} {b : Nat} {a : Option Addr} {len cap : Nat} {v : Value} {k : Nat} (h : DB w b a len cap v k W) (hb : b < w.heap.size) (hc : Cur W' b a len cap) (ho : Only b W W') : DB w b a len cap v k W' := by
  obtain ⟨l, h1, h2⟩ := h.own
  exact ⟨hc, ⟨l, h1, h2.kept (kept_of_only ho) (fun i hi e => by have := (h2.lt i hi).1; omega)⟩, by have := ho.size; have := h.siz; omega, h.onl.trans ho⟩
theorem DB.next {w W W' : World} {b : Nat} {a : Option Addr} {len cap : Nat} {v v' : Value} {k k' : Nat} {l' : List Bool} (h : DB w b a len cap v k W) (hb : b < w.heap.size) (hlo : Low a len w.heap.size) (hk : Kept (fun x => v.ownBlock = some x) W W') (hl : l'.length = k') (ho : Owb W' w.heap.size v' l') : DB w b a len cap v' k' W' := by
  obtain ⟨l, h1, h2⟩ := h.own
  have hv : ∀ x, v.ownBlock = some x → w.heap.size ≤ x := fun x hx => (h2.lt x hx).1
  refine ⟨cur_kept h.cur hk (fun e => by have := hv _ e; omega) ?_, ⟨l', hl, ho⟩, by have := hk.size; have := h.siz; omega, only_app h.onl hk (fun x hx => by have := hv x hx; omega)⟩
  rcases hlo with h0 | h0
  · exact .inl h0
  · exact .inr fun x hx e => by have := h0 x hx; have := hv _ e; omega

set_option maxRecDepth 100000 in
set_option maxHeartbeats 4000000 in
theorem l08Row (w : World) (b : Nat) (a : Option Addr) (len cap : Nat) (n : Nat) (hn : n ≤ 6) (hc : Cur w b a len cap) :
    Calls Try.prog 32 #[.pointer (some ⟨b, 0, none⟩), .int .i64 (n : Int)] w fun e w' => (∃ v, e = .returned v ∧ DB w b a len cap v n w') := by
  have HLO : Hid (Low a len w.heap.size) := low_of hc.bytes
  have hbl : b < w.heap.size := hc.lt
  have HD0 : Hid (DB w b a len cap (.slice (some ⟨w.heap.size, 0, none⟩) 0 0) 0 (w.alloc (.cells #[] 4))) :=
    ⟨hc.alloc _, ⟨[], rfl, Owb.lit w _ (Nat.le_refl _)⟩, by simp, (Only.refl _ _).alloc _⟩
  clear hc
  go_enter Try.func32, Try.ntmps32
  go_wp2
  go_loopw [5, 6] (fun v i wr => ∃ k : Nat, k ≤ n ∧ i = .int .i64 k ∧ DB w b a len cap v k wr) (fun _ i _ => n - (intOf i).toNat)
  case atStart => exact ⟨0, Nat.zero_le _, rfl, HD0.out⟩
  case round =>
    obtain ⟨k, hk, rfl, hdt⟩ := hrel
    have HD : Hid (DB w b a len cap u5 k wr) := hdt
    clear hdt
    by_cases hlt : k < n
    · have hkz : (k : Int) < (n : Int) := by omega
      go_wp2_with fail
      refine (Dr1.once _ b a len cap 2 (by omega) (by omega) HD.out.cur).mono ?_
      rintro e w3 ⟨⟨z, rfl⟩, hc3, ho3⟩
      have HD3 : Hid (DB w b a len cap u5 k w3) := HD.out.only hbl hc3 ho3
      clear hc3 ho3
      obtain ⟨l, hll, hol⟩ := HD3.out.own
      have HLL : Hid (l.length = k) := hll
      have HO : Hid (Owb w3 w.heap.size u5 l) := hol
      have hsz := HD3.out.siz
      clear hll hol
      go_wp2_with (at_builtin; go_must (refine app_bool _ rfl _ _ rfl w.heap.size u5 l z rfl rfl HO.out hsz (by rw [HLL.out]; omega) ?_; intro g5 cp5 w5 ho5 hk5 hg5; have HD5 : Hid (DB w b a len cap (.slice (some ⟨g5, 0, none⟩) (l.length + 1) cp5) (k + 1) w5) := HD3.out.next hbl HLO.out hk5 (by rw [List.length_append, HLL.out]; rfl) ho5; clear ho5 hk5 hg5))
      go_roundw
      case rel => exact ⟨k + 1, by omega, by go_num, HD5.out⟩
      case measure => simp [intOf]; omega
    · have HKN : Hid (DB w b a len cap u5 n wr) := by have h := HD.out; rw [show k = n by omega] at h; exact h
      clear HD
      go_wp2
      go_ret
      exact ⟨_, rfl, HKN.out⟩

theorem owb_cap {w : World} {B : Nat} {v : Value} {l : List Bool} (h : Owb w B v l) : ∃ a c, v = .slice a l.length c ∧ l.length ≤ c ∧ WBools w B a l := by
  obtain ⟨a, c, hv, hw⟩ := h.form
  rcases h.2 with ⟨h1, h0⟩ | ⟨g, cap, cur, h1, _, _, hn, _⟩
  · exact ⟨_, _, hv, by omega, hw⟩
  · rw [hv] at h1
    injection h1 with e1 e2 e3
    exact ⟨_, _, hv, by omega, hw⟩

set_option maxRecDepth 100000 in
set_option maxHeartbeats 4000000 in
theorem drawCase (w : World) (a : Option Addr) (len cap : Nat) (hb : Bytes w a len) :
    Calls Try.prog 11 #[.slice a len cap] w fun e w' => (∃ (n : Nat) (F : Nat → Bool) (row : List Bool) (ra : Option Addr) (c : Nat), n ≤ 6 ∧ row.length = n ∧ n ≤ c ∧ e = .returned (.tuple #[.slice ra n c, tv (n : Int) (bs (tab n F))]) ∧ Bools w' ra row) ∧ Below w.heap.size w w' := by
  have HB0 : Hid (Bytes (w.alloc (.cells #[.int .i64 0, .string ByteArray.empty] 30)) a len) := hb.below ((Below.refl _ _).alloc (Nat.le_refl _) _)
  clear hb
  go_enter Try.func11, Try.ntmps11
  go_wp2_with fail
  refine (Dr4.new _ a len cap HB0.out).mono ?_
  rintro e w1 ⟨rfl, hc1, hb1⟩
  have HR1 : Hid (Lay w1 w.heap.size (.int .i64 0) (.string ByteArray.empty)) := (Lay.made w _ _ _).below hb1
  have HB1 : Hid (Below w.heap.size w w1) := ((Below.refl _ _).alloc (Nat.le_refl _) _).trans (hb1.mono (by simp))
  have hc1' : Cur w1 (w.heap.size + 1) a len cap := by simpa using hc1
  clear hb1 hc1
  have hsz1 : w.heap.size ≤ w1.heap.size := HB1.out.size
  go_wp2_with fail
  refine (Dr1.below _ (w.heap.size + 1) a len cap 7 (by omega) (by omega) hc1').mono ?_
  rintro e w2 ⟨⟨x, rfl, hx0, hx1⟩, hc2, ho2⟩
  obtain ⟨n, rfl⟩ := Int.eq_ofNat_of_zero_le hx0
  have hn : n ≤ 6 := by omega
  have HR2 : Hid (Lay w2 w.heap.size (.int .i64 0) (.string ByteArray.empty)) := HR1.out.kept (kept_of_only ho2) (by omega)
  have HB2 : Hid (Below w.heap.size w w2) := HB1.out.trans (ho2.below (by omega) HB1.out.size)
  have hb2 : w.heap.size + 1 < w2.heap.size := hc2.lt
  clear ho2 hc1' HR1 HB1 hx0 hx1
  go_wp2_with fail
  refine (l08Row _ (w.heap.size + 1) a len cap n hn hc2).mono ?_
  rintro e w3 ⟨v, rfl, hd3⟩
  have HR3 : Hid (Lay w3 w.heap.size (.int .i64 0) (.string ByteArray.empty)) := HR2.out.kept (kept_of_only hd3.onl) (by omega)
  have HB3 : Hid (Below w.heap.size w w3) := HB2.out.trans (hd3.onl.below (by omega) HB2.out.size)
  obtain ⟨row, hrl, hor⟩ := hd3.own
  have HOR : Hid (Owb w3 w2.heap.size v row) := hor
  have HC3 : Hid (Cur w3 (w.heap.size + 1) a len cap) := hd3.cur
  clear hd3 hc2 HR2 HB2 hor
  go_wp2_with fail
  refine (Tdw.l06Table _ (w.heap.size + 1) a len cap n hn HC3.out).mono ?_
  rintro e w4 ⟨⟨F, rfl⟩, hc4, ho4⟩
  have HR4 : Hid (Lay w4 w.heap.size (.int .i64 0) (.string ByteArray.empty)) := HR3.out.kept (kept_of_only ho4) (by omega)
  have HB4 : Hid (Below w.heap.size w w4) := HB3.out.trans (ho4.below (by omega) HB3.out.size)
  have HO4 := HOR.out.kept (kept_of_only ho4) (fun i hi e => by have := (HOR.out.lt i hi).1; omega)
  obtain ⟨ra, c, rfl, hcp, hwb⟩ := owb_cap HO4
  have HWB : Hid (WBools w4 w2.heap.size ra row) := hwb
  have HRL : Hid (row.length = n ∧ n ≤ c) := ⟨hrl, by omega⟩
  clear hc4 ho4 HO4 hwb HOR HC3 HR3 HB3
  rw [hrl]
  clear hcp hrl
  generalize hS : bs (tab n F) = S at *
  have HS : Hid (bs (tab n F) = S) := hS
  clear hS
  obtain ⟨r0, r1, r2, r3⟩ := HR4.out
  have HFN : Hid _ := finT HR4.out HB4.out (Nat.le_refl _) (.int .i64 (n : Int)) (.string S)
  have HK : Hid (Kept (fun b => b = w.heap.size) w4 ((w4.setCell ⟨w.heap.size, 0, none⟩ (.int .i64 (n : Int))).setCell ⟨w.heap.size, 1, none⟩ (.string S))) := kset (S := fun b => b = w.heap.size) (kset (S := fun b => b = w.heap.size) (Kept.refl (fun b => b = w.heap.size) w4) rfl _) rfl _
  go_wp2
  obtain ⟨W, hW, hz, hbz⟩ := HFN.out
  have hK := HK.out
  rw [← hW] at hK ⊢
  obtain ⟨z0, z1, _, _⟩ := hz
  refine bodyPost_ret (v := .tuple #[.slice ra n c, tv (n : Int) S]) (by simp [results, Try.results11, go_sem, z0, z1]) rfl ⟨⟨n, F, row, ra, c, hn, HRL.out.1, HRL.out.2, by rw [HS.out], ?_⟩, hbz⟩
  exact (((Nd6.WBools.within HWB.out).kept hK (fun b h1 _ e => by omega)).plain)

end Go.Proofs.Ytiojfommmmggoaa.Ddr

/- Terms that are drawn: a cursor, a list of nodes that grows, and what stays as it is. -/
namespace Go.Proofs.Ytiojfommmmggoaa.Dw0
open Go.RowKit
open Nd0 Nd3 Ap2
open Dr0 (Cur Only Bytes Off)
set_option linter.unusedVariables false

def Low (a : Option Addr) (len b : Nat) : Prop := len = 0 ∨ ∀ x, a = some x → x.block < b

theorem cur_kept {w w' : World} {b : Nat} {a : Option Addr} {len cap : Nat} (h : Cur w b a len cap) {S : Nat → Prop} (k : Kept S w w') (hb : ¬ S b) (hl : len = 0 ∨ ∀ x, a = some x → ¬ S x.block) : Cur w' b a len cap := by
  have hlt := h.lt
  obtain ⟨i, hi, c1⟩ := h.c1
  obtain ⟨x, c2⟩ := h.c2
  refine ⟨by rw [k.cell (p := ⟨b, 0, none⟩) hlt hb]; exact h.c0, ⟨i, hi, by rw [k.cell (p := ⟨b, 1, none⟩) hlt hb]; exact c1⟩, ⟨x, by rw [k.cell (p := ⟨b, 2, none⟩) hlt hb]; exact c2⟩, by rw [k.frozen (p := ⟨b, 1, none⟩) hlt hb]; exact h.f1, by rw [k.frozen (p := ⟨b, 2, none⟩) hlt hb]; exact h.f2, ?_, h.off⟩
  refine ⟨h.bytes.1, ?_⟩
  rcases h.bytes.2 with h0 | ⟨xb, xo, rfl, hc⟩
  · exact .inl h0
  · rcases hl with h0 | hl
    · exact .inl h0
    · refine .inr ⟨xb, xo, rfl, fun j hj => ?_⟩
      obtain ⟨y, y0, y1, hy⟩ := hc j hj
      exact ⟨y, y0, y1, by rw [k.cell (p := ⟨xb, xo + j, none⟩) (lt_of_cell hy) (hl ⟨xb, xo, none⟩ rfl)]; exact hy⟩
theorem only_kept {b : Nat} {w w' : World} (h : Only b w w') : Kept (fun k => k = b) w w' := ⟨h.os, h.tape, h.output, h.size, fun k hk hn => h.block k hk hn⟩

structure Dr (w : World) (b : Nat) (a : Option Addr) (len cap : Nat) (v : Value) (L : List Nd) : Prop where
  cur : Cur w b a len cap
  own : Ap2.Own w (b + 1) v L
  low : Low a len b
structure Stp (b : Nat) (v v' : Value) (w w' : World) : Prop where
  kept : Kept (fun k => k = b ∨ v.ownBlock = some k) w w'
  new : ∀ k, v'.ownBlock = some k → v.ownBlock = some k ∨ w.heap.size ≤ k
def Vs (w : World) (b : Nat) (v : Value) (va : Option Addr) (vl : List Nd) : Prop := Nodes w va vl ∧ ∀ x, 0 < vl.length → va = some x → x.block ≠ b ∧ v.ownBlock ≠ some x.block ∧ x.block < w.heap.size

theorem Stp.refl (b : Nat) (v : Value) (w : World) : Stp b v v w w := ⟨Kept.refl _ _, fun _ h => .inl h⟩
theorem Stp.trans {b : Nat} {u v x : Value} {w w' w'' : World} (h : Stp b u v w w') (k : Stp b v x w' w'') : Stp b u x w w'' := by
  constructor
  · refine ⟨k.kept.os.trans h.kept.os, k.kept.tape.trans h.kept.tape, k.kept.output.trans h.kept.output, Nat.le_trans h.kept.size k.kept.size, fun i hi hb => ?_⟩
    rw [k.kept.block i (Nat.lt_of_lt_of_le hi h.kept.size) (fun e => ?_)]
    · exact h.kept.block i hi hb
    · rcases e with e | e
      · exact hb (.inl e)
      · rcases h.new i e with e' | e'
        · exact hb (.inr e')
        · omega
  · intro i hi
    rcases k.new i hi with e | e
    · exact h.new i e
    · exact .inr (Nat.le_trans h.kept.size e)
theorem Stp.only {b : Nat} {v : Value} {w w' : World} (h : Only b w w') : Stp b v v w w' := ⟨(only_kept h).mono fun _ e => .inl e, fun _ h => .inl h⟩
theorem Stp.ofBelow {b : Nat} {v : Value} {w w' : World} (h : Below w.heap.size w w') : Stp b v v w w' := ⟨Kept.ofBelow h, fun _ h => .inl h⟩
theorem Stp.grow {b : Nat} {v v' : Value} {w w' : World} (h : Kept (fun k => v.ownBlock = some k) w w') (n : ∀ k, v'.ownBlock = some k → v.ownBlock = some k ∨ w.heap.size ≤ k) : Stp b v v' w w' := ⟨h.mono fun _ e => .inr e, n⟩

theorem Dr.ne {w : World} {b : Nat} {a : Option Addr} {len cap : Nat} {v : Value} {L : List Nd} (h : Dr w b a len cap v L) : v.ownBlock ≠ some b := fun e => by have := (h.own.lt b e).1; omega
theorem Dr.only {w w' : World} {b : Nat} {a : Option Addr} {len cap : Nat} {v : Value} {L : List Nd} (h : Dr w b a len cap v L) (hc : Cur w' b a len cap) (k : Only b w w') : Dr w' b a len cap v L :=
  ⟨hc, h.own.kept (only_kept k) (fun i hi e => h.ne (e ▸ hi)), h.low⟩
theorem Dr.low' {w : World} {b : Nat} {a : Option Addr} {len cap : Nat} {v : Value} {L : List Nd} (h : Dr w b a len cap v L) : len = 0 ∨ ∀ x, a = some x → ¬ v.ownBlock = some x.block := by
  rcases h.low with h0 | hl
  · exact .inl h0
  · exact .inr fun x hx e => by have := (h.own.lt _ e).1; have := hl x hx; omega
theorem Dr.below {w w' : World} {b : Nat} {a : Option Addr} {len cap : Nat} {v : Value} {L : List Nd} (h : Dr w b a len cap v L) (k : Below w.heap.size w w') : Dr w' b a len cap v L :=
  ⟨cur_kept h.cur (S := fun _ => False) (Kept.ofBelow k) (fun h => h) (.inr fun _ _ h => h), h.own.kept (S := fun _ => False) (Kept.ofBelow k) (fun _ _ h => h), h.low⟩
theorem Dr.grow {w w' : World} {b : Nat} {a : Option Addr} {len cap : Nat} {v v' : Value} {L L' : List Nd} (h : Dr w b a len cap v L) (k : Kept (fun k => v.ownBlock = some k) w w') (ho : Ap2.Own w' (b + 1) v' L') : Dr w' b a len cap v' L' :=
  ⟨cur_kept h.cur k h.ne h.low', ho, h.low⟩
theorem Vs.stp {w w' : World} {b : Nat} {v v' : Value} {va : Option Addr} {vl : List Nd} (h : Vs w b v va vl) (s : Stp b v v' w w') : Vs w' b v' va vl := by
  by_cases h0 : vl.length = 0
  · exact ⟨⟨h.1.1, .inl h0⟩, fun x hx => by omega⟩
  · refine ⟨h.1.kept s.kept (fun x hx e => ?_), fun x hp hx => ?_⟩
    · have h9 := h.2 x (by omega) hx
      rcases e with e | e
      · exact h9.1 e
      · exact h9.2.1 e
    · have h9 := h.2 x hp hx
      refine ⟨h9.1, fun e => ?_, Nat.lt_of_lt_of_le h9.2.2 s.kept.size⟩
      rcases s.new _ e with e' | e'
      · exact h9.2.1 e'
      · omega
theorem Dr.slice {w : World} {b : Nat} {a : Option Addr} {len cap : Nat} {v : Value} {L : List Nd} (h : Dr w b a len cap v L) : ∃ va vc, v = .slice va L.length vc := h.own.len
theorem Dr.size {w : World} {b : Nat} {a : Option Addr} {len cap : Nat} {v : Value} {L : List Nd} (h : Dr w b a len cap v L) : b + 1 ≤ w.heap.size := h.cur.lt

end Go.Proofs.Ytiojfommmmggoaa.Dw0

/- The walk of the draw that puts one node behind others. -/
namespace Go.Proofs.Ytiojfommmmggoaa.Dw1
open Go.RowKit
open Nd0 Nd3 Ap2 Dw0
open Dr0 (Cur Only Bytes Off)
set_option linter.unusedVariables false

set_option maxHeartbeats 1000000 in
theorem push (w : World) (b : Nat) (a : Option Addr) (len cap : Nat) (v : Value) (L : List Nd) (n : Nd) (h : Dr w b a len cap v L) (hl : L.length ≤ 1048576) :
    Calls Try.prog 60 #[v, .agg #[.int .i64 n.op, .int .i64 n.w, .int .i64 n.k, .int .i64 n.a, .int .i64 n.b, .int .i64 n.c]] w fun e w' => ∃ v', e = .returned (.tuple #[v', .int .i64 (L.length : Int)]) ∧ Dr w' b a len cap v' (L ++ [n]) ∧ Stp b v v' w w' := by
  have HD : Hid (Dr w b a len cap v L) := h
  obtain ⟨va, vc, rfl⟩ := h.slice
  have hsz := h.size
  clear h
  obtain ⟨wb, hwb⟩ : ∃ wb : World, wb = w.alloc (.cells #[.int .i64 n.op, .int .i64 n.w, .int .i64 n.k, .int .i64 n.a, .int .i64 n.b, .int .i64 n.c] 49) := ⟨_, rfl⟩
  have hbel : Below w.heap.size w wb := by rw [hwb]; exact (Below.refl _ _).alloc (Nat.le_refl _) _
  have HD1 : Hid (Dr wb b a len cap (.slice va L.length vc) L) := HD.out.below hbel
  have HS1 : Hid (Stp b (.slice va L.length vc) (.slice va L.length vc) w wb) := Stp.ofBelow hbel
  have hB : b + 1 ≤ wb.heap.size := HD1.out.size
  have HWB : Hid (wb = w.alloc (.cells #[.int .i64 n.op, .int .i64 n.w, .int .i64 n.k, .int .i64 n.a, .int .i64 n.b, .int .i64 n.c] 49)) := hwb
  have hws : wb.heap.size = w.heap.size + 1 := by rw [hwb]; simp
  have HWS : Hid (wb.heap.size = w.heap.size + 1) := hws
  clear hwb hws hbel
  go_enter Try.func60, Try.ntmps60
  go_wp2_with (at_builtin; go_must (rw [← HWB.out]; refine app_node wb rfl _ _ rfl (b + 1) (.slice va L.length vc) L n rfl (w.heap.size + 1) rfl HWS.out.symm HD1.out.own hB hl ?_; intro g5 cp5 w5 ho5 hk5 hg5))
  have HO5 : Hid (Ap2.Own w5 (b + 1) (.slice (some ⟨g5, 0, none⟩) (L.length + 1) cp5) (L ++ [n])) := ho5
  have HK5 : Hid (Kept (fun k => (Value.slice va L.length vc).ownBlock = some k) wb w5) := hk5
  have HG5 : Hid ((Value.slice va L.length vc).ownBlock = some g5 ∨ wb.heap.size ≤ g5) := hg5
  clear ho5 hk5 hg5
  go_wp2
  refine bodyPost_ret (v := .tuple #[.slice (some ⟨g5, 0, none⟩) (L.length + 1) cp5, .int .i64 (L.length : Int)]) (by simp [results, Try.results60, go_sem]) rfl ?_
  refine ⟨_, rfl, HD1.out.grow HK5.out HO5.out, HS1.out.trans (Stp.grow HK5.out fun k hk => ?_)⟩
  cases hk
  exact HG5.out

end Go.Proofs.Ytiojfommmmggoaa.Dw1
