/- Small texts of mine, one behind the other. -/
import Derived.WalkKit
import Derived.Deep.QuietTactic
import Derived.BigQuiet
import Derived.Test.YtiojfommmmggoaaRows
import Derived.WalkSpells
import Derived.WalkLawsBesides
import Derived.Test.YtiojfommmmggoaaPkDE39
import Derived.Test.YtiojfommmmggoaaPkDE34
import Derived.Test.YtiojfommmmggoaaDm2
/- The program's Choose and Idle. -/
namespace Go.Proofs.Ytiojfommmmggoaa.Dp5
open Go.RowKit
open Ta0 Ta1 Ta2 Ta3 Tc2 Tc4 Tc5 Tc6 Tc7 Dv0 Dp1 Dp3 Dp4 Te1 Te4 Ap0 Td5 De1
open Nd0 (Kept Ints WInts set_other set_same lt_of_cell)
open Nd6 (Bools)
open Ss0 (bs bs_size)
open Ss1 (tl)
set_option linter.unusedVariables false

end Go.Proofs.Ytiojfommmmggoaa.Dp5

/- The model's Decide and Choose. -/
namespace Go.Proofs.Ytiojfommmmggoaa.Dm3
open Go.RowKit
open Ta0 Ta1 Ta2 Ta3 Tc2 Tc5 Td1 Td2 Td4 De0 Dv0 Dm1 Dm2

open Nd0 (Kept set_other set_same lt_of_cell)
open Nd6 (Bools)
open Ss0 (bs bs_size)
open Ss1 (tl)
set_option linter.unusedVariables false

theorem md_all (row : List Bool) (h : row.length ≤ 12) : MD row := by
  induction row with
  | nil => exact md_nil
  | cons q r ih =>
    rw [List.length_cons] at h
    exact md_cons (by omega) (ih (by omega))
theorem sDec (n : Nat) (F : Nat → Bool) (a : Option Addr) (row : List Bool) (c : Nat) (W : World) (hn : n ≤ 12) (hrn : row.length = n) (hB : Bools W a row) (hc : n ≤ c) :
    Calls Try.prog 39 #[.slice a n c, tv (n : Int) (bs (tab n F))] W fun e w' => e = .returned (.int .i64 ((dc row F).toNat : Int)) ∧ Below W.heap.size W w' := by
  subst hrn
  exact md_all row hn F W a c hB hc

set_option maxRecDepth 100000 in
set_option maxHeartbeats 4000000 in
theorem sDecide (n : Nat) (F : Nat → Bool) (ra : Option Addr) (row : List Bool) (c : Nat) (w : World) (hn : n ≤ 12) (hrn : row.length = n) (hB : Bools w ra row) (hc : n ≤ c) :
    Calls Try.prog 14 #[.slice ra n c, tv (n : Int) (bs (tab n F))] w fun e w' => e = .returned (.tuple #[.int .i64 ((dc row F).toNat : Int), .bool true]) ∧ Below w.heap.size w w' := by
  have HRU : Hid (∀ W, Calls Try.prog 38 #[.slice ra n c, tv (n : Int) (bs (tab n F))] W fun e w' => e = .returned (.bool true) ∧ Below W.heap.size W w') := fun W => sOkR n F ra c W hn
  have HV : Hid (∀ W, Below w.heap.size w W → Calls Try.prog 39 #[.slice ra n c, tv (n : Int) (bs (tab n F))] W fun e w' => e = .returned (.int .i64 ((dc row F).toNat : Int)) ∧ Below W.heap.size W w') := fun W h => sDec n F ra row c W hn hrn (hB.below h) hc
  clear hB
  generalize bs (tab n F) = S at *
  generalize dc row F = r at *
  have HA : Hid (Below w.heap.size w (w.alloc (.cells #[.int .i64 (n : Int), .string S] 30))) := (Below.refl _ _).alloc (Nat.le_refl _) _
  have HX : Hid (Lay (w.alloc (.cells #[.int .i64 (n : Int), .string S] 30)) w.heap.size (.int .i64 (n : Int)) (.string S)) := Lay.made _ _ _ _
  go_enter Try.func14, Try.ntmps14
  go_wp2_with fail
  refine (HRU.out _).mono ?_
  rintro e w1 ⟨rfl, hb⟩
  have HA1 : Hid (Below w.heap.size w w1) := HA.out.trans (hb.mono HA.out.size)
  obtain ⟨x0, x1, _, _⟩ := HX.out.below hb
  clear hb
  go_wp2_with fail
  refine (HV.out _ HA1.out).mono ?_
  rintro e w2 ⟨rfl, hb⟩
  have HA2 : Hid (Below w.heap.size w w2) := HA1.out.trans (hb.mono HA1.out.size)
  clear hb x0 x1
  go_wp2
  go_ret2
  exact ⟨rfl, HA2.out⟩

end Go.Proofs.Ytiojfommmmggoaa.Dm3

/- Plain notions for walks that keep a cursor in one block: what turns, what stays. -/
namespace Go.Proofs.Ytiojfommmmggoaa.Dr0
open Go.RowKit

structure Only (b : Nat) (w w' : World) : Prop where
  os : w'.os = w.os
  tape : w'.tape = w.tape
  output : w'.output = w.output
  size : w.heap.size ≤ w'.heap.size
  block : ∀ k, k < w.heap.size → k ≠ b → w'.heap[k]? = w.heap[k]?

theorem Only.refl (b : Nat) (w : World) : Only b w w := ⟨rfl, rfl, rfl, Nat.le_refl _, fun _ _ _ => rfl⟩
theorem Only.trans {b : Nat} {u v w : World} (h : Only b u v) (k : Only b v w) : Only b u w :=
  ⟨k.os.trans h.os, k.tape.trans h.tape, k.output.trans h.output, Nat.le_trans h.size k.size, fun i hi hb => (k.block i (Nat.lt_of_lt_of_le hi h.size) hb).trans (h.block i hi hb)⟩
theorem Only.drewN {b : Nat} {u w : World} (h : Only b u w) (n : Nat) : Only b u (w.drewN n) := ⟨h.os, h.tape, h.output, h.size, h.block⟩
theorem Only.alloc {b : Nat} {u w : World} (h : Only b u w) (o : Obj) : Only b u (w.alloc o) :=
  h.trans ⟨rfl, rfl, rfl, by simp, fun k hk _ => Below.heap_alloc _ _ _ hk⟩
theorem Only.setCell {b : Nat} {u w : World} (h : Only b u w) {p : Addr} (hp : p.block = b) (x : Value) : Only b u (w.setCell p x) :=
  h.trans ⟨rfl, rfl, rfl, by simp [World.setCell], fun k _ hk => Below.heap_setCell _ _ _ _ (by omega)⟩
theorem Only.cell {b : Nat} {w w' : World} (h : Only b w w') {p : Addr} (hp : p.block < w.heap.size) (hb : p.block ≠ b) : w'.cell? p = w.cell? p :=
  World.cell?_of_block (w := w) (h.block p.block hp hb)
theorem Only.below {b B : Nat} {w w' : World} (h : Only b w w') (hB : B ≤ b) (hs : B ≤ w.heap.size) : Below B w w' :=
  ⟨h.os, h.tape, h.output, h.size, fun k hk => h.block k (by omega) (by omega)⟩

theorem lt_of_cell {w : World} {p : Addr} {v : Value} (h : w.cell? p = some v) : p.block < w.heap.size := by
  have : ∃ o, w.heap[p.block]? = some o := by
    unfold World.cell? at h
    cases e : w.heap[p.block]? with
    | none => simp [e] at h
    | some o => exact ⟨o, rfl⟩
  obtain ⟨o, ho⟩ := this
  obtain ⟨hl, _⟩ := Array.getElem?_eq_some_iff.1 ho
  exact hl

def Bytes (w : World) (a : Option Addr) (len : Nat) : Prop :=
  len ≤ maxLen ∧ (len = 0 ∨ ∃ xb xo, a = some ⟨xb, xo, none⟩ ∧ ∀ i, i < len → ∃ v : Int, 0 ≤ v ∧ v ≤ 255 ∧ w.cell? ⟨xb, xo + i, none⟩ = some (.int .u8 v))

def Off (a : Option Addr) (len b : Nat) : Prop := len = 0 ∨ ∀ x, a = some x → x.block ≠ b

theorem Bytes.only {b : Nat} {w w' : World} {a : Option Addr} {len : Nat} (h : Bytes w a len) (ho : Off a len b) (k : Only b w w') : Bytes w' a len := by
  refine ⟨h.1, ?_⟩
  rcases h.2 with h0 | ⟨xb, xo, rfl, hc⟩
  · exact .inl h0
  · rcases ho with h0 | ho
    · exact .inl h0
    · refine .inr ⟨xb, xo, rfl, fun i hi => ?_⟩
      obtain ⟨v, h1, h2, h3⟩ := hc i hi
      exact ⟨v, h1, h2, by rw [k.cell (lt_of_cell h3) (ho ⟨xb, xo, none⟩ rfl)]; exact h3⟩
theorem Bytes.below {w w' : World} {a : Option Addr} {len : Nat} (h : Bytes w a len) (k : Below w.heap.size w w') : Bytes w' a len := by
  refine ⟨h.1, ?_⟩
  rcases h.2 with h0 | ⟨xb, xo, rfl, hc⟩
  · exact .inl h0
  · refine .inr ⟨xb, xo, rfl, fun i hi => ?_⟩
    obtain ⟨v, h1, h2, h3⟩ := hc i hi
    exact ⟨v, h1, h2, by rw [k.cell (lt_of_cell h3)]; exact h3⟩

structure Cur (w : World) (b : Nat) (a : Option Addr) (len cap : Nat) : Prop where
  c0 : w.cell? ⟨b, 0, none⟩ = some (.slice a len cap)
  c1 : ∃ i : Nat, i ≤ len ∧ w.cell? ⟨b, 1, none⟩ = some (.int .i64 i)
  c2 : ∃ h : Int, w.cell? ⟨b, 2, none⟩ = some (.int .i64 h)
  f1 : w.frozen? ⟨b, 1, none⟩ = false
  f2 : w.frozen? ⟨b, 2, none⟩ = false
  bytes : Bytes w a len
  off : Off a len b

theorem set_other {w : World} {p q : Addr} {v : Value} (h : p ≠ q) : (w.setCell p v).cell? q = w.cell? q := by apply World.cell?_setCell_other; exact h
theorem set_same {w : World} {p : Addr} {u v : Value} (h : w.cell? p = some u) : (w.setCell p v).cell? p = some v := by apply World.cell?_setCell_same; exact h
theorem Cur.drewN {w : World} {b : Nat} {a : Option Addr} {len cap : Nat} (h : Cur w b a len cap) (n : Nat) : Cur (w.drewN n) b a len cap :=
  ⟨h.c0, h.c1, h.c2, h.f1, h.f2, h.bytes.only h.off ((Only.refl b w).drewN n), h.off⟩
theorem Cur.setH {w : World} {b : Nat} {a : Option Addr} {len cap : Nat} (h : Cur w b a len cap) (x : Int) : Cur (w.setCell ⟨b, 2, none⟩ (.int .i64 x)) b a len cap := by
  obtain ⟨i, hi, h1⟩ := h.c1
  obtain ⟨y, h2⟩ := h.c2
  refine ⟨?_, ⟨i, hi, ?_⟩, ⟨x, ?_⟩, ?_, ?_, h.bytes.only h.off ((Only.refl b w).setCell rfl _), h.off⟩
  · rw [set_other (by simp)]; exact h.c0
  · rw [set_other (by simp)]; exact h1
  · exact set_same h2
  · rw [World.frozen?_setCell]; exact h.f1
  · rw [World.frozen?_setCell]; exact h.f2
theorem Cur.setI {w : World} {b : Nat} {a : Option Addr} {len cap : Nat} (h : Cur w b a len cap) (i : Nat) (hi : i < len) : Cur (w.setCell ⟨b, 1, none⟩ (.int .i64 ((i : Int) + 1))) b a len cap := by
  obtain ⟨j, hj, h1⟩ := h.c1
  obtain ⟨y, h2⟩ := h.c2
  refine ⟨?_, ⟨i + 1, by omega, ?_⟩, ⟨y, ?_⟩, ?_, ?_, h.bytes.only h.off ((Only.refl b w).setCell rfl _), h.off⟩
  · rw [set_other (by simp)]; exact h.c0
  · rw [set_same h1]; simp
  · rw [set_other (by simp)]; exact h2
  · rw [World.frozen?_setCell]; exact h.f1
  · rw [World.frozen?_setCell]; exact h.f2
theorem Cur.lt {w : World} {b : Nat} {a : Option Addr} {len cap : Nat} (h : Cur w b a len cap) : b < w.heap.size := lt_of_cell (p := ⟨b, 0, none⟩) h.c0
theorem Cur.alloc {w : World} {b : Nat} {a : Option Addr} {len cap : Nat} (h : Cur w b a len cap) (o : Obj) : Cur (w.alloc o) b a len cap := by
  have k : Below w.heap.size w (w.alloc o) := (Below.refl _ w).alloc (Nat.le_refl _) o
  have hb := h.lt
  obtain ⟨i, hi, h1⟩ := h.c1
  obtain ⟨y, h2⟩ := h.c2
  exact ⟨by rw [k.cell hb]; exact h.c0, ⟨i, hi, by rw [k.cell hb]; exact h1⟩, ⟨y, by rw [k.cell hb]; exact h2⟩, by rw [k.frozen hb]; exact h.f1, by rw [k.frozen hb]; exact h.f2, h.bytes.below k, h.off⟩

theorem Bytes.offNew {w : World} {a : Option Addr} {len : Nat} (h : Bytes w a len) (b : Nat) (hb : w.heap.size ≤ b) : Off a len b := by
  by_cases h0 : len = 0
  · exact .inl h0
  · rcases h.2 with h1 | ⟨xb, xo, rfl, hc⟩
    · exact .inl h1
    · refine .inr fun x hx => ?_
      obtain ⟨v, _, _, hv⟩ := hc 0 (by omega)
      have := lt_of_cell hv
      simp at hx this
      subst hx
      simp
      omega
theorem Cur.made {w : World} {a : Option Addr} {len cap : Nat} (h : Bytes w a len) (x : Int) (T : Nat) : Cur (w.alloc (.cells #[.slice a len cap, .int .i64 0, .int .i64 x] T)) w.heap.size a len cap := by
  refine ⟨by simp, ⟨0, Nat.zero_le _, by simp⟩, ⟨x, by simp⟩, by simp, by simp, h.below ((Below.refl _ w).alloc (Nat.le_refl _) _), h.offNew _ (Nat.le_refl _)⟩

theorem bytes_of {w : World} {x : Addr} {len cap : Nat} {z : List Int} (hl : len ≤ cap) (hm : cap ≤ maxLen) (hz : z.length = cap) (hcell : ∀ i, i < z.length → w.cell? (x.add i) = some (.int .u8 (z.getD i 0))) (hwz : ∀ n ∈ z, (Lit.int .u8 n).wf = true) : Bytes w (some x) len := by
  refine ⟨by omega, ?_⟩
  by_cases h0 : len = 0
  · exact .inl h0
  · obtain ⟨xb, xo, spot⟩ := x
    have hc := hcell 0 (by omega)
    have hspot : spot = none := by simpa [Addr.add] using World.cell?_spot hc
    subst hspot
    refine .inr ⟨xb, xo, rfl, fun i hi => ⟨z.getD i 0, ?_⟩⟩
    have hi2 : i < z.length := by omega
    have eg : z.getD i 0 = z[i] := by simp [List.getD, hi2]
    have hw := hwz (z.getD i 0) (by rw [eg]; exact List.getElem_mem _)
    have hk := hcell i hi2
    rw [Addr.add_lit] at hk
    generalize z.getD i 0 = v at hw hk ⊢
    simp [Lit.wf, IntKind.min, IntKind.max, IntKind.signed, IntKind.bits] at hw
    exact ⟨by omega, by omega, hk⟩

theorem and255 (x : Int) : 0 ≤ bits .and .i64 x 255 ∧ bits .and .i64 x 255 ≤ 255 := by
  have e : bits .and .i64 x 255 = IntKind.i64.wrap ((BitVec.ofInt 64 x &&& BitVec.ofInt 64 255).toNat : Int) := rfl
  have h : (BitVec.ofInt 64 x &&& BitVec.ofInt 64 255).toNat ≤ 255 := by
    rw [BitVec.toNat_and]; exact Nat.and_le_right
  rw [e, IntKind.wrap_i64]
  omega
end Go.Proofs.Ytiojfommmmggoaa.Dr0

/- Walks of the draws' cursor: one byte, a number below n, a pick out of a short list. -/
namespace Go.Proofs.Ytiojfommmmggoaa.Dr1
open Go.RowKit
open Dr0
set_option linter.unusedVariables false

set_option maxHeartbeats 1000000 in
theorem byte (w : World) (b : Nat) (a : Option Addr) (len cap : Nat) (hc : Cur w b a len cap) :
    Calls Try.prog 52 #[.pointer (some ⟨b, 0, none⟩)] w fun e w' => (∃ x : Int, e = .returned (.int .i64 x) ∧ 0 ≤ x ∧ x ≤ 255) ∧ Cur w' b a len cap ∧ Only b w w' := by
  have HC : Hid (Cur w b a len cap) := hc
  obtain ⟨c0, ⟨i, hi, c1⟩, ⟨h, c2⟩, f1, f2, hb, ho⟩ := hc
  by_cases hlt : i < len
  · rcases hb.2 with h0 | ⟨xb, xo, rfl, hcell⟩
    · omega
    have hne : xb ≠ b := by
      rcases ho with h0 | ho
      · omega
      · exact ho ⟨xb, xo, none⟩ rfl
    obtain ⟨v, hv0, hv1, hv⟩ := hcell i hlt
    have hlz : (i : Int) < (len : Int) := by omega
    have hm := hb.1
    unfold maxLen at hm
    go_enter Try.func52, Try.ntmps52
    go_wp2
    generalize wrap64 (wrap64 (h * 6364136223846793005) + 1442695040888963407) = h1
    go_quiet (fail)
    go_wp2
    generalize bits BinOp.xor IntKind.i64 (h1 / 8589934592) (h1 / 35184372088832) = h2
    have hx := and255 h2
    generalize bits BinOp.and IntKind.i64 h2 255 = x at hx ⊢
    go_quiet (fail)
    go_wp2
    go_quiet (fail)
    go_wp2
    go_ret
    exact ⟨⟨_, rfl, (and255 _).1, (and255 _).2⟩, ((HC.out.setH h1).drewN _).setI i hlt, (((Only.refl b w).setCell rfl _).drewN _).setCell rfl _⟩
  · have hlz : ¬ (i : Int) < (len : Int) := by omega
    go_enter Try.func52, Try.ntmps52
    go_wp2
    generalize wrap64 (wrap64 (h * 6364136223846793005) + 1442695040888963407) = h1
    go_quiet (fail)
    go_wp2
    generalize bits BinOp.xor IntKind.i64 (h1 / 8589934592) (h1 / 35184372088832) = h2
    go_quiet (fail)
    go_wp2
    go_ret
    exact ⟨⟨_, rfl, (and255 _).1, (and255 _).2⟩, ((HC.out.setH h1).drewN _).drewN _, (((Only.refl b w).setCell rfl _).drewN _).drewN _⟩

set_option maxHeartbeats 1000000 in
theorem below (w : World) (b : Nat) (a : Option Addr) (len cap : Nat) (n : Int) (h0 : 1 ≤ n) (h1 : n ≤ 256) (hc : Cur w b a len cap) :
    Calls Try.prog 31 #[.pointer (some ⟨b, 0, none⟩), .int .i64 n] w fun e w' => (∃ x : Int, e = .returned (.int .i64 x) ∧ 0 ≤ x ∧ x < n) ∧ Cur w' b a len cap ∧ Only b w w' := by
  have HC : Hid (Cur w b a len cap) := hc
  clear hc
  go_enter Try.func31, Try.ntmps31
  go_wp2_with fail
  refine (byte _ b a len cap HC.out).mono ?_
  rintro e w' ⟨⟨x, rfl, hx0, hx1⟩, hc', ho'⟩
  have HC' : Hid (Cur w' b a len cap) := hc'
  have HO' : Hid (Only b w w') := ho'
  clear hc' ho'
  go_wp2
  go_ret
  exact ⟨⟨_, rfl, Int.emod_nonneg _ (by omega), Int.emod_lt_of_pos _ (by omega)⟩, HC'.out, HO'.out⟩

set_option maxHeartbeats 1000000 in
theorem once (w : World) (b : Nat) (a : Option Addr) (len cap : Nat) (n : Int) (h0 : 1 ≤ n) (h1 : n ≤ 256) (hc : Cur w b a len cap) :
    Calls Try.prog 53 #[.pointer (some ⟨b, 0, none⟩), .int .i64 n] w fun e w' => (∃ x : Bool, e = .returned (.bool x)) ∧ Cur w' b a len cap ∧ Only b w w' := by
  have HC : Hid (Cur w b a len cap) := hc
  clear hc
  go_enter Try.func53, Try.ntmps53
  go_wp2_with fail
  refine (below _ b a len cap n h0 h1 HC.out).mono ?_
  rintro e w' ⟨⟨x, rfl, hx0, hx1⟩, hc', ho'⟩
  have HC' : Hid (Cur w' b a len cap) := hc'
  have HO' : Hid (Only b w w') := ho'
  clear hc' ho'
  go_wp2
  go_ret
  exact ⟨⟨_, rfl⟩, HC'.out, HO'.out⟩

end Go.Proofs.Ytiojfommmmggoaa.Dr1

/- Walks of the draws: a cursor made, one of a new list picked. -/
namespace Go.Proofs.Ytiojfommmmggoaa.Dr4
open Go.RowKit
open Dr0 Dr1
set_option linter.unusedVariables false

set_option maxRecDepth 100000 in
set_option maxHeartbeats 1000000 in
theorem new (w : World) (a : Option Addr) (len cap : Nat) (hb : Bytes w a len) :
    Calls Try.prog 15 #[.slice a len cap] w fun e w' => e = .returned (.pointer (some ⟨w.heap.size, 0, none⟩)) ∧ Cur w' w.heap.size a len cap ∧ Below w.heap.size w w' := by
  have hm := hb.1
  unfold maxLen at hm
  have HB : Hid (Bytes w a len) := hb
  clear hb
  go_enter Try.func15, Try.ntmps15
  go_wp2
  go_loop [3, 4] (fun h i => ∃ (k : Nat) (x : Int), k ≤ len ∧ i = .int .i64 k ∧ h = .int .i64 x) (fun _ i => len - (intOf i).toNat)
  case atStart => exact ⟨0, _, Nat.zero_le _, rfl, rfl⟩
  case round =>
    obtain ⟨k, x, hk, rfl, rfl⟩ := hrel
    by_cases hlt : k < len ∧ k < 4000
    · obtain ⟨hlt, hl4⟩ := hlt
      rcases HB.out.2 with h0 | ⟨xb, xo, rfl, hcell⟩
      · omega
      obtain ⟨v, hv0, hv1, hv⟩ := hcell k hlt
      clear hcell
      go_wp2
      go_round
      case rel => exact ⟨k + 1, _, by omega, by go_num, rfl⟩
      case measure => simp [intOf]; omega
    · have hd : (decide ((k : Int) < (len : Int)) && decide ((k : Int) < 4000)) = false := by simp; omega
      by_cases hlt : k < len
      · have hl4 : ¬ (k : Int) < 4000 := by omega
        clear hd
        go_wp2
        go_ret
        exact ⟨rfl, Cur.made HB.out x _, (Below.refl _ w).alloc (Nat.le_refl _) _⟩
      · have hl4 : ¬ (k : Int) < (len : Int) := by omega
        clear hd
        go_wp2
        go_ret
        exact ⟨rfl, Cur.made HB.out x _, (Below.refl _ w).alloc (Nat.le_refl _) _⟩

end Go.Proofs.Ytiojfommmmggoaa.Dr4
