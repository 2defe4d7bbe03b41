/- Small texts of mine, one behind the other. -/
import Derived.WalkKit
import Derived.Deep.QuietTactic
import Derived.BigQuiet
import Derived.Test.YtbnjndloeflgiaaGreatRows
import Derived.WalkSpells
import Derived.WalkLawsBesides
import Derived.Test.YtbnjndloeflgiaaGreatSp11
import Derived.Test.YtbnjndloeflgiaaGreatPkTA3
import Derived.Test.YtbnjndloeflgiaaGreatPkTA8
/- The walk of the model's Bits. -/
namespace Go.Proofs.YtbnjndloeflgiaaGreat.Sp12
open Go.RowKit
open Nd0 Tm0 Tm1 Tm2 Tm4 Tm5 Tm6 Tm11 Ap0 Ap1 Rw0 Rw1
open Sp5 (sReach)
open Sp10 (sQuant)
open Sp11 (sSentence)
open Ws1 (ret_int ret_bool)
set_option linter.unusedVariables false

set_option maxRecDepth 100000 in
set_option maxHeartbeats 4000000 in
theorem sBits (w : World) (a : Option Addr) (l : List Nd) (c : Nat) (hN : Nodes w a l) :
    Calls Tryz.prog 10 #[.slice a l.length c] w fun e w' => e = .returned (.int .i64 (bitsL l)) ∧ Below w.heap.size w w' := by
  have HN : Hid (Nodes w a l) := hN
  clear hN
  go_enter Tryz.func10, Tryz.ntmps10
  go_wp2_with fail
  refine (sSentence _ a l c HN.out).mono ?_
  rintro e w1 ⟨rfl, hb1⟩
  have HB1 : Hid (Below w.heap.size w w1) := hb1
  clear hb1
  cases hS : sentB l
  · have HE : Hid (bitsL l = 0) := by
      show _ = _
      unfold bitsL; rw [hS]; rfl
    go_wp2
    go_ret
    exact ⟨ret_int HE.out.symm, HB1.out⟩
  · have HE : Hid (bitsL l = bitsTo l l.length) := by
      show _ = _
      unfold bitsL; rw [hS]; rfl
    have HT : Hid (termOk l = true) := sent_ok hS
    obtain ⟨hl1, hl2⟩ := term_len (sent_ok hS)
    clear hS
    go_wp2_with fail
    refine (sReach _ _ l c (HN.out.below HB1.out) HT.out).mono ?_
    rintro e w3 ⟨⟨v3, rfl, ho3⟩, hb3⟩
    obtain ⟨g3, c3, rfl, hg3, hl3, hr3⟩ := row_bools ho3 (by rw [reachL_length]; exact hl1)
    rw [reachL_length] at hr3 ⊢
    have HR3 : Hid (Row w3 g3 l.length (fun i => .bool (flag (reachL l) i))) := hr3
    have HB3 : Hid (Below w.heap.size w w3) := HB1.out.trans (hb3.mono HB1.out.size)
    clear ho3 hb3 hr3 hg3 hl3
    go_wp2_with fail
    go_loop [4, 5] (fun v q => ∃ k : Nat, k ≤ l.length ∧ q = .int .i64 k ∧ v = .int .i64 (bitsTo l k)) (fun _ q => l.length - (intOf q).toNat)
    case atStart => exact ⟨0, Nat.zero_le _, rfl, rfl⟩
    case round =>
      obtain ⟨k, hk, rfl, rfl⟩ := hrel
      by_cases hlt : k < l.length
      · have hlz : (k : Int) < (l.length : Int) := by omega
        have f3 := (HR3.out k hlt).1
        try dsimp only at f3
        rcases (HN.out.below HB3.out).2 with h0 | ⟨xb, xo, rfl, hc⟩
        · omega
        have p0 := (hc k hlt).c0
        have p4 := (hc k hlt).c4
        rw [nth_get hlt] at p0 p4
        clear hc
        have HBN : Hid (bitsTo l (k + 1) = if flag (reachL l) k && quant (nth l k).op then bitsTo l k + (nth l k).b else bitsTo l k) := rfl
        have hbb := bits_bound HT.out k hk
        have HQB : Hid (quant (nth l k).op = true → 1 ≤ (nth l k).b ∧ (nth l k).b ≤ 8) := fun h => quant_b (term_node HT.out hlt) h
        generalize bitsTo l k = z at HBN hbb ⊢
        generalize nth l k = n at p0 p4 HBN HQB
        obtain ⟨hb0, hb9⟩ := hbb
        cases hf : flag (reachL l) k
        · rw [hf] at f3
          have HB2' : Hid (bitsTo l (k + 1) = z) := by
            show _ = _
            rw [HBN.out, hf]; rfl
          go_wp2
          go_round
          case rel => exact ⟨k + 1, by omega, by go_num, by rw [HB2'.out]⟩
          case measure => simp [intOf]; omega
        · rw [hf] at f3
          cases hqu : quant n.op
          · have HB2' : Hid (bitsTo l (k + 1) = z) := by
              show _ = _
              rw [HBN.out, hf, hqu]; rfl
            go_wp2_with (go_at_call 37; refine (sQuant _ _).mono ?_; rintro e w' ⟨rfl, rfl⟩; rw [hqu])
            go_round
            case rel => exact ⟨k + 1, by omega, by go_num, by rw [HB2'.out]⟩
            case measure => simp [intOf]; omega
          · have HB2' : Hid (bitsTo l (k + 1) = z + n.b) := by
              show _ = _
              rw [HBN.out, hf, hqu]; rfl
            obtain ⟨hq1, hq2⟩ := HQB.out hqu
            go_wp2_with (go_at_call 37; refine (sQuant _ _).mono ?_; rintro e w' ⟨rfl, rfl⟩; rw [hqu])
            go_round
            case rel => exact ⟨k + 1, by omega, by go_num, by rw [HB2'.out]⟩
            case measure => simp [intOf]; omega
      · have hlz : ¬ (k : Int) < (l.length : Int) := by omega
        have HKE : Hid (k = l.length) := by show _ = _; omega
        go_wp2
        go_ret
        exact ⟨ret_int (by rw [HE.out, HKE.out]), HB3.out⟩

end Go.Proofs.YtbnjndloeflgiaaGreat.Sp12

/- Plain notions for walks that keep a cursor in one block: what turns, what stays. -/
namespace Go.Proofs.YtbnjndloeflgiaaGreat.Dr0
open Go.RowKit

structure Only (b : Nat) (w w' : World) : Prop where
  os : w'.os = w.os
  tape : w'.tape = w.tape
  output : w'.output = w.output
  size : w.heap.size ≤ w'.heap.size
  block : ∀ k, k < w.heap.size → k ≠ b → w'.heap[k]? = w.heap[k]?

theorem Only.refl (b : Nat) (w : World) : Only b w w := ⟨rfl, rfl, rfl, Nat.le_refl _, fun _ _ _ => rfl⟩
theorem Only.trans {b : Nat} {u v w : World} (h : Only b u v) (k : Only b v w) : Only b u w :=
  ⟨k.os.trans h.os, k.tape.trans h.tape, k.output.trans h.output, Nat.le_trans h.size k.size, fun i hi hb => (k.block i (Nat.lt_of_lt_of_le hi h.size) hb).trans (h.block i hi hb)⟩
theorem Only.drewN {b : Nat} {u w : World} (h : Only b u w) (n : Nat) : Only b u (w.drewN n) := ⟨h.os, h.tape, h.output, h.size, h.block⟩
theorem Only.setCell {b : Nat} {u w : World} (h : Only b u w) {p : Addr} (hp : p.block = b) (x : Value) : Only b u (w.setCell p x) :=
  h.trans ⟨rfl, rfl, rfl, by simp [World.setCell], fun k _ hk => Below.heap_setCell _ _ _ _ (by omega)⟩
theorem Only.cell {b : Nat} {w w' : World} (h : Only b w w') {p : Addr} (hp : p.block < w.heap.size) (hb : p.block ≠ b) : w'.cell? p = w.cell? p :=
  World.cell?_of_block (w := w) (h.block p.block hp hb)
theorem lt_of_cell {w : World} {p : Addr} {v : Value} (h : w.cell? p = some v) : p.block < w.heap.size := by
  have : ∃ o, w.heap[p.block]? = some o := by
    unfold World.cell? at h
    cases e : w.heap[p.block]? with
    | none => simp [e] at h
    | some o => exact ⟨o, rfl⟩
  obtain ⟨o, ho⟩ := this
  obtain ⟨hl, _⟩ := Array.getElem?_eq_some_iff.1 ho
  exact hl

def Bytes (w : World) (a : Option Addr) (len : Nat) : Prop :=
  len ≤ maxLen ∧ (len = 0 ∨ ∃ xb xo, a = some ⟨xb, xo, none⟩ ∧ ∀ i, i < len → ∃ v : Int, 0 ≤ v ∧ v ≤ 255 ∧ w.cell? ⟨xb, xo + i, none⟩ = some (.int .u8 v))

def Off (a : Option Addr) (len b : Nat) : Prop := len = 0 ∨ ∀ x, a = some x → x.block ≠ b

theorem Bytes.only {b : Nat} {w w' : World} {a : Option Addr} {len : Nat} (h : Bytes w a len) (ho : Off a len b) (k : Only b w w') : Bytes w' a len := by
  refine ⟨h.1, ?_⟩
  rcases h.2 with h0 | ⟨xb, xo, rfl, hc⟩
  · exact .inl h0
  · rcases ho with h0 | ho
    · exact .inl h0
    · refine .inr ⟨xb, xo, rfl, fun i hi => ?_⟩
      obtain ⟨v, h1, h2, h3⟩ := hc i hi
      exact ⟨v, h1, h2, by rw [k.cell (lt_of_cell h3) (ho ⟨xb, xo, none⟩ rfl)]; exact h3⟩
theorem Bytes.below {w w' : World} {a : Option Addr} {len : Nat} (h : Bytes w a len) (k : Below w.heap.size w w') : Bytes w' a len := by
  refine ⟨h.1, ?_⟩
  rcases h.2 with h0 | ⟨xb, xo, rfl, hc⟩
  · exact .inl h0
  · refine .inr ⟨xb, xo, rfl, fun i hi => ?_⟩
    obtain ⟨v, h1, h2, h3⟩ := hc i hi
    exact ⟨v, h1, h2, by rw [k.cell (lt_of_cell h3)]; exact h3⟩

structure Cur (w : World) (b : Nat) (a : Option Addr) (len cap : Nat) : Prop where
  c0 : w.cell? ⟨b, 0, none⟩ = some (.slice a len cap)
  c1 : ∃ i : Nat, i ≤ len ∧ w.cell? ⟨b, 1, none⟩ = some (.int .i64 i)
  c2 : ∃ h : Int, w.cell? ⟨b, 2, none⟩ = some (.int .i64 h)
  f1 : w.frozen? ⟨b, 1, none⟩ = false
  f2 : w.frozen? ⟨b, 2, none⟩ = false
  bytes : Bytes w a len
  off : Off a len b

theorem set_other {w : World} {p q : Addr} {v : Value} (h : p ≠ q) : (w.setCell p v).cell? q = w.cell? q := by apply World.cell?_setCell_other; exact h
theorem set_same {w : World} {p : Addr} {u v : Value} (h : w.cell? p = some u) : (w.setCell p v).cell? p = some v := by apply World.cell?_setCell_same; exact h
theorem Cur.drewN {w : World} {b : Nat} {a : Option Addr} {len cap : Nat} (h : Cur w b a len cap) (n : Nat) : Cur (w.drewN n) b a len cap :=
  ⟨h.c0, h.c1, h.c2, h.f1, h.f2, h.bytes.only h.off ((Only.refl b w).drewN n), h.off⟩
theorem Cur.setH {w : World} {b : Nat} {a : Option Addr} {len cap : Nat} (h : Cur w b a len cap) (x : Int) : Cur (w.setCell ⟨b, 2, none⟩ (.int .i64 x)) b a len cap := by
  obtain ⟨i, hi, h1⟩ := h.c1
  obtain ⟨y, h2⟩ := h.c2
  refine ⟨?_, ⟨i, hi, ?_⟩, ⟨x, ?_⟩, ?_, ?_, h.bytes.only h.off ((Only.refl b w).setCell rfl _), h.off⟩
  · rw [set_other (by simp)]; exact h.c0
  · rw [set_other (by simp)]; exact h1
  · exact set_same h2
  · rw [World.frozen?_setCell]; exact h.f1
  · rw [World.frozen?_setCell]; exact h.f2
theorem Cur.setI {w : World} {b : Nat} {a : Option Addr} {len cap : Nat} (h : Cur w b a len cap) (i : Nat) (hi : i < len) : Cur (w.setCell ⟨b, 1, none⟩ (.int .i64 ((i : Int) + 1))) b a len cap := by
  obtain ⟨j, hj, h1⟩ := h.c1
  obtain ⟨y, h2⟩ := h.c2
  refine ⟨?_, ⟨i + 1, by omega, ?_⟩, ⟨y, ?_⟩, ?_, ?_, h.bytes.only h.off ((Only.refl b w).setCell rfl _), h.off⟩
  · rw [set_other (by simp)]; exact h.c0
  · rw [set_same h1]; simp
  · rw [set_other (by simp)]; exact h2
  · rw [World.frozen?_setCell]; exact h.f1
  · rw [World.frozen?_setCell]; exact h.f2
theorem Cur.lt {w : World} {b : Nat} {a : Option Addr} {len cap : Nat} (h : Cur w b a len cap) : b < w.heap.size := lt_of_cell (p := ⟨b, 0, none⟩) h.c0
theorem Bytes.offNew {w : World} {a : Option Addr} {len : Nat} (h : Bytes w a len) (b : Nat) (hb : w.heap.size ≤ b) : Off a len b := by
  by_cases h0 : len = 0
  · exact .inl h0
  · rcases h.2 with h1 | ⟨xb, xo, rfl, hc⟩
    · exact .inl h1
    · refine .inr fun x hx => ?_
      obtain ⟨v, _, _, hv⟩ := hc 0 (by omega)
      have := lt_of_cell hv
      simp at hx this
      subst hx
      simp
      omega
theorem Cur.made {w : World} {a : Option Addr} {len cap : Nat} (h : Bytes w a len) (x : Int) (T : Nat) : Cur (w.alloc (.cells #[.slice a len cap, .int .i64 0, .int .i64 x] T)) w.heap.size a len cap := by
  refine ⟨by simp, ⟨0, Nat.zero_le _, by simp⟩, ⟨x, by simp⟩, by simp, by simp, h.below ((Below.refl _ w).alloc (Nat.le_refl _) _), h.offNew _ (Nat.le_refl _)⟩

theorem bytes_of {w : World} {x : Addr} {len cap : Nat} {z : List Int} (hl : len ≤ cap) (hm : cap ≤ maxLen) (hz : z.length = cap) (hcell : ∀ i, i < z.length → w.cell? (x.add i) = some (.int .u8 (z.getD i 0))) (hwz : ∀ n ∈ z, (Lit.int .u8 n).wf = true) : Bytes w (some x) len := by
  refine ⟨by omega, ?_⟩
  by_cases h0 : len = 0
  · exact .inl h0
  · obtain ⟨xb, xo, spot⟩ := x
    have hc := hcell 0 (by omega)
    have hspot : spot = none := by simpa [Addr.add] using World.cell?_spot hc
    subst hspot
    refine .inr ⟨xb, xo, rfl, fun i hi => ⟨z.getD i 0, ?_⟩⟩
    have hi2 : i < z.length := by omega
    have eg : z.getD i 0 = z[i] := by simp [List.getD, hi2]
    have hw := hwz (z.getD i 0) (by rw [eg]; exact List.getElem_mem _)
    have hk := hcell i hi2
    rw [Addr.add_lit] at hk
    generalize z.getD i 0 = v at hw hk ⊢
    simp [Lit.wf, IntKind.min, IntKind.max, IntKind.signed, IntKind.bits] at hw
    exact ⟨by omega, by omega, hk⟩

theorem and255 (x : Int) : 0 ≤ bits .and .i64 x 255 ∧ bits .and .i64 x 255 ≤ 255 := by
  have e : bits .and .i64 x 255 = IntKind.i64.wrap ((BitVec.ofInt 64 x &&& BitVec.ofInt 64 255).toNat : Int) := rfl
  have h : (BitVec.ofInt 64 x &&& BitVec.ofInt 64 255).toNat ≤ 255 := by
    rw [BitVec.toNat_and]; exact Nat.and_le_right
  rw [e, IntKind.wrap_i64]
  omega
end Go.Proofs.YtbnjndloeflgiaaGreat.Dr0

/- Walks of the draws' cursor: one byte, a number below n, a pick out of a short list. -/
namespace Go.Proofs.YtbnjndloeflgiaaGreat.Dr1
open Go.RowKit
open Dr0
set_option linter.unusedVariables false

set_option maxHeartbeats 1000000 in
theorem byte (w : World) (b : Nat) (a : Option Addr) (len cap : Nat) (hc : Cur w b a len cap) :
    Calls Tryz.prog 74 #[.pointer (some ⟨b, 0, none⟩)] w fun e w' => (∃ x : Int, e = .returned (.int .i64 x) ∧ 0 ≤ x ∧ x ≤ 255) ∧ Cur w' b a len cap ∧ Only b w w' := by
  have HC : Hid (Cur w b a len cap) := hc
  obtain ⟨c0, ⟨i, hi, c1⟩, ⟨h, c2⟩, f1, f2, hb, ho⟩ := hc
  by_cases hlt : i < len
  · rcases hb.2 with h0 | ⟨xb, xo, rfl, hcell⟩
    · omega
    have hne : xb ≠ b := by
      rcases ho with h0 | ho
      · omega
      · exact ho ⟨xb, xo, none⟩ rfl
    obtain ⟨v, hv0, hv1, hv⟩ := hcell i hlt
    have hlz : (i : Int) < (len : Int) := by omega
    have hm := hb.1
    unfold maxLen at hm
    go_enter Tryz.func74, Tryz.ntmps74
    go_wp2
    generalize wrap64 (wrap64 (h * 6364136223846793005) + 1442695040888963407) = h1
    go_quiet (fail)
    go_wp2
    generalize bits BinOp.xor IntKind.i64 (h1 / 8589934592) (h1 / 35184372088832) = h2
    have hx := and255 h2
    generalize bits BinOp.and IntKind.i64 h2 255 = x at hx ⊢
    go_quiet (fail)
    go_wp2
    go_quiet (fail)
    go_wp2
    go_ret
    exact ⟨⟨_, rfl, (and255 _).1, (and255 _).2⟩, ((HC.out.setH h1).drewN _).setI i hlt, (((Only.refl b w).setCell rfl _).drewN _).setCell rfl _⟩
  · have hlz : ¬ (i : Int) < (len : Int) := by omega
    go_enter Tryz.func74, Tryz.ntmps74
    go_wp2
    generalize wrap64 (wrap64 (h * 6364136223846793005) + 1442695040888963407) = h1
    go_quiet (fail)
    go_wp2
    generalize bits BinOp.xor IntKind.i64 (h1 / 8589934592) (h1 / 35184372088832) = h2
    go_quiet (fail)
    go_wp2
    go_ret
    exact ⟨⟨_, rfl, (and255 _).1, (and255 _).2⟩, ((HC.out.setH h1).drewN _).drewN _, (((Only.refl b w).setCell rfl _).drewN _).drewN _⟩

set_option maxHeartbeats 1000000 in
theorem below (w : World) (b : Nat) (a : Option Addr) (len cap : Nat) (n : Int) (h0 : 1 ≤ n) (h1 : n ≤ 256) (hc : Cur w b a len cap) :
    Calls Tryz.prog 60 #[.pointer (some ⟨b, 0, none⟩), .int .i64 n] w fun e w' => (∃ x : Int, e = .returned (.int .i64 x) ∧ 0 ≤ x ∧ x < n) ∧ Cur w' b a len cap ∧ Only b w w' := by
  have HC : Hid (Cur w b a len cap) := hc
  clear hc
  go_enter Tryz.func60, Tryz.ntmps60
  go_wp2_with fail
  refine (byte _ b a len cap HC.out).mono ?_
  rintro e w' ⟨⟨x, rfl, hx0, hx1⟩, hc', ho'⟩
  have HC' : Hid (Cur w' b a len cap) := hc'
  have HO' : Hid (Only b w w') := ho'
  clear hc' ho'
  go_wp2
  go_ret
  exact ⟨⟨_, rfl, Int.emod_nonneg _ (by omega), Int.emod_lt_of_pos _ (by omega)⟩, HC'.out, HO'.out⟩

set_option maxHeartbeats 1000000 in
theorem once (w : World) (b : Nat) (a : Option Addr) (len cap : Nat) (n : Int) (h0 : 1 ≤ n) (h1 : n ≤ 256) (hc : Cur w b a len cap) :
    Calls Tryz.prog 59 #[.pointer (some ⟨b, 0, none⟩), .int .i64 n] w fun e w' => (∃ x : Bool, e = .returned (.bool x)) ∧ Cur w' b a len cap ∧ Only b w w' := by
  have HC : Hid (Cur w b a len cap) := hc
  clear hc
  go_enter Tryz.func59, Tryz.ntmps59
  go_wp2_with fail
  refine (below _ b a len cap n h0 h1 HC.out).mono ?_
  rintro e w' ⟨⟨x, rfl, hx0, hx1⟩, hc', ho'⟩
  have HC' : Hid (Cur w' b a len cap) := hc'
  have HO' : Hid (Only b w w') := ho'
  clear hc' ho'
  go_wp2
  go_ret
  exact ⟨⟨_, rfl⟩, HC'.out, HO'.out⟩

end Go.Proofs.YtbnjndloeflgiaaGreat.Dr1

/- Terms that are drawn: a cursor, a list of nodes that grows, and what stays as it is. -/
namespace Go.Proofs.YtbnjndloeflgiaaGreat.Dw0
open Go.RowKit
open Nd0 Nd3 Ap2
open Dr0 (Cur Only Bytes Off)
set_option linter.unusedVariables false

def Low (a : Option Addr) (len b : Nat) : Prop := len = 0 ∨ ∀ x, a = some x → x.block < b

theorem cur_kept {w w' : World} {b : Nat} {a : Option Addr} {len cap : Nat} (h : Cur w b a len cap) {S : Nat → Prop} (k : Kept S w w') (hb : ¬ S b) (hl : len = 0 ∨ ∀ x, a = some x → ¬ S x.block) : Cur w' b a len cap := by
  have hlt := h.lt
  obtain ⟨i, hi, c1⟩ := h.c1
  obtain ⟨x, c2⟩ := h.c2
  refine ⟨by rw [k.cell (p := ⟨b, 0, none⟩) hlt hb]; exact h.c0, ⟨i, hi, by rw [k.cell (p := ⟨b, 1, none⟩) hlt hb]; exact c1⟩, ⟨x, by rw [k.cell (p := ⟨b, 2, none⟩) hlt hb]; exact c2⟩, by rw [k.frozen (p := ⟨b, 1, none⟩) hlt hb]; exact h.f1, by rw [k.frozen (p := ⟨b, 2, none⟩) hlt hb]; exact h.f2, ?_, h.off⟩
  refine ⟨h.bytes.1, ?_⟩
  rcases h.bytes.2 with h0 | ⟨xb, xo, rfl, hc⟩
  · exact .inl h0
  · rcases hl with h0 | hl
    · exact .inl h0
    · refine .inr ⟨xb, xo, rfl, fun j hj => ?_⟩
      obtain ⟨y, y0, y1, hy⟩ := hc j hj
      exact ⟨y, y0, y1, by rw [k.cell (p := ⟨xb, xo + j, none⟩) (lt_of_cell hy) (hl ⟨xb, xo, none⟩ rfl)]; exact hy⟩
theorem only_kept {b : Nat} {w w' : World} (h : Only b w w') : Kept (fun k => k = b) w w' := ⟨h.os, h.tape, h.output, h.size, fun k hk hn => h.block k hk hn⟩

structure Dr (w : World) (b : Nat) (a : Option Addr) (len cap : Nat) (v : Value) (L : List Nd) : Prop where
  cur : Cur w b a len cap
  own : Ap2.Own w (b + 1) v L
  low : Low a len b
structure Stp (b : Nat) (v v' : Value) (w w' : World) : Prop where
  kept : Kept (fun k => k = b ∨ v.ownBlock = some k) w w'
  new : ∀ k, v'.ownBlock = some k → v.ownBlock = some k ∨ w.heap.size ≤ k
def Vs (w : World) (b : Nat) (v : Value) (va : Option Addr) (vl : List Nd) : Prop := Nodes w va vl ∧ ∀ x, 0 < vl.length → va = some x → x.block ≠ b ∧ v.ownBlock ≠ some x.block ∧ x.block < w.heap.size

theorem Stp.refl (b : Nat) (v : Value) (w : World) : Stp b v v w w := ⟨Kept.refl _ _, fun _ h => .inl h⟩
theorem Stp.trans {b : Nat} {u v x : Value} {w w' w'' : World} (h : Stp b u v w w') (k : Stp b v x w' w'') : Stp b u x w w'' := by
  constructor
  · refine ⟨k.kept.os.trans h.kept.os, k.kept.tape.trans h.kept.tape, k.kept.output.trans h.kept.output, Nat.le_trans h.kept.size k.kept.size, fun i hi hb => ?_⟩
    rw [k.kept.block i (Nat.lt_of_lt_of_le hi h.kept.size) (fun e => ?_)]
    · exact h.kept.block i hi hb
    · rcases e with e | e
      · exact hb (.inl e)
      · rcases h.new i e with e' | e'
        · exact hb (.inr e')
        · omega
  · intro i hi
    rcases k.new i hi with e | e
    · exact h.new i e
    · exact .inr (Nat.le_trans h.kept.size e)
theorem Stp.only {b : Nat} {v : Value} {w w' : World} (h : Only b w w') : Stp b v v w w' := ⟨(only_kept h).mono fun _ e => .inl e, fun _ h => .inl h⟩
theorem Stp.ofBelow {b : Nat} {v : Value} {w w' : World} (h : Below w.heap.size w w') : Stp b v v w w' := ⟨Kept.ofBelow h, fun _ h => .inl h⟩
theorem Stp.grow {b : Nat} {v v' : Value} {w w' : World} (h : Kept (fun k => v.ownBlock = some k) w w') (n : ∀ k, v'.ownBlock = some k → v.ownBlock = some k ∨ w.heap.size ≤ k) : Stp b v v' w w' := ⟨h.mono fun _ e => .inr e, n⟩

theorem Dr.ne {w : World} {b : Nat} {a : Option Addr} {len cap : Nat} {v : Value} {L : List Nd} (h : Dr w b a len cap v L) : v.ownBlock ≠ some b := fun e => by have := (h.own.lt b e).1; omega
theorem Dr.only {w w' : World} {b : Nat} {a : Option Addr} {len cap : Nat} {v : Value} {L : List Nd} (h : Dr w b a len cap v L) (hc : Cur w' b a len cap) (k : Only b w w') : Dr w' b a len cap v L :=
  ⟨hc, h.own.kept (only_kept k) (fun i hi e => h.ne (e ▸ hi)), h.low⟩
theorem Dr.low' {w : World} {b : Nat} {a : Option Addr} {len cap : Nat} {v : Value} {L : List Nd} (h : Dr w b a len cap v L) : len = 0 ∨ ∀ x, a = some x → ¬ v.ownBlock = some x.block := by
  rcases h.low with h0 | hl
  · exact .inl h0
  · exact .inr fun x hx e => by have := (h.own.lt _ e).1; have := hl x hx; omega
theorem Dr.below {w w' : World} {b : Nat} {a : Option Addr} {len cap : Nat} {v : Value} {L : List Nd} (h : Dr w b a len cap v L) (k : Below w.heap.size w w') : Dr w' b a len cap v L :=
  ⟨cur_kept h.cur (S := fun _ => False) (Kept.ofBelow k) (fun h => h) (.inr fun _ _ h => h), h.own.kept (S := fun _ => False) (Kept.ofBelow k) (fun _ _ h => h), h.low⟩
theorem Dr.grow {w w' : World} {b : Nat} {a : Option Addr} {len cap : Nat} {v v' : Value} {L L' : List Nd} (h : Dr w b a len cap v L) (k : Kept (fun k => v.ownBlock = some k) w w') (ho : Ap2.Own w' (b + 1) v' L') : Dr w' b a len cap v' L' :=
  ⟨cur_kept h.cur k h.ne h.low', ho, h.low⟩
theorem Vs.stp {w w' : World} {b : Nat} {v v' : Value} {va : Option Addr} {vl : List Nd} (h : Vs w b v va vl) (s : Stp b v v' w w') : Vs w' b v' va vl := by
  by_cases h0 : vl.length = 0
  · exact ⟨⟨h.1.1, .inl h0⟩, fun x hx => by omega⟩
  · refine ⟨h.1.kept s.kept (fun x hx e => ?_), fun x hp hx => ?_⟩
    · have h9 := h.2 x (by omega) hx
      rcases e with e | e
      · exact h9.1 e
      · exact h9.2.1 e
    · have h9 := h.2 x hp hx
      refine ⟨h9.1, fun e => ?_, Nat.lt_of_lt_of_le h9.2.2 s.kept.size⟩
      rcases s.new _ e with e' | e'
      · exact h9.2.1 e'
      · omega
theorem Dr.slice {w : World} {b : Nat} {a : Option Addr} {len cap : Nat} {v : Value} {L : List Nd} (h : Dr w b a len cap v L) : ∃ va vc, v = .slice va L.length vc := h.own.len
theorem Dr.size {w : World} {b : Nat} {a : Option Addr} {len cap : Nat} {v : Value} {L : List Nd} (h : Dr w b a len cap v L) : b + 1 ≤ w.heap.size := h.cur.lt

end Go.Proofs.YtbnjndloeflgiaaGreat.Dw0

/- The walk of the draw that puts one node behind others. -/
namespace Go.Proofs.YtbnjndloeflgiaaGreat.Dw1
open Go.RowKit
open Nd0 Nd3 Ap2 Dw0
open Dr0 (Cur Only Bytes Off)
set_option linter.unusedVariables false

set_option maxHeartbeats 1000000 in
theorem push (w : World) (b : Nat) (a : Option Addr) (len cap : Nat) (v : Value) (L : List Nd) (n : Nd) (h : Dr w b a len cap v L) (hl : L.length ≤ 1048576) :
    Calls Tryz.prog 61 #[v, .agg #[.int .i64 n.op, .int .i64 n.w, .int .i64 n.k, .int .i64 n.a, .int .i64 n.b, .int .i64 n.c]] w fun e w' => ∃ v', e = .returned (.tuple #[v', .int .i64 (L.length : Int)]) ∧ Dr w' b a len cap v' (L ++ [n]) ∧ Stp b v v' w w' := by
  have HD : Hid (Dr w b a len cap v L) := h
  obtain ⟨va, vc, rfl⟩ := h.slice
  have hsz := h.size
  clear h
  obtain ⟨wb, hwb⟩ : ∃ wb : World, wb = w.alloc (.cells #[.int .i64 n.op, .int .i64 n.w, .int .i64 n.k, .int .i64 n.a, .int .i64 n.b, .int .i64 n.c] 50) := ⟨_, rfl⟩
  have hbel : Below w.heap.size w wb := by rw [hwb]; exact (Below.refl _ _).alloc (Nat.le_refl _) _
  have HD1 : Hid (Dr wb b a len cap (.slice va L.length vc) L) := HD.out.below hbel
  have HS1 : Hid (Stp b (.slice va L.length vc) (.slice va L.length vc) w wb) := Stp.ofBelow hbel
  have hB : b + 1 ≤ wb.heap.size := HD1.out.size
  have HWB : Hid (wb = w.alloc (.cells #[.int .i64 n.op, .int .i64 n.w, .int .i64 n.k, .int .i64 n.a, .int .i64 n.b, .int .i64 n.c] 50)) := hwb
  have hws : wb.heap.size = w.heap.size + 1 := by rw [hwb]; simp
  have HWS : Hid (wb.heap.size = w.heap.size + 1) := hws
  clear hwb hws hbel
  go_enter Tryz.func61, Tryz.ntmps61
  go_wp2_with (at_builtin; go_must (rw [← HWB.out]; refine app_node wb rfl _ _ rfl (b + 1) (.slice va L.length vc) L n rfl (w.heap.size + 1) rfl HWS.out.symm HD1.out.own hB hl ?_; intro g5 cp5 w5 ho5 hk5 hg5))
  have HO5 : Hid (Ap2.Own w5 (b + 1) (.slice (some ⟨g5, 0, none⟩) (L.length + 1) cp5) (L ++ [n])) := ho5
  have HK5 : Hid (Kept (fun k => (Value.slice va L.length vc).ownBlock = some k) wb w5) := hk5
  have HG5 : Hid ((Value.slice va L.length vc).ownBlock = some g5 ∨ wb.heap.size ≤ g5) := hg5
  clear ho5 hk5 hg5
  go_wp2
  refine bodyPost_ret (v := .tuple #[.slice (some ⟨g5, 0, none⟩) (L.length + 1) cp5, .int .i64 (L.length : Int)]) (by simp [results, Tryz.results61, go_sem]) rfl ?_
  refine ⟨_, rfl, HD1.out.grow HK5.out HO5.out, HS1.out.trans (Stp.grow HK5.out fun k hk => ?_)⟩
  cases hk
  exact HG5.out

end Go.Proofs.YtbnjndloeflgiaaGreat.Dw1

/- The bits of all quantifiers of a list, reached or not, as plain data. -/
namespace Go.Proofs.YtbnjndloeflgiaaGreat.Dq0
open Nd0 Tm0 Tm1 Tm5 Tm6 Tm11
set_option linter.unusedVariables false

def sq (l : List Nd) : Int := (l.map fun n => if quant n.op then n.b else 0).sum
theorem sq_snoc (l : List Nd) (n : Nd) : sq (l ++ [n]) = sq l + if quant n.op then n.b else 0 := by simp [sq]
theorem sq_non {l : List Nd} {n : Nd} (h : n.op < 19 ∨ 20 < n.op) : sq (l ++ [n]) = sq l := by
  have hq : quant n.op = false := by
    unfold quant
    rw [Bool.or_eq_false_iff]
    exact ⟨beq_eq_false_iff_ne.2 (by omega), beq_eq_false_iff_ne.2 (by omega)⟩
  rw [sq_snoc, hq]; simp
theorem sq_one (l : List Nd) {n : Nd} (h : 0 ≤ n.b) : sq (l ++ [n]) ≤ sq l + n.b := by
  rw [sq_snoc]; split <;> omega
theorem bits_sq {l : List Nd} (hT : termOk l = true) : ∀ k, k ≤ l.length → bitsTo l k ≤ sq (l.take k) := by
  intro k
  induction k with
  | zero => intro _; exact Int.le_refl _
  | succ k ih =>
    intro hk
    have h := ih (by omega)
    rw [List.take_succ_eq_append_getElem (by omega), sq_snoc, nth_get (by omega)]
    show (if flag (reachL l) k && quant (nth l k).op then bitsTo l k + (nth l k).b else bitsTo l k) ≤ _
    cases hq : quant (nth l k).op
    · simp; exact h
    · have hb := quant_b (term_node hT (by omega)) hq
      simp only [Bool.and_true, if_true]
      split <;> omega
theorem bits_le {l : List Nd} (hS : sentB l = true) : bitsL l ≤ sq l := by
  unfold bitsL
  rw [hS, if_pos rfl]
  have h := bits_sq (sent_ok hS) l.length (Nat.le_refl _)
  rw [List.take_length] at h
  exact h

end Go.Proofs.YtbnjndloeflgiaaGreat.Dq0
