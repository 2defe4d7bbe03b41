/- Plain notions for walks that keep a cursor in one block: what turns, what stays. -/
import Derived.WalkKit
import Derived.Deep.QuietTactic
import Derived.BigQuiet
namespace Go.Proofs.YtficonkpbohpeaaDoor.Dr0
open Go.RowKit

/-- From w to w' no block that was there has turned but block b. -/
structure Only (b : Nat) (w w' : World) : Prop where
  os : w'.os = w.os
  tape : w'.tape = w.tape
  output : w'.output = w.output
  size : w.heap.size ≤ w'.heap.size
  block : ∀ k, k < w.heap.size → k ≠ b → w'.heap[k]? = w.heap[k]?

theorem Only.refl (b : Nat) (w : World) : Only b w w := ⟨rfl, rfl, rfl, Nat.le_refl _, fun _ _ _ => rfl⟩
theorem Only.trans {b : Nat} {u v w : World} (h : Only b u v) (k : Only b v w) : Only b u w :=
  ⟨k.os.trans h.os, k.tape.trans h.tape, k.output.trans h.output, Nat.le_trans h.size k.size, fun i hi hb => (k.block i (Nat.lt_of_lt_of_le hi h.size) hb).trans (h.block i hi hb)⟩
theorem Only.drew {b : Nat} {u w : World} (h : Only b u w) : Only b u w.drew := ⟨h.os, h.tape, h.output, h.size, h.block⟩
theorem Only.drewN {b : Nat} {u w : World} (h : Only b u w) (n : Nat) : Only b u (w.drewN n) := ⟨h.os, h.tape, h.output, h.size, h.block⟩
theorem Only.alloc {b : Nat} {u w : World} (h : Only b u w) (o : Obj) : Only b u (w.alloc o) :=
  h.trans ⟨rfl, rfl, rfl, by simp, fun k hk _ => Below.heap_alloc _ _ _ hk⟩
theorem Only.setCell {b : Nat} {u w : World} (h : Only b u w) {p : Addr} (hp : p.block = b) (x : Value) : Only b u (w.setCell p x) :=
  h.trans ⟨rfl, rfl, rfl, by simp [World.setCell], fun k _ hk => Below.heap_setCell _ _ _ _ (by omega)⟩
theorem Only.cell {b : Nat} {w w' : World} (h : Only b w w') {p : Addr} (hp : p.block < w.heap.size) (hb : p.block ≠ b) : w'.cell? p = w.cell? p :=
  World.cell?_of_block (w := w) (h.block p.block hp hb)
theorem Only.frozen {b : Nat} {w w' : World} (h : Only b w w') {p : Addr} (hp : p.block < w.heap.size) (hb : p.block ≠ b) : w'.frozen? p = w.frozen? p :=
  World.frozen?_of_block (w := w) (h.block p.block hp hb)
theorem Only.below {b B : Nat} {w w' : World} (h : Only b w w') (hB : B ≤ b) (hs : B ≤ w.heap.size) : Below B w w' :=
  ⟨h.os, h.tape, h.output, h.size, fun k hk => h.block k (by omega) (by omega)⟩

theorem lt_of_cell {w : World} {p : Addr} {v : Value} (h : w.cell? p = some v) : p.block < w.heap.size := by
  have : ∃ o, w.heap[p.block]? = some o := by
    unfold World.cell? at h
    cases e : w.heap[p.block]? with
    | none => simp [e] at h
    | some o => exact ⟨o, rfl⟩
  obtain ⟨o, ho⟩ := this
  obtain ⟨hl, _⟩ := Array.getElem?_eq_some_iff.1 ho
  exact hl

/-- A slice of bytes that came in: it may be read. -/
def Bytes (w : World) (a : Option Addr) (len : Nat) : Prop :=
  len ≤ maxLen ∧ (len = 0 ∨ ∃ xb xo, a = some ⟨xb, xo, none⟩ ∧ ∀ i, i < len → ∃ v : Int, 0 ≤ v ∧ v ≤ 255 ∧ w.cell? ⟨xb, xo + i, none⟩ = some (.int .u8 v))

/-- .. and it lies in another block than b. -/
def Off (a : Option Addr) (len b : Nat) : Prop := len = 0 ∨ ∀ x, a = some x → x.block ≠ b

theorem Bytes.only {b : Nat} {w w' : World} {a : Option Addr} {len : Nat} (h : Bytes w a len) (ho : Off a len b) (k : Only b w w') : Bytes w' a len := by
  refine ⟨h.1, ?_⟩
  rcases h.2 with h0 | ⟨xb, xo, rfl, hc⟩
  · exact .inl h0
  · rcases ho with h0 | ho
    · exact .inl h0
    · refine .inr ⟨xb, xo, rfl, fun i hi => ?_⟩
      obtain ⟨v, h1, h2, h3⟩ := hc i hi
      exact ⟨v, h1, h2, by rw [k.cell (lt_of_cell h3) (ho ⟨xb, xo, none⟩ rfl)]; exact h3⟩
theorem Bytes.below {w w' : World} {a : Option Addr} {len : Nat} (h : Bytes w a len) (k : Below w.heap.size w w') : Bytes w' a len := by
  refine ⟨h.1, ?_⟩
  rcases h.2 with h0 | ⟨xb, xo, rfl, hc⟩
  · exact .inl h0
  · refine .inr ⟨xb, xo, rfl, fun i hi => ?_⟩
    obtain ⟨v, h1, h2, h3⟩ := hc i hi
    exact ⟨v, h1, h2, by rw [k.cell (lt_of_cell h3)]; exact h3⟩

/-- A cursor over a slice of bytes in block b. -/
structure Cur (w : World) (b : Nat) (a : Option Addr) (len cap : Nat) : Prop where
  c0 : w.cell? ⟨b, 0, none⟩ = some (.slice a len cap)
  c1 : ∃ i : Nat, i ≤ len ∧ w.cell? ⟨b, 1, none⟩ = some (.int .i64 i)
  c2 : ∃ h : Int, w.cell? ⟨b, 2, none⟩ = some (.int .i64 h)
  f1 : w.frozen? ⟨b, 1, none⟩ = false
  f2 : w.frozen? ⟨b, 2, none⟩ = false
  bytes : Bytes w a len
  off : Off a len b

theorem set_other {w : World} {p q : Addr} {v : Value} (h : p ≠ q) : (w.setCell p v).cell? q = w.cell? q := by apply World.cell?_setCell_other; exact h
theorem set_same {w : World} {p : Addr} {u v : Value} (h : w.cell? p = some u) : (w.setCell p v).cell? p = some v := by apply World.cell?_setCell_same; exact h
theorem Cur.drewN {w : World} {b : Nat} {a : Option Addr} {len cap : Nat} (h : Cur w b a len cap) (n : Nat) : Cur (w.drewN n) b a len cap :=
  ⟨h.c0, h.c1, h.c2, h.f1, h.f2, h.bytes.only h.off ((Only.refl b w).drewN n), h.off⟩
theorem Cur.drew {w : World} {b : Nat} {a : Option Addr} {len cap : Nat} (h : Cur w b a len cap) : Cur w.drew b a len cap :=
  ⟨h.c0, h.c1, h.c2, h.f1, h.f2, h.bytes.only h.off (Only.refl b w).drew, h.off⟩
theorem Cur.setH {w : World} {b : Nat} {a : Option Addr} {len cap : Nat} (h : Cur w b a len cap) (x : Int) : Cur (w.setCell ⟨b, 2, none⟩ (.int .i64 x)) b a len cap := by
  obtain ⟨i, hi, h1⟩ := h.c1
  obtain ⟨y, h2⟩ := h.c2
  refine ⟨?_, ⟨i, hi, ?_⟩, ⟨x, ?_⟩, ?_, ?_, h.bytes.only h.off ((Only.refl b w).setCell rfl _), h.off⟩
  · rw [set_other (by simp)]; exact h.c0
  · rw [set_other (by simp)]; exact h1
  · exact set_same h2
  · rw [World.frozen?_setCell]; exact h.f1
  · rw [World.frozen?_setCell]; exact h.f2
theorem Cur.setI {w : World} {b : Nat} {a : Option Addr} {len cap : Nat} (h : Cur w b a len cap) (i : Nat) (hi : i < len) : Cur (w.setCell ⟨b, 1, none⟩ (.int .i64 ((i : Int) + 1))) b a len cap := by
  obtain ⟨j, hj, h1⟩ := h.c1
  obtain ⟨y, h2⟩ := h.c2
  refine ⟨?_, ⟨i + 1, by omega, ?_⟩, ⟨y, ?_⟩, ?_, ?_, h.bytes.only h.off ((Only.refl b w).setCell rfl _), h.off⟩
  · rw [set_other (by simp)]; exact h.c0
  · rw [set_same h1]; simp
  · rw [set_other (by simp)]; exact h2
  · rw [World.frozen?_setCell]; exact h.f1
  · rw [World.frozen?_setCell]; exact h.f2
theorem Cur.lt {w : World} {b : Nat} {a : Option Addr} {len cap : Nat} (h : Cur w b a len cap) : b < w.heap.size := lt_of_cell (p := ⟨b, 0, none⟩) h.c0
theorem Cur.alloc {w : World} {b : Nat} {a : Option Addr} {len cap : Nat} (h : Cur w b a len cap) (o : Obj) : Cur (w.alloc o) b a len cap := by
  have k : Below w.heap.size w (w.alloc o) := (Below.refl _ w).alloc (Nat.le_refl _) o
  have hb := h.lt
  obtain ⟨i, hi, h1⟩ := h.c1
  obtain ⟨y, h2⟩ := h.c2
  exact ⟨by rw [k.cell hb]; exact h.c0, ⟨i, hi, by rw [k.cell hb]; exact h1⟩, ⟨y, by rw [k.cell hb]; exact h2⟩, by rw [k.frozen hb]; exact h.f1, by rw [k.frozen hb]; exact h.f2, h.bytes.below k, h.off⟩

theorem Bytes.offNew {w : World} {a : Option Addr} {len : Nat} (h : Bytes w a len) (b : Nat) (hb : w.heap.size ≤ b) : Off a len b := by
  by_cases h0 : len = 0
  · exact .inl h0
  · rcases h.2 with h1 | ⟨xb, xo, rfl, hc⟩
    · exact .inl h1
    · refine .inr fun x hx => ?_
      obtain ⟨v, _, _, hv⟩ := hc 0 (by omega)
      have := lt_of_cell hv
      simp at hx this
      subst hx
      simp
      omega
theorem Cur.made {w : World} {a : Option Addr} {len cap : Nat} (h : Bytes w a len) (x : Int) (T : Nat) : Cur (w.alloc (.cells #[.slice a len cap, .int .i64 0, .int .i64 x] T)) w.heap.size a len cap := by
  refine ⟨by simp, ⟨0, Nat.zero_le _, by simp⟩, ⟨x, by simp⟩, by simp, by simp, h.below ((Below.refl _ w).alloc (Nat.le_refl _) _), h.offNew _ (Nat.le_refl _)⟩

theorem bytes_of {w : World} {x : Addr} {len cap : Nat} {z : List Int} (hl : len ≤ cap) (hm : cap ≤ maxLen) (hz : z.length = cap) (hcell : ∀ i, i < z.length → w.cell? (x.add i) = some (.int .u8 (z.getD i 0))) (hwz : ∀ n ∈ z, (Lit.int .u8 n).wf = true) : Bytes w (some x) len := by
  refine ⟨by omega, ?_⟩
  by_cases h0 : len = 0
  · exact .inl h0
  · obtain ⟨xb, xo, spot⟩ := x
    have hc := hcell 0 (by omega)
    have hspot : spot = none := by simpa [Addr.add] using World.cell?_spot hc
    subst hspot
    refine .inr ⟨xb, xo, rfl, fun i hi => ⟨z.getD i 0, ?_⟩⟩
    have hi2 : i < z.length := by omega
    have eg : z.getD i 0 = z[i] := by simp [List.getD, hi2]
    have hw := hwz (z.getD i 0) (by rw [eg]; exact List.getElem_mem _)
    have hk := hcell i hi2
    rw [Addr.add_lit] at hk
    generalize z.getD i 0 = v at hw hk ⊢
    simp [Lit.wf, IntKind.min, IntKind.max, IntKind.signed, IntKind.bits] at hw
    exact ⟨by omega, by omega, hk⟩

theorem and255 (x : Int) : 0 ≤ bits .and .i64 x 255 ∧ bits .and .i64 x 255 ≤ 255 := by
  have e : bits .and .i64 x 255 = IntKind.i64.wrap ((BitVec.ofInt 64 x &&& BitVec.ofInt 64 255).toNat : Int) := rfl
  have h : (BitVec.ofInt 64 x &&& BitVec.ofInt 64 255).toNat ≤ 255 := by
    rw [BitVec.toNat_and]; exact Nat.and_le_right
  rw [e, IntKind.wrap_i64]
  omega
theorem and30 (x : Int) : 0 ≤ bits .and .i64 x 1073741823 ∧ bits .and .i64 x 1073741823 ≤ 1073741823 := by
  have e : bits .and .i64 x 1073741823 = IntKind.i64.wrap ((BitVec.ofInt 64 x &&& BitVec.ofInt 64 1073741823).toNat : Int) := rfl
  have h : (BitVec.ofInt 64 x &&& BitVec.ofInt 64 1073741823).toNat ≤ 1073741823 := by
    rw [BitVec.toNat_and]; exact Nat.and_le_right
  rw [e, IntKind.wrap_i64]
  omega

end Go.Proofs.YtficonkpbohpeaaDoor.Dr0
