/- Small texts of mine, one behind the other. -/
import Derived.Test.YtldeakifeifgdaaRows
import Derived.ProofKit
import Derived.Deep.Slices
import Derived.ChangeSlices
import Derived.Deep.Grids
import Derived.Test.YtldeakifeifgdaaQc0
import Derived.Test.YtldeakifeifgdaaNd0
import Derived.Test.YtldeakifeifgdaaNd6
import Derived.Test.YtldeakifeifgdaaMm0
/- Arguments that are lists of Seens, opened. Written by tools/gen_qc1.py. -/
namespace Go.Proofs.Ytldeakifeifgdaa.Qc3
open Go.RowKit Go.ChangeShapes Go.WideShapes
open Nd0 Qc0
set_option linter.unusedVariables false

theorem cellsInt : Try.prog.cellsOf 3 = 1 := by kernel_rfl
theorem cellsStr : Try.prog.cellsOf 9 = 1 := by kernel_rfl
theorem cellsOfSn : Try.prog.cellsOf 70 = 2 := by kernel_rfl
theorem exactly {α : Type} (l : List α) (h : l.length = 2) : ∃ z0 z1, l = [z0, z1] := by
  match l, h with
  | [z0, z1], _ => exact ⟨z0, z1, rfl⟩

section
variable {H : Type} {enc : TypeId × Value → H} {w : World} {base : Nat} {spare : Nat → Bool} {held : Bool}

theorem openSn {fuel : Nat} {cs : List Value} {x : DataW H × List MemPlace} (h : DataW.trod enc Try.prog w base spare held fuel 70 cs = some x) :
    ∃ n : Sn, cs = n.cells ∧ n.k.size ≤ maxLen := by
  obtain ⟨xs, m, _, rfl, hl, hlen, hf⟩ := DataW.trod_struct Try.underlying70 h
  rw [cellsOfSn] at hl
  obtain ⟨c0, c1, rfl⟩ := exactly cs hl
  obtain ⟨y0, y1, rfl⟩ := exactly xs (by simpa using hlen)
  have g0 := hf 0 _ rfl
  have g1 := hf 1 _ rfl
  simp [cellsInt, cellsStr] at g0 g1
  obtain ⟨n0, e0, _, hS⟩ := DataW.trod_string Try.underlying9 g0
  obtain ⟨n1, e1, _, _⟩ := DataW.trod_int Try.underlying3 g1
  simp at e0 e1
  subst e0 e1
  exact ⟨⟨n0, n1⟩, rfl, hS⟩

theorem cellsSn {a : Addr} {cs : List Value} (h : w.cells? base a 2 = some cs) : cs.length = 2 ∧ ∀ i, i < 2 → w.cell? (a.add i) = cs[i]? := by
  unfold World.cells? at h
  split at h
  · have hl : cs.length = 2 := by simpa using mapM_some_length h
    refine ⟨hl, fun i hi => ?_⟩
    have := mapM_some_get h i i (by simp [hi])
    exact this
  · cases h

theorem opensSn {fuel : Nat} {a : Option Addr} {len cap : Nat} {x : DataW H × List MemPlace} (h : DataW.trod enc Try.prog w base spare held fuel 26 [.slice a len cap] = some x) :
    len ≤ maxLen ∧ ∃ l : List Sn, l.length = len ∧ Sns w a l ∧ ∀ x ∈ l, x.k.size ≤ maxLen := by
  rcases Deep.open_slice Try.underlying26 h with ⟨hcs, _⟩ | ⟨b, len', cap', m, n, D, Pl, hcs, _, hl, hm, hmm, _, hc⟩
  · simp at hcs
    obtain ⟨rfl, rfl, rfl⟩ := hcs
    exact ⟨Nat.zero_le _, [], rfl, ⟨Nat.zero_le _, .inl rfl⟩, fun x hx => by cases hx⟩
  · simp at hcs
    obtain ⟨rfl, rfl, rfl⟩ := hcs
    have hlm : len ≤ m := by rw [hmm]; split <;> omega
    have hall : ∀ i, i < len → ∃ nd : Sn, (∀ j, j < 2 → w.cell? ((b.add (i * 2)).add j) = nd.cells[j]?) ∧ nd.k.size ≤ maxLen := by
      intro i hi
      obtain ⟨cs', h1, h2⟩ := hc i (by omega)
      rw [cellsOfSn] at h1
      obtain ⟨nd, rfl, hS⟩ := openSn h2
      exact ⟨nd, (cellsSn h1).2, hS⟩
    refine ⟨by omega, ?_⟩
    obtain ⟨f, hf⟩ : ∃ f : Nat → Sn, ∀ i, i < len → (∀ j, j < 2 → w.cell? ((b.add (i * 2)).add j) = (f i).cells[j]?) ∧ (f i).k.size ≤ maxLen := by
      classical
      refine ⟨fun i => if hi : i < len then Classical.choose (hall i hi) else Sn.zero, fun i hi => ?_⟩
      simp only [dif_pos hi]
      exact Classical.choose_spec (hall i hi)
    refine ⟨(List.range len).map f, by simp, ⟨by simp; omega, ?_⟩, fun x hx => by
      obtain ⟨i, hi, rfl⟩ := List.mem_map.1 hx
      exact (hf i (List.mem_range.1 hi)).2⟩
    by_cases h0 : len = 0
    · exact .inl (by simp [h0])
    · obtain ⟨xb, xo, spot⟩ := b
      have hs : spot = none := by
        have := (hf 0 (by omega)).1 0 (by omega)
        simp [Addr.add, Sn.cells] at this
        simpa using World.cell?_spot this
      subst hs
      refine .inr ⟨xb, xo, rfl, fun i hi => ?_⟩
      have hi' : i < len := by simpa using hi
      have hg := (hf i hi').1
      simp only [Addr.add_lit] at hg
      have e : ((List.range len).map f)[i] = f i := by simp
      rw [e]
      exact ⟨hg 0 (by omega), hg 1 (by omega)⟩
end

end Go.Proofs.Ytldeakifeifgdaa.Qc3

/- Arguments that are tables or lists of whole numbers, opened. -/
namespace Go.Proofs.Ytldeakifeifgdaa.Op2
open Go.RowKit Go.ChangeShapes Go.WideShapes
open Nd0
set_option linter.unusedVariables false

theorem cellsInt : Try.prog.cellsOf 3 = 1 := by kernel_rfl
theorem cellsStr : Try.prog.cellsOf 9 = 1 := by kernel_rfl
theorem cellsTable : Try.prog.cellsOf 24 = 2 := by kernel_rfl
theorem pair {α : Type} (l : List α) (h : l.length = 2) : ∃ a b, l = [a, b] := by
  match l, h with
  | [a, b], _ => exact ⟨a, b, rfl⟩
theorem table_open {H : Type} {enc : TypeId × Value → H} {w : World} {base : Nat} {spare : Nat → Bool} {held : Bool} {fuel : Nat} {cs : List Value} {x : DataW H × List MemPlace} (h : DataW.trod enc Try.prog w base spare held fuel 24 cs = some x) :
    ∃ (N : Int) (S : ByteArray), cs = [.int .i64 N, .string S] ∧ S.size ≤ maxLen := by
  obtain ⟨xs, m, _, rfl, hl, hlen, hf⟩ := DataW.trod_struct Try.underlying24 h
  rw [cellsTable] at hl
  obtain ⟨c0, c1, rfl⟩ := pair cs hl
  obtain ⟨y0, y1, rfl⟩ := pair xs (by simpa using hlen)
  have g0 := hf 0 _ rfl
  have g1 := hf 1 _ rfl
  simp [cellsInt, cellsStr] at g0 g1
  obtain ⟨n0, e0, _, _⟩ := DataW.trod_int Try.underlying3 g0
  obtain ⟨S, e1, _, hS⟩ := DataW.trod_string Try.underlying9 g1
  simp at e0 e1
  subst e0 e1
  exact ⟨n0, S, rfl, hS⟩
theorem ints_open {H : Type} {enc : TypeId × Value → H} {w : World} {base : Nat} {spare : Nat → Bool} {held : Bool} {fuel : Nat} {a : Option Addr} {len cap : Nat} {x : DataW H × List MemPlace} (h : DataW.trod enc Try.prog w base spare held fuel 25 [.slice a len cap] = some x) :
    len ≤ maxLen ∧ ∃ l : List Int, l.length = len ∧ Ints w a l := by
  rcases open_ints Try.underlying25 Try.underlying3 cellsInt h with ⟨hcs, _⟩ | ⟨b, len', cap', zs, hcs, _, hl, hm, hz, _, hc, hw⟩
  · simp at hcs
    obtain ⟨rfl, rfl, rfl⟩ := hcs
    exact ⟨Nat.zero_le _, [], rfl, Nat.zero_le _, .inl rfl⟩
  · simp at hcs
    obtain ⟨rfl, rfl, rfl⟩ := hcs
    have hlz : len ≤ zs.length := by rw [hz]; split <;> omega
    refine ⟨by omega, zs.take len, by simp; omega, by simp; omega, ?_⟩
    by_cases h0 : len = 0
    · exact .inl (by simp [h0])
    · obtain ⟨xb, xo, spot⟩ := b
      have hs : spot = none := by
        have := hc 0 (by omega)
        simp [Addr.add] at this
        simpa using World.cell?_spot this
      subst hs
      refine .inr ⟨xb, xo, rfl, fun i hi => ?_⟩
      have hi' : i < zs.length := by simp at hi; omega
      have hg := hc i hi'
      simp only [Addr.add_lit] at hg
      rw [hg]
      simp [List.getD, hi']

end Go.Proofs.Ytldeakifeifgdaa.Op2

/- Arguments that are lists of flags, opened. -/
namespace Go.Proofs.Ytldeakifeifgdaa.Op4
open Go.RowKit Go.ChangeShapes Go.WideShapes Go.Deep
open Nd0 Nd6
set_option linter.unusedVariables false

theorem cellsBool : Try.prog.cellsOf 4 = 1 := by kernel_rfl
theorem bools_open {H : Type} {enc : TypeId × Value → H} {w : World} {base : Nat} {spare : Nat → Bool} {held : Bool} {fuel : Nat} {a : Option Addr} {len cap : Nat} {x : DataW H × List MemPlace} (h : DataW.trod enc Try.prog w base spare held fuel 22 [.slice a len cap] = some x) :
    len ≤ maxLen ∧ ∃ l : List Bool, l.length = len ∧ Bools w a l := by
  rcases open_slice1 Try.underlying22 cellsBool h with ⟨hcs, _⟩ | ⟨b, len', cap', m, n, V, D, Pl, hcs, _, hl, hm, hmm, _, hx⟩
  · simp at hcs
    obtain ⟨rfl, rfl, rfl⟩ := hcs
    exact ⟨Nat.zero_le _, [], rfl, Nat.zero_le _, .inl rfl⟩
  · simp at hcs
    obtain ⟨rfl, rfl, rfl⟩ := hcs
    have hlm : len ≤ m := by rw [hmm]; split <;> omega
    obtain ⟨B, hB⟩ := choose_lt (n := len) (α := Bool) (p := fun i b => V i = .bool b) (fun i hi => by
      obtain ⟨y, h1, h2⟩ := DataW.trod_bool Try.underlying4 (hx i (by omega)).2
      exact ⟨y, by simpa using h1⟩)
    refine ⟨by omega, (List.range len).map B, by simp, by simp; omega, ?_⟩
    by_cases h0 : len = 0
    · exact .inl (by simp [h0])
    · obtain ⟨xb, xo, spot⟩ := b
      have hs : spot = none := by
        have := (hx 0 (by omega)).1
        simp [Addr.add] at this
        simpa using World.cell?_spot this
      subst hs
      refine .inr ⟨xb, xo, rfl, fun i hi => ?_⟩
      have hi' : i < len := by simpa using hi
      have hg := (hx i (by omega)).1
      simp only [Addr.add_lit] at hg
      rw [hg, hB i hi']
      simp

end Go.Proofs.Ytldeakifeifgdaa.Op4

/- Arguments that are machines, opened. -/
namespace Go.Proofs.Ytldeakifeifgdaa.Op5
open Go.RowKit Go.ChangeShapes Go.WideShapes
open Nd0 (Ints)
open Nd6 (Bools)
open Qc0 (Sn Sns)
open Mm0 (Mc Mr)
set_option linter.unusedVariables false

theorem cellsInt : Try.prog.cellsOf 3 = 1 := by kernel_rfl
theorem cellsBool : Try.prog.cellsOf 4 = 1 := by kernel_rfl
theorem cellsTable : Try.prog.cellsOf 24 = 2 := by kernel_rfl
theorem cellsBs : Try.prog.cellsOf 22 = 1 := by kernel_rfl
theorem cellsIs : Try.prog.cellsOf 25 = 1 := by kernel_rfl
theorem cellsSs : Try.prog.cellsOf 26 = 1 := by kernel_rfl
theorem cellsMachine : Try.prog.cellsOf 28 = 11 := by kernel_rfl
theorem range_of {x : Int} (h : (Lit.int .i64 x).wf = true) : -9223372036854775808 ≤ x ∧ x ≤ 9223372036854775807 := by
  have e1 : IntKind.i64.min = -9223372036854775808 := by decide
  have e2 : IntKind.i64.max = 9223372036854775807 := by decide
  simp [Lit.wf, e1, e2] at h; omega
theorem eleven {α : Type} (l : List α) (h : l.length = 11) : ∃ z0 z1 z2 z3 z4 z5 z6 z7 z8 z9 z10, l = [z0, z1, z2, z3, z4, z5, z6, z7, z8, z9, z10] := by
  match l, h with
  | [z0, z1, z2, z3, z4, z5, z6, z7, z8, z9, z10], _ => exact ⟨z0, z1, z2, z3, z4, z5, z6, z7, z8, z9, z10, rfl⟩
theorem ten {α : Type} (l : List α) (h : l.length = 10) : ∃ z0 z1 z2 z3 z4 z5 z6 z7 z8 z9, l = [z0, z1, z2, z3, z4, z5, z6, z7, z8, z9] := by
  match l, h with
  | [z0, z1, z2, z3, z4, z5, z6, z7, z8, z9], _ => exact ⟨z0, z1, z2, z3, z4, z5, z6, z7, z8, z9, rfl⟩

section
variable {H : Type} {enc : TypeId × Value → H} {w : World} {base : Nat} {spare : Nat → Bool} {held : Bool}
/-- A list that can be read, with its cell. -/
theorem bools_cell {fuel : Nat} {c : Value} {x : DataW H × List MemPlace} (h : DataW.trod enc Try.prog w base spare held fuel 22 [c] = some x) : ∃ (a : Option Addr) (l : List Bool) (k : Nat), c = .slice a l.length k ∧ Bools w a l := by
  rcases Deep.open_slice Try.underlying22 h with ⟨hcs, _⟩ | ⟨b, len', cap', m, n, D, Pl, hcs, _⟩
  · simp at hcs
    subst hcs
    exact ⟨none, [], 0, rfl, Nat.zero_le _, .inl rfl⟩
  · simp at hcs
    subst hcs
    obtain ⟨_, l, hl, hA⟩ := Op4.bools_open h
    subst hl
    exact ⟨_, l, _, rfl, hA⟩
theorem ints_cell {fuel : Nat} {c : Value} {x : DataW H × List MemPlace} (h : DataW.trod enc Try.prog w base spare held fuel 25 [c] = some x) : ∃ (a : Option Addr) (l : List Int) (k : Nat), c = .slice a l.length k ∧ Ints w a l := by
  rcases Deep.open_slice Try.underlying25 h with ⟨hcs, _⟩ | ⟨b, len', cap', m, n, D, Pl, hcs, _⟩
  · simp at hcs
    subst hcs
    exact ⟨none, [], 0, rfl, Nat.zero_le _, .inl rfl⟩
  · simp at hcs
    subst hcs
    obtain ⟨_, l, hl, hA⟩ := Op2.ints_open h
    subst hl
    exact ⟨_, l, _, rfl, hA⟩
theorem sns_cell {fuel : Nat} {c : Value} {x : DataW H × List MemPlace} (h : DataW.trod enc Try.prog w base spare held fuel 26 [c] = some x) : ∃ (a : Option Addr) (l : List Sn) (k : Nat), c = .slice a l.length k ∧ Sns w a l ∧ ∀ x ∈ l, x.k.size ≤ maxLen := by
  rcases Deep.open_slice Try.underlying26 h with ⟨hcs, _⟩ | ⟨b, len', cap', m, n, D, Pl, hcs, _⟩
  · simp at hcs
    subst hcs
    exact ⟨none, [], 0, rfl, ⟨Nat.zero_le _, .inl rfl⟩, fun x hx => by cases hx⟩
  · simp at hcs
    subst hcs
    obtain ⟨_, l, hl, hA, hS⟩ := Qc3.opensSn h
    subst hl
    exact ⟨_, l, _, rfl, hA, hS⟩
theorem machine_open {fuel : Nat} {cs : List Value} {x : DataW H × List MemPlace} (h : DataW.trod enc Try.prog w base spare held fuel 28 cs = some x) :
    ∃ (m : Mc) (ra va ma : Option Addr) (rc vc mc : Nat), cs = [.slice ra m.row.length rc, .int .i64 m.N, .string m.S, .int .i64 m.room, .slice va m.vals.length vc, .int .i64 m.ret, .bool m.over, .int .i64 m.steps, .int .i64 m.looks, .int .i64 m.hits, .slice ma m.memo.length mc] ∧ Mr w m ra va ma ∧ m.S.size ≤ maxLen ∧ ∀ x ∈ m.memo, x.k.size ≤ maxLen := by
  obtain ⟨xs, mm, _, rfl, hl, hlen, hf⟩ := DataW.trod_struct Try.underlying28 h
  rw [cellsMachine] at hl
  obtain ⟨c0, c1, c2, c3, c4, c5, c6, c7, c8, c9, c10, rfl⟩ := eleven cs hl
  obtain ⟨y0, y1, y2, y3, y4, y5, y6, y7, y8, y9, rfl⟩ := ten xs (by simpa using hlen)
  have g0 := hf 0 _ rfl
  have g1 := hf 1 _ rfl
  have g2 := hf 2 _ rfl
  have g3 := hf 3 _ rfl
  have g4 := hf 4 _ rfl
  have g5 := hf 5 _ rfl
  have g6 := hf 6 _ rfl
  have g7 := hf 7 _ rfl
  have g8 := hf 8 _ rfl
  have g9 := hf 9 _ rfl
  simp [cellsInt, cellsBool, cellsTable, cellsBs, cellsIs, cellsSs] at g0 g1 g2 g3 g4 g5 g6 g7 g8 g9
  obtain ⟨ra, row, rc, rfl, hrow⟩ := bools_cell g0
  obtain ⟨N, S, e1, hS⟩ := Op2.table_open g1
  simp at e1
  obtain ⟨rfl, rfl⟩ := e1
  obtain ⟨n2, e2, _, _⟩ := DataW.trod_int Try.underlying3 g2
  obtain ⟨va, vals, vc, rfl, hvals⟩ := ints_cell g3
  obtain ⟨n4, e4, _, _⟩ := DataW.trod_int Try.underlying3 g4
  obtain ⟨b5, e5, _⟩ := DataW.trod_bool Try.underlying4 g5
  obtain ⟨n6, e6, _, _⟩ := DataW.trod_int Try.underlying3 g6
  obtain ⟨n7, e7, _, _⟩ := DataW.trod_int Try.underlying3 g7
  obtain ⟨n8, e8, _, _⟩ := DataW.trod_int Try.underlying3 g8
  obtain ⟨ma, memo, mc, rfl, hmemo, hk⟩ := sns_cell g9
  simp at e2 e4 e5 e6 e7 e8
  subst e2 e4 e5 e6 e7 e8
  exact ⟨⟨row, N, S, n2, vals, n4, b5, n6, n7, n8, memo⟩, ra, va, ma, rc, vc, mc, rfl, ⟨hrow, hvals, hmemo⟩, hS, hk⟩
end

end Go.Proofs.Ytldeakifeifgdaa.Op5
