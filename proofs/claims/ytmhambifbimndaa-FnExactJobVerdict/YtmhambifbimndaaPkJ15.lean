/- Small texts of mine, one behind the other. -/
import Derived.Test.YtmhambifbimndaaPkJ2
import Derived.Test.YtmhambifbimndaaOp4
import Derived.Test.YtmhambifbimndaaMm0
/- Arguments that are machines, opened. -/
namespace Go.Proofs.Ytmhambifbimndaa.Op5
open Go.RowKit Go.ChangeShapes Go.WideShapes
open Nd0 (Ints)
open Nd6 (Bools)
open Qc0 (Sn Sns)
open Mm0 (Mc Mr)
set_option linter.unusedVariables false

theorem cellsInt : Try.prog.cellsOf 3 = 1 := by kernel_rfl
theorem cellsBool : Try.prog.cellsOf 4 = 1 := by kernel_rfl
theorem cellsTable : Try.prog.cellsOf 24 = 2 := by kernel_rfl
theorem cellsBs : Try.prog.cellsOf 22 = 1 := by kernel_rfl
theorem cellsIs : Try.prog.cellsOf 25 = 1 := by kernel_rfl
theorem cellsSs : Try.prog.cellsOf 26 = 1 := by kernel_rfl
theorem cellsMachine : Try.prog.cellsOf 28 = 11 := by kernel_rfl
theorem range_of {x : Int} (h : (Lit.int .i64 x).wf = true) : -9223372036854775808 ≤ x ∧ x ≤ 9223372036854775807 := by
  have e1 : IntKind.i64.min = -9223372036854775808 := by decide
  have e2 : IntKind.i64.max = 9223372036854775807 := by decide
  simp [Lit.wf, e1, e2] at h; omega
theorem eleven {α : Type} (l : List α) (h : l.length = 11) : ∃ z0 z1 z2 z3 z4 z5 z6 z7 z8 z9 z10, l = [z0, z1, z2, z3, z4, z5, z6, z7, z8, z9, z10] := by
  match l, h with
  | [z0, z1, z2, z3, z4, z5, z6, z7, z8, z9, z10], _ => exact ⟨z0, z1, z2, z3, z4, z5, z6, z7, z8, z9, z10, rfl⟩
theorem ten {α : Type} (l : List α) (h : l.length = 10) : ∃ z0 z1 z2 z3 z4 z5 z6 z7 z8 z9, l = [z0, z1, z2, z3, z4, z5, z6, z7, z8, z9] := by
  match l, h with
  | [z0, z1, z2, z3, z4, z5, z6, z7, z8, z9], _ => exact ⟨z0, z1, z2, z3, z4, z5, z6, z7, z8, z9, rfl⟩

section
variable {H : Type} {enc : TypeId × Value → H} {w : World} {base : Nat} {spare : Nat → Bool} {held : Bool}
/-- A list that can be read, with its cell. -/
theorem bools_cell {fuel : Nat} {c : Value} {x : DataW H × List MemPlace} (h : DataW.trod enc Try.prog w base spare held fuel 22 [c] = some x) : ∃ (a : Option Addr) (l : List Bool) (k : Nat), c = .slice a l.length k ∧ Bools w a l := by
  rcases Deep.open_slice Try.underlying22 h with ⟨hcs, _⟩ | ⟨b, len', cap', m, n, D, Pl, hcs, _⟩
  · simp at hcs
    subst hcs
    exact ⟨none, [], 0, rfl, Nat.zero_le _, .inl rfl⟩
  · simp at hcs
    subst hcs
    obtain ⟨_, l, hl, hA⟩ := Op4.bools_open h
    subst hl
    exact ⟨_, l, _, rfl, hA⟩
theorem ints_cell {fuel : Nat} {c : Value} {x : DataW H × List MemPlace} (h : DataW.trod enc Try.prog w base spare held fuel 25 [c] = some x) : ∃ (a : Option Addr) (l : List Int) (k : Nat), c = .slice a l.length k ∧ Ints w a l := by
  rcases Deep.open_slice Try.underlying25 h with ⟨hcs, _⟩ | ⟨b, len', cap', m, n, D, Pl, hcs, _⟩
  · simp at hcs
    subst hcs
    exact ⟨none, [], 0, rfl, Nat.zero_le _, .inl rfl⟩
  · simp at hcs
    subst hcs
    obtain ⟨_, l, hl, hA⟩ := Op2.ints_open h
    subst hl
    exact ⟨_, l, _, rfl, hA⟩
theorem sns_cell {fuel : Nat} {c : Value} {x : DataW H × List MemPlace} (h : DataW.trod enc Try.prog w base spare held fuel 26 [c] = some x) : ∃ (a : Option Addr) (l : List Sn) (k : Nat), c = .slice a l.length k ∧ Sns w a l ∧ ∀ x ∈ l, x.k.size ≤ maxLen := by
  rcases Deep.open_slice Try.underlying26 h with ⟨hcs, _⟩ | ⟨b, len', cap', m, n, D, Pl, hcs, _⟩
  · simp at hcs
    subst hcs
    exact ⟨none, [], 0, rfl, ⟨Nat.zero_le _, .inl rfl⟩, fun x hx => by cases hx⟩
  · simp at hcs
    subst hcs
    obtain ⟨_, l, hl, hA, hS⟩ := Qc3.opensSn h
    subst hl
    exact ⟨_, l, _, rfl, hA, hS⟩
theorem machine_open {fuel : Nat} {cs : List Value} {x : DataW H × List MemPlace} (h : DataW.trod enc Try.prog w base spare held fuel 28 cs = some x) :
    ∃ (m : Mc) (ra va ma : Option Addr) (rc vc mc : Nat), cs = [.slice ra m.row.length rc, .int .i64 m.N, .string m.S, .int .i64 m.room, .slice va m.vals.length vc, .int .i64 m.ret, .bool m.over, .int .i64 m.steps, .int .i64 m.looks, .int .i64 m.hits, .slice ma m.memo.length mc] ∧ Mr w m ra va ma ∧ m.S.size ≤ maxLen ∧ ∀ x ∈ m.memo, x.k.size ≤ maxLen := by
  obtain ⟨xs, mm, _, rfl, hl, hlen, hf⟩ := DataW.trod_struct Try.underlying28 h
  rw [cellsMachine] at hl
  obtain ⟨c0, c1, c2, c3, c4, c5, c6, c7, c8, c9, c10, rfl⟩ := eleven cs hl
  obtain ⟨y0, y1, y2, y3, y4, y5, y6, y7, y8, y9, rfl⟩ := ten xs (by simpa using hlen)
  have g0 := hf 0 _ rfl
  have g1 := hf 1 _ rfl
  have g2 := hf 2 _ rfl
  have g3 := hf 3 _ rfl
  have g4 := hf 4 _ rfl
  have g5 := hf 5 _ rfl
  have g6 := hf 6 _ rfl
  have g7 := hf 7 _ rfl
  have g8 := hf 8 _ rfl
  have g9 := hf 9 _ rfl
  simp [cellsInt, cellsBool, cellsTable, cellsBs, cellsIs, cellsSs] at g0 g1 g2 g3 g4 g5 g6 g7 g8 g9
  obtain ⟨ra, row, rc, rfl, hrow⟩ := bools_cell g0
  obtain ⟨N, S, e1, hS⟩ := Op2.table_open g1
  simp at e1
  obtain ⟨rfl, rfl⟩ := e1
  obtain ⟨n2, e2, _, _⟩ := DataW.trod_int Try.underlying3 g2
  obtain ⟨va, vals, vc, rfl, hvals⟩ := ints_cell g3
  obtain ⟨n4, e4, _, _⟩ := DataW.trod_int Try.underlying3 g4
  obtain ⟨b5, e5, _⟩ := DataW.trod_bool Try.underlying4 g5
  obtain ⟨n6, e6, _, _⟩ := DataW.trod_int Try.underlying3 g6
  obtain ⟨n7, e7, _, _⟩ := DataW.trod_int Try.underlying3 g7
  obtain ⟨n8, e8, _, _⟩ := DataW.trod_int Try.underlying3 g8
  obtain ⟨ma, memo, mc, rfl, hmemo, hk⟩ := sns_cell g9
  simp at e2 e4 e5 e6 e7 e8
  subst e2 e4 e5 e6 e7 e8
  exact ⟨⟨row, N, S, n2, vals, n4, b5, n6, n7, n8, memo⟩, ra, va, ma, rc, vc, mc, rfl, ⟨hrow, hvals, hmemo⟩, hS, hk⟩
end

end Go.Proofs.Ytmhambifbimndaa.Op5

/- Arguments that are jobs, opened. Written by tools/mkjb.py. -/
namespace Go.Proofs.Ytmhambifbimndaa.Op7
open Go.RowKit Go.ChangeShapes Go.WideShapes
open Mm0 (Mc Mr)
set_option linter.unusedVariables false

theorem cellsString : Try.prog.cellsOf 9 = 1 := by kernel_rfl
theorem cellsJob : Try.prog.cellsOf 30 = 14 := by kernel_rfl
theorem fourteen {α : Type} (l : List α) (h : l.length = 14) : ∃ z0 z1 z2 z3 z4 z5 z6 z7 z8 z9 z10 z11 z12 z13, l = [z0, z1, z2, z3, z4, z5, z6, z7, z8, z9, z10, z11, z12, z13] := by
  match l, h with
  | [z0, z1, z2, z3, z4, z5, z6, z7, z8, z9, z10, z11, z12, z13], _ => exact ⟨z0, z1, z2, z3, z4, z5, z6, z7, z8, z9, z10, z11, z12, z13, rfl⟩
theorem four {α : Type} (l : List α) (h : l.length = 4) : ∃ z0 z1 z2 z3, l = [z0, z1, z2, z3] := by
  match l, h with
  | [z0, z1, z2, z3], _ => exact ⟨z0, z1, z2, z3, rfl⟩
section
variable {H : Type} {enc : TypeId × Value → H} {w : World} {base : Nat} {spare : Nat → Bool} {held : Bool}
theorem job_open {fuel : Nat} {cs : List Value} {x : DataW H × List MemPlace} (h : DataW.trod enc Try.prog w base spare held fuel 30 cs = some x) :
    ∃ (st : Int) (m : Mc) (jr : ByteArray) (sy : Int) (ra va ma : Option Addr) (rc vc mc : Nat), cs = [.int .i64 st, .slice ra m.row.length rc, .int .i64 m.N, .string m.S, .int .i64 m.room, .slice va m.vals.length vc, .int .i64 m.ret, .bool m.over, .int .i64 m.steps, .int .i64 m.looks, .int .i64 m.hits, .slice ma m.memo.length mc, .string jr, .int .i64 sy] ∧ Mr w m ra va ma ∧ m.S.size ≤ maxLen ∧ (∀ x ∈ m.memo, x.k.size ≤ maxLen) ∧ jr.size ≤ maxLen := by
  obtain ⟨xs, mm, _, rfl, hl, hlen, hf⟩ := DataW.trod_struct Try.underlying30 h
  rw [cellsJob] at hl
  obtain ⟨c0, c1, c2, c3, c4, c5, c6, c7, c8, c9, c10, c11, c12, c13, rfl⟩ := fourteen cs hl
  obtain ⟨y0, y1, y2, y3, rfl⟩ := four xs (by simpa using hlen)
  have g0 := hf 0 _ rfl
  have g1 := hf 1 _ rfl
  have g2 := hf 2 _ rfl
  have g3 := hf 3 _ rfl
  simp [Op5.cellsInt, Op5.cellsMachine, cellsString] at g0 g1 g2 g3
  obtain ⟨n0, e0, _, _⟩ := DataW.trod_int Try.underlying3 g0
  obtain ⟨m, ra, va, ma, rc, vc, mc, e1, hR, hS, hk⟩ := Op5.machine_open g1
  obtain ⟨s2, e2, _, hs2⟩ := DataW.trod_string Try.underlying9 g2
  obtain ⟨n3, e3, _, _⟩ := DataW.trod_int Try.underlying3 g3
  simp at e0 e1 e2 e3
  obtain ⟨rfl, rfl, rfl, rfl, rfl, rfl, rfl, rfl, rfl, rfl, rfl⟩ := e1
  subst e0 e2 e3
  exact ⟨n0, m, s2, n3, ra, va, ma, rc, vc, mc, rfl, hR, hS, hk, hs2⟩
end

end Go.Proofs.Ytmhambifbimndaa.Op7
