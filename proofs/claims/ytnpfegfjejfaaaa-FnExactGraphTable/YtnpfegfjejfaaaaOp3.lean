/- Arguments that are graphs, opened. -/
import Derived.Test.YtnpfegfjejfaaaaRows
import Derived.ProofKit
import Derived.Deep.Slices
import Derived.Test.YtnpfegfjejfaaaaGr0
namespace Go.Proofs.Ytnpfegfjejfaaaa.Op3
open Go.RowKit Go.ChangeShapes Go.WideShapes
open Nd0 Qb0 Gr0
set_option linter.unusedVariables false

theorem cellsInt : Try.prog.cellsOf 3 = 1 := by kernel_rfl
theorem cellsOfAn : Try.prog.cellsOf 119 = 2 := by kernel_rfl
theorem cellsGraph : Try.prog.cellsOf 44 = 2 := by kernel_rfl
theorem cellsSl : Try.prog.cellsOf 42 = 1 := by kernel_rfl
theorem range_of {x : Int} (h : (Lit.int .i64 x).wf = true) : -9223372036854775808 ≤ x ∧ x ≤ 9223372036854775807 := by
  have e1 : IntKind.i64.min = -9223372036854775808 := by decide
  have e2 : IntKind.i64.max = 9223372036854775807 := by decide
  simp [Lit.wf, e1, e2] at h; omega
theorem exactly {α : Type} (l : List α) (h : l.length = 2) : ∃ z0 z1, l = [z0, z1] := by
  match l, h with
  | [z0, z1], _ => exact ⟨z0, z1, rfl⟩

section
variable {H : Type} {enc : TypeId × Value → H} {w : World} {base : Nat} {spare : Nat → Bool} {held : Bool}

theorem openAn {fuel : Nat} {cs : List Value} {x : DataW H × List MemPlace} (h : DataW.trod enc Try.prog w base spare held fuel 119 cs = some x) :
    ∃ n : An, cs = n.cells ∧ Rn n := by
  obtain ⟨xs, m, _, rfl, hl, hlen, hf⟩ := DataW.trod_struct Try.underlying119 h
  rw [cellsOfAn] at hl
  obtain ⟨c0, c1, rfl⟩ := exactly cs hl
  obtain ⟨y0, y1, rfl⟩ := exactly xs (by simpa using hlen)
  have g0 := hf 0 _ rfl
  have g1 := hf 1 _ rfl
  simp [cellsInt] at g0 g1
  obtain ⟨n0, e0, _, r0⟩ := DataW.trod_int Try.underlying3 g0
  obtain ⟨n1, e1, _, r1⟩ := DataW.trod_int Try.underlying3 g1
  simp at e0 e1
  subst e0 e1
  have s0 := range_of r0
  have s1 := range_of r1
  exact ⟨⟨n0, n1⟩, rfl, s0.1, s0.2, s1.1, s1.2⟩

theorem cellsAn {a : Addr} {cs : List Value} (h : w.cells? base a 2 = some cs) : cs.length = 2 ∧ ∀ i, i < 2 → w.cell? (a.add i) = cs[i]? := by
  unfold World.cells? at h
  split at h
  · have hl : cs.length = 2 := by simpa using mapM_some_length h
    refine ⟨hl, fun i hi => ?_⟩
    have := mapM_some_get h i i (by simp [hi])
    exact this
  · cases h

theorem opensAn {fuel : Nat} {a : Option Addr} {len cap : Nat} {x : DataW H × List MemPlace} (h : DataW.trod enc Try.prog w base spare held fuel 42 [.slice a len cap] = some x) :
    len ≤ maxLen ∧ ∃ l : List An, l.length = len ∧ Ans w a l ∧ Rg l := by
  rcases Deep.open_slice Try.underlying42 h with ⟨hcs, _⟩ | ⟨b, len', cap', m, n, D, Pl, hcs, _, hl, hm, hmm, _, hc⟩
  · simp at hcs
    obtain ⟨rfl, rfl, rfl⟩ := hcs
    exact ⟨Nat.zero_le _, [], rfl, ⟨Nat.zero_le _, .inl rfl⟩, fun i hi => by cases hi⟩
  · simp at hcs
    obtain ⟨rfl, rfl, rfl⟩ := hcs
    have hlm : len ≤ m := by rw [hmm]; split <;> omega
    have hall : ∀ i, i < len → ∃ nd : An, (∀ j, j < 2 → w.cell? ((b.add (i * 2)).add j) = nd.cells[j]?) ∧ Rn nd := by
      intro i hi
      obtain ⟨cs', h1, h2⟩ := hc i (by omega)
      rw [cellsOfAn] at h1
      obtain ⟨nd, rfl, hr⟩ := openAn h2
      exact ⟨nd, (cellsAn h1).2, hr⟩
    refine ⟨by omega, ?_⟩
    obtain ⟨f, hf⟩ : ∃ f : Nat → An, ∀ i, i < len → (∀ j, j < 2 → w.cell? ((b.add (i * 2)).add j) = (f i).cells[j]?) ∧ Rn (f i) := by
      classical
      refine ⟨fun i => if hi : i < len then Classical.choose (hall i hi) else An.zero, fun i hi => ?_⟩
      simp only [dif_pos hi]
      exact Classical.choose_spec (hall i hi)
    refine ⟨(List.range len).map f, by simp, ⟨by simp; omega, ?_⟩, fun i hi => by
      have hi' : i < len := by simpa using hi
      rw [← nth_get hi]
      simp only [List.getElem_map, List.getElem_range]
      exact (hf i hi').2⟩
    by_cases h0 : len = 0
    · exact .inl (by simp [h0])
    · obtain ⟨xb, xo, spot⟩ := b
      have hs : spot = none := by
        have := (hf 0 (by omega)).1 0 (by omega)
        simp [Addr.add, An.cells] at this
        simpa using World.cell?_spot this
      subst hs
      refine .inr ⟨xb, xo, rfl, fun i hi => ?_⟩
      have hi' : i < len := by simpa using hi
      have hg := (hf i hi').1
      simp only [Addr.add_lit] at hg
      have e : ((List.range len).map f)[i] = f i := by simp
      rw [e]
      exact ⟨hg 0 (by omega), hg 1 (by omega)⟩
theorem graph_open {fuel : Nat} {cs : List Value} {x : DataW H × List MemPlace} (h : DataW.trod enc Try.prog w base spare held fuel 44 cs = some x) :
    ∃ (ins : Int) (a : Option Addr) (c : Nat) (l : List An), cs = [.int .i64 ins, .slice a l.length c] ∧ Ans w a l ∧ Rg l ∧ -9223372036854775808 ≤ ins ∧ ins ≤ 9223372036854775807 := by
  obtain ⟨xs, m, _, rfl, hl, hlen, hf⟩ := DataW.trod_struct Try.underlying44 h
  rw [cellsGraph] at hl
  obtain ⟨c0, c1, rfl⟩ := exactly cs hl
  obtain ⟨y0, y1, rfl⟩ := exactly xs (by simpa using hlen)
  have g0 := hf 0 _ rfl
  have g1 := hf 1 _ rfl
  simp [cellsInt, cellsSl] at g0 g1
  obtain ⟨n0, e0, _, r0⟩ := DataW.trod_int Try.underlying3 g0
  simp at e0
  subst e0
  have s0 := range_of r0
  rcases Deep.open_slice Try.underlying42 g1 with ⟨hcs, _⟩ | ⟨b, len', cap', m, n, D, Pl, hcs, _⟩
  · simp at hcs
    subst hcs
    exact ⟨n0, none, 0, [], rfl, ⟨Nat.zero_le _, .inl rfl⟩, fun i hi => (by cases hi), s0.1, s0.2⟩
  · simp at hcs
    subst hcs
    obtain ⟨_, l, hl, hA, hR⟩ := opensAn g1
    subst hl
    exact ⟨n0, _, _, l, rfl, hA, hR, s0.1, s0.2⟩

end

end Go.Proofs.Ytnpfegfjejfaaaa.Op3
