/- Arguments that are lists of Quants, opened. Written by tools/mkflat.py. -/
import Derived.Test.YtdmogjhabladcaaGreatRows
import Derived.ProofKit
import Derived.Deep.Slices
import Derived.Test.YtdmogjhabladcaaGreatQa0
namespace Go.Proofs.YtdmogjhabladcaaGreat.Qa3
open Go.RowKit Go.ChangeShapes Go.WideShapes
open Nd0 Qa0
set_option linter.unusedVariables false

theorem cellsInt : Tryz.prog.cellsOf 3 = 1 := by kernel_rfl
theorem cellsBool : Tryz.prog.cellsOf 4 = 1 := by kernel_rfl
theorem cellsOfQu : Tryz.prog.cellsOf 105 = 3 := by kernel_rfl
theorem exactly {α : Type} (l : List α) (h : l.length = 3) : ∃ z0 z1 z2, l = [z0, z1, z2] := by
  match l, h with
  | [z0, z1, z2], _ => exact ⟨z0, z1, z2, rfl⟩

section
variable {H : Type} {enc : TypeId × Value → H} {w : World} {base : Nat} {spare : Nat → Bool} {held : Bool}

theorem openQu {fuel : Nat} {cs : List Value} {x : DataW H × List MemPlace} (h : DataW.trod enc Tryz.prog w base spare held fuel 105 cs = some x) :
    ∃ n : Qu, cs = n.cells := by
  obtain ⟨xs, m, _, rfl, hl, hlen, hf⟩ := DataW.trod_struct Tryz.underlying105 h
  rw [cellsOfQu] at hl
  obtain ⟨c0, c1, c2, rfl⟩ := exactly cs hl
  obtain ⟨y0, y1, y2, rfl⟩ := exactly xs (by simpa using hlen)
  have g0 := hf 0 _ rfl
  have g1 := hf 1 _ rfl
  have g2 := hf 2 _ rfl
  simp [cellsInt, cellsBool] at g0 g1 g2
  obtain ⟨n0, e0, _⟩ := DataW.trod_bool Tryz.underlying4 g0
  obtain ⟨n1, e1, _, _⟩ := DataW.trod_int Tryz.underlying3 g1
  obtain ⟨n2, e2, _, _⟩ := DataW.trod_int Tryz.underlying3 g2
  simp at e0 e1 e2
  subst e0 e1 e2
  exact ⟨⟨n0, n1, n2⟩, rfl⟩

theorem cellsQu {a : Addr} {cs : List Value} (h : w.cells? base a 3 = some cs) : cs.length = 3 ∧ ∀ i, i < 3 → w.cell? (a.add i) = cs[i]? := by
  unfold World.cells? at h
  split at h
  · have hl : cs.length = 3 := by simpa using mapM_some_length h
    refine ⟨hl, fun i hi => ?_⟩
    have := mapM_some_get h i i (by simp [hi])
    exact this
  · cases h

theorem opensQu {fuel : Nat} {a : Option Addr} {len cap : Nat} {x : DataW H × List MemPlace} (h : DataW.trod enc Tryz.prog w base spare held fuel 60 [.slice a len cap] = some x) :
    len ≤ maxLen ∧ ∃ l : List Qu, l.length = len ∧ Qus w a l := by
  rcases Deep.open_slice Tryz.underlying60 h with ⟨hcs, _⟩ | ⟨b, len', cap', m, n, D, Pl, hcs, _, hl, hm, hmm, _, hc⟩
  · simp at hcs
    obtain ⟨rfl, rfl, rfl⟩ := hcs
    exact ⟨Nat.zero_le _, [], rfl, Nat.zero_le _, .inl rfl⟩
  · simp at hcs
    obtain ⟨rfl, rfl, rfl⟩ := hcs
    have hlm : len ≤ m := by rw [hmm]; split <;> omega
    have hall : ∀ i, i < len → ∃ nd : Qu, ∀ j, j < 3 → w.cell? ((b.add (i * 3)).add j) = nd.cells[j]? := by
      intro i hi
      obtain ⟨cs', h1, h2⟩ := hc i (by omega)
      rw [cellsOfQu] at h1
      obtain ⟨nd, rfl⟩ := openQu h2
      exact ⟨nd, (cellsQu h1).2⟩
    refine ⟨by omega, ?_⟩
    obtain ⟨f, hf⟩ : ∃ f : Nat → Qu, ∀ i, i < len → ∀ j, j < 3 → w.cell? ((b.add (i * 3)).add j) = (f i).cells[j]? := by
      classical
      refine ⟨fun i => if hi : i < len then Classical.choose (hall i hi) else Qu.zero, fun i hi => ?_⟩
      simp only [dif_pos hi]
      exact Classical.choose_spec (hall i hi)
    refine ⟨(List.range len).map f, by simp, by simp; omega, ?_⟩
    by_cases h0 : len = 0
    · exact .inl (by simp [h0])
    · obtain ⟨xb, xo, spot⟩ := b
      have hs : spot = none := by
        have := hf 0 (by omega) 0 (by omega)
        simp [Addr.add, Qu.cells] at this
        simpa using World.cell?_spot this
      subst hs
      refine .inr ⟨xb, xo, rfl, fun i hi => ?_⟩
      have hi' : i < len := by simpa using hi
      have hg := hf i hi'
      simp only [Addr.add_lit] at hg
      have e : ((List.range len).map f)[i] = f i := by simp
      rw [e]
      exact ⟨hg 0 (by omega), hg 1 (by omega), hg 2 (by omega)⟩
end

end Go.Proofs.YtdmogjhabladcaaGreat.Qa3
