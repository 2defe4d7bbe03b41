/- Arguments that are picks, opened. -/
import Derived.Test.YtlpbfbghgacjiaaRows
import Derived.ProofKit
import Derived.Deep.Slices
import Derived.Test.YtlpbfbghgacjiaaNd0
import Derived.Test.YtlpbfbghgacjiaaOp2
namespace Go.Proofs.Ytlpbfbghgacjiaa.Op6
open Go.RowKit Go.ChangeShapes Go.WideShapes
open Nd0
set_option linter.unusedVariables false

/-- A pick as plain data. -/
structure Pk where
  l : List Int
  v : Int
/-- It can be read at place p of block b. -/
def PkAt (w : World) (b p : Nat) (k : Pk) : Prop := ∃ a c, w.cell? ⟨b, p, none⟩ = some (.slice a k.l.length c) ∧ w.cell? ⟨b, p + 1, none⟩ = some (.int .i64 k.v) ∧ Ints w a k.l
/-- A slice of picks can be read at address a. -/
def Pks (w : World) (a : Option Addr) (ps : List Pk) : Prop :=
  ps.length ≤ maxLen ∧ (ps.length = 0 ∨ ∃ b o, a = some ⟨b, o, none⟩ ∧ ∀ i (h : i < ps.length), PkAt w b (o + i * 2) ps[i])

theorem cellsInt : Try.prog.cellsOf 3 = 1 := by kernel_rfl
theorem cellsPick : Try.prog.cellsOf 57 = 2 := by kernel_rfl
theorem cellsSl : Try.prog.cellsOf 35 = 1 := by kernel_rfl
theorem exactly {α : Type} (l : List α) (h : l.length = 2) : ∃ z0 z1, l = [z0, z1] := by
  match l, h with
  | [z0, z1], _ => exact ⟨z0, z1, rfl⟩

section
variable {H : Type} {enc : TypeId × Value → H} {w : World} {base : Nat} {spare : Nat → Bool} {held : Bool}

theorem pick_open {fuel : Nat} {cs : List Value} {x : DataW H × List MemPlace} (h : DataW.trod enc Try.prog w base spare held fuel 57 cs = some x) :
    ∃ (a : Option Addr) (c : Nat) (l : List Int) (v : Int), cs = [.slice a l.length c, .int .i64 v] ∧ Ints w a l := by
  obtain ⟨xs, m, _, rfl, hl, hlen, hf⟩ := DataW.trod_struct Try.underlying57 h
  rw [cellsPick] at hl
  obtain ⟨c0, c1, rfl⟩ := exactly cs hl
  obtain ⟨y0, y1, rfl⟩ := exactly xs (by simpa using hlen)
  have g0 := hf 0 _ rfl
  have g1 := hf 1 _ rfl
  simp [cellsInt, cellsSl] at g0 g1
  obtain ⟨n1, e1, _, r1⟩ := DataW.trod_int Try.underlying3 g1
  simp at e1
  subst e1
  rcases Deep.open_slice Try.underlying35 g0 with ⟨hcs, _⟩ | ⟨b, len', cap', m, n, D, Pl, hcs, _⟩
  · simp at hcs
    subst hcs
    exact ⟨none, 0, [], n1, rfl, ⟨Nat.zero_le _, .inl rfl⟩⟩
  · simp at hcs
    subst hcs
    obtain ⟨_, l, hl, hA⟩ := Op2.ints_open g0
    subst hl
    exact ⟨_, _, l, n1, rfl, hA⟩
theorem cellsPk {a : Addr} {cs : List Value} (h : w.cells? base a 2 = some cs) : cs.length = 2 ∧ ∀ i, i < 2 → w.cell? (a.add i) = cs[i]? := by
  unfold World.cells? at h
  split at h
  · have hl : cs.length = 2 := by simpa using mapM_some_length h
    refine ⟨hl, fun i hi => ?_⟩
    have := mapM_some_get h i i (by simp [hi])
    exact this
  · cases h
theorem picks_open {fuel : Nat} {a : Option Addr} {len cap : Nat} {x : DataW H × List MemPlace} (h : DataW.trod enc Try.prog w base spare held fuel 49 [.slice a len cap] = some x) :
    len ≤ maxLen ∧ ∃ ps : List Pk, ps.length = len ∧ Pks w a ps := by
  rcases Deep.open_slice Try.underlying49 h with ⟨hcs, _⟩ | ⟨b, len', cap', m, n, D, Pl, hcs, _, hl, hm, hmm, _, hc⟩
  · simp at hcs
    obtain ⟨rfl, rfl, rfl⟩ := hcs
    exact ⟨Nat.zero_le _, [], rfl, Nat.zero_le _, .inl rfl⟩
  · simp at hcs
    obtain ⟨rfl, rfl, rfl⟩ := hcs
    have hlm : len ≤ m := by rw [hmm]; split <;> omega
    have hall : ∀ i, i < len → ∃ k : Pk, ∃ a c, w.cell? ((b.add (i * 2)).add 0) = some (.slice a k.l.length c) ∧ w.cell? ((b.add (i * 2)).add 1) = some (.int .i64 k.v) ∧ Ints w a k.l := by
      intro i hi
      obtain ⟨cs', h1, h2⟩ := hc i (by omega)
      rw [cellsPick] at h1
      obtain ⟨a, c, l, v, rfl, hI⟩ := pick_open h2
      have := (cellsPk h1).2
      exact ⟨⟨l, v⟩, a, c, this 0 (by omega), this 1 (by omega), hI⟩
    refine ⟨by omega, ?_⟩
    obtain ⟨f, hf⟩ : ∃ f : Nat → Pk, ∀ i, i < len → ∃ a c, w.cell? ((b.add (i * 2)).add 0) = some (.slice a (f i).l.length c) ∧ w.cell? ((b.add (i * 2)).add 1) = some (.int .i64 (f i).v) ∧ Ints w a (f i).l := by
      classical
      refine ⟨fun i => if hi : i < len then Classical.choose (hall i hi) else ⟨[], 0⟩, fun i hi => ?_⟩
      simp only [dif_pos hi]
      exact Classical.choose_spec (hall i hi)
    refine ⟨(List.range len).map f, by simp, by simp; omega, ?_⟩
    by_cases h0 : len = 0
    · exact .inl (by simp [h0])
    · obtain ⟨xb, xo, spot⟩ := b
      have hs : spot = none := by
        obtain ⟨a, c, this, _⟩ := hf 0 (by omega)
        simp [Addr.add] at this
        simpa using World.cell?_spot this
      subst hs
      refine .inr ⟨xb, xo, rfl, fun i hi => ?_⟩
      have hi' : i < len := by simpa using hi
      obtain ⟨a, c, g0, g1, g2⟩ := hf i hi'
      simp only [Addr.add_lit] at g0 g1
      have e : ((List.range len).map f)[i] = f i := by simp
      rw [e]
      exact ⟨a, c, g0, g1, g2⟩
end

end Go.Proofs.Ytlpbfbghgacjiaa.Op6
