/- Small texts of mine, one behind the other. -/
import Derived.Test.YtmhambifbimndaaRows
import Derived.ProofKit
import Derived.Deep.Slices
import Derived.ChangeSlices
import Derived.WalkKit
import Derived.WalkSpells
import Derived.WalkLawsBesides
import Derived.Deep.QuietTactic
import Derived.BigQuiet
import Derived.Deep.RegionWith
import Derived.Test.YtmhambifbimndaaQc0
import Derived.Test.YtmhambifbimndaaNd0
/- Arguments that are lists of Seens, opened. Written by tools/gen_qc1.py. -/
namespace Go.Proofs.Ytmhambifbimndaa.Qc3
open Go.RowKit Go.ChangeShapes Go.WideShapes
open Nd0 Qc0
set_option linter.unusedVariables false

theorem cellsInt : Try.prog.cellsOf 3 = 1 := by kernel_rfl
theorem cellsStr : Try.prog.cellsOf 9 = 1 := by kernel_rfl
theorem cellsOfSn : Try.prog.cellsOf 71 = 2 := by kernel_rfl
theorem exactly {α : Type} (l : List α) (h : l.length = 2) : ∃ z0 z1, l = [z0, z1] := by
  match l, h with
  | [z0, z1], _ => exact ⟨z0, z1, rfl⟩

section
variable {H : Type} {enc : TypeId × Value → H} {w : World} {base : Nat} {spare : Nat → Bool} {held : Bool}

theorem openSn {fuel : Nat} {cs : List Value} {x : DataW H × List MemPlace} (h : DataW.trod enc Try.prog w base spare held fuel 71 cs = some x) :
    ∃ n : Sn, cs = n.cells ∧ n.k.size ≤ maxLen := by
  obtain ⟨xs, m, _, rfl, hl, hlen, hf⟩ := DataW.trod_struct Try.underlying71 h
  rw [cellsOfSn] at hl
  obtain ⟨c0, c1, rfl⟩ := exactly cs hl
  obtain ⟨y0, y1, rfl⟩ := exactly xs (by simpa using hlen)
  have g0 := hf 0 _ rfl
  have g1 := hf 1 _ rfl
  simp [cellsInt, cellsStr] at g0 g1
  obtain ⟨n0, e0, _, hS⟩ := DataW.trod_string Try.underlying9 g0
  obtain ⟨n1, e1, _, _⟩ := DataW.trod_int Try.underlying3 g1
  simp at e0 e1
  subst e0 e1
  exact ⟨⟨n0, n1⟩, rfl, hS⟩

theorem cellsSn {a : Addr} {cs : List Value} (h : w.cells? base a 2 = some cs) : cs.length = 2 ∧ ∀ i, i < 2 → w.cell? (a.add i) = cs[i]? := by
  unfold World.cells? at h
  split at h
  · have hl : cs.length = 2 := by simpa using mapM_some_length h
    refine ⟨hl, fun i hi => ?_⟩
    have := mapM_some_get h i i (by simp [hi])
    exact this
  · cases h

theorem opensSn {fuel : Nat} {a : Option Addr} {len cap : Nat} {x : DataW H × List MemPlace} (h : DataW.trod enc Try.prog w base spare held fuel 26 [.slice a len cap] = some x) :
    len ≤ maxLen ∧ ∃ l : List Sn, l.length = len ∧ Sns w a l ∧ ∀ x ∈ l, x.k.size ≤ maxLen := by
  rcases Deep.open_slice Try.underlying26 h with ⟨hcs, _⟩ | ⟨b, len', cap', m, n, D, Pl, hcs, _, hl, hm, hmm, _, hc⟩
  · simp at hcs
    obtain ⟨rfl, rfl, rfl⟩ := hcs
    exact ⟨Nat.zero_le _, [], rfl, ⟨Nat.zero_le _, .inl rfl⟩, fun x hx => by cases hx⟩
  · simp at hcs
    obtain ⟨rfl, rfl, rfl⟩ := hcs
    have hlm : len ≤ m := by rw [hmm]; split <;> omega
    have hall : ∀ i, i < len → ∃ nd : Sn, (∀ j, j < 2 → w.cell? ((b.add (i * 2)).add j) = nd.cells[j]?) ∧ nd.k.size ≤ maxLen := by
      intro i hi
      obtain ⟨cs', h1, h2⟩ := hc i (by omega)
      rw [cellsOfSn] at h1
      obtain ⟨nd, rfl, hS⟩ := openSn h2
      exact ⟨nd, (cellsSn h1).2, hS⟩
    refine ⟨by omega, ?_⟩
    obtain ⟨f, hf⟩ : ∃ f : Nat → Sn, ∀ i, i < len → (∀ j, j < 2 → w.cell? ((b.add (i * 2)).add j) = (f i).cells[j]?) ∧ (f i).k.size ≤ maxLen := by
      classical
      refine ⟨fun i => if hi : i < len then Classical.choose (hall i hi) else Sn.zero, fun i hi => ?_⟩
      simp only [dif_pos hi]
      exact Classical.choose_spec (hall i hi)
    refine ⟨(List.range len).map f, by simp, ⟨by simp; omega, ?_⟩, fun x hx => by
      obtain ⟨i, hi, rfl⟩ := List.mem_map.1 hx
      exact (hf i (List.mem_range.1 hi)).2⟩
    by_cases h0 : len = 0
    · exact .inl (by simp [h0])
    · obtain ⟨xb, xo, spot⟩ := b
      have hs : spot = none := by
        have := (hf 0 (by omega)).1 0 (by omega)
        simp [Addr.add, Sn.cells] at this
        simpa using World.cell?_spot this
      subst hs
      refine .inr ⟨xb, xo, rfl, fun i hi => ?_⟩
      have hi' : i < len := by simpa using hi
      have hg := (hf i hi').1
      simp only [Addr.add_lit] at hg
      have e : ((List.range len).map f)[i] = f i := by simp
      rw [e]
      exact ⟨hg 0 (by omega), hg 1 (by omega)⟩
end

end Go.Proofs.Ytmhambifbimndaa.Qc3

/- Arguments that are tables or lists of whole numbers, opened. -/
namespace Go.Proofs.Ytmhambifbimndaa.Op2
open Go.RowKit Go.ChangeShapes Go.WideShapes
open Nd0
set_option linter.unusedVariables false

theorem cellsInt : Try.prog.cellsOf 3 = 1 := by kernel_rfl
theorem cellsStr : Try.prog.cellsOf 9 = 1 := by kernel_rfl
theorem cellsTable : Try.prog.cellsOf 24 = 2 := by kernel_rfl
theorem pair {α : Type} (l : List α) (h : l.length = 2) : ∃ a b, l = [a, b] := by
  match l, h with
  | [a, b], _ => exact ⟨a, b, rfl⟩
theorem table_open {H : Type} {enc : TypeId × Value → H} {w : World} {base : Nat} {spare : Nat → Bool} {held : Bool} {fuel : Nat} {cs : List Value} {x : DataW H × List MemPlace} (h : DataW.trod enc Try.prog w base spare held fuel 24 cs = some x) :
    ∃ (N : Int) (S : ByteArray), cs = [.int .i64 N, .string S] ∧ S.size ≤ maxLen := by
  obtain ⟨xs, m, _, rfl, hl, hlen, hf⟩ := DataW.trod_struct Try.underlying24 h
  rw [cellsTable] at hl
  obtain ⟨c0, c1, rfl⟩ := pair cs hl
  obtain ⟨y0, y1, rfl⟩ := pair xs (by simpa using hlen)
  have g0 := hf 0 _ rfl
  have g1 := hf 1 _ rfl
  simp [cellsInt, cellsStr] at g0 g1
  obtain ⟨n0, e0, _, _⟩ := DataW.trod_int Try.underlying3 g0
  obtain ⟨S, e1, _, hS⟩ := DataW.trod_string Try.underlying9 g1
  simp at e0 e1
  subst e0 e1
  exact ⟨n0, S, rfl, hS⟩
theorem ints_open {H : Type} {enc : TypeId × Value → H} {w : World} {base : Nat} {spare : Nat → Bool} {held : Bool} {fuel : Nat} {a : Option Addr} {len cap : Nat} {x : DataW H × List MemPlace} (h : DataW.trod enc Try.prog w base spare held fuel 25 [.slice a len cap] = some x) :
    len ≤ maxLen ∧ ∃ l : List Int, l.length = len ∧ Ints w a l := by
  rcases open_ints Try.underlying25 Try.underlying3 cellsInt h with ⟨hcs, _⟩ | ⟨b, len', cap', zs, hcs, _, hl, hm, hz, _, hc, hw⟩
  · simp at hcs
    obtain ⟨rfl, rfl, rfl⟩ := hcs
    exact ⟨Nat.zero_le _, [], rfl, Nat.zero_le _, .inl rfl⟩
  · simp at hcs
    obtain ⟨rfl, rfl, rfl⟩ := hcs
    have hlz : len ≤ zs.length := by rw [hz]; split <;> omega
    refine ⟨by omega, zs.take len, by simp; omega, by simp; omega, ?_⟩
    by_cases h0 : len = 0
    · exact .inl (by simp [h0])
    · obtain ⟨xb, xo, spot⟩ := b
      have hs : spot = none := by
        have := hc 0 (by omega)
        simp [Addr.add] at this
        simpa using World.cell?_spot this
      subst hs
      refine .inr ⟨xb, xo, rfl, fun i hi => ?_⟩
      have hi' : i < zs.length := by simp at hi; omega
      have hg := hc i hi'
      simp only [Addr.add_lit] at hg
      rw [hg]
      simp [List.getD, hi']

end Go.Proofs.Ytmhambifbimndaa.Op2

/- Walks of the exact laws' helpers on single nodes. -/
namespace Go.Proofs.Ytmhambifbimndaa.Nd1
open Go.RowKit
set_option linter.unusedVariables false

theorem ret_bool {a b : Bool} (h : a = b) : Ending.returned (.bool a) = .returned (.bool b) := by rw [h]

end Go.Proofs.Ytmhambifbimndaa.Nd1

/- Walks of the exact laws' helpers on slices of nodes. -/
namespace Go.Proofs.Ytmhambifbimndaa.Nd2
open Go.RowKit
open Nd0 Nd1
set_option linter.unusedVariables false

set_option maxHeartbeats 1000000 in
theorem eqIntS (w : World) (a a' : Option Addr) (l : List Int) (c c' : Nat) (h : Ints w a l) (h' : Ints w a' l) :
    Calls Try.prog 39 #[.slice a l.length c, .slice a' l.length c'] w fun e w' => e = .returned (.bool true) ∧ ∃ m, w' = w.drewN m := by
  have H : Hid (Ints w a l) := h
  have H' : Hid (Ints w a' l) := h'
  have hm := h.1
  unfold maxLen at hm
  clear h h'
  go_enter Try.func39, Try.ntmps39
  go_wp2
  go_loopw [5] (fun i wr => ∃ k : Nat, k ≤ l.length ∧ i = .int .i64 k ∧ ∃ m, wr = w.drewN m) (fun i _ => l.length - (intOf i).toNat)
  case atStart => exact ⟨0, Nat.zero_le _, rfl, 0, rfl⟩
  case round =>
    obtain ⟨k, hk, rfl, m, rfl⟩ := hrel
    by_cases hlt : k < l.length
    · have hlz : (k : Int) < (l.length : Int) := by omega
      rcases H.out.2 with h0 | ⟨xb, xo, rfl, hc⟩
      · omega
      rcases H'.out.2 with h0 | ⟨yb, yo, rfl, hc'⟩
      · omega
      have p0 := hc k hlt
      have q0 := hc' k hlt
      clear hc hc'
      generalize l[k] = x at p0 q0
      go_wp2
      go_quiet (fail)
      go_wp2
      go_roundw
      case rel => exact ⟨k + 1, by omega, by go_num, _, rfl⟩
      case measure => simp [intOf]; omega
    · go_wp2
      go_ret
      exact ⟨rfl, _, rfl⟩

end Go.Proofs.Ytmhambifbimndaa.Nd2
