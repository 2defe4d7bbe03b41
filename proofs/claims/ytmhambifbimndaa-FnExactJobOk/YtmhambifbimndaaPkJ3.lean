/- Small texts of mine, one behind the other. -/
import Derived.Test.YtmhambifbimndaaRows
import Derived.Deep.AppendLies
import Derived.OwnWalk
import Derived.Test.YtmhambifbimndaaNd0
import Derived.Test.YtmhambifbimndaaPkJ2
/- Walks of the exact laws' helpers that write: marks put into lists, and looked for. -/
namespace Go.Proofs.Ytmhambifbimndaa.Nd3
open Go.RowKit
open Nd0 Nd1
set_option linter.unusedVariables false

/-- Six marks from z on. -/
def mkN (z : Int) : Nd := ⟨z, z + 1, z + 1 + 1, z + 1 + 1 + 1, z + 1 + 1 + 1 + 1, z + 1 + 1 + 1 + 1 + 1⟩
/-- The nodes of marks from k0 on. -/
def markN (n : Nat) (k0 : Int) : List Nd := (List.range n).map fun (i : Nat) => (mkN (k0 + 6 * (i : Int)))
theorem markN_length (n : Nat) (k0 : Int) : (markN n k0).length = n := by simp [markN]
theorem markN_get (n : Nat) (k0 : Int) (i : Nat) (h : i < (markN n k0).length) : (markN n k0)[i] = (mkN (k0 + 6 * (i : Int))) := by simp [markN]

/-- A slice of the nodes l, in a block from B on, that may be written. -/
def WNodes (w : World) (B : Nat) (a : Option Addr) (l : List Nd) : Prop :=
  l.length ≤ maxLen ∧ (l.length = 0 ∨ ∃ b o, a = some ⟨b, o, none⟩ ∧ B ≤ b ∧ (∀ i (h : i < l.length), NodeAt w b (o + i * 6) l[i]) ∧ ∀ j, j < l.length * 6 → w.frozen? ⟨b, o + j, none⟩ = false)
theorem WNodes.nodes {w : World} {B : Nat} {a : Option Addr} {l : List Nd} (h : WNodes w B a l) : Nodes w a l := by
  refine ⟨h.1, ?_⟩
  rcases h.2 with h0 | ⟨b, o, ha, _, hc, _⟩
  · exact .inl h0
  · exact .inr ⟨b, o, ha, hc⟩

end Go.Proofs.Ytmhambifbimndaa.Nd3

/- Lists of flags that are appended to and written: the law at the walk, and how they are read. -/
namespace Go.Proofs.Ytmhambifbimndaa.Ap1
open Go.RowKit
open Nd0
set_option linter.unusedVariables false

/-- A slice of the flags l, in a block from B on, that may be written. -/
def WBools (w : World) (B : Nat) (a : Option Addr) (l : List Bool) : Prop :=
  l.length ≤ maxLen ∧ (l.length = 0 ∨ ∃ b o, a = some ⟨b, o, none⟩ ∧ B ≤ b ∧ ∀ i (h : i < l.length), w.cell? ⟨b, o + i, none⟩ = some (.bool l[i]) ∧ w.frozen? ⟨b, o + i, none⟩ = false)

theorem infoBool : (Try.prog.info? 4).map (fun i => (i.zero, i.size, i.bytes)) = some (some (.bool false), 1, 1) := by kernel_rfl

/-- The slice v, in a block from B on, is the flags l and may be appended to. -/
def Owb (w : World) (B : Nat) (v : Value) (l : List Bool) : Prop := w.ownsRow B 4 1 v l.length (l.map fun x => .bool x)

theorem Owb.form {w : World} {B : Nat} {v : Value} {l : List Bool} (h : Owb w B v l) : ∃ a c, v = .slice a l.length c ∧ WBools w B a l := by
  obtain ⟨h1, h2⟩ := h
  rcases h2 with ⟨rfl, h0⟩ | ⟨g, cap, cur, rfl, hb, hg, hn, hm, hs, ht⟩
  · have : l = [] := List.eq_nil_of_length_eq_zero h0
    subst this
    exact ⟨none, 0, rfl, Nat.zero_le _, .inl rfl⟩
  · refine ⟨_, _, rfl, by omega, .inr ⟨g, 0, rfl, hb, fun i hi => ⟨?_, ?_⟩⟩⟩
    · rw [Nat.zero_add, cell_of_row w g i cur _ _ hg]
      have e : (cur.toList.take (l.length * 1))[i]? = some (.bool l[i]) := by rw [ht]; simp [hi]
      rw [List.getElem?_take_of_lt (by omega)] at e
      simpa using e
    · rw [Nat.zero_add]
      simp [World.frozen?, hg]
theorem Owb.lit (w : World) (B : Nat) (hB : B ≤ w.heap.size) : Owb (w.alloc (.cells #[] 4)) B (.slice (some ⟨w.heap.size, 0, none⟩) 0 0) [] :=
  World.ownsRow_lit w #[] 0 hB (Nat.zero_le _) rfl
theorem Owb.lt {w : World} {B : Nat} {v : Value} {l : List Bool} (h : Owb w B v l) : ∀ k, v.ownBlock = some k → B ≤ k ∧ k < w.heap.size := World.ownsRow.lt h
theorem Owb.kept {w w' : World} {B : Nat} {v : Value} {l : List Bool} (h : Owb w B v l) {S : Nat → Prop} (k : Kept S w w') (hs : ∀ i, v.ownBlock = some i → ¬ S i) : Owb w' B v l := by
  refine ⟨h.1, ?_⟩
  rcases h.2 with hn | ⟨g, cap, cur, rfl, hb, hgg, rest⟩
  · exact .inl hn
  · refine .inr ⟨g, cap, cur, rfl, hb, ?_, rest⟩
    rw [k.block g (Array.getElem?_eq_some_iff.1 hgg).1 (hs g rfl)]
    exact hgg

/-- A flag written over. -/
theorem Owb.set {w : World} {B g cap : Nat} {l : List Bool} (h : Owb w B (.slice (some ⟨g, 0, none⟩) l.length cap) l) (j : Nat) (x : Bool) : Owb (w.setCell ⟨g, j, none⟩ (.bool x)) B (.slice (some ⟨g, 0, none⟩) l.length cap) (l.set j x) := by
  have h1 := (World.ownsRow.stored h j (.bool x)).1
  unfold Owb
  rw [List.map_set, List.length_set]
  exact h1
theorem Owb.cell {w : World} {B g cap : Nat} {l : List Bool} (h : Owb w B (.slice (some ⟨g, 0, none⟩) l.length cap) l) (j : Nat) (hj : j < l.length) : w.cell? ⟨g, j, none⟩ = some (.bool l[j]) ∧ w.frozen? ⟨g, j, none⟩ = false := by
  obtain ⟨a, c, hv, hw⟩ := h.form
  cases hv
  rcases hw.2 with h0 | ⟨b, o, hb, _, hc⟩
  · omega
  · cases hb
    have := hc j hj
    rw [Nat.zero_add] at this
    exact this

theorem Owb.set' {w : World} {B g cap n : Nat} {l : List Bool} (h : Owb w B (.slice (some ⟨g, 0, none⟩) n cap) l) (hn : l.length = n) (j : Nat) (x : Bool) : Owb (w.setCell ⟨g, j, none⟩ (.bool x)) B (.slice (some ⟨g, 0, none⟩) n cap) (l.set j x) := by
  subst hn; exact h.set j x
theorem Owb.cell' {w : World} {B g cap n : Nat} {l : List Bool} (h : Owb w B (.slice (some ⟨g, 0, none⟩) n cap) l) (hn : l.length = n) (j : Nat) (hj : j < n) : w.cell? ⟨g, j, none⟩ = some (.bool (l[j]'(by omega))) ∧ w.frozen? ⟨g, j, none⟩ = false := by
  subst hn; exact h.cell j hj
theorem Owb.at {w : World} {B : Nat} {v : Value} {l : List Bool} (h : Owb w B v l) (hl : 1 ≤ l.length) : ∃ g c, v = .slice (some ⟨g, 0, none⟩) l.length c ∧ B ≤ g ∧ g < w.heap.size := by
  rcases h.2 with ⟨rfl, h0⟩ | ⟨g, cap, cur, rfl, hb, hg, _⟩
  · omega
  · exact ⟨g, cap, rfl, hb, (Array.getElem?_eq_some_iff.1 hg).1⟩

/-- One flag more. -/
theorem app_bool {ops : Array Oper} {rest : List Oper} {o : Oper} {a : Act} {Q : Exit → Act → World → Prop} (W : World) (hgd : o.guard = none) (s x : Operand)
    (ho : o.op = .call { callee := .builtin .append, args := #[s, x], argTypes := #[22, 22] })
    (B : Nat) (v : Value) (l : List Bool) (y : Bool) (hs : a.eval s = v) (hx : a.eval x = .slice (some ⟨W.heap.size, 0, none⟩) 1 1)
    (hown : Owb W B v l) (hB : B ≤ W.heap.size) (hlen : l.length ≤ 1048576)
    (h : ∀ g cap w', Owb w' B (.slice (some ⟨g, 0, none⟩) (l.length + 1) cap) (l ++ [y]) → Kept (fun k => v.ownBlock = some k) W w' → (v.ownBlock = some g ∨ W.heap.size ≤ g) → wpList Try.prog ops Q rest (a.put o.dst (.slice (some ⟨g, 0, none⟩) (l.length + 1) cap)) w') :
    wpList Try.prog ops Q (o :: rest) a (W.alloc (.cells #[.bool y] 4)) := by
  obtain ⟨i, hi, hzz⟩ := Option.map_eq_some_iff.1 infoBool
  simp only [Prod.mk.injEq] at hzz
  obtain ⟨hz, hsz, hb⟩ := hzz
  refine wpList_append_lies (W.alloc (.cells #[.bool y] 4)) hgd s x 22 ho B 4 i (.bool false) 1 1 Try.underlying22 hi hz hsz hb rfl (by omega) v l.length (l.map fun x => .bool x) hs (World.ownsRow.alloc hown _)
    ⟨W.heap.size, 0, none⟩ 1 1 [.bool y] hx rfl ?_ ?_ (by omega) (by unfold maxLen; omega) (by omega) (by simp; omega) _ rfl ?_
  · intro j u hu
    exact World.news_of_block (heap_alloc_new W _) j u hu
  · intro u hu
    simp at hu
    subst hu
    rfl
  · intro g cap w' h1 h2 h3 h4
    refine h g cap w' ?_ ?_ ?_
    · unfold Owb
      simpa using h1
    · have k1 : Kept (fun k => v.ownBlock = some k) W (W.alloc (.cells #[.bool y] 4)) := (Kept.refl _ W).alloc _
      exact k1.trans ⟨h2.os, h2.tape, h2.output, h2.size, fun k hk hn => h2.block k hk (fun e => hn e.symm)⟩
    · rcases h3 with h3 | h3
      · exact .inl h3
      · exact .inr (by rw [h3]; simp)

end Go.Proofs.Ytmhambifbimndaa.Ap1
