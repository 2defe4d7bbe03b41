/- Small texts of mine, one behind the other. -/
import Derived.Deep.RegionWith
import Derived.Test.YtficonkpbohpeaaDoorRows
import Derived.Deep.AppendLies
import Derived.OwnWalk
import Derived.Test.YtficonkpbohpeaaDoorSs1
/- The walks of the model's words of operators. -/
namespace Go.Proofs.YtficonkpbohpeaaDoor.Ss2
open Go.RowKit
open Nd0 Tx0 Ss0 Ss1
open Ws1 (ret_int)
set_option linter.unusedVariables false

/-- A slice of the texts ts can be read at address a. -/
def Strs (w : World) (a : Option Addr) (ts : List (List UInt8)) : Prop :=
  ts.length ≤ maxLen ∧ (ts.length = 0 ∨ ∃ b o, a = some ⟨b, o, none⟩ ∧ ∀ i (h : i < ts.length), w.cell? ⟨b, o + i, none⟩ = some (.string (bs ts[i])))
theorem Strs.below {w w' : World} {a : Option Addr} {l : List (List UInt8)} (h : Strs w a l) (k : Below w.heap.size w w') : Strs w' a l := by
  refine ⟨h.1, ?_⟩
  rcases h.2 with h0 | ⟨b, o, rfl, hc⟩
  · exact .inl h0
  · exact .inr ⟨b, o, rfl, fun i hi => by rw [k.cell (lt_of_cell (hc i hi))]; exact hc i hi⟩
theorem strs_lit (W : World) (g : Nat) (l : List (List UInt8)) (T : Nat) (hg : g = W.heap.size) (hl : l.length ≤ maxLen) : Strs (W.alloc (.cells (l.map fun x => .string (bs x)).toArray T)) (some ⟨g, 0, none⟩) l := by
  subst hg
  refine ⟨hl, .inr ⟨W.heap.size, 0, rfl, fun i hi => ?_⟩⟩
  rw [World.cell?_alloc_new]
  simp [hi]
theorem find_range {p : Nat → Bool} : ∀ n k, k < n → p k = true → (∀ j, j < k → p j = false) → (List.range n).find? p = some k := by
  intro n
  induction n with
  | zero => intro k h; omega
  | succ n ih =>
    intro k hk hp hb
    rw [List.range_succ, List.find?_append]
    by_cases e : k < n
    · rw [ih k e hp hb]; rfl
    · have ek : k = n := by omega
      subst ek
      have : (List.range k).find? p = none := by
        rw [List.find?_eq_none]
        intro x hx
        rw [hb x (List.mem_range.1 hx)]; simp
      rw [this]
      simp [hp]
/-- An operator and how many parts it takes, or -1 and 0. -/
def opA (s : List UInt8) : Int := match opOf s with
  | some (o, _) => o
  | none => -1
def opC (s : List UInt8) : Int := match opOf s with
  | some (_, c) => (c : Int)
  | none => 0
theorem op_found {s : List UInt8} {k : Nat} (hk : k < 14) (hb : ∀ j, j < k → wordsL.getD j [] ≠ s) (he : wordsL.getD k [] = s) : opA s = 3 + (k : Int) ∧ opC s = 2 := by
  have : opOf s = some (3 + (k : Int), 2) := by
    unfold opOf
    rw [find_range 14 k hk (decide_eq_true he) (fun j hj => decide_eq_false (hb j hj))]
  unfold opA opC
  rw [this]; exact ⟨rfl, rfl⟩
theorem op_rest {s : List UInt8} (hb : ∀ j, j < 14 → wordsL.getD j [] ≠ s) : opOf s = if s = wNot then some (2, 1) else if s = wSlice then some (17, 1) else if s = wIf then some (18, 3) else if s = wAll then some (19, 1) else if s = wSome then some (20, 1) else none := by
  unfold opOf
  have : (List.range 14).find? (fun i => decide (wordsL.getD i [] = s)) = none := by
    rw [List.find?_eq_none]
    intro x hx
    simpa using hb x (List.mem_range.1 hx)
  rw [this]

end Go.Proofs.YtficonkpbohpeaaDoor.Ss2

/- Lists of texts that are appended to: the law at the walk, and how they are read. -/
namespace Go.Proofs.YtficonkpbohpeaaDoor.Ap4
open Go.RowKit
open Nd0 Ss0 Ss2
set_option linter.unusedVariables false

theorem infoStr : (Tryd.prog.info? 9).map (fun i => (i.zero, i.size, i.bytes)) = some (some (.string ⟨#[]⟩), 1, 16) := by kernel_rfl

/-- The slice v, in a block from B on, is the texts l and may be appended to. -/
def Ost (w : World) (B : Nat) (v : Value) (l : List (List UInt8)) : Prop := w.ownsRow B 9 1 v l.length (l.map fun x => .string (bs x))

theorem Ost.form {w : World} {B : Nat} {v : Value} {l : List (List UInt8)} (h : Ost w B v l) : ∃ a c, v = .slice a l.length c ∧ Strs w a l := by
  obtain ⟨h1, h2⟩ := h
  rcases h2 with ⟨rfl, h0⟩ | ⟨g, cap, cur, rfl, hb, hg, hn, hm, hs, ht⟩
  · have : l = [] := List.eq_nil_of_length_eq_zero h0
    subst this
    exact ⟨none, 0, rfl, Nat.zero_le _, .inl rfl⟩
  · refine ⟨_, _, rfl, by omega, .inr ⟨g, 0, rfl, fun i hi => ?_⟩⟩
    · rw [Nat.zero_add, cell_of_row w g i cur _ _ hg]
      have e : (cur.toList.take (l.length * 1))[i]? = some (.string (bs l[i])) := by rw [ht]; simp [hi]
      rw [List.getElem?_take_of_lt (by omega)] at e
      simpa using e
theorem Ost.lit (w : World) (B : Nat) (hB : B ≤ w.heap.size) : Ost (w.alloc (.cells #[] 9)) B (.slice (some ⟨w.heap.size, 0, none⟩) 0 0) [] :=
  World.ownsRow_lit w #[] 0 hB (Nat.zero_le _) rfl
theorem Ost.lt {w : World} {B : Nat} {v : Value} {l : List (List UInt8)} (h : Ost w B v l) : ∀ k, v.ownBlock = some k → B ≤ k ∧ k < w.heap.size := World.ownsRow.lt h
theorem Ost.kept {w w' : World} {B : Nat} {v : Value} {l : List (List UInt8)} (h : Ost w B v l) {S : Nat → Prop} (k : Kept S w w') (hs : ∀ i, v.ownBlock = some i → ¬ S i) : Ost w' B v l := by
  refine ⟨h.1, ?_⟩
  rcases h.2 with hn | ⟨g, cap, cur, rfl, hb, hgg, rest⟩
  · exact .inl hn
  · refine .inr ⟨g, cap, cur, rfl, hb, ?_, rest⟩
    rw [k.block g (Array.getElem?_eq_some_iff.1 hgg).1 (hs g rfl)]
    exact hgg

/-- One text more. -/
theorem app_str {ops : Array Oper} {rest : List Oper} {o : Oper} {a : Act} {Q : Exit → Act → World → Prop} (W : World) (hgd : o.guard = none) (s x : Operand)
    (ho : o.op = .call { callee := .builtin .append, args := #[s, x], argTypes := #[26, 26] })
    (B : Nat) (v : Value) (l : List (List UInt8)) (y : List UInt8) (hs : a.eval s = v) (hx : a.eval x = .slice (some ⟨W.heap.size, 0, none⟩) 1 1)
    (hown : Ost W B v l) (hB : B ≤ W.heap.size) (hlen : l.length ≤ 1048576)
    (h : ∀ g cap w', Ost w' B (.slice (some ⟨g, 0, none⟩) (l.length + 1) cap) (l ++ [y]) → Kept (fun k => v.ownBlock = some k) W w' → (v.ownBlock = some g ∨ W.heap.size ≤ g) → wpList Tryd.prog ops Q rest (a.put o.dst (.slice (some ⟨g, 0, none⟩) (l.length + 1) cap)) w') :
    wpList Tryd.prog ops Q (o :: rest) a (W.alloc (.cells #[.string (bs y)] 9)) := by
  obtain ⟨i, hi, hzz⟩ := Option.map_eq_some_iff.1 infoStr
  simp only [Prod.mk.injEq] at hzz
  obtain ⟨hz, hsz, hb⟩ := hzz
  refine wpList_append_lies (W.alloc (.cells #[.string (bs y)] 9)) hgd s x 26 ho B 9 i (.string ⟨#[]⟩) 1 16 Tryd.underlying26 hi hz hsz hb rfl (by omega) v l.length (l.map fun x => .string (bs x)) hs (World.ownsRow.alloc hown _)
    ⟨W.heap.size, 0, none⟩ 1 1 [.string (bs y)] hx rfl ?_ ?_ (by omega) (by unfold maxLen; omega) (by omega) (by simp; omega) _ rfl ?_
  · intro j u hu
    exact World.news_of_block (heap_alloc_new W _) j u hu
  · intro u hu
    simp at hu
    subst hu
    rfl
  · intro g cap w' h1 h2 h3 h4
    refine h g cap w' ?_ ?_ ?_
    · unfold Ost
      simpa using h1
    · have k1 : Kept (fun k => v.ownBlock = some k) W (W.alloc (.cells #[.string (bs y)] 9)) := (Kept.refl _ W).alloc _
      exact k1.trans ⟨h2.os, h2.tape, h2.output, h2.size, fun k hk hn => h2.block k hk (fun e => hn e.symm)⟩
    · rcases h3 with h3 | h3
      · exact .inl h3
      · exact .inr (by rw [h3]; simp)

end Go.Proofs.YtficonkpbohpeaaDoor.Ap4
