/- Lists of Seens that are appended to: the law at the walk, and how they are read. Written by tools/mkflat.py. -/
import Derived.Test.YtldeakifeifgdaaRows
import Derived.Deep.AppendLies
import Derived.OwnWalk
import Derived.Test.YtldeakifeifgdaaQc0
namespace Go.Proofs.Ytldeakifeifgdaa.Qc2
open Go.RowKit
open Nd0 Qc0
set_option linter.unusedVariables false

theorem infoASn : (Try.prog.info? 57).map (fun i => (i.zero, i.size, i.bytes)) = some (some (.agg #[.string ByteArray.empty, .int .i64 0]), 2, 24) := by kernel_rfl
def flatSn (l : List Sn) : List Value := l.flatMap Sn.cells
theorem cellsSn_length (n : Sn) : n.cells.length = 2 := rfl
theorem flatSn_get (l : List Sn) : ∀ (i : Nat) (h : i < l.length) (j : Nat), j < 2 → (flatSn l)[i * 2 + j]? = (l[i].cells)[j]? := by
  induction l with
  | nil => intro i h; exact absurd h (Nat.not_lt_zero _)
  | cons n l ih =>
    intro i h j hj
    show (n.cells ++ flatSn l)[i * 2 + j]? = _
    cases i with
    | zero => rw [Nat.zero_mul, Nat.zero_add, List.getElem?_append_left (by rw [cellsSn_length]; exact hj)]; rfl
    | succ i =>
      rw [List.getElem?_append_right (by rw [cellsSn_length]; omega), cellsSn_length, show (i + 1) * 2 + j - 2 = i * 2 + j by omega]
      exact ih i (by simpa using h) j hj
theorem flatSn_snoc (l : List Sn) (n : Sn) : flatSn (l ++ [n]) = flatSn l ++ n.cells := by simp [flatSn]
def OwSn (w : World) (B : Nat) (v : Value) (l : List Sn) : Prop := w.ownsRow B 57 2 v l.length (flatSn l)
theorem OwSn.form {w : World} {B : Nat} {v : Value} {l : List Sn} (h : OwSn w B v l) : ∃ a c, v = .slice a l.length c ∧ WSns w B a l ∧ l.length ≤ c := by
  obtain ⟨h1, h2⟩ := h
  rcases h2 with ⟨rfl, h0⟩ | ⟨g, cap, cur, rfl, hb, hg, hn, hm, hs, ht⟩
  · have : l = [] := List.eq_nil_of_length_eq_zero h0
    subst this
    exact ⟨none, 0, rfl, ⟨Nat.zero_le _, .inl rfl⟩, Nat.zero_le _⟩
  · have hcell : ∀ j, j < l.length * 2 → w.cell? ⟨g, j, none⟩ = (flatSn l)[j]? := by
      intro j hj
      rw [cell_of_row w g j cur _ _ hg, ← ht, List.getElem?_take_of_lt hj]
      simp
    refine ⟨_, _, rfl, ⟨by omega, .inr ⟨g, 0, rfl, hb, fun i hi => ?_, fun j hj => ?_⟩⟩, by omega⟩
    · have hf := flatSn_get l i hi
      rw [Nat.zero_add]
      exact ⟨by rw [hcell _ (by omega)]; exact hf 0 (by omega), by rw [hcell _ (by omega)]; exact hf 1 (by omega)⟩
    · rw [Nat.zero_add]
      simp [World.frozen?, hg]
theorem OwSn.lit (w : World) (B : Nat) (hB : B ≤ w.heap.size) : OwSn (w.alloc (.cells #[] 57)) B (.slice (some ⟨w.heap.size, 0, none⟩) 0 0) [] :=
  World.ownsRow_lit w #[] 0 hB (Nat.zero_le _) rfl
theorem OwSn.lt {w : World} {B : Nat} {v : Value} {l : List Sn} (h : OwSn w B v l) : ∀ k, v.ownBlock = some k → B ≤ k ∧ k < w.heap.size := World.ownsRow.lt h
theorem OwSn.kept {w w' : World} {B : Nat} {v : Value} {l : List Sn} (h : OwSn w B v l) {S : Nat → Prop} (k : Kept S w w') (hs : ∀ i, v.ownBlock = some i → ¬ S i) : OwSn w' B v l := by
  refine ⟨h.1, ?_⟩
  rcases h.2 with hn | ⟨g, cap, cur, rfl, hb, hgg, rest⟩
  · exact .inl hn
  · refine .inr ⟨g, cap, cur, rfl, hb, ?_, rest⟩
    rw [k.block g (Array.getElem?_eq_some_iff.1 hgg).1 (hs g rfl)]
    exact hgg
/-- One more. -/
theorem appSn {ops : Array Oper} {rest : List Oper} {o : Oper} {a : Act} {Q : Exit → Act → World → Prop} (W : World) (hgd : o.guard = none) (s x : Operand)
    (ho : o.op = .call { callee := .builtin .append, args := #[s, x], argTypes := #[32, 32] })
    (B : Nat) (v : Value) (l : List Sn) (y : Sn) (hs : a.eval s = v) (G : Nat) (hx : a.eval x = .slice (some ⟨G, 0, none⟩) 1 1) (hG : G = W.heap.size)
    (hown : OwSn W B v l) (hB : B ≤ W.heap.size) (hlen : l.length ≤ 1048576)
    (h : ∀ g cap w', OwSn w' B (.slice (some ⟨g, 0, none⟩) (l.length + 1) cap) (l ++ [y]) → Kept (fun k => v.ownBlock = some k) W w' → (v.ownBlock = some g ∨ W.heap.size ≤ g) → wpList Try.prog ops Q rest (a.put o.dst (.slice (some ⟨g, 0, none⟩) (l.length + 1) cap)) w') :
    wpList Try.prog ops Q (o :: rest) a (W.alloc (.cells #[.string y.k, .int .i64 y.r] 57)) := by
  subst hG
  obtain ⟨i, hi, hzz⟩ := Option.map_eq_some_iff.1 infoASn
  simp only [Prod.mk.injEq] at hzz
  obtain ⟨hz, hsz, hb⟩ := hzz
  refine wpList_append_lies (W.alloc (.cells #[.string y.k, .int .i64 y.r] 57)) hgd s x 32 ho B 57 i _ 2 24 Try.underlying32 hi hz hsz hb rfl (by omega) v l.length (flatSn l) hs (World.ownsRow.alloc hown _)
    ⟨W.heap.size, 0, none⟩ 1 1 y.cells hx rfl ?_ ?_ (by omega) (by unfold maxLen; omega) (by omega) (by simp; omega) _ rfl ?_
  · intro j u hu
    exact World.news_of_block (heap_alloc_new W _) j u hu
  · intro u hu
    simp [Sn.cells] at hu
    rcases hu with rfl | rfl <;> rfl
  · intro g cap w' h1 h2 h3 h4
    refine h g cap w' ?_ ?_ ?_
    · unfold OwSn
      rw [flatSn_snoc, List.length_append]
      exact h1
    · have k1 : Kept (fun k => v.ownBlock = some k) W (W.alloc (.cells #[.string y.k, .int .i64 y.r] 57)) := (Kept.refl _ W).alloc _
      exact k1.trans ⟨h2.os, h2.tape, h2.output, h2.size, fun k hk hn => h2.block k hk (fun e => hn e.symm)⟩
    · rcases h3 with h3 | h3
      · exact .inl h3
      · exact .inr (by rw [h3]; simp)

end Go.Proofs.Ytldeakifeifgdaa.Qc2
