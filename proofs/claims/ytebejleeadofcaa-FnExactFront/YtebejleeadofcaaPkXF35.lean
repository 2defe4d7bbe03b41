/- Small texts of mine, one behind the other. -/
import Derived.Deep.AppendLies
import Derived.OwnWalk
import Derived.Deep.Upon
import Derived.Test.YtebejleeadofcaaPkXF33
import Derived.Test.YtebejleeadofcaaPkXF34
/- Lists of the program's quantifiers: read, appended to; made of a list of Quants. -/
namespace Go.Proofs.Ytebejleeadofcaa.Qi1
open Go.RowKit
open Nd0 Qa0 Qi0 Fr0
open Fm1 (quAt below_drewN)
set_option linter.unusedVariables false

theorem infoQv : (Try.prog.info? 48).map (fun i => (i.zero, i.size, i.bytes)) = some (some .nilIface, 1, 16) := by kernel_rfl
/-- A slice of quantifiers can be read at address a. -/
def Qvs (w : World) (a : Option Addr) (l : List Qu) : Prop :=
  l.length ≤ maxLen ∧ (l.length = 0 ∨ ∃ b o, a = some ⟨b, o, none⟩ ∧ ∀ i (h : i < l.length), w.cell? ⟨b, o + i, none⟩ = some (qv l[i]))
theorem Qvs.below {w w' : World} {a : Option Addr} {l : List Qu} (h : Qvs w a l) (k : Below w.heap.size w w') : Qvs w' a l := by
  refine ⟨h.1, ?_⟩
  rcases h.2 with h0 | ⟨b, o, rfl, hc⟩
  · exact .inl h0
  · exact .inr ⟨b, o, rfl, fun i hi => by rw [k.cell (lt_of_cell (hc i hi))]; exact hc i hi⟩
theorem Qvs.kept {w w' : World} {a : Option Addr} {l : List Qu} (h : Qvs w a l) {S : Nat → Prop} (k : Kept S w w') (hs : ∀ x, a = some x → ¬ S x.block) : Qvs w' a l := by
  refine ⟨h.1, ?_⟩
  rcases h.2 with h0 | ⟨b, o, rfl, hc⟩
  · exact .inl h0
  · exact .inr ⟨b, o, rfl, fun i hi => by rw [k.cell (lt_of_cell (hc i hi)) (hs ⟨b, o, none⟩ rfl)]; exact hc i hi⟩
/-- The slice v, in a block from B on, is the quantifiers l and may be appended to. -/
def Owi (w : World) (B : Nat) (v : Value) (l : List Qu) : Prop := w.ownsRow B 48 1 v l.length (l.map qv)
theorem Owi.form {w : World} {B : Nat} {v : Value} {l : List Qu} (h : Owi w B v l) : ∃ a c, v = .slice a l.length c ∧ Qvs w a l ∧ l.length ≤ c ∧ ∀ x, 0 < l.length → a = some x → B ≤ x.block ∧ x.block < w.heap.size := by
  have hlt := World.ownsRow.lt h
  obtain ⟨h1, h2⟩ := h
  rcases h2 with ⟨rfl, h0⟩ | ⟨g, cap, cur, rfl, hb, hg, hn, hm, hs, ht⟩
  · have : l = [] := List.eq_nil_of_length_eq_zero h0
    subst this
    exact ⟨none, 0, rfl, ⟨Nat.zero_le _, .inl rfl⟩, Nat.zero_le _, fun x _ hx => by cases hx⟩
  · refine ⟨_, _, rfl, ⟨by omega, .inr ⟨g, 0, rfl, fun i hi => ?_⟩⟩, by omega, fun x _ hx => by cases hx; exact hlt g rfl⟩
    rw [Nat.zero_add, cell_of_row w g i cur _ _ hg]
    have e : (cur.toList.take (l.length * 1))[i]? = some (qv l[i]) := by rw [ht]; simp [hi]
    rw [List.getElem?_take_of_lt (by omega)] at e
    simpa using e
theorem Owi.lit (w : World) (B : Nat) (hB : B ≤ w.heap.size) : Owi (w.alloc (.cells #[] 48)) B (.slice (some ⟨w.heap.size, 0, none⟩) 0 0) [] :=
  World.ownsRow_lit w #[] 0 hB (Nat.zero_le _) rfl
theorem Owi.one (w : World) (B : Nat) (x : Qu) (hB : B ≤ w.heap.size) : Owi (w.alloc (.cells #[qv x] 48)) B (.slice (some ⟨w.heap.size, 0, none⟩) 1 1) [x] :=
  World.ownsRow_lit w #[qv x] 1 hB (by unfold maxLen; omega) rfl
theorem Owi.lt {w : World} {B : Nat} {v : Value} {l : List Qu} (h : Owi w B v l) : ∀ k, v.ownBlock = some k → B ≤ k ∧ k < w.heap.size := World.ownsRow.lt h
theorem Owi.kept {w w' : World} {B : Nat} {v : Value} {l : List Qu} (h : Owi w B v l) {S : Nat → Prop} (k : Kept S w w') (hs : ∀ i, v.ownBlock = some i → ¬ S i) : Owi w' B v l := by
  refine ⟨h.1, ?_⟩
  rcases h.2 with hn | ⟨g, cap, cur, rfl, hb, hgg, rest⟩
  · exact .inl hn
  · refine .inr ⟨g, cap, cur, rfl, hb, ?_, rest⟩
    rw [k.block g (Array.getElem?_eq_some_iff.1 hgg).1 (hs g rfl)]
    exact hgg
/-- Some quantifiers more. -/
theorem app_qvs {ops : Array Oper} {rest : List Oper} {o : Oper} {a : Act} {Q : Exit → Act → World → Prop} (W : World) (hgd : o.guard = none) (s x : Operand)
    (ho : o.op = .call { callee := .builtin .append, args := #[s, x], argTypes := #[45, 45] })
    (B : Nat) (v : Value) (l ys : List Qu) (gx ox c : Nat) (hs : a.eval s = v) (hx : a.eval x = .slice (some ⟨gx, ox, none⟩) ys.length c)
    (hy : ∀ i (h : i < ys.length), W.cell? ⟨gx, ox + i, none⟩ = some (qv ys[i])) (hp : 0 < ys.length)
    (hown : Owi W B v l) (hB : B ≤ W.heap.size) (hlen : l.length + ys.length ≤ 1048577)
    (h : ∀ g cap w', Owi w' B (.slice (some ⟨g, 0, none⟩) (l.length + ys.length) cap) (l ++ ys) → Kept (fun k => v.ownBlock = some k) W w' → (v.ownBlock = some g ∨ W.heap.size ≤ g) → wpList Try.prog ops Q rest (a.put o.dst (.slice (some ⟨g, 0, none⟩) (l.length + ys.length) cap)) w') :
    wpList Try.prog ops Q (o :: rest) a W := by
  obtain ⟨i, hi, hzz⟩ := Option.map_eq_some_iff.1 infoQv
  simp only [Prod.mk.injEq] at hzz
  obtain ⟨hz, hsz, hb⟩ := hzz
  refine wpList_append_lies W hgd s x 45 ho B 48 i _ 1 16 Try.underlying45 hi hz hsz hb rfl (by omega) v l.length (l.map qv) hs hown
    ⟨gx, ox, none⟩ ys.length c (ys.map qv) hx (by simp) (fun j u hu => ?_) ?_ hp (by unfold maxLen; omega) (by omega) hB _ rfl ?_
  · have hj : j < ys.length := by have := (List.getElem?_eq_some_iff.1 hu).1; simpa using this
    have hadd : (⟨gx, ox, none⟩ : Addr).add j = ⟨gx, ox + j, none⟩ := by unfold Addr.add; split <;> simp_all
    rw [hadd, hy j hj, ← hu]
    simp [hj]
  · intro u hu
    obtain ⟨n, _, rfl⟩ := List.mem_map.1 hu
    rfl
  · intro g cap w' h1 h2 h3 h4
    refine h g cap w' ?_ ?_ ?_
    · unfold Owi
      rw [List.map_append, List.length_append]
      exact h1
    · exact ⟨h2.os, h2.tape, h2.output, h2.size, fun k hk hn => h2.block k hk (fun e => hn e.symm)⟩
    · rcases h3 with h3 | h3
      · exact .inl h3
      · exact .inr (by rw [h3]; exact Nat.le_refl _)
/-- One more, out of a literal. -/
theorem app_qv {ops : Array Oper} {rest : List Oper} {o : Oper} {a : Act} {Q : Exit → Act → World → Prop} (W : World) (hgd : o.guard = none) (s x : Operand)
    (ho : o.op = .call { callee := .builtin .append, args := #[s, x], argTypes := #[45, 45] })
    (B : Nat) (v : Value) (l : List Qu) (y : Qu) (yv : Value) (hs : a.eval s = v) (G : Nat) (hx : a.eval x = .slice (some ⟨G, 0, none⟩) 1 1) (hG : G = W.heap.size)
    (hown : Owi W B v l) (hB : B ≤ W.heap.size) (hlen : l.length ≤ 1048576) (hyv : yv = qv y)
    (h : ∀ g cap w', Owi w' B (.slice (some ⟨g, 0, none⟩) (l.length + 1) cap) (l ++ [y]) → Kept (fun k => v.ownBlock = some k) W w' → (v.ownBlock = some g ∨ W.heap.size ≤ g) → wpList Try.prog ops Q rest (a.put o.dst (.slice (some ⟨g, 0, none⟩) (l.length + 1) cap)) w') :
    wpList Try.prog ops Q (o :: rest) a (W.alloc (.cells #[yv] 48)) := by
  subst hG hyv
  have k1 : Kept (fun k => v.ownBlock = some k) W (W.alloc (.cells #[qv y] 48)) := (Kept.refl _ W).alloc _
  refine app_qvs (W.alloc (.cells #[qv y] 48)) hgd s x ho B v l [y] W.heap.size 0 1 hs hx (fun i hi => ?_) (by simp) (World.ownsRow.alloc hown _) (by simp; omega) (by simp; omega) (fun g cap w' h1 h2 h3 => ?_)
  · have : i = 0 := by simpa using hi
    subst this
    rw [World.cell?_alloc_new]; rfl
  · refine h g cap w' h1 (k1.trans h2) ?_
    rcases h3 with h3 | h3
    · exact .inl h3
    · exact .inr (by simp at h3; omega)

end Go.Proofs.Ytebejleeadofcaa.Qi1

/- A list of the program's quantifiers, nil or not, appended to one's own. -/
namespace Go.Proofs.Ytebejleeadofcaa.Qi2
open Go.RowKit
open Nd0 Qa0 Qi0 Qi1
set_option linter.unusedVariables false

theorem owi_cap {w : World} {B n c g : Nat} {l : List Qu} (h : Owi w B (.slice (some ⟨g, 0, none⟩) n c) l) : l.length ≤ c := by
  obtain ⟨h1, h2⟩ := h
  rcases h2 with ⟨h0, _⟩ | ⟨g', cap, cur, he, hb, hg, hn, rest⟩
  · cases h0
  · cases he; exact hn
theorem app_opt {ops : Array Oper} {rest : List Oper} {o : Oper} {a : Act} {Q : Exit → Act → World → Prop} (W : World) (hgd : o.guard = none) (s x : Operand)
    (ho : o.op = .call { callee := .builtin .append, args := #[s, x], argTypes := #[45, 45] })
    (B g c : Nat) (l ys L : List Qu) (hL : l ++ ys = L) (ao : Option Addr) (cx n m : Nat) (hs : a.eval s = .slice (some ⟨g, 0, none⟩) n c) (hx : a.eval x = .slice ao m cx) (hn : n = l.length) (hm : m = ys.length)
    (hy : Qvs W ao ys) (hown : Owi W B (.slice (some ⟨g, 0, none⟩) l.length c) l) (hB : B ≤ W.heap.size) (hlen : l.length + ys.length ≤ 1048577)
    (h : ∀ g' cap w', Owi w' B (.slice (some ⟨g', 0, none⟩) L.length cap) L → Kept (fun k => k = g) W w' → wpList Try.prog ops Q rest (a.put o.dst (.slice (some ⟨g', 0, none⟩) L.length cap)) w') :
    wpList Try.prog ops Q (o :: rest) a W := by
  subst hn hm hL
  by_cases h0 : ys.length = 0
  · have e : ys = [] := List.eq_nil_of_length_eq_zero h0
    subst e
    obtain ⟨i, hi, hzz⟩ := Option.map_eq_some_iff.1 infoQv
    have hsrc : Src Try.prog i.size 45 (.slice ao 0 cx) 0 [] W := by
      cases ao with
      | none => exact Src.ofNil W Try.underlying45 cx
      | some ad => exact Src.ofSlice W Try.underlying45 ad 0 cx [] (by simp) (fun j u hu => by simp at hu) (fun u hu => by cases hu)
    have hrun := run_append_nothing (P := Try.prog) W 45 45 o.type 48 i Try.underlying45 hi (some ⟨g, 0, none⟩) l.length c (owi_cap hown) (.slice ao 0 cx) hsrc
    refine wpList_plain hgd fun K hK' => ?_
    have h9 := h g c W (by rw [List.append_nil]; exact hown) (Kept.refl _ _)
    rw [List.append_nil] at h9
    unfold Oper.wp
    simp only [List.length_nil] at hx
    simp [execOp, ho, resolve, invoke, builtin, hs, hx, hrun, Result.andThen]
    exact hK' _ _ h9
  · rcases hy.2 with h1 | ⟨b, o', rfl, hc⟩
    · exact absurd h1 h0
    · refine app_qvs W hgd s x ho B (.slice (some ⟨g, 0, none⟩) l.length c) l ys b o' cx hs hx hc (by omega) hown hB hlen (fun g' cap w' h2 h3 _ => ?_)
      have h9 := h g' cap w' (by rw [List.length_append]; exact h2) ⟨h3.os, h3.tape, h3.output, h3.size, fun k hk hne => h3.block k hk (fun e => hne (by cases e; rfl))⟩
      rw [List.length_append] at h9
      exact h9

end Go.Proofs.Ytebejleeadofcaa.Qi2
