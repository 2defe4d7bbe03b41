/- A list of nodes appended to another. -/
import Derived.Test.YtdmogjhabladcaaPkB
namespace Go.Proofs.Ytdmogjhabladcaa.Ap7
open Go.RowKit
open Nd0 Nd3 Ap2 Dw3 Dw4
set_option linter.unusedVariables false

/-- Some nodes more. -/
theorem app_nodes {ops : Array Oper} {rest : List Oper} {o : Oper} {a : Act} {Q : Exit → Act → World → Prop} (W : World) (hgd : o.guard = none) (s x : Operand)
    (ho : o.op = .call { callee := .builtin .append, args := #[s, x], argTypes := #[25, 25] })
    (B : Nat) (v : Value) (l ys : List Nd) (gx ox c : Nat) (hs : a.eval s = v) (hx : a.eval x = .slice (some ⟨gx, ox, none⟩) ys.length c)
    (hy : ∀ i (h : i < ys.length), NodeAt W gx (ox + i * 6) ys[i]) (hp : 0 < ys.length)
    (hown : Own W B v l) (hB : B ≤ W.heap.size) (hlen : l.length + ys.length ≤ 1048577)
    (h : ∀ g cap w', Own w' B (.slice (some ⟨g, 0, none⟩) (l.length + ys.length) cap) (l ++ ys) → Kept (fun k => v.ownBlock = some k) W w' → (v.ownBlock = some g ∨ W.heap.size ≤ g) → wpList Try.prog ops Q rest (a.put o.dst (.slice (some ⟨g, 0, none⟩) (l.length + ys.length) cap)) w') :
    wpList Try.prog ops Q (o :: rest) a W := by
  obtain ⟨i, hi, hzz⟩ := Option.map_eq_some_iff.1 infoNode
  simp only [Prod.mk.injEq] at hzz
  obtain ⟨hz, hsz, hb⟩ := hzz
  refine wpList_append_lies W hgd s x 25 ho B 51 i _ 6 48 Try.underlying25 hi hz hsz hb rfl (by omega) v l.length (flat l) hs hown
    ⟨gx, ox, none⟩ ys.length c (flat ys) hx (flat_length ys) (fun j u hu => nodes_cells hy j u hu) ?_ hp (by unfold maxLen; omega) (by omega) hB _ rfl ?_
  · intro u hu
    obtain ⟨n, _, hn⟩ := List.mem_flatMap.1 hu
    simp [Nd.cells] at hn
    rcases hn with rfl | rfl | rfl | rfl | rfl | rfl <;> rfl
  · intro g cap w' h1 h2 h3 h4
    refine h g cap w' ?_ ?_ ?_
    · unfold Own
      rw [flat_app, List.length_append]
      exact h1
    · exact ⟨h2.os, h2.tape, h2.output, h2.size, fun k hk hn => h2.block k hk (fun e => hn e.symm)⟩
    · rcases h3 with h3 | h3
      · exact .inl h3
      · exact .inr (by rw [h3]; exact Nat.le_refl _)

theorem own_cap {w : World} {B : Nat} {a : Option Addr} {n c : Nat} {l : List Nd} (h : Own w B (.slice a n c) l) : n = l.length ∧ l.length ≤ c := by
  obtain ⟨h1, h2⟩ := h
  rcases h2 with ⟨e, h0⟩ | ⟨g, cap, cur, e, hb, hg, hn, hm, hs, ht⟩
  · cases e; exact ⟨h0.symm, by omega⟩
  · cases e; exact ⟨rfl, hn⟩

end Go.Proofs.Ytdmogjhabladcaa.Ap7
