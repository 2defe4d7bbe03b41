/- One and more, at a step of a region that draws its order. -/
import Derived.Deep.RegionHeld
import Derived.Test.YtnpfegfjejfaaaaQb2
namespace Go.Proofs.Ytnpfegfjejfaaaa.Ap10
open Go.RowKit
open Nd0 Qb0 Qb2
set_option linter.unusedVariables false

theorem step_an {ops : Array Oper} {o : Oper} {a : Act} {K : Act → World → Prop} {Q : Exit → Act → World → Prop} {E : Prop} (W : World) (hgd : o.guard = none) (s x : Operand)
    (ho : o.op = .call { callee := .builtin .append, args := #[s, x], argTypes := #[27, 27] })
    (B : Nat) (v : Value) (l : List An) (y : An) (hs : a.eval s = v) (G : Nat) (hx : a.eval x = .slice (some ⟨G, 0, none⟩) 1 1) (hy0 : W.cell? ⟨G, 0, none⟩ = some (.int .i64 y.a)) (hy1 : W.cell? ⟨G, 1, none⟩ = some (.int .i64 y.b))
    (hown : OwAn W B v l) (hB : B ≤ W.heap.size) (hlen : l.length ≤ 1048576)
    (h : ∀ g cap w', OwAn w' B (.slice (some ⟨g, 0, none⟩) (l.length + 1) cap) (l ++ [y]) → Kept (fun k => v.ownBlock = some k) W w' → (v.ownBlock = some g ∨ W.heap.size ≤ g) → K (a.put o.dst (.slice (some ⟨g, 0, none⟩) (l.length + 1) cap)) w') :
    if Region.wanted o (yielded ops a.tmps) = true then Oper.wp Try.prog o a W K Q else E := by
  obtain ⟨i, hi, hzz⟩ := Option.map_eq_some_iff.1 infoAAn
  simp only [Prod.mk.injEq] at hzz
  obtain ⟨hz, hsz, hb⟩ := hzz
  refine step_append_lies W hgd s x 27 ho B 89 i _ 2 16 Try.underlying27 hi hz hsz hb rfl (by omega) v l.length (flatAn l) hs hown
    ⟨G, 0, none⟩ 1 1 y.cells hx rfl ?_ ?_ (by omega) (by unfold maxLen; omega) (by omega) hB _ rfl ?_
  · intro j u hu
    have hj : j < 2 := (List.getElem?_eq_some_iff.1 hu).1
    have hadd : (⟨G, 0, none⟩ : Addr).add j = ⟨G, j, none⟩ := by unfold Addr.add; split <;> simp_all
    rw [hadd]
    match j, hj with
    | 0, _ => rw [hy0]; exact hu
    | 1, _ => rw [hy1]; exact hu
  · intro u hu
    simp [An.cells] at hu
    rcases hu with rfl | rfl <;> rfl
  · intro g cap w' h1 h2 h3 h4
    refine h g cap w' ?_ ?_ ?_
    · unfold OwAn
      rw [flatAn_snoc, List.length_append]
      exact h1
    · exact ⟨h2.os, h2.tape, h2.output, h2.size, fun k hk hn => h2.block k hk (fun e => hn e.symm)⟩
    · rcases h3 with h3 | h3
      · exact .inl h3
      · exact .inr (by rw [h3]; exact Nat.le_refl _)

end Go.Proofs.Ytnpfegfjejfaaaa.Ap10
