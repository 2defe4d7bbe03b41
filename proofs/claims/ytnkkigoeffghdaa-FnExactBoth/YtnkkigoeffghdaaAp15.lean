/- A list of nodes that is not empty appended to one's own, at a step of a region that draws. -/
import Derived.Deep.RegionHeld
import Derived.Test.YtnkkigoeffghdaaPk1516
namespace Go.Proofs.Ytnkkigoeffghdaa.Ap15
open Go.RowKit
open Nd0 Nd3 Ap2 Dw3 Ap7
set_option linter.unusedVariables false

theorem step_call {ops : Array Oper} {o : Oper} {a : Act} {w : World} {K : Act → World → Prop} {Q : Exit → Act → World → Prop} {E : Prop} {f : Nat} {args : Array Value} (hgd : o.guard = none) (hrun : (execOp a.eval o).run Try.prog w = .ok (.enter f args) w)
    (hc : Calls Try.prog f args w fun e w' => ∃ v, e = .returned v ∧ K (a.put o.dst v) w') : if Region.wanted o (yielded ops a.tmps) = true then Oper.wp Try.prog o a w K Q else E := by
  rw [if_pos (by simp [Region.wanted, hgd])]
  unfold Oper.wp
  rw [hrun, Oper.upon_enter]
  refine hc.mono ?_
  rintro e w' ⟨v, rfl, h⟩
  exact h
theorem step_any {ops : Array Oper} {o : Oper} {a : Act} {K : Act → World → Prop} {Q : Exit → Act → World → Prop} {E : Prop} (W : World) (hgd : o.guard = none) (s x : Operand)
    (ho : o.op = .call { callee := .builtin .append, args := #[s, x], argTypes := #[24, 24] })
    (B g c : Nat) (l ys L : List Nd) (hL : l ++ ys = L) (gx ox cx n m : Nat) (hs : a.eval s = .slice (some ⟨g, 0, none⟩) n c) (hx : a.eval x = .slice (some ⟨gx, ox, none⟩) m cx) (hn : n = l.length) (hm : m = ys.length)
    (hy : ∀ i (h : i < ys.length), NodeAt W gx (ox + i * 6) ys[i]) (h0 : 0 < ys.length)
    (hown : Ap2.Own W B (.slice (some ⟨g, 0, none⟩) l.length c) l) (hB : B ≤ W.heap.size) (hlen : l.length + ys.length ≤ 1048577)
    (h : ∀ g' cap w', Ap2.Own w' B (.slice (some ⟨g', 0, none⟩) L.length cap) L → Kept (fun k => k = g) W w' → (g' = g ∨ W.heap.size ≤ g') → K (a.put o.dst (.slice (some ⟨g', 0, none⟩) L.length cap)) w') :
    if Region.wanted o (yielded ops a.tmps) = true then Oper.wp Try.prog o a W K Q else E := by
  subst hn hm hL
  obtain ⟨i, hi, hzz⟩ := Option.map_eq_some_iff.1 infoNode
  simp only [Prod.mk.injEq] at hzz
  obtain ⟨hz, hsz, hb⟩ := hzz
  refine step_append_lies (w := W) hgd s x 24 ho B 55 i _ 6 48 Try.underlying24 hi hz hsz hb rfl (by omega) _ l.length (flat l) hs hown
    ⟨gx, ox, none⟩ ys.length cx (flat ys) hx (flat_length ys) (fun j u hu => nodes_cells hy j u hu) ?_ h0 (by unfold maxLen; omega) (by omega) hB W.heap.size rfl ?_
  · intro u hu
    obtain ⟨n, _, hn⟩ := List.mem_flatMap.1 hu
    simp [Nd.cells] at hn
    rcases hn with rfl | rfl | rfl | rfl | rfl | rfl <;> rfl
  · intro g' cap w' h1 h2 h3 h4
    have h5 : Ap2.Own w' B (.slice (some ⟨g', 0, none⟩) (l ++ ys).length cap) (l ++ ys) := by unfold Ap2.Own; rw [flat_app, List.length_append]; exact h1
    rw [← List.length_append]
    refine h g' cap w' h5 ⟨h2.os, h2.tape, h2.output, h2.size, fun k hk hn => h2.block k hk (fun e => hn (by cases e; rfl))⟩ ?_
    rcases h3 with h3 | h3
    · exact .inl (by cases h3; rfl)
    · exact .inr (by omega)

end Go.Proofs.Ytnkkigoeffghdaa.Ap15
