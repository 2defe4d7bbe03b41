/- One and more, at a step of a region that draws its order. -/
import Derived.Deep.RegionHeld
import Derived.OwnWalk
import Derived.Test.YtnpfegfjejfaaaaQb2
namespace Go.Proofs.Ytnpfegfjejfaaaa.Ap10
open Go.RowKit
open Nd0 Qb0 Qb2
set_option linter.unusedVariables false

theorem step_an {ops : Array Oper} {o : Oper} {a : Act} {K : Act → World → Prop} {Q : Exit → Act → World → Prop} {E : Prop} (W : World) (hgd : o.guard = none) (s x : Operand)
    (ho : o.op = .call { callee := .builtin .append, args := #[s, x], argTypes := #[27, 27] })
    (B : Nat) (v : Value) (l : List An) (y : An) (hs : a.eval s = v) (G : Nat) (hx : a.eval x = .slice (some ⟨G, 0, none⟩) 1 1) (hy0 : W.cell? ⟨G, 0, none⟩ = some (.int .i64 y.a)) (hy1 : W.cell? ⟨G, 1, none⟩ = some (.int .i64 y.b))
    (hown : OwAn W B v l) (hB : B ≤ W.heap.size) (hlen : l.length ≤ 1048576)
    (h : ∀ g cap w', OwAn w' B (.slice (some ⟨g, 0, none⟩) (l.length + 1) cap) (l ++ [y]) → Kept (fun k => v.ownBlock = some k) W w' → (v.ownBlock = some g ∨ W.heap.size ≤ g) → K (a.put o.dst (.slice (some ⟨g, 0, none⟩) (l.length + 1) cap)) w') :
    if Region.wanted o (yielded ops a.tmps) = true then Oper.wp Try.prog o a W K Q else E := by
  obtain ⟨i, hi, hzz⟩ := Option.map_eq_some_iff.1 infoAAn
  simp only [Prod.mk.injEq] at hzz
  obtain ⟨hz, hsz, hb⟩ := hzz
  refine step_append_lies W hgd s x 27 ho B 89 i _ 2 16 Try.underlying27 hi hz hsz hb rfl (by omega) v l.length (flatAn l) hs hown
    ⟨G, 0, none⟩ 1 1 y.cells hx rfl ?_ ?_ (by omega) (by unfold maxLen; omega) (by omega) hB _ rfl ?_
  · intro j u hu
    have hj : j < 2 := (List.getElem?_eq_some_iff.1 hu).1
    have hadd : (⟨G, 0, none⟩ : Addr).add j = ⟨G, j, none⟩ := by unfold Addr.add; split <;> simp_all
    rw [hadd]
    match j, hj with
    | 0, _ => rw [hy0]; exact hu
    | 1, _ => rw [hy1]; exact hu
  · intro u hu
    simp [An.cells] at hu
    rcases hu with rfl | rfl <;> rfl
  · intro g cap w' h1 h2 h3 h4
    refine h g cap w' ?_ ?_ ?_
    · unfold OwAn
      rw [flatAn_snoc, List.length_append]
      exact h1
    · exact ⟨h2.os, h2.tape, h2.output, h2.size, fun k hk hn => h2.block k hk (fun e => hn e.symm)⟩
    · rcases h3 with h3 | h3
      · exact .inl h3
      · exact .inr (by rw [h3]; exact Nat.le_refl _)

theorem flatAn_length (l : List An) : (flatAn l).length = l.length * 2 := by
  induction l with
  | nil => rfl
  | cons n l ih => show (n.cells ++ flatAn l).length = _; rw [List.length_append, ih, List.length_cons]; show 2 + _ = _; omega
theorem flatAn_app (l m : List An) : flatAn (l ++ m) = flatAn l ++ flatAn m := by simp [flatAn]
/-- The cells of a list of ands that lies in memory. -/
theorem ans_cells {w : World} {gx ox : Nat} {l : List An} (h : Ans w (some ⟨gx, ox, none⟩) l) : ∀ j u, (flatAn l)[j]? = some u → w.cell? ((⟨gx, ox, none⟩ : Addr).add j) = some u := by
  intro j u hu
  have hj : j < l.length * 2 := by rw [← flatAn_length]; exact (List.getElem?_eq_some_iff.1 hu).1
  rcases h.2 with e | ⟨b, o, ha, hc⟩
  · omega
  · cases ha
    have hadd : (⟨gx, ox, none⟩ : Addr).add j = ⟨gx, ox + j, none⟩ := by unfold Addr.add; split <;> simp_all
    rw [hadd]
    have h1 := flatAn_get l (j / 2) (by omega) (j % 2) (by omega)
    rw [show j / 2 * 2 + j % 2 = j by omega, hu] at h1
    obtain ⟨x0, x1⟩ := hc (j / 2) (by omega)
    rcases Nat.mod_two_eq_zero_or_one j with e | e
    · rw [e] at h1
      rw [show ox + j = ox + j / 2 * 2 by omega, x0]
      exact h1.symm
    · rw [e] at h1
      rw [show ox + j = ox + j / 2 * 2 + 1 by omega, x1]
      exact h1.symm
/-- A copy of a list of ands behind an own one, at a step of a region that draws its order. -/
theorem step_ans {ops : Array Oper} {o : Oper} {a : Act} {K : Act → World → Prop} {Q : Exit → Act → World → Prop} {E : Prop} (W : World) (hgd : o.guard = none) (s x : Operand)
    (ho : o.op = .call { callee := .builtin .append, args := #[s, x], argTypes := #[27, 27] })
    (B g gx ox cx : Nat) (ys : List An) (hs : a.eval s = .slice (some ⟨g, 0, none⟩) 0 0) (hx : a.eval x = .slice (some ⟨gx, ox, none⟩) ys.length cx)
    (hown : OwAn W B (.slice (some ⟨g, 0, none⟩) 0 0) []) (hy : Ans W (some ⟨gx, ox, none⟩) ys) (hB : B ≤ W.heap.size) (hlen : ys.length ≤ 1048577)
    (h : ∀ g' cp w', OwAn w' B (.slice (some ⟨g', 0, none⟩) ys.length cp) ys → Below B W w' → K (a.put o.dst (.slice (some ⟨g', 0, none⟩) ys.length cp)) w') :
    if Region.wanted o (yielded ops a.tmps) = true then Oper.wp Try.prog o a W K Q else E := by
  rw [if_pos (by simp [Region.wanted, hgd])]
  obtain ⟨i, hi, hzz⟩ := Option.map_eq_some_iff.1 infoAAn
  simp only [Prod.mk.injEq] at hzz
  obtain ⟨hz, hsz, hb⟩ := hzz
  refine wp_append_own (w := W) s x 27 ho B 89 i _ 2 16 Try.underlying27 hi hz hsz hb rfl (by omega) _ 0 [] hs hown
    ⟨gx, ox, none⟩ ys.length cx (flatAn ys) hx (flatAn_length ys) (ans_cells hy) ?_ (by unfold maxLen; omega) (by omega) hB ?_
  · intro u hu
    obtain ⟨n, _, hn⟩ := List.mem_flatMap.1 hu
    simp [An.cells] at hn
    rcases hn with rfl | rfl <;> rfl
  · intro v' w' h1 h2 h3
    have h4 : OwAn w' B v' ys := by unfold OwAn; rw [Nat.zero_add, List.nil_append] at h1; exact h1
    have h5 : ∃ g' cp, v' = .slice (some ⟨g', 0, none⟩) ys.length cp := by
      rcases h4.2 with ⟨h0, _⟩ | ⟨g', cap, cur, he, _⟩
      · exact absurd (h3.1 h0).1 (by simp)
      · exact ⟨g', cap, he⟩
    obtain ⟨g', cp, rfl⟩ := h5
    refine h g' cp w' h4 ?_
    exact (Below.refl B W).grown h2 hB (fun k e => (hown.lt k e).1)

end Go.Proofs.Ytnpfegfjejfaaaa.Ap10
