/- Lists of texts that a call has made, appended to in a region that draws its order. -/
import Derived.Deep.RegionHeld
import Derived.Test.YtmghkeahlhlclaaGreatDoorPkF
namespace Go.Proofs.YtmghkeahlhlclaaGreatDoor.Ap5
open Go.RowKit
open Nd0 Ss0 Ss2 Ap4
set_option linter.unusedVariables false

theorem Ost.one (w : World) (B g : Nat) (x : List UInt8) (hg : g = w.heap.size) (hB : B ≤ w.heap.size) : Ost (w.alloc (.cells #[.string (bs x)] 9)) B (.slice (some ⟨g, 0, none⟩) 1 1) [x] := by
  subst hg
  exact World.ownsRow_lit w #[.string (bs x)] 1 hB (by unfold maxLen; omega) rfl
theorem Ost.below {w w' : World} {B : Nat} {v : Value} {l : List (List UInt8)} (h : Ost w B v l) (k : Below w.heap.size w w') : Ost w' B v l := h.kept (S := fun _ => False) (Kept.ofBelow k) (fun _ _ e => e)
/-- What can be appended to has room for what it holds. -/
theorem Ost.cap {w : World} {B : Nat} {a : Option Addr} {n c : Nat} {l : List (List UInt8)} (h : Ost w B (.slice a n c) l) : n = l.length ∧ l.length ≤ c := by
  obtain ⟨h1, h2⟩ := h
  rcases h2 with ⟨e, h0⟩ | ⟨g, cap, cur, e, hb, hg, hn, hm, hs, ht⟩
  · cases e; exact ⟨h0.symm, by omega⟩
  · cases e; exact ⟨rfl, hn⟩
theorem Ost.cells {w : World} {B g n c : Nat} {l : List (List UInt8)} (h : Ost w B (.slice (some ⟨g, 0, none⟩) n c) l) : ∀ i (hi : i < l.length), w.cell? ⟨g, i, none⟩ = some (.string (bs l[i])) := by
  obtain ⟨a, c', hv, hs⟩ := h.form
  cases hv
  intro i hi
  rcases hs.2 with h0 | ⟨b, o, he, hc⟩
  · omega
  · cases he
    have := hc i hi
    rwa [Nat.zero_add] at this

/-- Some texts more, at a step of a region that draws its order. -/
theorem step_app_strs {ops : Array Oper} {o : Oper} {a : Act} {K : Act → World → Prop} {Q : Exit → Act → World → Prop} {E : Prop} (W : World) (hgd : o.guard = none) (s x : Operand)
    (ho : o.op = .call { callee := .builtin .append, args := #[s, x], argTypes := #[43, 43] })
    (B : Nat) (v : Value) (l ys : List (List UInt8)) (gx c : Nat) (hs : a.eval s = v) (hx : a.eval x = .slice (some ⟨gx, 0, none⟩) ys.length c)
    (hy : ∀ i (h : i < ys.length), W.cell? ⟨gx, i, none⟩ = some (.string (bs ys[i]))) (hp : 0 < ys.length)
    (hown : Ost W B v l) (hB : B ≤ W.heap.size) (hlen : l.length + ys.length ≤ 1048577)
    (h : ∀ g cap w', Ost w' B (.slice (some ⟨g, 0, none⟩) (l.length + ys.length) cap) (l ++ ys) → Kept (fun k => v.ownBlock = some k) W w' → (v.ownBlock = some g ∨ W.heap.size ≤ g) → K (a.put o.dst (.slice (some ⟨g, 0, none⟩) (l.length + ys.length) cap)) w') :
    if Region.wanted o (yielded ops a.tmps) = true then Oper.wp Tryz.prog o a W K Q else E := by
  obtain ⟨i, hi, hzz⟩ := Option.map_eq_some_iff.1 infoStr
  simp only [Prod.mk.injEq] at hzz
  obtain ⟨hz, hsz, hb⟩ := hzz
  refine step_append_lies W hgd s x 43 ho B 9 i _ 1 16 Tryz.underlying43 hi hz hsz hb rfl (by omega) v l.length (l.map fun x => .string (bs x)) hs hown
    ⟨gx, 0, none⟩ ys.length c (ys.map fun x => .string (bs x)) hx (by simp) (fun j u hu => ?_) ?_ hp (by unfold maxLen; omega) (by omega) hB _ rfl ?_
  · have hj : j < ys.length := by have := (List.getElem?_eq_some_iff.1 hu).1; simpa using this
    have hadd : (⟨gx, 0, none⟩ : Addr).add j = ⟨gx, j, none⟩ := by unfold Addr.add; split <;> simp_all
    rw [hadd, hy j hj, ← hu]
    simp [hj]
  · intro u hu
    obtain ⟨n, _, rfl⟩ := List.mem_map.1 hu
    rfl
  · intro g cap w' h1 h2 h3 h4
    refine h g cap w' ?_ ?_ ?_
    · unfold Ost
      rw [List.map_append, List.length_append]
      exact h1
    · exact ⟨h2.os, h2.tape, h2.output, h2.size, fun k hk hn => h2.block k hk (fun e => hn e.symm)⟩
    · rcases h3 with h3 | h3
      · exact .inl h3
      · exact .inr (by rw [h3]; exact Nat.le_refl _)

end Go.Proofs.YtmghkeahlhlclaaGreatDoor.Ap5
