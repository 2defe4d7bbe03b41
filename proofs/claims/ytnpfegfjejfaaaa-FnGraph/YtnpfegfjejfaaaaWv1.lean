/- Lists of words of 64 bits that are made and appended to. -/
import Derived.Test.YtnpfegfjejfaaaaRows
import Derived.Laws.MakeOwn
import Derived.Deep.AppendLies
import Derived.Deep.RegionHeld
import Derived.OwnWalk
import Derived.Maps.AppendAt
import Derived.Test.YtnpfegfjejfaaaaNd0
namespace Go.Proofs.Ytnpfegfjejfaaaa.Wv1
open Go.RowKit
open Nd0
set_option linter.unusedVariables false

theorem infoW : (Try.prog.info? 78).map (fun i => (i.zero, i.size, i.bytes)) = some (some (.int .u64 0), 1, 8) := by kernel_rfl
def uv (l : List Nat) : List Value := l.map fun (x : Nat) => Value.int .u64 (x : Int)
theorem uv_len (l : List Nat) : (uv l).length = l.length := by simp [uv]
def OwU (w : World) (B : Nat) (v : Value) (l : List Nat) : Prop := w.ownsRow B 78 1 v l.length (uv l)
theorem OwU.lt {w : World} {B : Nat} {v : Value} {l : List Nat} (h : OwU w B v l) : ∀ k, v.ownBlock = some k → B ≤ k ∧ k < w.heap.size := World.ownsRow.lt h
theorem OwU.kept {w w' : World} {B : Nat} {v : Value} {l : List Nat} (h : OwU w B v l) {S : Nat → Prop} (k : Kept S w w') (hs : ∀ i, v.ownBlock = some i → ¬ S i) : OwU w' B v l := by
  refine ⟨h.1, ?_⟩
  rcases h.2 with hn | ⟨g, cap, cur, rfl, hb, hgg, rest⟩
  · exact .inl hn
  · refine .inr ⟨g, cap, cur, rfl, hb, ?_, rest⟩
    rw [k.block g (Array.getElem?_eq_some_iff.1 hgg).1 (hs g rfl)]
    exact hgg
theorem OwU.cell {w : World} {B g n cap : Nat} {l : List Nat} (h : OwU w B (.slice (some ⟨g, 0, none⟩) n cap) l) (j : Nat) (hj : j < l.length) : w.cell? ⟨g, j, none⟩ = some (.int .u64 ((l[j] : Nat) : Int)) := by
  obtain ⟨h1, h2⟩ := h
  rcases h2 with ⟨e, _⟩ | ⟨g', cap', cur, e, hb, hg, hn, hm, hs, ht⟩
  · cases e
  · cases e
    rw [cell_of_row w _ j cur _ _ hg]
    have h3 : cur[j]? = (uv l)[j]? := by
      rw [← ht, List.getElem?_take_of_lt (by omega)]
      simp
    rw [h3]
    simp [uv, hj]
/-- Words that lie in memory. -/
def Us (w : World) (gx ox : Nat) (l : List Nat) : Prop := ∀ j (h : j < l.length), w.cell? ⟨gx, ox + j, none⟩ = some (.int .u64 ((l[j] : Nat) : Int))
theorem Us.kept {w w' : World} {gx ox : Nat} {l : List Nat} (h : Us w gx ox l) {S : Nat → Prop} (k : Kept S w w') (hs : ¬ S gx) : Us w' gx ox l := fun j hj => by
  rw [k.cell (p := ⟨gx, ox + j, none⟩) (lt_of_cell (p := ⟨gx, ox + j, none⟩) (h j hj)) hs]; exact h j hj
theorem OwU.us {w : World} {B g n cap : Nat} {l : List Nat} (h : OwU w B (.slice (some ⟨g, 0, none⟩) n cap) l) : Us w g 0 l := fun j hj => by rw [Nat.zero_add]; exact h.cell j hj
theorem OwU.lit (w : World) (B : Nat) (hB : B ≤ w.heap.size) : OwU (w.alloc (.cells #[] 78)) B (.slice (some ⟨w.heap.size, 0, none⟩) 0 0) [] :=
  World.ownsRow_lit w #[] 0 hB (Nat.zero_le _) rfl
theorem makeOne (N : Nat) (h1 : 1 ≤ N) (hN : N ≤ 1048576) (w : World) :
    (Instr.makeSlice 74 (.int .i64 1) (.int .i64 (N : Int))).run Try.prog w = .ok (.slice (some ⟨w.heap.size, 0, none⟩) 1 N) (w.alloc (.cells (madeCells #[.int .u64 0] N) 78)) := by
  obtain ⟨i, hi, hzz⟩ := Option.map_eq_some_iff.1 infoW
  simp only [Prod.mk.injEq] at hzz
  obtain ⟨hz, hs, hb⟩ := hzz
  have h := run_make (P := Try.prog) w 74 78 i _ Try.underlying74 hi hz .i64 .i64 1 N (by omega) (by omega) (by rw [hb]; omega) (by omega)
  rw [hs] at h
  simpa [Value.cells] using h
theorem madeOne (w : World) (N B : Nat) (h1 : 1 ≤ N) (hN : N ≤ 1048576) (hB : B ≤ w.heap.size) : OwU (w.alloc (.cells (madeCells #[.int .u64 0] N) 78)) B (.slice (some ⟨w.heap.size, 0, none⟩) 1 N) [0] := by
  have hsz : (madeCells #[.int .u64 0] N).size = N := by simp [madeCells]
  refine ⟨rfl, .inr ⟨w.heap.size, N, madeCells #[.int .u64 0] N, rfl, hB, heap_alloc_new w _, h1, by unfold maxLen; omega, by rw [hsz]; omega, ?_⟩⟩
  have h0 : (madeCells #[.int .u64 0] N)[0]? = some (.int .u64 0) := by
    simp only [madeCells, Array.getElem?_map, Array.getElem?_range]
    rw [if_pos (by omega)]
    rfl
  rw [show [0].length * 1 = 1 from rfl]
  refine List.ext_getElem? fun j => ?_
  match j with
  | 0 => rw [List.getElem?_take_of_lt (by omega), show (uv [0])[0]? = some (.int .u64 0) from rfl]; simpa using h0
  | j + 1 => rw [List.getElem?_eq_none (by rw [List.length_take]; omega), List.getElem?_eq_none (by simp [uv])]
theorem one_u (l : List Nat) : ∀ u ∈ uv l, u.oneCell' = true := by
  intro u hu
  obtain ⟨n, _, rfl⟩ := List.mem_map.1 hu
  rfl
/-- Words more (or none), at the list of a plain region. -/
theorem app_us {ops : Array Oper} {rest : List Oper} {o : Oper} {a : Act} {Q : Exit → Act → World → Prop} (W : World) (hgd : o.guard = none) (s x : Operand)
    (ho : o.op = .call { callee := .builtin .append, args := #[s, x], argTypes := #[74, 74] })
    (B g cap gx ox cx : Nat) (l ys : List Nat) (hs : a.eval s = .slice (some ⟨g, 0, none⟩) l.length cap) (hx : a.eval x = .slice (some ⟨gx, ox, none⟩) ys.length cx)
    (hown : OwU W B (.slice (some ⟨g, 0, none⟩) l.length cap) l) (hy : Us W gx ox ys) (hB : B ≤ W.heap.size) (hlen : l.length + ys.length ≤ 1048577) (L : List Nat) (hL : l ++ ys = L)
    (h : ∀ g' cp w', OwU w' B (.slice (some ⟨g', 0, none⟩) L.length cp) L → Kept (fun k => k = g) W w' → (g' = g ∨ W.heap.size ≤ g') → wpList Try.prog ops Q rest (a.put o.dst (.slice (some ⟨g', 0, none⟩) L.length cp)) w') :
    wpList Try.prog ops Q (o :: rest) a W := by
  subst hL
  obtain ⟨i, hi, hzz⟩ := Option.map_eq_some_iff.1 infoW
  simp only [Prod.mk.injEq] at hzz
  obtain ⟨hz, hsz, hb⟩ := hzz
  refine wpList_append_own_at (w := W) hgd s x 74 ho B 78 i _ 1 8 Try.underlying74 hi hz hsz hb rfl (by omega) _ l.length (uv l) hs hown
    ⟨gx, ox, none⟩ ys.length cx (uv ys) hx (by rw [uv_len]; omega) (fun j u hu => ?_) (one_u ys) (by unfold maxLen; omega) (by omega) hB ?_
  · have hj : j < ys.length := by have := (List.getElem?_eq_some_iff.1 hu).1; rw [uv_len] at this; exact this
    have hadd : (⟨gx, ox, none⟩ : Addr).add j = ⟨gx, ox + j, none⟩ := by unfold Addr.add; split <;> simp_all
    rw [hadd, hy j hj, ← hu]
    simp [uv, hj]
  · intro v' w' h1 h2 h3 h4
    have h5 : OwU w' B v' (l ++ ys) := by unfold OwU; rw [uv, List.map_append, List.length_append]; exact h1
    have h6 : ∃ g' cp, v' = .slice (some ⟨g', 0, none⟩) (l ++ ys).length cp := by
      rcases h5.2 with ⟨h0, _⟩ | ⟨g', cap', cur, he, _⟩
      · exact absurd (h3.1 h0).1 (by simp)
      · exact ⟨g', cap', he⟩
    obtain ⟨g', cp, rfl⟩ := h6
    refine h g' cp w' h5 ⟨h2.os, h2.tape, h2.output, h2.size, fun k hk hn => h2.block k hk (fun e => hn (by simpa [Value.ownBlock] using e))⟩ ?_
    rcases h4 with e | e
    · exact .inl (by simpa [Value.ownBlock] using e)
    · exact .inr (by have e' : g' = W.heap.size := (by simpa [Value.ownBlock] using e); omega)
/-- One word more, at a step of a region that draws its order. -/
theorem step_u {ops : Array Oper} {o : Oper} {a : Act} {K : Act → World → Prop} {Q : Exit → Act → World → Prop} {E : Prop} (W : World) (hgd : o.guard = none) (s x : Operand)
    (ho : o.op = .call { callee := .builtin .append, args := #[s, x], argTypes := #[74, 74] })
    (B : Nat) (v : Value) (l : List Nat) (y : Nat) (hs : a.eval s = v) (G : Nat) (hx : a.eval x = .slice (some ⟨G, 0, none⟩) 1 1) (hy : W.cell? ⟨G, 0, none⟩ = some (.int .u64 (y : Int)))
    (hown : OwU W B v l) (hB : B ≤ W.heap.size) (hlen : l.length ≤ 1048576) (L : List Nat) (hL : l ++ [y] = L)
    (h : ∀ g cap w', OwU w' B (.slice (some ⟨g, 0, none⟩) L.length cap) L → Kept (fun k => v.ownBlock = some k) W w' → (v.ownBlock = some g ∨ W.heap.size ≤ g) → K (a.put o.dst (.slice (some ⟨g, 0, none⟩) L.length cap)) w') :
    if Region.wanted o (yielded ops a.tmps) = true then Oper.wp Try.prog o a W K Q else E := by
  subst hL
  obtain ⟨i, hi, hzz⟩ := Option.map_eq_some_iff.1 infoW
  simp only [Prod.mk.injEq] at hzz
  obtain ⟨hz, hsz, hb⟩ := hzz
  refine step_append_lies W hgd s x 74 ho B 78 i _ 1 8 Try.underlying74 hi hz hsz hb rfl (by omega) v l.length (uv l) hs hown
    ⟨G, 0, none⟩ 1 1 (uv [y]) hx rfl ?_ (one_u _) (by omega) (by unfold maxLen; omega) (by omega) hB _ rfl ?_
  · intro j u hu
    have hj : j < 1 := (List.getElem?_eq_some_iff.1 hu).1
    have hadd : (⟨G, 0, none⟩ : Addr).add j = ⟨G, j, none⟩ := by unfold Addr.add; split <;> simp_all
    rw [hadd]
    match j, hj with
    | 0, _ => rw [hy]; exact hu
  · intro g cap w' h1 h2 h3 h4
    rw [List.length_append] at h
    refine h g cap w' ?_ ?_ ?_
    · unfold OwU
      rw [uv, List.map_append, List.length_append]
      exact h1
    · exact ⟨h2.os, h2.tape, h2.output, h2.size, fun k hk hn => h2.block k hk (fun e => hn e.symm)⟩
    · rcases h3 with h3 | h3
      · exact .inl h3
      · exact .inr (by rw [h3]; exact Nat.le_refl _)

end Go.Proofs.Ytnpfegfjejfaaaa.Wv1
