/- Bytes of a string, appended to. -/
import Derived.Test.YtmpbedfiamlbpaaGreatDoorRows
import Derived.ArgAppend
import Derived.Laws.IdiomCopy
import Derived.Laws.IdiomStrings
import Derived.Test.YtmpbedfiamlbpaaGreatDoorPkS10
import Derived.Test.YtmpbedfiamlbpaaGreatDoorPkS6
namespace Go.Proofs.YtmpbedfiamlbpaaGreatDoor.Zb0
open Go.RowKit
open Nd0 (Kept lt_of_cell)
open Ap9 (infoByte)
open Ss0 (bs bs_size)
open Ss1 (tl tl_get tl_bs)
set_option linter.unusedVariables false

/-- The bytes l lie in block g, with room for cap of them. -/
structure LieB (w : World) (g cap : Nat) (l : List UInt8) : Prop where
  lt : g < w.heap.size
  le : l.length ≤ cap
  cell : ∀ j (h : j < l.length), w.cell? ⟨g, j, none⟩ = some (.int .u8 (l[j].toNat : Int))
  has : ∀ j, j < cap → (w.cell? ⟨g, j, none⟩).isSome = true
  free : ∀ j, j < cap → w.frozen? ⟨g, j, none⟩ = false
theorem LieB.kept {w w' : World} {g cap : Nat} {l : List UInt8} (h : LieB w g cap l) {S : Nat → Prop} (k : Kept S w w') (hs : ¬ S g) : LieB w' g cap l :=
  ⟨Nat.lt_of_lt_of_le h.lt k.size, h.le, fun j hj => by rw [k.cell (p := ⟨g, j, none⟩) h.lt hs]; exact h.cell j hj, fun j hj => by rw [k.cell (p := ⟨g, j, none⟩) h.lt hs]; exact h.has j hj, fun j hj => by rw [k.frozen (p := ⟨g, j, none⟩) h.lt hs]; exact h.free j hj⟩
theorem LieB.below {w w' : World} {g cap : Nat} {l : List UInt8} (h : LieB w g cap l) (k : Below w.heap.size w w') : LieB w' g cap l := h.kept (S := fun _ => False) (Kept.ofBelow k) (fun h => h)
def bc (l : List UInt8) : List Value := l.map fun x => .int .u8 (x.toNat : Int)
theorem bc_len (l : List UInt8) : (bc l).length = l.length := List.length_map ..
theorem bc_app (l m : List UInt8) : bc (l ++ m) = bc l ++ bc m := List.map_append ..
theorem bc_get {l : List UInt8} {j : Nat} (h : j < l.length) : (bc l)[j]? = some (.int .u8 (l[j].toNat : Int)) := by
  unfold bc
  rw [List.getElem?_map, List.getElem?_eq_getElem h]
  rfl
theorem LieB.text {W : World} {g c : Nat} {l : List UInt8} (h : LieB W g c l) : (convert 22 9 (.slice (some ⟨g, 0, none⟩) l.length c)).run Tryz.prog W = .ok (.string (bs l)) W :=
  run_convert_bytes_back (P := Tryz.prog) W 22 9 5 ⟨g, 0, none⟩ c l Tryz.underlying22 Tryz.underlying5 Tryz.underlying9 (fun j hj => by rw [Addr.add_lit, Nat.zero_add]; exact h.cell j hj)
/-- The bytes of a string. -/
theorem bytesB (w : World) (l : List UInt8) : ∃ (c : Nat) (W : World), (convert 9 22 (.string (bs l))).run Tryz.prog w = .ok (.slice (some ⟨w.heap.size, 0, none⟩) l.length c) W ∧ LieB W w.heap.size c l ∧ Below w.heap.size w W := by
  have h := run_bytes_of_string (P := Tryz.prog) w 9 22 5 (bs l) Tryz.underlying9 Tryz.underlying22 Tryz.underlying5
  rw [bs_size] at h
  have hge := grownCap_ge w l.length 0 5
  have hds : (bs l).data.size = l.length := bs_size l
  have hbz : (bs l).size = l.length := bs_size l
  have hsz : (bytesRow (bs l) (grownCap w l.length 0 5)).size = grownCap w l.length 0 5 := by
    unfold bytesRow
    simp [Array.size_append, Array.size_map]
    omega
  have e : (w.drew.alloc (.cells (bytesRow (bs l) (grownCap w l.length 0 5)) 5 ((bytesRow (bs l) (grownCap w l.length 0 5)).size, (bytesRow (bs l) (grownCap w l.length 0 5)).size + 1))).heap[w.heap.size]? = some (.cells (bytesRow (bs l) (grownCap w l.length 0 5)) 5 ((bytesRow (bs l) (grownCap w l.length 0 5)).size, (bytesRow (bs l) (grownCap w l.length 0 5)).size + 1)) := by
    show (w.heap.push _)[w.heap.size]? = _
    simp
  refine ⟨_, _, h, ⟨by simp, hge, fun j hj => ?_, fun j hj => ?_, fun j hj => ?_⟩, (Below.refl _ _).drew.alloc (Nat.le_refl _) _⟩
  · have hj2 : j < (bs l).data.size := by omega
    rw [cell_of_row _ _ j _ _ _ e, bytesRow_at _ _ j hj2]
    have : (bs l).data[j] = l[j] := by
      have h1 := tl_get (bs l) j hj2
      have e2 : tl (bs l) = l := tl_bs l
      simp only [e2] at h1
      exact h1
    rw [this]
    rfl
  · rw [cell_of_row _ _ j _ _ _ e, Array.getElem?_eq_getElem (by rw [hsz]; exact hj)]
    rfl
  · unfold World.frozen?
    rw [e]
    simp
    omega
theorem kept_sets (w : World) (g o : Nat) (vs : List Value) : Kept (fun k => k = g) w (w.setCells g o vs) := by
  have h := World.keptBut_setCells g (may := fun p => p.block = g) vs o w (fun _ _ => rfl)
  induction vs generalizing o w with
  | nil => exact Kept.refl _ _
  | cons v r ih =>
    have h1 : Kept (fun k => k = g) w (w.setCell ⟨g, o, none⟩ v) := (Kept.refl (fun k => k = g) w).setCell (p := ⟨g, o, none⟩) rfl _
    exact h1.trans (ih (w.setCell ⟨g, o, none⟩ v) (o + 1) (World.keptBut_setCells g (may := fun p => p.block = g) r (o + 1) _ (fun _ _ => rfl)))
theorem LieB.room {w : World} {g cap : Nat} {l : List UInt8} (h : LieB w g cap l) (ys : List UInt8) (hr : l.length + ys.length ≤ cap) : LieB (w.setCells g l.length (bc ys)) g cap (l ++ ys) := by
  have hh : ∀ j, j < (bc ys).length → (w.cell? ⟨g, l.length + j, none⟩).isSome = true := fun j hj => h.has _ (by rw [bc_len] at hj; omega)
  refine ⟨Nat.lt_of_lt_of_le h.lt (kept_sets w g _ _).size, by rw [List.length_append]; exact hr, fun j hj => ?_, fun j hj => ?_, fun j hj => by rw [World.frozen?_setCells]; exact h.free j hj⟩
  · by_cases e : j < l.length
    · rw [World.cell?_setCells_out g _ _ _ ⟨g, j, none⟩ (fun _ _ => .inl e), h.cell j e, List.getElem_append_left e]
    · have hj2 : j - l.length < ys.length := by rw [List.length_append] at hj; omega
      have h1 := World.cell?_setCells_in g (bc ys) l.length w hh (j - l.length) (by rw [bc_len]; exact hj2)
      rw [show l.length + (j - l.length) = j by omega] at h1
      rw [h1, List.getElem_append_right (by omega)]
      have h2 := bc_get hj2
      rw [List.getElem?_eq_getElem (by rw [bc_len]; exact hj2)] at h2
      exact h2
  · by_cases e : j < l.length ∨ l.length + (bc ys).length ≤ j
    · rw [World.cell?_setCells_out g _ _ _ ⟨g, j, none⟩ (fun _ _ => e)]; exact h.has j hj
    · have h1 := World.cell?_setCells_in g (bc ys) l.length w hh (j - l.length) (by omega)
      rw [show l.length + (j - l.length) = j by omega] at h1
      rw [h1]
      rfl
theorem run_by (W : World) (ty : TypeId) (g cap : Nat) (l ys : List UInt8) (G c : Nat) (hy : ∀ j (h : j < ys.length), W.cell? ⟨G, j, none⟩ = some (.int .u8 (ys[j].toNat : Int))) (hown : LieB W g cap l) (hlen : l.length + ys.length ≤ 100000000) :
    ∃ g' cap' w', (Builtin.append_ #[22, 22] ty #[.slice (some ⟨g, 0, none⟩) l.length cap, .slice (some ⟨G, 0, none⟩) ys.length c]).run Tryz.prog W = .ok (.slice (some ⟨g', 0, none⟩) (l.length + ys.length) cap') w' ∧
      LieB w' g' cap' (l ++ ys) ∧ Kept (fun k => k = g) W w' ∧ (g' = g ∨ W.heap.size ≤ g') := by
  obtain ⟨i, hi, hzz⟩ := Option.map_eq_some_iff.1 infoByte
  simp only [Prod.mk.injEq] at hzz
  obtain ⟨hz, hsz, hb⟩ := hzz
  have hnews : ∀ j u, (bc ys)[j]? = some u → W.cell? ((⟨G, 0, none⟩ : Addr).add j) = some u := by
    intro j u hu
    have hj : j < ys.length := by have := (List.getElem?_eq_some_iff.1 hu).1; rwa [bc_len] at this
    rw [Addr.add_lit, Nat.zero_add, hy j hj, ← hu, bc_get hj]
  have h1 : ∀ u ∈ bc ys, u.oneCell' = true := by
    intro u hu
    obtain ⟨x, _, rfl⟩ := List.mem_map.1 hu
    rfl
  by_cases hr : l.length + ys.length ≤ cap
  · have hrun := run_append_room_cells (P := Tryz.prog) W 22 ty 5 i Tryz.underlying22 hi g 0 l.length cap ⟨G, 0, none⟩ ys.length c (bc ys) (by rw [hsz, bc_len]; omega) hnews h1 hr
      (fun j hj => by rw [bc_len] at hj; rw [hsz]; rw [show 0 + l.length * 1 + j = l.length + j by omega]; exact hown.has _ (by omega)) (fun j hj => by rw [bc_len] at hj; rw [hsz]; rw [show 0 + l.length * 1 + j = l.length + j by omega]; exact hown.free _ (by omega))
    rw [hsz, show 0 + l.length * 1 = l.length by omega] at hrun
    exact ⟨g, cap, _, hrun, hown.room ys hr, kept_sets W g _ _, .inl rfl⟩
  · obtain ⟨v', w', hrun, r1, r2⟩ := run_append_arg_grows (P := Tryz.prog) W 22 ty 5 i _ 1 1 Tryz.underlying22 hi hz hsz hb rfl (by omega) ⟨g, 0, none⟩ l.length cap (bc l) (by rw [bc_len]; omega)
      (fun j u hu => by
        have hj : j < l.length := by have := (List.getElem?_eq_some_iff.1 hu).1; rwa [bc_len] at this
        rw [Addr.add_lit, Nat.zero_add, hown.cell j hj, ← hu, bc_get hj]) ⟨G, 0, none⟩ ys.length c (bc ys) (by rw [bc_len]; omega) hnews (by omega) (by unfold maxLen; omega) (by omega)
    rw [← bc_app] at r1
    have hK : Kept (fun k => k = g) W w' := ⟨r2.os, r2.tape, r2.output, r2.size, fun k hk _ => r2.block k hk (by simp)⟩
    obtain ⟨_, h2⟩ := r1
    rcases h2 with ⟨_, h0⟩ | ⟨g', cap', cur, rfl, hb', hg', hn, hm, hs, ht⟩
    · omega
    · refine ⟨g', cap', w', hrun, ⟨(Array.getElem?_eq_some_iff.1 hg').1, by rw [List.length_append]; exact hn, fun j hj => ?_, fun j hj => ?_, fun j hj => ?_⟩, hK, .inr hb'⟩
      · rw [List.length_append] at hj
        rw [cell_of_row _ _ j _ _ _ hg']
        have e1 : (cur.toList.take ((l.length + ys.length) * 1))[j]? = some (.int .u8 ((l ++ ys)[j].toNat : Int)) := by rw [ht, bc_get (by rw [List.length_append]; exact hj)]
        rw [List.getElem?_take_of_lt (by omega)] at e1
        simpa using e1
      · rw [cell_of_row _ _ j _ _ _ hg', Array.getElem?_eq_getElem (by omega)]
        rfl
      · simp [World.frozen?, hg']
/-- The same at a step of a region that draws. -/
theorem step_by {ops : Array Oper} {o : Oper} {a : Act} {K : Act → World → Prop} {Q : Exit → Act → World → Prop} {E : Prop} (W : World) (hgd : o.guard = none) (s x : Operand)
    (ho : o.op = .call { callee := .builtin .append, args := #[s, x], argTypes := #[22, 22] })
    (g cap n G c m : Nat) (l ys : List UInt8) (hn : l.length = n) (hm : ys.length = m) (hs : a.eval s = .slice (some ⟨g, 0, none⟩) n cap) (hx : a.eval x = .slice (some ⟨G, 0, none⟩) m c)
    (hy : ∀ j (h : j < ys.length), W.cell? ⟨G, j, none⟩ = some (.int .u8 (ys[j].toNat : Int))) (hown : LieB W g cap l) (hlen : l.length + ys.length ≤ 100000000)
    (h : ∀ g' cap' w', LieB w' g' cap' (l ++ ys) → Kept (fun k => k = g) W w' → (g' = g ∨ W.heap.size ≤ g') → K (a.put o.dst (.slice (some ⟨g', 0, none⟩) (n + m) cap')) w') :
    if Region.wanted o (yielded ops a.tmps) = true then Oper.wp Tryz.prog o a W K Q else E := by
  have hw : Region.wanted o (yielded ops a.tmps) = true := by simp [Region.wanted, hgd]
  rw [if_pos hw]
  subst hn hm
  obtain ⟨g', cap', w', hrun, q1, q2, q3⟩ := run_by W o.type g cap l ys G c hy hown hlen
  unfold Oper.wp
  simp [execOp, ho, resolve, invoke, builtin, hs, hx, hrun, Result.andThen]
  exact h g' cap' w' q1 q2 q3
end Go.Proofs.YtmpbedfiamlbpaaGreatDoor.Zb0
