/- Small texts of mine, one behind the other. -/
import Derived.Test.YtmfpbhjmnadpkaaGreatDoorRows
import Derived.Deep.AppendLies
import Derived.OwnWalk
import Derived.ArgAppend
import Derived.Laws.IdiomCopy
import Derived.Test.YtmfpbhjmnadpkaaGreatDoorPkU12
/- Lists of Seens that are appended to: the law at the walk, and how they are read. Written by tools/mkflat.py. -/
namespace Go.Proofs.YtmfpbhjmnadpkaaGreatDoor.Qc2
open Go.RowKit
open Nd0 Qc0
set_option linter.unusedVariables false

theorem infoASn : (Tryz.prog.info? 40).map (fun i => (i.zero, i.size, i.bytes)) = some (some (.agg #[.string ByteArray.empty, .int .i64 0]), 2, 24) := by kernel_rfl
def flatSn (l : List Sn) : List Value := l.flatMap Sn.cells
theorem cellsSn_length (n : Sn) : n.cells.length = 2 := rfl
theorem flatSn_get (l : List Sn) : ∀ (i : Nat) (h : i < l.length) (j : Nat), j < 2 → (flatSn l)[i * 2 + j]? = (l[i].cells)[j]? := by
  induction l with
  | nil => intro i h; exact absurd h (Nat.not_lt_zero _)
  | cons n l ih =>
    intro i h j hj
    show (n.cells ++ flatSn l)[i * 2 + j]? = _
    cases i with
    | zero => rw [Nat.zero_mul, Nat.zero_add, List.getElem?_append_left (by rw [cellsSn_length]; exact hj)]; rfl
    | succ i =>
      rw [List.getElem?_append_right (by rw [cellsSn_length]; omega), cellsSn_length, show (i + 1) * 2 + j - 2 = i * 2 + j by omega]
      exact ih i (by simpa using h) j hj
theorem flatSn_snoc (l : List Sn) (n : Sn) : flatSn (l ++ [n]) = flatSn l ++ n.cells := by simp [flatSn]
def OwSn (w : World) (B : Nat) (v : Value) (l : List Sn) : Prop := w.ownsRow B 40 2 v l.length (flatSn l)
theorem OwSn.form {w : World} {B : Nat} {v : Value} {l : List Sn} (h : OwSn w B v l) : ∃ a c, v = .slice a l.length c ∧ WSns w B a l ∧ l.length ≤ c := by
  obtain ⟨h1, h2⟩ := h
  rcases h2 with ⟨rfl, h0⟩ | ⟨g, cap, cur, rfl, hb, hg, hn, hm, hs, ht⟩
  · have : l = [] := List.eq_nil_of_length_eq_zero h0
    subst this
    exact ⟨none, 0, rfl, ⟨Nat.zero_le _, .inl rfl⟩, Nat.zero_le _⟩
  · have hcell : ∀ j, j < l.length * 2 → w.cell? ⟨g, j, none⟩ = (flatSn l)[j]? := by
      intro j hj
      rw [cell_of_row w g j cur _ _ hg, ← ht, List.getElem?_take_of_lt hj]
      simp
    refine ⟨_, _, rfl, ⟨by omega, .inr ⟨g, 0, rfl, hb, fun i hi => ?_, fun j hj => ?_⟩⟩, by omega⟩
    · have hf := flatSn_get l i hi
      rw [Nat.zero_add]
      exact ⟨by rw [hcell _ (by omega)]; exact hf 0 (by omega), by rw [hcell _ (by omega)]; exact hf 1 (by omega)⟩
    · rw [Nat.zero_add]
      simp [World.frozen?, hg]
theorem OwSn.lit (w : World) (B : Nat) (hB : B ≤ w.heap.size) : OwSn (w.alloc (.cells #[] 40)) B (.slice (some ⟨w.heap.size, 0, none⟩) 0 0) [] :=
  World.ownsRow_lit w #[] 0 hB (Nat.zero_le _) rfl
theorem OwSn.lt {w : World} {B : Nat} {v : Value} {l : List Sn} (h : OwSn w B v l) : ∀ k, v.ownBlock = some k → B ≤ k ∧ k < w.heap.size := World.ownsRow.lt h
theorem OwSn.kept {w w' : World} {B : Nat} {v : Value} {l : List Sn} (h : OwSn w B v l) {S : Nat → Prop} (k : Kept S w w') (hs : ∀ i, v.ownBlock = some i → ¬ S i) : OwSn w' B v l := by
  refine ⟨h.1, ?_⟩
  rcases h.2 with hn | ⟨g, cap, cur, rfl, hb, hgg, rest⟩
  · exact .inl hn
  · refine .inr ⟨g, cap, cur, rfl, hb, ?_, rest⟩
    rw [k.block g (Array.getElem?_eq_some_iff.1 hgg).1 (hs g rfl)]
    exact hgg
/-- One more. -/
theorem appSn {ops : Array Oper} {rest : List Oper} {o : Oper} {a : Act} {Q : Exit → Act → World → Prop} (W : World) (hgd : o.guard = none) (s x : Operand)
    (ho : o.op = .call { callee := .builtin .append, args := #[s, x], argTypes := #[28, 28] })
    (B : Nat) (v : Value) (l : List Sn) (y : Sn) (hs : a.eval s = v) (G : Nat) (hx : a.eval x = .slice (some ⟨G, 0, none⟩) 1 1) (hG : G = W.heap.size)
    (hown : OwSn W B v l) (hB : B ≤ W.heap.size) (hlen : l.length ≤ 1048576)
    (h : ∀ g cap w', OwSn w' B (.slice (some ⟨g, 0, none⟩) (l.length + 1) cap) (l ++ [y]) → Kept (fun k => v.ownBlock = some k) W w' → (v.ownBlock = some g ∨ W.heap.size ≤ g) → wpList Tryz.prog ops Q rest (a.put o.dst (.slice (some ⟨g, 0, none⟩) (l.length + 1) cap)) w') :
    wpList Tryz.prog ops Q (o :: rest) a (W.alloc (.cells #[.string y.k, .int .i64 y.r] 40)) := by
  subst hG
  obtain ⟨i, hi, hzz⟩ := Option.map_eq_some_iff.1 infoASn
  simp only [Prod.mk.injEq] at hzz
  obtain ⟨hz, hsz, hb⟩ := hzz
  refine wpList_append_lies (W.alloc (.cells #[.string y.k, .int .i64 y.r] 40)) hgd s x 28 ho B 40 i _ 2 24 Tryz.underlying28 hi hz hsz hb rfl (by omega) v l.length (flatSn l) hs (World.ownsRow.alloc hown _)
    ⟨W.heap.size, 0, none⟩ 1 1 y.cells hx rfl ?_ ?_ (by omega) (by unfold maxLen; omega) (by omega) (by simp; omega) _ rfl ?_
  · intro j u hu
    exact World.news_of_block (heap_alloc_new W _) j u hu
  · intro u hu
    simp [Sn.cells] at hu
    rcases hu with rfl | rfl <;> rfl
  · intro g cap w' h1 h2 h3 h4
    refine h g cap w' ?_ ?_ ?_
    · unfold OwSn
      rw [flatSn_snoc, List.length_append]
      exact h1
    · have k1 : Kept (fun k => v.ownBlock = some k) W (W.alloc (.cells #[.string y.k, .int .i64 y.r] 40)) := (Kept.refl _ W).alloc _
      exact k1.trans ⟨h2.os, h2.tape, h2.output, h2.size, fun k hk hn => h2.block k hk (fun e => hn e.symm)⟩
    · rcases h3 with h3 | h3
      · exact .inl h3
      · exact .inr (by rw [h3]; simp)

end Go.Proofs.YtmfpbhjmnadpkaaGreatDoor.Qc2

/- A list of Seens of one's own, at any place of its block: one less at the front, one more at the end. -/
namespace Go.Proofs.YtmfpbhjmnadpkaaGreatDoor.Mw9
open Go.RowKit
open Nd0 Qc0 Qc2
set_option linter.unusedVariables false
/-- The Seens l lie from cell o of block g on, with room for cap of them. -/
structure Lie (w : World) (g o cap : Nat) (l : List Sn) : Prop where
  lt : g < w.heap.size
  le : l.length ≤ cap
  max : cap ≤ maxLen
  cell : ∀ j, j < l.length * 2 → w.cell? ⟨g, o + j, none⟩ = (flatSn l)[j]?
  has : ∀ j, j < cap * 2 → (w.cell? ⟨g, o + j, none⟩).isSome = true
  free : ∀ j, j < cap * 2 → w.frozen? ⟨g, o + j, none⟩ = false
def OwSo (w : World) (B : Nat) (v : Value) (l : List Sn) : Prop :=
  (v = .slice none 0 0 ∧ l = []) ∨ ∃ g o cap, v = .slice (some ⟨g, o, none⟩) l.length cap ∧ B ≤ g ∧ Lie w g o cap l
theorem OwSo.of {w : World} {B : Nat} {v : Value} {l : List Sn} (h : OwSn w B v l) : OwSo w B v l := by
  obtain ⟨h1, h2⟩ := h
  rcases h2 with ⟨rfl, h0⟩ | ⟨g, cap, cur, rfl, hb, hg, hn, hm, hs, ht⟩
  · exact .inl ⟨rfl, List.eq_nil_of_length_eq_zero h0⟩
  · have hcell : ∀ j, w.cell? ⟨g, j, none⟩ = cur[j]? := fun j => cell_of_row w g j cur _ _ hg
    refine .inr ⟨g, 0, cap, rfl, hb, (Array.getElem?_eq_some_iff.1 hg).1, hn, hm, fun j hj => ?_, fun j hj => ?_, fun j hj => ?_⟩
    · rw [Nat.zero_add, hcell, ← ht, List.getElem?_take_of_lt hj]
      simp
    · rw [Nat.zero_add, hcell, Array.getElem?_eq_getElem (by omega)]
      rfl
    · rw [Nat.zero_add]
      simp [World.frozen?, hg]
theorem OwSo.form {w : World} {B : Nat} {v : Value} {l : List Sn} (h : OwSo w B v l) : ∃ a c, v = .slice a l.length c ∧ WSns w B a l ∧ l.length ≤ c := by
  rcases h with ⟨rfl, rfl⟩ | ⟨g, o, cap, rfl, hb, H⟩
  · exact ⟨none, 0, rfl, ⟨Nat.zero_le _, .inl rfl⟩, Nat.zero_le _⟩
  · have h1 := H.le
    have h2 := H.max
    refine ⟨_, _, rfl, ⟨by omega, .inr ⟨g, o, rfl, hb, fun i hi => ?_, fun j hj => ?_⟩⟩, H.le⟩
    · have hf := flatSn_get l i hi
      exact ⟨by rw [H.cell _ (by omega)]; exact hf 0 (by omega), by rw [Nat.add_assoc, H.cell _ (by omega)]; exact hf 1 (by omega)⟩
    · exact H.free j (by omega)
theorem OwSo.lt {w : World} {B : Nat} {v : Value} {l : List Sn} (h : OwSo w B v l) : ∀ g o n c, v = .slice (some ⟨g, o, none⟩) n c → B ≤ g ∧ g < w.heap.size := by
  intro g o n c e
  rcases h with ⟨rfl, rfl⟩ | ⟨g', o', cap, rfl, hb, H⟩
  · cases e
  · cases e
    exact ⟨hb, H.lt⟩
theorem Lie.kept {w w' : World} {g o cap : Nat} {l : List Sn} (h : Lie w g o cap l) {S : Nat → Prop} (k : Kept S w w') (hs : ¬ S g) : Lie w' g o cap l :=
  ⟨Nat.lt_of_lt_of_le h.lt k.size, h.le, h.max, fun j hj => (k.cell (p := ⟨g, o + j, none⟩) h.lt hs).trans (h.cell j hj), fun j hj => by rw [k.cell (p := ⟨g, o + j, none⟩) h.lt hs]; exact h.has j hj, fun j hj => (k.frozen (p := ⟨g, o + j, none⟩) h.lt hs).trans (h.free j hj)⟩
theorem OwSo.kept {w w' : World} {B : Nat} {v : Value} {l : List Sn} (h : OwSo w B v l) {S : Nat → Prop} (k : Kept S w w') (hs : ∀ g o n c, v = .slice (some ⟨g, o, none⟩) n c → ¬ S g) : OwSo w' B v l := by
  rcases h with h | ⟨g, o, cap, rfl, hb, H⟩
  · exact .inl h
  · exact .inr ⟨g, o, cap, rfl, hb, H.kept k (hs g o _ _ rfl)⟩
/-- One less at the front. -/
theorem Lie.tail {w : World} {g o cap : Nat} {x : Sn} {l : List Sn} (h : Lie w g o cap (x :: l)) : Lie w g (o + 2) (cap - 1) l := by
  have h1 := h.le
  have h2 := h.max
  rw [List.length_cons] at h1
  refine ⟨h.lt, by omega, by omega, fun j hj => ?_, fun j hj => ?_, fun j hj => ?_⟩
  · rw [Nat.add_assoc, h.cell (2 + j) (by rw [List.length_cons]; omega)]
    show (x.cells ++ flatSn l)[2 + j]? = _
    rw [List.getElem?_append_right (by rw [cellsSn_length]; omega), cellsSn_length, Nat.add_sub_cancel_left]
  · rw [Nat.add_assoc]; exact h.has _ (by omega)
  · rw [Nat.add_assoc]; exact h.free _ (by omega)
theorem kept_two (w : World) (g o : Nat) (y : Sn) : Kept (fun k => k = g) w (w.setCells g o y.cells) :=
  ((Kept.refl (fun k => k = g) w).setCell (p := ⟨g, o, none⟩) rfl (.string y.k)).setCell (p := ⟨g, o + 1, none⟩) rfl (.int .i64 y.r)
theorem flat_len (l : List Sn) : (flatSn l).length = l.length * 2 := by
  induction l with
  | nil => rfl
  | cons n l ih => show (n.cells ++ flatSn l).length = _; rw [List.length_append, ih, cellsSn_length, List.length_cons]; omega
/-- One more where there is room. -/
theorem Lie.room {w : World} {g o cap : Nat} {l : List Sn} (h : Lie w g o cap l) (y : Sn) (hr : l.length + 1 ≤ cap) : Lie (w.setCells g (o + l.length * 2) y.cells) g o cap (l ++ [y]) := by
  have hcl : y.cells.length = 2 := rfl
  have hfl := flat_len l
  have hin : ∀ j, j < y.cells.length → (w.cell? ⟨g, o + l.length * 2 + j, none⟩).isSome = true := fun j hj => by
    rw [Nat.add_assoc]; exact h.has _ (by omega)
  have hlo : ∀ j, j < l.length * 2 ∨ l.length * 2 + 2 ≤ j → (w.setCells g (o + l.length * 2) y.cells).cell? ⟨g, o + j, none⟩ = w.cell? ⟨g, o + j, none⟩ := fun j hj =>
    World.cell?_setCells_out g _ _ _ _ (fun _ _ => by show o + j < o + l.length * 2 ∨ o + l.length * 2 + y.cells.length ≤ o + j; omega)
  have hmid : ∀ j (hj : j < y.cells.length), (w.setCells g (o + l.length * 2) y.cells).cell? ⟨g, o + (l.length * 2 + j), none⟩ = some y.cells[j] := fun j hj => by
    rw [← Nat.add_assoc]; exact World.cell?_setCells_in g _ _ _ hin j hj
  refine ⟨Nat.lt_of_lt_of_le h.lt (kept_two w g _ y).size, by rw [List.length_append]; exact hr, h.max, fun j hj => ?_, fun j hj => ?_, fun j hj => ?_⟩
  · rw [List.length_append, List.length_singleton] at hj
    rw [flatSn_snoc]
    by_cases hc : j < l.length * 2
    · rw [hlo j (.inl hc), h.cell j hc, List.getElem?_append_left (by omega)]
    · obtain ⟨k, rfl⟩ : ∃ k, j = l.length * 2 + k := ⟨j - l.length * 2, by omega⟩
      rw [hmid k (by omega), List.getElem?_append_right (by omega), hfl, Nat.add_sub_cancel_left, List.getElem?_eq_getElem]
  · by_cases hc : j < l.length * 2 ∨ l.length * 2 + 2 ≤ j
    · rw [hlo j hc]; exact h.has j hj
    · obtain ⟨k, rfl⟩ : ∃ k, j = l.length * 2 + k := ⟨j - l.length * 2, by omega⟩
      rw [hmid k (by omega)]; rfl
  · rw [World.frozen?_setCells]; exact h.free j hj
/-- One more, in either arm. -/
theorem run_so (W : World) (ty : TypeId) (B : Nat) (ao : Option Addr) (c : Nat) (l : List Sn) (y : Sn) (G : Nat) (hy0 : W.cell? ⟨G, 0, none⟩ = some (.string y.k)) (hy1 : W.cell? ⟨G, 1, none⟩ = some (.int .i64 y.r))
    (hown : OwSo W B (.slice ao l.length c) l) (hB : B ≤ W.heap.size) (hlen : l.length ≤ 1048576) :
    ∃ g o cap w', (Builtin.append_ #[28, 28] ty #[.slice ao l.length c, .slice (some ⟨G, 0, none⟩) 1 1]).run Tryz.prog W = .ok (.slice (some ⟨g, o, none⟩) (l.length + 1) cap) w' ∧
      OwSo w' B (.slice (some ⟨g, o, none⟩) (l.length + 1) cap) (l ++ [y]) ∧ Kept (At ao) W w' ∧ (At ao g ∨ W.heap.size ≤ g) := by
  obtain ⟨i, hi, hzz⟩ := Option.map_eq_some_iff.1 infoASn
  simp only [Prod.mk.injEq] at hzz
  obtain ⟨hz, hsz, hb⟩ := hzz
  have hnews : ∀ j u, y.cells[j]? = some u → W.cell? ((⟨G, 0, none⟩ : Addr).add j) = some u := by
    intro j u hu
    have hj : j < 2 := (List.getElem?_eq_some_iff.1 hu).1
    have hadd : (⟨G, 0, none⟩ : Addr).add j = ⟨G, j, none⟩ := by unfold Addr.add; split <;> simp_all
    rw [hadd]
    match j, hj with
    | 0, _ => rw [hy0]; exact hu
    | 1, _ => rw [hy1]; exact hu
  have h1 : ∀ u ∈ y.cells, u.oneCell' = true := by
    intro u hu
    simp [Sn.cells] at hu
    rcases hu with rfl | rfl <;> rfl
  have hll : (l ++ [y]).length = l.length + 1 := by rw [List.length_append]; rfl
  have end_own : ∀ v' w', w'.ownsRow W.heap.size 40 2 v' (l.length + 1) (flatSn l ++ y.cells) → W.grownBy w' none →
      ∃ g o cap, v' = .slice (some ⟨g, o, none⟩) (l.length + 1) cap ∧ OwSo w' B (.slice (some ⟨g, o, none⟩) (l.length + 1) cap) (l ++ [y]) ∧ Kept (At ao) W w' ∧ (At ao g ∨ W.heap.size ≤ g) := by
    intro v' w' r1 r2
    have r1' : OwSn w' W.heap.size v' (l ++ [y]) := by
      unfold OwSn
      rw [flatSn_snoc, hll]
      exact r1
    rcases OwSo.of r1' with ⟨_, e⟩ | ⟨g, o, cap, rfl, hg, H⟩
    · exact absurd e (by simp)
    · rw [hll]
      exact ⟨g, o, cap, rfl, .inr ⟨g, o, cap, by rw [hll], Nat.le_trans hB hg, H⟩, ⟨r2.os, r2.tape, r2.output, r2.size, fun k hk _ => r2.block k hk (by simp)⟩, .inr hg⟩
  rcases hown with ⟨e1, rfl⟩ | ⟨g, o, cap, e1, hBg, H⟩
  · cases e1
    obtain ⟨v', w', hrun, r1, r2, _⟩ := run_append_own (P := Tryz.prog) W W.heap.size 28 ty 40 i _ 2 24 Tryz.underlying28 hi hz hsz hb rfl (by omega) (.slice none 0 0) 0 [] (World.ownsRow_nil W _ 40 2) ⟨G, 0, none⟩ 1 1 y.cells rfl hnews h1 (by unfold maxLen; omega) (by omega) (Nat.le_refl _)
    obtain ⟨g, o, cap, rfl, q1, q2, q3⟩ := end_own v' w' r1 r2
    exact ⟨g, o, cap, w', hrun, q1, q2, q3⟩
  · cases e1
    by_cases hr : l.length + 1 ≤ c
    · have hrun := run_append_room_cells (P := Tryz.prog) W 28 ty 40 i Tryz.underlying28 hi g o l.length c ⟨G, 0, none⟩ 1 1 y.cells (by rw [hsz]; rfl) hnews h1 hr
        (fun j hj => by have hj2 : j < 2 := hj; rw [hsz, Nat.add_assoc]; exact H.has _ (by omega)) (fun j hj => by have hj2 : j < 2 := hj; rw [hsz, Nat.add_assoc]; exact H.free _ (by omega))
      rw [hsz] at hrun
      exact ⟨g, o, c, _, hrun, .inr ⟨g, o, c, by rw [hll], hBg, H.room y hr⟩, (kept_two W g _ y).mono (fun k hk => ⟨_, rfl, hk⟩), .inl ⟨_, rfl, rfl⟩⟩
    · obtain ⟨v', w', hrun, r1, r2⟩ := run_append_arg_grows (P := Tryz.prog) W 28 ty 40 i _ 2 24 Tryz.underlying28 hi hz hsz hb rfl (by omega) ⟨g, o, none⟩ l.length c (flatSn l) (flat_len l)
        (fun j u hu => by rw [Addr.add_lit, H.cell j (by have := (List.getElem?_eq_some_iff.1 hu).1; rw [flat_len] at this; exact this)]; exact hu) ⟨G, 0, none⟩ 1 1 y.cells rfl hnews (by omega) (by unfold maxLen; omega) (by omega)
      obtain ⟨g', o', cap', rfl, q1, q2, q3⟩ := end_own v' w' r1 r2
      exact ⟨g', o', cap', w', hrun, q1, q2, q3⟩
/-- The same at a step of a region that draws. -/
theorem step_so {ops : Array Oper} {o : Oper} {a : Act} {K : Act → World → Prop} {Q : Exit → Act → World → Prop} {E : Prop} (W : World) (hgd : o.guard = none) (s x : Operand)
    (ho : o.op = .call { callee := .builtin .append, args := #[s, x], argTypes := #[28, 28] })
    (B : Nat) (ao : Option Addr) (c : Nat) (l : List Sn) (y : Sn) (hs : a.eval s = .slice ao l.length c) (G : Nat) (hx : a.eval x = .slice (some ⟨G, 0, none⟩) 1 1)
    (hy0 : W.cell? ⟨G, 0, none⟩ = some (.string y.k)) (hy1 : W.cell? ⟨G, 1, none⟩ = some (.int .i64 y.r))
    (hown : OwSo W B (.slice ao l.length c) l) (hB : B ≤ W.heap.size) (hlen : l.length ≤ 1048576)
    (h : ∀ g q cap w', OwSo w' B (.slice (some ⟨g, q, none⟩) (l.length + 1) cap) (l ++ [y]) → Kept (At ao) W w' → (At ao g ∨ W.heap.size ≤ g) → K (a.put o.dst (.slice (some ⟨g, q, none⟩) (l.length + 1) cap)) w') :
    if Region.wanted o (yielded ops a.tmps) = true then Oper.wp Tryz.prog o a W K Q else E := by
  have hw : Region.wanted o (yielded ops a.tmps) = true := by simp [Region.wanted, hgd]
  rw [if_pos hw]
  obtain ⟨g, q, cap, w', hrun, q1, q2, q3⟩ := run_so W o.type B ao c l y G hy0 hy1 hown hB hlen
  unfold Oper.wp
  simp [execOp, ho, resolve, invoke, builtin, hs, hx, hrun, Result.andThen]
  exact h g q cap w' q1 q2 q3
end Go.Proofs.YtmfpbhjmnadpkaaGreatDoor.Mw9
