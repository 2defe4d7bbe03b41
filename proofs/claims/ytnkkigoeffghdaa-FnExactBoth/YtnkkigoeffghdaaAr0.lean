/- Lists of arrays of eight numbers in memory: read, written, appended to, made. Written by tools/mkar.py. -/
import Derived.Test.YtnkkigoeffghdaaRows
import Derived.Deep.AppendLies
import Derived.OwnWalk
import Derived.Laws.MakeOwn
import Derived.Test.YtnkkigoeffghdaaPk150
namespace Go.Proofs.Ytnkkigoeffghdaa.Ar0
open Go.RowKit
open Nd0
set_option linter.unusedVariables false

abbrev Ar := Nat → Int
def Ar.nil : Ar := fun _ => 0
def Ar.cells (n : Ar) : List Value := [.int .i64 (n 0), .int .i64 (n 1), .int .i64 (n 2), .int .i64 (n 3), .int .i64 (n 4), .int .i64 (n 5), .int .i64 (n 6), .int .i64 (n 7)]
abbrev av (n : Ar) : Value := .agg #[.int .i64 (n 0), .int .i64 (n 1), .int .i64 (n 2), .int .i64 (n 3), .int .i64 (n 4), .int .i64 (n 5), .int .i64 (n 6), .int .i64 (n 7)]
structure ArAt (w : World) (b p : Nat) (n : Ar) : Prop where
  c0 : w.cell? ⟨b, p, none⟩ = some (.int .i64 (n 0))
  c1 : w.cell? ⟨b, p + 1, none⟩ = some (.int .i64 (n 1))
  c2 : w.cell? ⟨b, p + 2, none⟩ = some (.int .i64 (n 2))
  c3 : w.cell? ⟨b, p + 3, none⟩ = some (.int .i64 (n 3))
  c4 : w.cell? ⟨b, p + 4, none⟩ = some (.int .i64 (n 4))
  c5 : w.cell? ⟨b, p + 5, none⟩ = some (.int .i64 (n 5))
  c6 : w.cell? ⟨b, p + 6, none⟩ = some (.int .i64 (n 6))
  c7 : w.cell? ⟨b, p + 7, none⟩ = some (.int .i64 (n 7))
theorem ArAt.at {w : World} {b p : Nat} {n : Ar} (h : ArAt w b p n) {v : Nat} (hv : v < 8) : w.cell? ⟨b, p + v, none⟩ = some (.int .i64 (n v)) := by
  obtain ⟨c0, c1, c2, c3, c4, c5, c6, c7⟩ := h
  rcases (show v = 0 ∨ v = 1 ∨ v = 2 ∨ v = 3 ∨ v = 4 ∨ v = 5 ∨ v = 6 ∨ v = 7 by omega) with rfl | rfl | rfl | rfl | rfl | rfl | rfl | rfl
  · exact c0
  · exact c1
  · exact c2
  · exact c3
  · exact c4
  · exact c5
  · exact c6
  · exact c7
theorem ArAt.of {w : World} {b p : Nat} {n : Ar} (h : ∀ v, v < 8 → w.cell? ⟨b, p + v, none⟩ = some (.int .i64 (n v))) : ArAt w b p n :=
  ⟨h 0 (by omega), h 1 (by omega), h 2 (by omega), h 3 (by omega), h 4 (by omega), h 5 (by omega), h 6 (by omega), h 7 (by omega)⟩
theorem ArAt.congr {w : World} {b p : Nat} {n m : Ar} (h : ArAt w b p n) (e : ∀ v, v < 8 → n v = m v) : ArAt w b p m := ArAt.of fun v hv => by rw [← e v hv]; exact h.at hv
theorem ArAt.lt {w : World} {b p : Nat} {n : Ar} (h : ArAt w b p n) : b < w.heap.size := lt_of_cell (p := ⟨b, p, none⟩) h.c0
theorem ArAt.kept {w w' : World} {b p : Nat} {n : Ar} (h : ArAt w b p n) {S : Nat → Prop} (k : Kept S w w') (hs : ¬ S b) : ArAt w' b p n :=
  ArAt.of fun v hv => by rw [k.cell (p := ⟨b, p + v, none⟩) h.lt hs]; exact h.at hv
theorem ArAt.below {w w' : World} {b p : Nat} {n : Ar} (h : ArAt w b p n) {B : Nat} (k : Below B w w') (hb : b < B) : ArAt w' b p n :=
  ArAt.of fun v hv => by rw [k.cell (p := ⟨b, p + v, none⟩) hb]; exact h.at hv
/-- A slice of l can be read at address a. -/
def Ars (w : World) (a : Option Addr) (l : List Ar) : Prop :=
  l.length ≤ maxLen ∧ (l.length = 0 ∨ ∃ b o, a = some ⟨b, o, none⟩ ∧ ∀ i (h : i < l.length), ArAt w b (o + i * 8) l[i])
theorem Ars.below {w w' : World} {a : Option Addr} {l : List Ar} (h : Ars w a l) (k : Below w.heap.size w w') : Ars w' a l := by
  refine ⟨h.1, ?_⟩
  rcases h.2 with h0 | ⟨b, o, rfl, hc⟩
  · exact .inl h0
  · exact .inr ⟨b, o, rfl, fun i hi => (hc i hi).below k (hc i hi).lt⟩
def WArs (w : World) (B : Nat) (a : Option Addr) (l : List Ar) : Prop :=
  l.length ≤ maxLen ∧ (l.length = 0 ∨ ∃ b o, a = some ⟨b, o, none⟩ ∧ B ≤ b ∧ (∀ i (h : i < l.length), ArAt w b (o + i * 8) l[i]) ∧ ∀ j, j < l.length * 8 → w.frozen? ⟨b, o + j, none⟩ = false)
theorem WArs.plain {w : World} {B : Nat} {a : Option Addr} {l : List Ar} (h : WArs w B a l) : Ars w a l := by
  refine ⟨h.1, ?_⟩
  rcases h.2 with h0 | ⟨b, o, ha, _, hc, _⟩
  · exact .inl h0
  · exact .inr ⟨b, o, ha, hc⟩
def setAr (w : World) (b p : Nat) (n : Ar) : World :=
  (((((((w.setCell ⟨b, p, none⟩ (.int .i64 (n 0))).setCell ⟨b, p + 1, none⟩ (.int .i64 (n 1))).setCell ⟨b, p + 2, none⟩ (.int .i64 (n 2))).setCell ⟨b, p + 3, none⟩ (.int .i64 (n 3))).setCell ⟨b, p + 4, none⟩ (.int .i64 (n 4))).setCell ⟨b, p + 5, none⟩ (.int .i64 (n 5))).setCell ⟨b, p + 6, none⟩ (.int .i64 (n 6))).setCell ⟨b, p + 7, none⟩ (.int .i64 (n 7))
theorem setAr_same {w : World} {b p : Nat} {v n : Ar} (h : ArAt w b p v) : ArAt (setAr w b p n) b p n := by
  obtain ⟨c0, c1, c2, c3, c4, c5, c6, c7⟩ := h
  unfold setAr
  refine ⟨?_, ?_, ?_, ?_, ?_, ?_, ?_, ?_⟩
  · rw [set_other (by simp), set_other (by simp), set_other (by simp), set_other (by simp), set_other (by simp), set_other (by simp), set_other (by simp)]; exact set_same (c0)
  · rw [set_other (by simp), set_other (by simp), set_other (by simp), set_other (by simp), set_other (by simp), set_other (by simp)]; exact set_same (by rw [set_other (by simp)]; exact c1)
  · rw [set_other (by simp), set_other (by simp), set_other (by simp), set_other (by simp), set_other (by simp)]; exact set_same (by rw [set_other (by simp), set_other (by simp)]; exact c2)
  · rw [set_other (by simp), set_other (by simp), set_other (by simp), set_other (by simp)]; exact set_same (by rw [set_other (by simp), set_other (by simp), set_other (by simp)]; exact c3)
  · rw [set_other (by simp), set_other (by simp), set_other (by simp)]; exact set_same (by rw [set_other (by simp), set_other (by simp), set_other (by simp), set_other (by simp)]; exact c4)
  · rw [set_other (by simp), set_other (by simp)]; exact set_same (by rw [set_other (by simp), set_other (by simp), set_other (by simp), set_other (by simp), set_other (by simp)]; exact c5)
  · rw [set_other (by simp)]; exact set_same (by rw [set_other (by simp), set_other (by simp), set_other (by simp), set_other (by simp), set_other (by simp), set_other (by simp)]; exact c6)
  · exact set_same (by rw [set_other (by simp), set_other (by simp), set_other (by simp), set_other (by simp), set_other (by simp), set_other (by simp), set_other (by simp)]; exact c7)
theorem setAr_cell {w : World} {b p : Nat} {n : Ar} {q : Nat} (h : q < p ∨ p + 8 ≤ q) : (setAr w b p n).cell? ⟨b, q, none⟩ = w.cell? ⟨b, q, none⟩ := by
  unfold setAr
  rw [set_other (by simp <;> omega), set_other (by simp <;> omega), set_other (by simp <;> omega), set_other (by simp <;> omega), set_other (by simp <;> omega), set_other (by simp <;> omega), set_other (by simp <;> omega), set_other (by simp <;> omega)]
theorem setAr_frozen {w : World} {b p : Nat} {n : Ar} {q : Addr} : (setAr w b p n).frozen? q = w.frozen? q := by
  unfold setAr; simp only [World.frozen?_setCell]
theorem setAr_other {w : World} {b p q : Nat} {v n : Ar} (h : ArAt w b q v) (hq : q + 8 ≤ p ∨ p + 8 ≤ q) : ArAt (setAr w b p n) b q v :=
  ArAt.of fun j hj => by rw [setAr_cell (by omega)]; exact h.at hj
theorem setAr_keptS {S : Nat → Prop} {b p : Nat} {u w : World} {n : Ar} (hS : S b) (h : Kept S u w) : Kept S u (setAr w b p n) :=
  (((((((h.setCell (p := ⟨b, p, none⟩) hS _).setCell (p := ⟨b, p + 1, none⟩) hS _).setCell (p := ⟨b, p + 2, none⟩) hS _).setCell (p := ⟨b, p + 3, none⟩) hS _).setCell (p := ⟨b, p + 4, none⟩) hS _).setCell (p := ⟨b, p + 5, none⟩) hS _).setCell (p := ⟨b, p + 6, none⟩) hS _).setCell (p := ⟨b, p + 7, none⟩) hS _
theorem infoAr : (Try.prog.info? 86).map (fun i => (i.zero, i.size, i.bytes)) = some (some (.agg #[.int .i64 0, .int .i64 0, .int .i64 0, .int .i64 0, .int .i64 0, .int .i64 0, .int .i64 0, .int .i64 0]), 8, 64) := by kernel_rfl
def flatA (l : List Ar) : List Value := l.flatMap Ar.cells
theorem flatA_get (l : List Ar) : ∀ (i : Nat) (h : i < l.length) (j : Nat), j < 8 → (flatA l)[i * 8 + j]? = (l[i].cells)[j]? := by
  induction l with
  | nil => intro i h; exact absurd h (Nat.not_lt_zero _)
  | cons n l ih =>
    intro i h j hj
    show (n.cells ++ flatA l)[i * 8 + j]? = _
    have hl : n.cells.length = 8 := rfl
    cases i with
    | zero => rw [Nat.zero_mul, Nat.zero_add, List.getElem?_append_left (by omega)]; rfl
    | succ i =>
      rw [List.getElem?_append_right (by omega), hl, show (i + 1) * 8 + j - 8 = i * 8 + j by omega]
      exact ih i (by simpa using h) j hj
theorem flatA_snoc (l : List Ar) (n : Ar) : flatA (l ++ [n]) = flatA l ++ n.cells := by simp [flatA]
def OwA (w : World) (B : Nat) (v : Value) (l : List Ar) : Prop := w.ownsRow B 86 8 v l.length (flatA l)
theorem cellA (n : Ar) {j : Nat} (hj : j < 8) : n.cells[j]? = some (.int .i64 (n j)) := by
  rcases (show j = 0 ∨ j = 1 ∨ j = 2 ∨ j = 3 ∨ j = 4 ∨ j = 5 ∨ j = 6 ∨ j = 7 by omega) with rfl | rfl | rfl | rfl | rfl | rfl | rfl | rfl <;> rfl
theorem OwA.form {w : World} {B : Nat} {v : Value} {l : List Ar} (h : OwA w B v l) : ∃ a c, v = .slice a l.length c ∧ WArs w B a l ∧ l.length ≤ c := by
  obtain ⟨h1, h2⟩ := h
  rcases h2 with ⟨rfl, h0⟩ | ⟨g, cap, cur, rfl, hb, hg, hn, hm, hs, ht⟩
  · have : l = [] := List.eq_nil_of_length_eq_zero h0
    subst this
    exact ⟨none, 0, rfl, ⟨Nat.zero_le _, .inl rfl⟩, Nat.zero_le _⟩
  · have hcell : ∀ j, j < l.length * 8 → w.cell? ⟨g, j, none⟩ = (flatA l)[j]? := by
      intro j hj
      rw [cell_of_row w g j cur _ _ hg, ← ht, List.getElem?_take_of_lt hj]
      simp
    refine ⟨_, _, rfl, ⟨by omega, .inr ⟨g, 0, rfl, hb, fun i hi => ArAt.of fun v hv => ?_, fun j hj => ?_⟩⟩, by omega⟩
    · rw [Nat.zero_add, hcell _ (by omega), flatA_get l i hi v hv]
      exact cellA _ hv
    · rw [Nat.zero_add]
      simp [World.frozen?, hg]
theorem OwA.lit (w : World) (B : Nat) (hB : B ≤ w.heap.size) : OwA (w.alloc (.cells #[] 86)) B (.slice (some ⟨w.heap.size, 0, none⟩) 0 0) [] :=
  World.ownsRow_lit w #[] 0 hB (Nat.zero_le _) rfl
theorem OwA.lt {w : World} {B : Nat} {v : Value} {l : List Ar} (h : OwA w B v l) : ∀ k, v.ownBlock = some k → B ≤ k ∧ k < w.heap.size := World.ownsRow.lt h
theorem OwA.kept {w w' : World} {B : Nat} {v : Value} {l : List Ar} (h : OwA w B v l) {S : Nat → Prop} (k : Kept S w w') (hs : ∀ i, v.ownBlock = some i → ¬ S i) : OwA w' B v l := by
  refine ⟨h.1, ?_⟩
  rcases h.2 with hn | ⟨g, cap, cur, rfl, hb, hgg, rest⟩
  · exact .inl hn
  · refine .inr ⟨g, cap, cur, rfl, hb, ?_, rest⟩
    rw [k.block g (Array.getElem?_eq_some_iff.1 hgg).1 (hs g rfl)]
    exact hgg
/-- One more. -/
theorem app_a {ops : Array Oper} {rest : List Oper} {o : Oper} {a : Act} {Q : Exit → Act → World → Prop} (W : World) (hgd : o.guard = none) (s x : Operand)
    (ho : o.op = .call { callee := .builtin .append, args := #[s, x], argTypes := #[115, 115] })
    (B : Nat) (v : Value) (l : List Ar) (n : Ar) (hs : a.eval s = v) (G : Nat) (hx : a.eval x = .slice (some ⟨G, 0, none⟩) 1 1) (hG : G = W.heap.size)
    (hown : OwA W B v l) (hB : B ≤ W.heap.size) (hlen : l.length ≤ 1048576)
    (h : ∀ g cap w', OwA w' B (.slice (some ⟨g, 0, none⟩) (l.length + 1) cap) (l ++ [n]) → Kept (fun k => v.ownBlock = some k) W w' → (v.ownBlock = some g ∨ W.heap.size ≤ g) → wpList Try.prog ops Q rest (a.put o.dst (.slice (some ⟨g, 0, none⟩) (l.length + 1) cap)) w') :
    wpList Try.prog ops Q (o :: rest) a (W.alloc (.cells #[.int .i64 (n 0), .int .i64 (n 1), .int .i64 (n 2), .int .i64 (n 3), .int .i64 (n 4), .int .i64 (n 5), .int .i64 (n 6), .int .i64 (n 7)] 86)) := by
  subst hG
  obtain ⟨i, hi, hzz⟩ := Option.map_eq_some_iff.1 infoAr
  simp only [Prod.mk.injEq] at hzz
  obtain ⟨hz, hsz, hb⟩ := hzz
  refine wpList_append_lies (W.alloc (.cells #[.int .i64 (n 0), .int .i64 (n 1), .int .i64 (n 2), .int .i64 (n 3), .int .i64 (n 4), .int .i64 (n 5), .int .i64 (n 6), .int .i64 (n 7)] 86)) hgd s x 115 ho B 86 i _ 8 64 Try.underlying115 hi hz hsz hb rfl (by omega) v l.length (flatA l) hs (World.ownsRow.alloc hown _)
    ⟨W.heap.size, 0, none⟩ 1 1 n.cells hx rfl ?_ ?_ (by omega) (by unfold maxLen; omega) (by omega) (by simp; omega) _ rfl ?_
  · intro j u hu
    exact World.news_of_block (heap_alloc_new W _) j u hu
  · intro u hu
    simp [Ar.cells] at hu
    rcases hu with rfl | rfl | rfl | rfl | rfl | rfl | rfl | rfl <;> rfl
  · intro g cap w' h1 h2 h3 h4
    refine h g cap w' ?_ ?_ ?_
    · unfold OwA
      rw [flatA_snoc, List.length_append]
      exact h1
    · have k1 : Kept (fun k => v.ownBlock = some k) W (W.alloc (.cells #[.int .i64 (n 0), .int .i64 (n 1), .int .i64 (n 2), .int .i64 (n 3), .int .i64 (n 4), .int .i64 (n 5), .int .i64 (n 6), .int .i64 (n 7)] 86)) := (Kept.refl _ W).alloc _
      exact k1.trans ⟨h2.os, h2.tape, h2.output, h2.size, fun k hk hn => h2.block k hk (fun e => hn e.symm)⟩
    · rcases h3 with h3 | h3
      · exact .inl h3
      · exact .inr (by rw [h3]; simp)
/-- n arrays of noughts. -/
def zerosA (n : Nat) : Array Value := madeCells #[.int .i64 0, .int .i64 0, .int .i64 0, .int .i64 0, .int .i64 0, .int .i64 0, .int .i64 0, .int .i64 0] (n * 8)
theorem makeAs (n : Nat) (hn : n ≤ 1048576) (w : World) :
    (Instr.makeSlice 115 (.int .i64 (n : Int)) (.int .i64 (n : Int))).run Try.prog w = .ok (.slice (some ⟨w.heap.size, 0, none⟩) n n) (w.alloc (.cells (zerosA n) 86)) := by
  obtain ⟨i, hi, hzz⟩ := Option.map_eq_some_iff.1 infoAr
  simp only [Prod.mk.injEq] at hzz
  obtain ⟨hz, hs, hb⟩ := hzz
  have h := run_make (P := Try.prog) w 115 86 i _ Try.underlying115 hi hz .i64 .i64 n n (by omega) (Int.le_refl _) (by rw [hb]; omega) (by omega)
  rw [hs] at h
  simpa [zerosA, Value.cells] using h
theorem zerosA_get (n j : Nat) (h : j < n * 8) : (zerosA n)[j]? = some (.int .i64 0) := by
  have hz : ∀ m, m < 8 → (#[.int .i64 0, .int .i64 0, .int .i64 0, .int .i64 0, .int .i64 0, .int .i64 0, .int .i64 0, .int .i64 0] : Array Value)[m]! = .int .i64 0 := by
    intro m hm
    rcases (show m = 0 ∨ m = 1 ∨ m = 2 ∨ m = 3 ∨ m = 4 ∨ m = 5 ∨ m = 6 ∨ m = 7 by omega) with rfl | rfl | rfl | rfl | rfl | rfl | rfl | rfl <;> rfl
  simp only [zerosA, madeCells, Array.getElem?_map, Array.getElem?_range]
  rw [if_pos h]
  simp only [Option.map_some]
  exact congrArg some (hz _ (Nat.mod_lt _ (by simp)))
theorem zerosA_at (w : World) (n : Nat) (T : Nat) (j : Nat) (hj : j < n) : ArAt (w.alloc (.cells (zerosA n) T)) w.heap.size (j * 8) Ar.nil :=
  ArAt.of fun v hv => by rw [World.cell?_alloc_new]; exact zerosA_get n _ (by omega)
/-- The first n arrays of block g are what f tells, and may be written. -/
def RowA (w : World) (g n : Nat) (f : Nat → Ar) : Prop := ∀ i, i < n → ArAt w g (i * 8) (f i) ∧ ∀ j, j < 8 → w.frozen? ⟨g, i * 8 + j, none⟩ = false
theorem RowA.kept {w w' : World} {g n : Nat} {f : Nat → Ar} (h : RowA w g n f) {S : Nat → Prop} (k : Kept S w w') (hs : ¬ S g) : RowA w' g n f := fun i hi => by
  obtain ⟨h1, hf⟩ := h i hi
  exact ⟨h1.kept k hs, fun j hj => by rw [k.frozen (p := ⟨g, i * 8 + j, none⟩) h1.lt hs]; exact hf j hj⟩
theorem RowA.below {w w' : World} {g n : Nat} {f : Nat → Ar} (h : RowA w g n f) (k : Below w.heap.size w w') : RowA w' g n f := h.kept (S := fun _ => False) (Kept.ofBelow k) (fun h => h)
theorem RowA.congr {w : World} {g n : Nat} {f f' : Nat → Ar} (h : RowA w g n f) (e : ∀ i, i < n → f i = f' i) : RowA w g n f' := fun i hi => by rw [← e i hi]; exact h i hi
theorem RowA.lt {w : World} {g n : Nat} {f : Nat → Ar} (h : RowA w g n f) (hn : 0 < n) : g < w.heap.size := (h 0 hn).1.lt
theorem RowA.set {w : World} {g n : Nat} {f : Nat → Ar} (h : RowA w g n f) {p : Nat} (hp : p < n) (v : Ar) : RowA (setAr w g (p * 8) v) g n (fun i => if i = p then v else f i) := by
  intro i hi
  refine ⟨?_, fun j hj => by rw [setAr_frozen]; exact (h i hi).2 j hj⟩
  by_cases e : i = p
  · subst e
    dsimp only
    rw [if_pos rfl]
    exact setAr_same (h i hi).1
  · dsimp only
    rw [if_neg e]
    exact setAr_other (h i hi).1 (by omega)
theorem RowA.new (w : World) (n T : Nat) : RowA (w.alloc (.cells (zerosA n) T)) w.heap.size n (fun _ => Ar.nil) := fun i hi => ⟨zerosA_at w n T i hi, fun j hj => by simp⟩

end Go.Proofs.Ytnkkigoeffghdaa.Ar0
