/- Small texts of mine, one behind the other. -/
import Derived.Test.YtebejleeadofcaaRows
import Derived.Deep.AppendLies
import Derived.OwnWalk
import Derived.Test.YtebejleeadofcaaNd0
import Derived.Test.YtebejleeadofcaaPkXF10
import Derived.Test.YtebejleeadofcaaPkXF3
/- Lists of flags that are appended to and written: the law at the walk, and how they are read. -/
namespace Go.Proofs.Ytebejleeadofcaa.Ap1
open Go.RowKit
open Nd0
set_option linter.unusedVariables false

/-- A slice of the flags l, in a block from B on, that may be written. -/
def WBools (w : World) (B : Nat) (a : Option Addr) (l : List Bool) : Prop :=
  l.length ≤ maxLen ∧ (l.length = 0 ∨ ∃ b o, a = some ⟨b, o, none⟩ ∧ B ≤ b ∧ ∀ i (h : i < l.length), w.cell? ⟨b, o + i, none⟩ = some (.bool l[i]) ∧ w.frozen? ⟨b, o + i, none⟩ = false)

theorem infoBool : (Try.prog.info? 4).map (fun i => (i.zero, i.size, i.bytes)) = some (some (.bool false), 1, 1) := by kernel_rfl

/-- The slice v, in a block from B on, is the flags l and may be appended to. -/
def Owb (w : World) (B : Nat) (v : Value) (l : List Bool) : Prop := w.ownsRow B 4 1 v l.length (l.map fun x => .bool x)

theorem Owb.form {w : World} {B : Nat} {v : Value} {l : List Bool} (h : Owb w B v l) : ∃ a c, v = .slice a l.length c ∧ WBools w B a l := by
  obtain ⟨h1, h2⟩ := h
  rcases h2 with ⟨rfl, h0⟩ | ⟨g, cap, cur, rfl, hb, hg, hn, hm, hs, ht⟩
  · have : l = [] := List.eq_nil_of_length_eq_zero h0
    subst this
    exact ⟨none, 0, rfl, Nat.zero_le _, .inl rfl⟩
  · refine ⟨_, _, rfl, by omega, .inr ⟨g, 0, rfl, hb, fun i hi => ⟨?_, ?_⟩⟩⟩
    · rw [Nat.zero_add, cell_of_row w g i cur _ _ hg]
      have e : (cur.toList.take (l.length * 1))[i]? = some (.bool l[i]) := by rw [ht]; simp [hi]
      rw [List.getElem?_take_of_lt (by omega)] at e
      simpa using e
    · rw [Nat.zero_add]
      simp [World.frozen?, hg]
theorem Owb.lit (w : World) (B : Nat) (hB : B ≤ w.heap.size) : Owb (w.alloc (.cells #[] 4)) B (.slice (some ⟨w.heap.size, 0, none⟩) 0 0) [] :=
  World.ownsRow_lit w #[] 0 hB (Nat.zero_le _) rfl
theorem Owb.lt {w : World} {B : Nat} {v : Value} {l : List Bool} (h : Owb w B v l) : ∀ k, v.ownBlock = some k → B ≤ k ∧ k < w.heap.size := World.ownsRow.lt h
theorem Owb.kept {w w' : World} {B : Nat} {v : Value} {l : List Bool} (h : Owb w B v l) {S : Nat → Prop} (k : Kept S w w') (hs : ∀ i, v.ownBlock = some i → ¬ S i) : Owb w' B v l := by
  refine ⟨h.1, ?_⟩
  rcases h.2 with hn | ⟨g, cap, cur, rfl, hb, hgg, rest⟩
  · exact .inl hn
  · refine .inr ⟨g, cap, cur, rfl, hb, ?_, rest⟩
    rw [k.block g (Array.getElem?_eq_some_iff.1 hgg).1 (hs g rfl)]
    exact hgg

/-- A flag written over. -/
theorem Owb.set {w : World} {B g cap : Nat} {l : List Bool} (h : Owb w B (.slice (some ⟨g, 0, none⟩) l.length cap) l) (j : Nat) (x : Bool) : Owb (w.setCell ⟨g, j, none⟩ (.bool x)) B (.slice (some ⟨g, 0, none⟩) l.length cap) (l.set j x) := by
  have h1 := (World.ownsRow.stored h j (.bool x)).1
  unfold Owb
  rw [List.map_set, List.length_set]
  exact h1
theorem Owb.cell {w : World} {B g cap : Nat} {l : List Bool} (h : Owb w B (.slice (some ⟨g, 0, none⟩) l.length cap) l) (j : Nat) (hj : j < l.length) : w.cell? ⟨g, j, none⟩ = some (.bool l[j]) ∧ w.frozen? ⟨g, j, none⟩ = false := by
  obtain ⟨a, c, hv, hw⟩ := h.form
  cases hv
  rcases hw.2 with h0 | ⟨b, o, hb, _, hc⟩
  · omega
  · cases hb
    have := hc j hj
    rw [Nat.zero_add] at this
    exact this

theorem Owb.set' {w : World} {B g cap n : Nat} {l : List Bool} (h : Owb w B (.slice (some ⟨g, 0, none⟩) n cap) l) (hn : l.length = n) (j : Nat) (x : Bool) : Owb (w.setCell ⟨g, j, none⟩ (.bool x)) B (.slice (some ⟨g, 0, none⟩) n cap) (l.set j x) := by
  subst hn; exact h.set j x
theorem Owb.cell' {w : World} {B g cap n : Nat} {l : List Bool} (h : Owb w B (.slice (some ⟨g, 0, none⟩) n cap) l) (hn : l.length = n) (j : Nat) (hj : j < n) : w.cell? ⟨g, j, none⟩ = some (.bool (l[j]'(by omega))) ∧ w.frozen? ⟨g, j, none⟩ = false := by
  subst hn; exact h.cell j hj
theorem Owb.at {w : World} {B : Nat} {v : Value} {l : List Bool} (h : Owb w B v l) (hl : 1 ≤ l.length) : ∃ g c, v = .slice (some ⟨g, 0, none⟩) l.length c ∧ B ≤ g ∧ g < w.heap.size := by
  rcases h.2 with ⟨rfl, h0⟩ | ⟨g, cap, cur, rfl, hb, hg, _⟩
  · omega
  · exact ⟨g, cap, rfl, hb, (Array.getElem?_eq_some_iff.1 hg).1⟩

/-- One flag more. -/
theorem app_bool {ops : Array Oper} {rest : List Oper} {o : Oper} {a : Act} {Q : Exit → Act → World → Prop} (W : World) (hgd : o.guard = none) (s x : Operand)
    (ho : o.op = .call { callee := .builtin .append, args := #[s, x], argTypes := #[36, 36] })
    (B : Nat) (v : Value) (l : List Bool) (y : Bool) (hs : a.eval s = v) (hx : a.eval x = .slice (some ⟨W.heap.size, 0, none⟩) 1 1)
    (hown : Owb W B v l) (hB : B ≤ W.heap.size) (hlen : l.length ≤ 1048576)
    (h : ∀ g cap w', Owb w' B (.slice (some ⟨g, 0, none⟩) (l.length + 1) cap) (l ++ [y]) → Kept (fun k => v.ownBlock = some k) W w' → (v.ownBlock = some g ∨ W.heap.size ≤ g) → wpList Try.prog ops Q rest (a.put o.dst (.slice (some ⟨g, 0, none⟩) (l.length + 1) cap)) w') :
    wpList Try.prog ops Q (o :: rest) a (W.alloc (.cells #[.bool y] 4)) := by
  obtain ⟨i, hi, hzz⟩ := Option.map_eq_some_iff.1 infoBool
  simp only [Prod.mk.injEq] at hzz
  obtain ⟨hz, hsz, hb⟩ := hzz
  refine wpList_append_lies (W.alloc (.cells #[.bool y] 4)) hgd s x 36 ho B 4 i (.bool false) 1 1 Try.underlying36 hi hz hsz hb rfl (by omega) v l.length (l.map fun x => .bool x) hs (World.ownsRow.alloc hown _)
    ⟨W.heap.size, 0, none⟩ 1 1 [.bool y] hx rfl ?_ ?_ (by omega) (by unfold maxLen; omega) (by omega) (by simp; omega) _ rfl ?_
  · intro j u hu
    exact World.news_of_block (heap_alloc_new W _) j u hu
  · intro u hu
    simp at hu
    subst hu
    rfl
  · intro g cap w' h1 h2 h3 h4
    refine h g cap w' ?_ ?_ ?_
    · unfold Owb
      simpa using h1
    · have k1 : Kept (fun k => v.ownBlock = some k) W (W.alloc (.cells #[.bool y] 4)) := (Kept.refl _ W).alloc _
      exact k1.trans ⟨h2.os, h2.tape, h2.output, h2.size, fun k hk hn => h2.block k hk (fun e => hn e.symm)⟩
    · rcases h3 with h3 | h3
      · exact .inl h3
      · exact .inr (by rw [h3]; simp)

end Go.Proofs.Ytebejleeadofcaa.Ap1

/- Slices that a call has made, read as rows of cells. -/
namespace Go.Proofs.Ytebejleeadofcaa.Rw1
open Go.RowKit
open Nd0 Tm1 Tm6 Ap0 Ap1 Rw0

theorem row_bools {w : World} {B : Nat} {v : Value} {l : List Bool} (h : Owb w B v l) (hl : 1 ≤ l.length) : ∃ g c, v = .slice (some ⟨g, 0, none⟩) l.length c ∧ B ≤ g ∧ g < w.heap.size ∧ Row w g l.length (fun i => .bool (flag l i)) := by
  obtain ⟨g, c, rfl, h1, h2⟩ := h.at hl
  refine ⟨g, c, rfl, h1, h2, fun i hi => ?_⟩
  have h9 := h.cell i hi
  rw [flag_get] at h9
  exact h9
theorem row_ints {w : World} {B : Nat} {v : Value} {l : List Int} (h : Ows w B v l) (hl : 1 ≤ l.length) : ∃ g c, v = .slice (some ⟨g, 0, none⟩) l.length c ∧ B ≤ g ∧ g < w.heap.size ∧ Row w g l.length (fun i => .int .i64 (wd l (i : Int))) := by
  have hlt := h.lt
  obtain ⟨h1, h2⟩ := h
  rcases h2 with ⟨rfl, h0⟩ | ⟨g, cap, cur, rfl, hb, hg, hn, hm, hs, ht⟩
  · omega
  · refine ⟨g, cap, rfl, hb, (hlt g rfl).2, fun i hi => ⟨?_, by simp [World.frozen?, hg]⟩⟩
    rw [cell_of_row w g i cur _ _ hg]
    have e : (cur.toList.take (l.length * 1))[i]? = some (.int .i64 l[i]) := by rw [ht]; simp [hi]
    rw [List.getElem?_take_of_lt (by omega)] at e
    rw [wd_get hi] at e
    simpa using e
theorem wd_set {us : List Int} {i : Nat} (h : i < us.length) (x : Int) (j : Nat) : wd (us.set i x) (j : Int) = if j = i then x else wd us (j : Int) := by
  by_cases e : j = i
  · subst e; simp [wd, List.getD, h]
  · have e' : ¬ i = j := fun x => e x.symm
    simp [wd, List.getD, e, e']
theorem row_set_int {w : World} {g n : Nat} {us : List Int} (h : Row w g n (fun i => .int .i64 (wd us (i : Int)))) (hn : us.length = n) {p : Nat} (hp : p < n) (x : Int) : Row (w.setCell ⟨g, p, none⟩ (.int .i64 x)) g n (fun i => .int .i64 (wd (us.set p x) (i : Int))) := by
  refine (h.set hp _).congr (fun i hi => ?_)
  rw [wd_set (by omega)]
  by_cases e : i = p
  · rw [if_pos e, if_pos e]
  · rw [if_neg e, if_neg e]

end Go.Proofs.Ytebejleeadofcaa.Rw1

/- How often nodes are used, as plain data: small facts. -/
namespace Go.Proofs.Ytebejleeadofcaa.Tm9
open Nd0 Pl1 Tm0 Tm1 Tm4 Tm5 Tm6 Rw1

theorem addUses_length (ps : List Int) : ∀ us : List Int, (addUses us ps).length = us.length := by
  induction ps with
  | nil => intro us; rfl
  | cons p ps ih => intro us; show (addUses (us.set p.toNat (wd us p + 1)) ps).length = _; rw [ih, List.length_set]
theorem uses_length {l : List Nd} {ws : List Int} : ∀ {k : Nat} {us : List Int}, usesTo l ws k = some us → us.length = l.length := by
  intro k
  induction k with
  | zero => intro us h; cases h; simp
  | succ k ih =>
    intro us h
    cases hu : usesTo l ws k with
    | none => rw [uses_none hu _ (Nat.le_succ _)] at h; cases h
    | some u0 =>
      rw [uses_succ hu] at h
      unfold uStep at h
      split at h
      · split at h
        · cases h
        · cases h; rw [addUses_length]; exact ih hu
      · cases h; exact ih hu
/-- No number of the list is below 0 or above B. -/
def Upto (us : List Int) (B : Int) : Prop := ∀ p : Int, 0 ≤ wd us p ∧ wd us p ≤ B
theorem upto_zero (n : Nat) : Upto (List.replicate n 0) 0 := by
  intro p
  have : wd (List.replicate n 0) p = 0 := by
    unfold wd; rw [List.getD_eq_getElem?_getD]
    rcases Nat.lt_or_ge p.toNat n with h | h
    · rw [List.getElem?_replicate, if_pos h]; rfl
    · rw [List.getElem?_replicate, if_neg (by omega)]; rfl
  rw [this]; exact ⟨Int.le_refl _, Int.le_refl _⟩
theorem upto_mono {us : List Int} {B C : Int} (h : Upto us B) (hc : B ≤ C) : Upto us C := fun p => ⟨(h p).1, Int.le_trans (h p).2 hc⟩
theorem wd_toNat (us : List Int) (q : Int) : wd us q = wd us ((q.toNat : Nat) : Int) := by unfold wd; rw [Int.toNat_natCast]
theorem upto_set {us : List Int} {B : Int} (h : Upto us B) (p : Nat) : Upto (us.set p (wd us (p : Int) + 1)) (B + 1) := by
  intro q
  have hq := h q
  have hp := h (p : Int)
  by_cases hl : p < us.length
  · have e := wd_toNat (us.set p (wd us (p : Int) + 1)) q
    have e2 := wd_toNat us q
    rw [e, wd_set hl]
    split
    · omega
    · rw [← e2]; omega
  · rw [List.set_eq_of_length_le (by omega)]; omega
theorem twice_succ (l : List Nd) (us : List Int) (k : Nat) : twice l us (k + 1) = (twice l us k || (flag (reachL l) k && flag (holdTo l l.length) k && decide (1 < wd us (k : Int)))) := by
  unfold twice
  rw [List.range_succ, List.any_append]
  simp
theorem twice_found {l : List Nd} {us : List Int} {k n : Nat} (h : k < n) (h1 : flag (reachL l) k = true) (h2 : flag (holdTo l l.length) k = true) (h3 : 1 < wd us (k : Int)) : twice l us n = true := by
  unfold twice
  rw [List.any_eq_true]
  exact ⟨k, List.mem_range.2 h, by rw [h1, h2]; simpa using h3⟩

end Go.Proofs.Ytebejleeadofcaa.Tm9
