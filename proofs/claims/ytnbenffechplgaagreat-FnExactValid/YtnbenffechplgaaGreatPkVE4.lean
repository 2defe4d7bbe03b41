/- Small texts of mine, one behind the other. -/
import Derived.Test.YtnbenffechplgaaGreatRows
import Derived.Deep.AppendLies
import Derived.OwnWalk
import Derived.Test.YtnbenffechplgaaGreatPkVE3
import Derived.Test.YtnbenffechplgaaGreatPkVE0
import Derived.Test.YtnbenffechplgaaGreatPkVE1
/- When a term is a sentence, as plain data. -/
namespace Go.Proofs.YtnbenffechplgaaGreat.Tm6
open Nd0 Pl1 Tm0 Tm1 Tm4 Tm5

def wd (ws : List Int) (p : Int) : Int := ws.getD p.toNat 0
theorem wd_get {ws : List Int} {i : Nat} (h : i < ws.length) : ws[i] = wd ws (i : Int) := by simp [wd, List.getD, h]
def qStep (l : List Nd) (ws : List Int) (k : Nat) : Option (List Int) :=
  if flag (reachL l) k && quant (nth l k).op then (if wd ws (nth l k).k = 0 then some (ws.set (nth l k).k.toNat (nth l k).b) else none) else some ws
def quantsTo (l : List Nd) : Nat → Option (List Int)
  | 0 => some (List.replicate 8 0)
  | k + 1 => (quantsTo l k).bind fun ws => qStep l ws k
def badNode (l : List Nd) (ws : List Int) (k : Nat) : Bool :=
  ((nth l k).op == 1 && wd ws (nth l k).k != (nth l k).w) || (flag (holdTo l l.length) k && !outer (nth l k).op)
def addUses (us : List Int) (ps : List Int) : List Int := ps.foldl (fun u p => u.set p.toNat (wd u p + 1)) us
def uStep (l : List Nd) (ws us : List Int) (k : Nat) : Option (List Int) :=
  if flag (reachL l) k then (if badNode l ws k then none else some (addUses us (parts (nth l k)))) else some us
def usesTo (l : List Nd) (ws : List Int) : Nat → Option (List Int)
  | 0 => some (List.replicate l.length 0)
  | k + 1 => (usesTo l ws k).bind fun us => uStep l ws us k
def twice (l : List Nd) (us : List Int) (k : Nat) : Bool := (List.range k).any fun i => flag (reachL l) i && flag (holdTo l l.length) i && decide (1 < wd us (i : Int))
def sentB (l : List Nd) : Bool :=
  termOk l && decide ((nth l (l.length - 1)).w = 1) && decide ((freeL l).length = 0) &&
    match quantsTo l l.length with
    | none => false
    | some ws => match usesTo l ws l.length with
      | none => false
      | some us => !twice l us l.length

theorem quants_none {l : List Nd} {k : Nat} (h : quantsTo l k = none) : ∀ j, k ≤ j → quantsTo l j = none := by
  intro j hj
  induction j with
  | zero => have : k = 0 := by omega
            subst this; exact h
  | succ j ih =>
    by_cases e : k = j + 1
    · subst e; exact h
    · show (quantsTo l j).bind _ = none
      rw [ih (by omega)]; rfl
theorem uses_none {l : List Nd} {ws : List Int} {k : Nat} (h : usesTo l ws k = none) : ∀ j, k ≤ j → usesTo l ws j = none := by
  intro j hj
  induction j with
  | zero => have : k = 0 := by omega
            subst this; exact h
  | succ j ih =>
    by_cases e : k = j + 1
    · subst e; exact h
    · show (usesTo l ws j).bind _ = none
      rw [ih (by omega)]; rfl
theorem quants_succ {l : List Nd} {k : Nat} {ws : List Int} (h : quantsTo l k = some ws) : quantsTo l (k + 1) = qStep l ws k := by
  show (quantsTo l k).bind _ = _; rw [h]; rfl
theorem uses_succ {l : List Nd} {k : Nat} {ws us : List Int} (h : usesTo l ws k = some us) : usesTo l ws (k + 1) = uStep l ws us k := by
  show (usesTo l ws k).bind _ = _; rw [h]; rfl
theorem sent_term {l : List Nd} (h : termOk l = false) : sentB l = false := by unfold sentB; rw [h]; rfl
theorem sent_root {l : List Nd} (h : ¬ (nth l (l.length - 1)).w = 1) : sentB l = false := by unfold sentB; rw [decide_eq_false h]; simp
theorem sent_free {l : List Nd} (h : ¬ (freeL l).length = 0) : sentB l = false := by unfold sentB; rw [decide_eq_false h]; simp
theorem sent_quants {l : List Nd} {k : Nat} (hk : k ≤ l.length) (h : quantsTo l k = none) : sentB l = false := by
  unfold sentB; rw [quants_none h _ hk]; simp
theorem sent_uses {l : List Nd} {k : Nat} {ws : List Int} (hk : k ≤ l.length) (hw : quantsTo l l.length = some ws) (h : usesTo l ws k = none) : sentB l = false := by
  unfold sentB; rw [hw]; simp only; rw [uses_none h _ hk]; simp
theorem sent_twice {l : List Nd} {ws us : List Int} (h1 : termOk l = true) (h2 : (nth l (l.length - 1)).w = 1) (h3 : (freeL l).length = 0) (hw : quantsTo l l.length = some ws) (hu : usesTo l ws l.length = some us) : sentB l = !twice l us l.length := by
  unfold sentB; rw [h1, decide_eq_true h2, decide_eq_true h3, hw]; simp only; rw [hu]; simp
theorem shape_var {l : List Nd} {k : Nat} (h : nodeOk l k = true) : ((nth l k).op = 1 ∨ quant (nth l k).op = true) → 0 ≤ (nth l k).k ∧ (nth l k).k ≤ 7 := by
  intro hop
  simp only [nodeOk, Bool.and_eq_true] at h
  have hs := h.2
  unfold shapeOk at hs
  rcases hop with h1 | h1
  · rw [if_neg (by omega), if_pos h1] at hs
    simp at hs; omega
  · have h2 : (nth l k).op = 19 ∨ (nth l k).op = 20 := by simpa [quant] using h1
    rw [if_neg (by omega), if_neg (by omega), if_neg (by omega), if_neg (by omega), if_neg (by omega), if_neg (by omega), if_neg (by omega), if_neg (by omega), if_pos h2] at hs
    simp at hs; omega

end Go.Proofs.YtnbenffechplgaaGreat.Tm6

/- Arrays: what a block holds, cell by cell. -/
namespace Go.Proofs.YtnbenffechplgaaGreat.Rw0
open Go.RowKit
open Nd0

def Row (w : World) (g n : Nat) (f : Nat → Value) : Prop := ∀ i, i < n → w.cell? ⟨g, i, none⟩ = some (f i) ∧ w.frozen? ⟨g, i, none⟩ = false

theorem Row.set {w : World} {g n : Nat} {f : Nat → Value} (h : Row w g n f) {p : Nat} (hp : p < n) (v : Value) : Row (w.setCell ⟨g, p, none⟩ v) g n (fun i => if i = p then v else f i) := by
  intro i hi
  by_cases e : i = p
  · subst e
    dsimp only
    rw [if_pos rfl]
    exact ⟨set_same (h i hi).1, by simp only [World.frozen?_setCell]; exact (h i hi).2⟩
  · dsimp only
    rw [if_neg e]
    exact ⟨by rw [set_other (by intro x; cases x; exact e rfl)]; exact (h i hi).1, by simp only [World.frozen?_setCell]; exact (h i hi).2⟩
theorem Row.kept {w w' : World} {g n : Nat} {f : Nat → Value} (h : Row w g n f) {S : Nat → Prop} (k : Kept S w w') (hs : ¬ S g) : Row w' g n f := fun i hi =>
  ⟨by rw [k.cell (p := ⟨g, i, none⟩) (lt_of_cell (h i hi).1) hs]; exact (h i hi).1, by rw [k.frozen (p := ⟨g, i, none⟩) (lt_of_cell (h i hi).1) hs]; exact (h i hi).2⟩
theorem Row.below {w w' : World} {g n : Nat} {f : Nat → Value} (h : Row w g n f) (k : Below w.heap.size w w') : Row w' g n f := h.kept (S := fun _ => False) (Kept.ofBelow k) (fun h => h)
theorem Row.congr {w : World} {g n : Nat} {f f' : Nat → Value} (h : Row w g n f) (e : ∀ i, i < n → f i = f' i) : Row w g n f' := fun i hi => by rw [← e i hi]; exact h i hi
theorem Row.new (w : World) (cs : Array Value) (T n : Nat) (f : Nat → Value) (h : ∀ i, i < n → cs[i]? = some (f i)) : Row (w.alloc (.cells cs T)) w.heap.size n f := by
  intro i hi
  refine ⟨?_, by simp⟩
  rw [World.cell?_alloc_new]
  exact h i hi
theorem Row.drew {w : World} {g n : Nat} {f : Nat → Value} (h : Row w g n f) : Row w.drew g n f := fun i hi => h i hi
theorem Row.lt {w : World} {g n : Nat} {f : Nat → Value} (h : Row w g n f) (hn : 0 < n) : g < w.heap.size := lt_of_cell (p := ⟨g, 0, none⟩) (h 0 hn).1

end Go.Proofs.YtnbenffechplgaaGreat.Rw0

/- Lists of flags that are appended to and written: the law at the walk, and how they are read. -/
namespace Go.Proofs.YtnbenffechplgaaGreat.Ap1
open Go.RowKit
open Nd0
set_option linter.unusedVariables false

def WBools (w : World) (B : Nat) (a : Option Addr) (l : List Bool) : Prop :=
  l.length ≤ maxLen ∧ (l.length = 0 ∨ ∃ b o, a = some ⟨b, o, none⟩ ∧ B ≤ b ∧ ∀ i (h : i < l.length), w.cell? ⟨b, o + i, none⟩ = some (.bool l[i]) ∧ w.frozen? ⟨b, o + i, none⟩ = false)

theorem infoBool : (Tryz.prog.info? 4).map (fun i => (i.zero, i.size, i.bytes)) = some (some (.bool false), 1, 1) := by kernel_rfl

def Owb (w : World) (B : Nat) (v : Value) (l : List Bool) : Prop := w.ownsRow B 4 1 v l.length (l.map fun x => .bool x)

theorem Owb.form {w : World} {B : Nat} {v : Value} {l : List Bool} (h : Owb w B v l) : ∃ a c, v = .slice a l.length c ∧ WBools w B a l := by
  obtain ⟨h1, h2⟩ := h
  rcases h2 with ⟨rfl, h0⟩ | ⟨g, cap, cur, rfl, hb, hg, hn, hm, hs, ht⟩
  · have : l = [] := List.eq_nil_of_length_eq_zero h0
    subst this
    exact ⟨none, 0, rfl, Nat.zero_le _, .inl rfl⟩
  · refine ⟨_, _, rfl, by omega, .inr ⟨g, 0, rfl, hb, fun i hi => ⟨?_, ?_⟩⟩⟩
    · rw [Nat.zero_add, cell_of_row w g i cur _ _ hg]
      have e : (cur.toList.take (l.length * 1))[i]? = some (.bool l[i]) := by rw [ht]; simp [hi]
      rw [List.getElem?_take_of_lt (by omega)] at e
      simpa using e
    · rw [Nat.zero_add]
      simp [World.frozen?, hg]
theorem Owb.lit (w : World) (B : Nat) (hB : B ≤ w.heap.size) : Owb (w.alloc (.cells #[] 4)) B (.slice (some ⟨w.heap.size, 0, none⟩) 0 0) [] :=
  World.ownsRow_lit w #[] 0 hB (Nat.zero_le _) rfl
theorem Owb.lt {w : World} {B : Nat} {v : Value} {l : List Bool} (h : Owb w B v l) : ∀ k, v.ownBlock = some k → B ≤ k ∧ k < w.heap.size := World.ownsRow.lt h
theorem Owb.kept {w w' : World} {B : Nat} {v : Value} {l : List Bool} (h : Owb w B v l) {S : Nat → Prop} (k : Kept S w w') (hs : ∀ i, v.ownBlock = some i → ¬ S i) : Owb w' B v l := by
  refine ⟨h.1, ?_⟩
  rcases h.2 with hn | ⟨g, cap, cur, rfl, hb, hgg, rest⟩
  · exact .inl hn
  · refine .inr ⟨g, cap, cur, rfl, hb, ?_, rest⟩
    rw [k.block g (Array.getElem?_eq_some_iff.1 hgg).1 (hs g rfl)]
    exact hgg

theorem Owb.set {w : World} {B g cap : Nat} {l : List Bool} (h : Owb w B (.slice (some ⟨g, 0, none⟩) l.length cap) l) (j : Nat) (x : Bool) : Owb (w.setCell ⟨g, j, none⟩ (.bool x)) B (.slice (some ⟨g, 0, none⟩) l.length cap) (l.set j x) := by
  have h1 := (World.ownsRow.stored h j (.bool x)).1
  unfold Owb
  rw [List.map_set, List.length_set]
  exact h1
theorem Owb.cell {w : World} {B g cap : Nat} {l : List Bool} (h : Owb w B (.slice (some ⟨g, 0, none⟩) l.length cap) l) (j : Nat) (hj : j < l.length) : w.cell? ⟨g, j, none⟩ = some (.bool l[j]) ∧ w.frozen? ⟨g, j, none⟩ = false := by
  obtain ⟨a, c, hv, hw⟩ := h.form
  cases hv
  rcases hw.2 with h0 | ⟨b, o, hb, _, hc⟩
  · omega
  · cases hb
    have := hc j hj
    rw [Nat.zero_add] at this
    exact this

theorem Owb.set' {w : World} {B g cap n : Nat} {l : List Bool} (h : Owb w B (.slice (some ⟨g, 0, none⟩) n cap) l) (hn : l.length = n) (j : Nat) (x : Bool) : Owb (w.setCell ⟨g, j, none⟩ (.bool x)) B (.slice (some ⟨g, 0, none⟩) n cap) (l.set j x) := by
  subst hn; exact h.set j x
theorem Owb.cell' {w : World} {B g cap n : Nat} {l : List Bool} (h : Owb w B (.slice (some ⟨g, 0, none⟩) n cap) l) (hn : l.length = n) (j : Nat) (hj : j < n) : w.cell? ⟨g, j, none⟩ = some (.bool (l[j]'(by omega))) ∧ w.frozen? ⟨g, j, none⟩ = false := by
  subst hn; exact h.cell j hj
theorem Owb.at {w : World} {B : Nat} {v : Value} {l : List Bool} (h : Owb w B v l) (hl : 1 ≤ l.length) : ∃ g c, v = .slice (some ⟨g, 0, none⟩) l.length c ∧ B ≤ g ∧ g < w.heap.size := by
  rcases h.2 with ⟨rfl, h0⟩ | ⟨g, cap, cur, rfl, hb, hg, _⟩
  · omega
  · exact ⟨g, cap, rfl, hb, (Array.getElem?_eq_some_iff.1 hg).1⟩

theorem app_bool {ops : Array Oper} {rest : List Oper} {o : Oper} {a : Act} {Q : Exit → Act → World → Prop} (W : World) (hgd : o.guard = none) (s x : Operand)
    (ho : o.op = .call { callee := .builtin .append, args := #[s, x], argTypes := #[66, 66] })
    (B : Nat) (v : Value) (l : List Bool) (y : Bool) (hs : a.eval s = v) (hx : a.eval x = .slice (some ⟨W.heap.size, 0, none⟩) 1 1)
    (hown : Owb W B v l) (hB : B ≤ W.heap.size) (hlen : l.length ≤ 1048576)
    (h : ∀ g cap w', Owb w' B (.slice (some ⟨g, 0, none⟩) (l.length + 1) cap) (l ++ [y]) → Kept (fun k => v.ownBlock = some k) W w' → (v.ownBlock = some g ∨ W.heap.size ≤ g) → wpList Tryz.prog ops Q rest (a.put o.dst (.slice (some ⟨g, 0, none⟩) (l.length + 1) cap)) w') :
    wpList Tryz.prog ops Q (o :: rest) a (W.alloc (.cells #[.bool y] 4)) := by
  obtain ⟨i, hi, hzz⟩ := Option.map_eq_some_iff.1 infoBool
  simp only [Prod.mk.injEq] at hzz
  obtain ⟨hz, hsz, hb⟩ := hzz
  refine wpList_append_lies (W.alloc (.cells #[.bool y] 4)) hgd s x 66 ho B 4 i (.bool false) 1 1 Tryz.underlying66 hi hz hsz hb rfl (by omega) v l.length (l.map fun x => .bool x) hs (World.ownsRow.alloc hown _)
    ⟨W.heap.size, 0, none⟩ 1 1 [.bool y] hx rfl ?_ ?_ (by omega) (by unfold maxLen; omega) (by omega) (by simp; omega) _ rfl ?_
  · intro j u hu
    exact World.news_of_block (heap_alloc_new W _) j u hu
  · intro u hu
    simp at hu
    subst hu
    rfl
  · intro g cap w' h1 h2 h3 h4
    refine h g cap w' ?_ ?_ ?_
    · unfold Owb
      simpa using h1
    · have k1 : Kept (fun k => v.ownBlock = some k) W (W.alloc (.cells #[.bool y] 4)) := (Kept.refl _ W).alloc _
      exact k1.trans ⟨h2.os, h2.tape, h2.output, h2.size, fun k hk hn => h2.block k hk (fun e => hn e.symm)⟩
    · rcases h3 with h3 | h3
      · exact .inl h3
      · exact .inr (by rw [h3]; simp)

end Go.Proofs.YtnbenffechplgaaGreat.Ap1

/- Slices that a call has made, read as rows of cells. -/
namespace Go.Proofs.YtnbenffechplgaaGreat.Rw1
open Go.RowKit
open Nd0 Tm1 Tm6 Ap0 Ap1 Rw0

theorem row_bools {w : World} {B : Nat} {v : Value} {l : List Bool} (h : Owb w B v l) (hl : 1 ≤ l.length) : ∃ g c, v = .slice (some ⟨g, 0, none⟩) l.length c ∧ B ≤ g ∧ g < w.heap.size ∧ Row w g l.length (fun i => .bool (flag l i)) := by
  obtain ⟨g, c, rfl, h1, h2⟩ := h.at hl
  refine ⟨g, c, rfl, h1, h2, fun i hi => ?_⟩
  have h9 := h.cell i hi
  rw [flag_get] at h9
  exact h9
theorem row_ints {w : World} {B : Nat} {v : Value} {l : List Int} (h : Ows w B v l) (hl : 1 ≤ l.length) : ∃ g c, v = .slice (some ⟨g, 0, none⟩) l.length c ∧ B ≤ g ∧ g < w.heap.size ∧ Row w g l.length (fun i => .int .i64 (wd l (i : Int))) := by
  have hlt := h.lt
  obtain ⟨h1, h2⟩ := h
  rcases h2 with ⟨rfl, h0⟩ | ⟨g, cap, cur, rfl, hb, hg, hn, hm, hs, ht⟩
  · omega
  · refine ⟨g, cap, rfl, hb, (hlt g rfl).2, fun i hi => ⟨?_, by simp [World.frozen?, hg]⟩⟩
    rw [cell_of_row w g i cur _ _ hg]
    have e : (cur.toList.take (l.length * 1))[i]? = some (.int .i64 l[i]) := by rw [ht]; simp [hi]
    rw [List.getElem?_take_of_lt (by omega)] at e
    rw [wd_get hi] at e
    simpa using e
theorem wd_set {us : List Int} {i : Nat} (h : i < us.length) (x : Int) (j : Nat) : wd (us.set i x) (j : Int) = if j = i then x else wd us (j : Int) := by
  by_cases e : j = i
  · subst e; simp [wd, List.getD, h]
  · have e' : ¬ i = j := fun x => e x.symm
    simp [wd, List.getD, e, e']
theorem row_set_int {w : World} {g n : Nat} {us : List Int} (h : Row w g n (fun i => .int .i64 (wd us (i : Int)))) (hn : us.length = n) {p : Nat} (hp : p < n) (x : Int) : Row (w.setCell ⟨g, p, none⟩ (.int .i64 x)) g n (fun i => .int .i64 (wd (us.set p x) (i : Int))) := by
  refine (h.set hp _).congr (fun i hi => ?_)
  rw [wd_set (by omega)]
  by_cases e : i = p
  · rw [if_pos e, if_pos e]
  · rw [if_neg e, if_neg e]

end Go.Proofs.YtnbenffechplgaaGreat.Rw1

/- How often nodes are used, as plain data: small facts. -/
namespace Go.Proofs.YtnbenffechplgaaGreat.Tm9
open Nd0 Pl1 Tm0 Tm1 Tm4 Tm5 Tm6 Rw1

theorem addUses_length (ps : List Int) : ∀ us : List Int, (addUses us ps).length = us.length := by
  induction ps with
  | nil => intro us; rfl
  | cons p ps ih => intro us; show (addUses (us.set p.toNat (wd us p + 1)) ps).length = _; rw [ih, List.length_set]
theorem uses_length {l : List Nd} {ws : List Int} : ∀ {k : Nat} {us : List Int}, usesTo l ws k = some us → us.length = l.length := by
  intro k
  induction k with
  | zero => intro us h; cases h; simp
  | succ k ih =>
    intro us h
    cases hu : usesTo l ws k with
    | none => rw [uses_none hu _ (Nat.le_succ _)] at h; cases h
    | some u0 =>
      rw [uses_succ hu] at h
      unfold uStep at h
      split at h
      · split at h
        · cases h
        · cases h; rw [addUses_length]; exact ih hu
      · cases h; exact ih hu
def Upto (us : List Int) (B : Int) : Prop := ∀ p : Int, 0 ≤ wd us p ∧ wd us p ≤ B
theorem upto_zero (n : Nat) : Upto (List.replicate n 0) 0 := by
  intro p
  have : wd (List.replicate n 0) p = 0 := by
    unfold wd; rw [List.getD_eq_getElem?_getD]
    rcases Nat.lt_or_ge p.toNat n with h | h
    · rw [List.getElem?_replicate, if_pos h]; rfl
    · rw [List.getElem?_replicate, if_neg (by omega)]; rfl
  rw [this]; exact ⟨Int.le_refl _, Int.le_refl _⟩
theorem upto_mono {us : List Int} {B C : Int} (h : Upto us B) (hc : B ≤ C) : Upto us C := fun p => ⟨(h p).1, Int.le_trans (h p).2 hc⟩
theorem wd_toNat (us : List Int) (q : Int) : wd us q = wd us ((q.toNat : Nat) : Int) := by unfold wd; rw [Int.toNat_natCast]
theorem upto_set {us : List Int} {B : Int} (h : Upto us B) (p : Nat) : Upto (us.set p (wd us (p : Int) + 1)) (B + 1) := by
  intro q
  have hq := h q
  have hp := h (p : Int)
  by_cases hl : p < us.length
  · have e := wd_toNat (us.set p (wd us (p : Int) + 1)) q
    have e2 := wd_toNat us q
    rw [e, wd_set hl]
    split
    · omega
    · rw [← e2]; omega
  · rw [List.set_eq_of_length_le (by omega)]; omega
theorem twice_succ (l : List Nd) (us : List Int) (k : Nat) : twice l us (k + 1) = (twice l us k || (flag (reachL l) k && flag (holdTo l l.length) k && decide (1 < wd us (k : Int)))) := by
  unfold twice
  rw [List.range_succ, List.any_append]
  simp
theorem twice_found {l : List Nd} {us : List Int} {k n : Nat} (h : k < n) (h1 : flag (reachL l) k = true) (h2 : flag (holdTo l l.length) k = true) (h3 : 1 < wd us (k : Int)) : twice l us n = true := by
  unfold twice
  rw [List.any_eq_true]
  exact ⟨k, List.mem_range.2 h, by rw [h1, h2]; simpa using h3⟩

end Go.Proofs.YtnbenffechplgaaGreat.Tm9

/- When a term is a sentence: what the program asks, over the reached nodes alone. -/
namespace Go.Proofs.YtnbenffechplgaaGreat.Tm10
open Nd0 Pl1 Tm0 Tm1 Tm2 Tm3 Tm4 Tm5 Tm6 Tm8 Tm9 Rw1

theorem quants_skip1 (l : List Nd) (x : Nat) (h : flag (reachL l) x = false) : quantsTo l (x + 1) = quantsTo l x := by
  show (quantsTo l x).bind _ = _
  cases hq : quantsTo l x with
  | none => rfl
  | some ws => show qStep l ws x = _; unfold qStep; rw [h]; rfl
theorem flag_between (l : List Nd) {x y z : Nat} (h : (reachTo l x).length = (reachTo l y).length) (h1 : x ≤ z) (h2 : z < y) : flag (reachL l) z = false := by
  cases hf : flag (reachL l) z
  · rfl
  · have a1 := reachTo_mono l h1
    have a2 := reachTo_lt l h2 hf
    omega
theorem quants_skip (l : List Nd) {x y : Nat} (hxy : x ≤ y) (h : (reachTo l x).length = (reachTo l y).length) : quantsTo l y = quantsTo l x := by
  induction y with
  | zero => have : x = 0 := by omega
            subst this; rfl
  | succ y ih =>
    by_cases e : x = y + 1
    · subst e; rfl
    · have hf : flag (reachL l) y = false := flag_between l h (by omega) (by omega)
      rw [quants_skip1 l y hf]
      refine ih (by omega) ?_
      have := reachTo_succ l y
      rw [hf] at this
      rw [h, this]; rfl
theorem quants_same (l : List Nd) {x y : Nat} (h : (reachTo l x).length = (reachTo l y).length) : quantsTo l y = quantsTo l x := by
  rcases Nat.le_total x y with hh | hh
  · exact quants_skip l hh h
  · exact (quants_skip l hh h.symm).symm
theorem quants_len {l : List Nd} : ∀ {k : Nat} {ws : List Int}, quantsTo l k = some ws → ws.length = 8 := by
  intro k
  induction k with
  | zero => intro ws h; cases h; rfl
  | succ k ih =>
    intro ws h
    cases hq : quantsTo l k with
    | none => rw [quants_none hq _ (Nat.le_succ _)] at h; cases h
    | some w0 =>
      rw [quants_succ hq] at h
      unfold qStep at h
      split at h
      · split at h
        · cases h; rw [List.length_set]; exact ih hq
        · cases h
      · cases h; exact ih hq

def usesF (l : List Nd) : Nat → List Int
  | 0 => List.replicate l.length 0
  | k + 1 => if flag (reachL l) k then addUses (usesF l k) (parts (nth l k)) else usesF l k
theorem usesF_length (l : List Nd) (k : Nat) : (usesF l k).length = l.length := by
  induction k with
  | zero => simp [usesF]
  | succ k ih => unfold usesF; split
                 · rw [addUses_length]; exact ih
                 · exact ih
theorem uses_some {l : List Nd} {ws : List Int} : ∀ {k : Nat}, (∀ i, i < k → flag (reachL l) i = true → badNode l ws i = false) → usesTo l ws k = some (usesF l k) := by
  intro k
  induction k with
  | zero => intro _; rfl
  | succ k ih =>
    intro h
    rw [uses_succ (ih (fun i hi => h i (by omega)))]
    show uStep l ws (usesF l k) k = some (if flag (reachL l) k then addUses (usesF l k) (parts (nth l k)) else usesF l k)
    unfold uStep
    cases hf : flag (reachL l) k
    · rfl
    · rw [if_pos rfl, if_pos rfl, h k (by omega) hf]; rfl
theorem uses_bad {l : List Nd} {ws : List Int} {i k : Nat} (hi : i < k) (hf : flag (reachL l) i = true) (hb : badNode l ws i = true) : usesTo l ws k = none := by
  have : usesTo l ws (i + 1) = none := by
    show (usesTo l ws i).bind _ = none
    cases hu : usesTo l ws i with
    | none => rfl
    | some us => show uStep l ws us i = none; unfold uStep; rw [hf, if_pos rfl, hb]; rfl
  exact uses_none this _ (by omega)

theorem usesF_skip (l : List Nd) {x y : Nat} (hxy : x ≤ y) (h : (reachTo l x).length = (reachTo l y).length) : usesF l y = usesF l x := by
  induction y with
  | zero => have : x = 0 := by omega
            subst this; rfl
  | succ y ih =>
    by_cases e : x = y + 1
    · subst e; rfl
    · have hf : flag (reachL l) y = false := flag_between l h (by omega) (by omega)
      have e1 : usesF l (y + 1) = usesF l y := by show (if _ then _ else _) = _; rw [hf]; rfl
      rw [e1]
      refine ih (by omega) ?_
      have := reachTo_succ l y
      rw [hf] at this
      rw [h, this]; rfl
theorem usesF_same (l : List Nd) {x y : Nat} (h : (reachTo l x).length = (reachTo l y).length) : usesF l y = usesF l x := by
  rcases Nat.le_total x y with hh | hh
  · exact usesF_skip l hh h
  · exact (usesF_skip l hh h.symm).symm

theorem addUses_le (ps : List Int) : ∀ (us : List Int) (q : Nat), wd us (q : Int) ≤ wd (addUses us ps) (q : Int) := by
  induction ps with
  | nil => intro us q; exact Int.le_refl _
  | cons p ps ih =>
    intro us q
    refine Int.le_trans ?_ (ih (us.set p.toNat (wd us p + 1)) q)
    by_cases hp : p.toNat < us.length
    · rw [wd_set hp]
      split
      · rename_i e
        have e2 := wd_toNat us p
        rw [← e] at e2
        omega
      · exact Int.le_refl _
    · rw [List.set_eq_of_length_le (by omega)]; exact Int.le_refl _
theorem usesF_le (l : List Nd) {x y : Nat} (h : x ≤ y) (q : Nat) : wd (usesF l x) (q : Int) ≤ wd (usesF l y) (q : Int) := by
  induction y with
  | zero => have : x = 0 := by omega
            subst this; exact Int.le_refl _
  | succ y ih =>
    by_cases e : x = y + 1
    · subst e; exact Int.le_refl _
    · refine Int.le_trans (ih (by omega)) ?_
      show _ ≤ wd (if _ then _ else _) _
      split
      · exact addUses_le _ _ _
      · exact Int.le_refl _

theorem hold_prefix (l : List Nd) {k n i : Nat} (hi : i < k) (hk : k ≤ n) : flag (holdTo l n) i = flag (holdTo l k) i := by
  induction n with
  | zero => omega
  | succ n ih =>
    by_cases e : k = n + 1
    · subst e; rfl
    · rw [← ih (by omega)]
      show flag (holdTo l n ++ [_]) i = _
      unfold flag
      rw [List.getD_eq_getElem?_getD, List.getElem?_append_left (by rw [holdTo_length]; omega), ← List.getD_eq_getElem?_getD]
theorem hold_at {l : List Nd} (hD : Down l) {i : Nat} (hi : i < l.length) : flag (holdTo l l.length) i = (quant (nth l i).op || below (holdTo l l.length) (parts (nth l i))) := by
  rw [hold_prefix l (k := i + 1) (n := l.length) (by omega) (by omega)]
  have e1 : flag (holdTo l (i + 1)) i = (quant (nth l i).op || below (holdTo l i) (parts (nth l i))) := by
    show flag (holdTo l i ++ [_]) i = _
    unfold flag
    rw [List.getD_eq_getElem?_getD, List.getElem?_append_right (by rw [holdTo_length]; exact Nat.le_refl _), holdTo_length]
    simp
  rw [e1]
  congr 1
  unfold below
  rw [Bool.eq_iff_iff, List.any_eq_true, List.any_eq_true]
  constructor
  · rintro ⟨p, hp, hf⟩
    have hd := hD i hi p hp
    exact ⟨p, hp, by rw [hold_prefix l (k := i) (n := l.length) (by omega) (by omega)]; exact hf⟩
  · rintro ⟨p, hp, hf⟩
    have hd := hD i hi p hp
    exact ⟨p, hp, by rw [← hold_prefix l (k := i) (n := l.length) (by omega) (by omega)]; exact hf⟩

def Mov (l : List Nd) : Prop := (∀ i, i < l.length → flag (reachL l) i = true → flag (holdTo l l.length) i = true → outer (nth l i).op = true) ∧ ∀ i, i < l.length → flag (reachL l) i = true → flag (holdTo l l.length) i = true → wd (usesF l l.length) (i : Int) ≤ 1
def Wid (l : List Nd) (ws : List Int) : Prop := ∀ i, i < l.length → flag (reachL l) i = true → (nth l i).op = 1 → (nth l i).w = wd ws (nth l i).k

theorem sent_all {l : List Nd} {ws : List Int} (h1 : termOk l = true) (h2 : (nth l (l.length - 1)).w = 1) (h3 : (freeL l).length = 0) (hq : quantsTo l l.length = some ws) (hw : Wid l ws) (hm : Mov l) : sentB l = true := by
  have hu : usesTo l ws l.length = some (usesF l l.length) := uses_some (fun i hi hf => by
    unfold badNode
    have a1 : ((nth l i).op == 1 && wd ws (nth l i).k != (nth l i).w) = false := by
      cases ho : ((nth l i).op == 1)
      · rfl
      · have := hw i hi hf (by simpa using ho)
        simp [this]
    have a2 : (flag (holdTo l l.length) i && !outer (nth l i).op) = false := by
      cases hh : flag (holdTo l l.length) i
      · rfl
      · rw [hm.1 i hi hf hh]; rfl
    rw [a1, a2]; rfl)
  rw [sent_twice h1 h2 h3 hq hu]
  have : twice l (usesF l l.length) l.length = false := by
    unfold twice
    rw [List.any_eq_false]
    intro i hi
    have hi' := List.mem_range.1 hi
    cases hf : flag (reachL l) i
    · simp
    · cases hh : flag (holdTo l l.length) i
      · simp
      · have := hm.2 i hi' hf hh
        simp; omega
  rw [this]; rfl
theorem sent_wid {l : List Nd} {ws : List Int} (hq : quantsTo l l.length = some ws) {i : Nat} (hi : i < l.length) (hf : flag (reachL l) i = true) (ho : (nth l i).op = 1) (hw : (nth l i).w ≠ wd ws (nth l i).k) : sentB l = false :=
  sent_uses (k := l.length) (Nat.le_refl _) hq (uses_bad hi hf (by
    unfold badNode
    have : ((nth l i).op == 1 && wd ws (nth l i).k != (nth l i).w) = true := by
      rw [Bool.and_eq_true]; exact ⟨by simpa using ho, by simp; exact fun e => hw e.symm⟩
    rw [this]; rfl))
theorem sent_outer {l : List Nd} {i : Nat} (hi : i < l.length) (hf : flag (reachL l) i = true) (hh : flag (holdTo l l.length) i = true) (ho : outer (nth l i).op = false) : sentB l = false := by
  cases hq : quantsTo l l.length with
  | none => exact sent_quants (Nat.le_refl _) hq
  | some ws => exact sent_uses (k := l.length) (Nat.le_refl _) hq (uses_bad hi hf (by unfold badNode; rw [hh, ho]; simp))
theorem sent_used {l : List Nd} {i : Nat} (hi : i < l.length) (hf : flag (reachL l) i = true) (hh : flag (holdTo l l.length) i = true) (hu : 1 < wd (usesF l l.length) (i : Int)) : sentB l = false := by
  cases hq : quantsTo l l.length with
  | none => exact sent_quants (Nat.le_refl _) hq
  | some ws =>
    cases hus : usesTo l ws l.length with
    | none => exact sent_uses (k := l.length) (Nat.le_refl _) hq hus
    | some us =>
      have hno : ∀ i, i < l.length → flag (reachL l) i = true → badNode l ws i = false := by
        intro j hj hjf
        cases hb : badNode l ws j
        · rfl
        · rw [uses_bad hj hjf hb] at hus; cases hus
      have e := uses_some (k := l.length) hno
      rw [hus] at e
      cases e
      unfold sentB
      rw [hq]; simp only
      rw [hus]; simp only
      rw [twice_found hi hf hh hu]; simp

end Go.Proofs.YtnbenffechplgaaGreat.Tm10
