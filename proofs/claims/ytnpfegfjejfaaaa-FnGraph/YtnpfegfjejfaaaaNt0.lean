/- A graph that grows: its memory. -/
import Derived.Test.YtnpfegfjejfaaaaMq0
import Derived.Test.YtnpfegfjejfaaaaQb2
namespace Go.Proofs.Ytnpfegfjejfaaaa.Nt0
open Go.RowKit
open Nd0 Qb0 Qb2 Gr0 Mq0
set_option linter.unusedVariables false

/-- The net in block p: its inputs, its ands, its map; none of its blocks is in F, and F's blocks are there. -/
structure Nt (w : World) (F : Nat → Prop) (p : Nat) (ins : Int) (l : List An) (v : Value) (bm : Nat) : Prop where
  c0 : w.cell? ⟨p, 0, none⟩ = some (.int .i64 ins)
  c1 : w.cell? ⟨p, 1, none⟩ = some v
  c2 : w.cell? ⟨p, 2, none⟩ = some (.map (some bm))
  z0 : w.frozen? ⟨p, 0, none⟩ = false
  z1 : w.frozen? ⟨p, 1, none⟩ = false
  z2 : w.frozen? ⟨p, 2, none⟩ = false
  own : OwAn w 0 v l
  map : Mq w bm ins l
  pm : p ≠ bm
  vp : v.ownBlock ≠ some p
  vm : v.ownBlock ≠ some bm
  fp : ¬ F p
  fm : ¬ F bm
  fv : ∀ k, v.ownBlock = some k → ¬ F k
  f : ∀ k, F k → k < w.heap.size
/-- .. with its list and its map wherever they lie. -/
def Ne (w : World) (F : Nat → Prop) (p : Nat) (ins : Int) (l : List An) : Prop := ∃ v bm, Nt w F p ins l v bm

theorem Nt.lt {w : World} {F : Nat → Prop} {p : Nat} {ins : Int} {l : List An} {v : Value} {bm : Nat} (h : Nt w F p ins l v bm) : p < w.heap.size := lt_of_cell (p := ⟨p, 0, none⟩) h.c0
theorem Nt.kept {w w' : World} {F S : Nat → Prop} {p : Nat} {ins : Int} {l : List An} {v : Value} {bm : Nat} (h : Nt w F p ins l v bm) (k : Kept S w w') (hs : ∀ i, S i → F i ∨ w.heap.size ≤ i) : Nt w' F p ins l v bm := by
  have hp := h.lt
  have sp : ¬ S p := fun e => by rcases hs p e with x | x; exact h.fp x; omega
  have hm := h.map.lt
  have sm : ¬ S bm := fun e => by rcases hs bm e with x | x; exact h.fm x; omega
  have sv : ∀ i, v.ownBlock = some i → ¬ S i := fun i e x => by
    rcases hs i x with y | y
    · exact h.fv i e y
    · have := (h.own.lt i e).2; omega
  exact ⟨by rw [k.cell hp sp]; exact h.c0, by rw [k.cell hp sp]; exact h.c1, by rw [k.cell hp sp]; exact h.c2, by rw [k.frozen (p := ⟨p, 0, none⟩) hp sp]; exact h.z0, by rw [k.frozen (p := ⟨p, 1, none⟩) hp sp]; exact h.z1, by rw [k.frozen (p := ⟨p, 2, none⟩) hp sp]; exact h.z2,
    h.own.kept k sv, h.map.kept k sm, h.pm, h.vp, h.vm, h.fp, h.fm, h.fv, fun i hi => Nat.lt_of_lt_of_le (h.f i hi) k.size⟩
theorem Nt.below {w w' : World} {F : Nat → Prop} {p : Nat} {ins : Int} {l : List An} {v : Value} {bm : Nat} (h : Nt w F p ins l v bm) (k : Below w.heap.size w w') : Nt w' F p ins l v bm :=
  h.kept (S := fun _ => False) (Kept.ofBelow k) (fun _ e => e.elim)
theorem Nt.alloc {w : World} {F : Nat → Prop} {p : Nat} {ins : Int} {l : List An} {v : Value} {bm : Nat} (h : Nt w F p ins l v bm) (o : Obj) : Nt (w.alloc o) F p ins l v bm := h.below ((Below.refl _ _).alloc (Nat.le_refl _) _)
theorem Nt.drew {w : World} {F : Nat → Prop} {p : Nat} {ins : Int} {l : List An} {v : Value} {bm : Nat} (h : Nt w F p ins l v bm) : Nt w.drew F p ins l v bm := h.kept (S := fun _ => False) (Kept.refl _ _).drew (fun _ e => e.elim)
/-- What has been made since is hidden from the net too. -/
theorem Nt.widen {w : World} {F G : Nat → Prop} {p : Nat} {ins : Int} {l : List An} {v : Value} {bm : Nat} (h : Nt w F p ins l v bm) (hp : ¬ G p) (hm : ¬ G bm) (hv : ∀ k, v.ownBlock = some k → ¬ G k) (hg : ∀ k, G k → k < w.heap.size) : Nt w G p ins l v bm :=
  ⟨h.c0, h.c1, h.c2, h.z0, h.z1, h.z2, h.own, h.map, h.pm, h.vp, h.vm, hp, hm, hv, hg⟩
theorem Nt.since {w w' : World} {F : Nat → Prop} {p : Nat} {ins : Int} {l : List An} {v : Value} {bm : Nat} (h : Nt w F p ins l v bm) (k : Below w.heap.size w w') : Nt w' (fun i => F i ∨ (w.heap.size ≤ i ∧ i < w'.heap.size)) p ins l v bm := by
  have h1 := h.below k
  have hp := h.lt
  have hm := h.map.lt
  refine h1.widen (fun e => ?_) (fun e => ?_) (fun i e x => ?_) (fun i hi => ?_)
  · rcases e with e | e; exact h.fp e; omega
  · rcases e with e | e; exact h.fm e; omega
  · rcases x with x | x; exact h.fv i e x; have := (h.own.lt i e).2; omega
  · rcases hi with hi | hi; exact h1.f i hi; exact hi.2
theorem Nt.narrow {w : World} {F G : Nat → Prop} {p : Nat} {ins : Int} {l : List An} {v : Value} {bm : Nat} (h : Nt w F p ins l v bm) (hg : ∀ k, G k → F k) : Nt w G p ins l v bm :=
  h.widen (fun e => h.fp (hg _ e)) (fun e => h.fm (hg _ e)) (fun i e x => h.fv i e (hg _ x)) (fun i hi => h.f i (hg _ hi))
theorem Nt.slice {w : World} {F : Nat → Prop} {p : Nat} {ins : Int} {l : List An} {v : Value} {bm : Nat} (h : Nt w F p ins l v bm) : ∃ a c, v = .slice a l.length c ∧ Ans w a l ∧ l.length ≤ c := by
  obtain ⟨a, c, e, hw, hc⟩ := h.own.form
  exact ⟨a, c, e, hw.plain, hc⟩
theorem Nt.kf {F D : Nat → Prop} {w w' : World} (h : Kept D w w') (hd : ∀ k, D k → ¬ F k) : Kept (fun k => ¬ F k) w w' := ⟨h.os, h.tape, h.output, h.size, fun i hi hn => h.block i hi (fun e => hn (hd i e))⟩
theorem keptF_below {F : Nat → Prop} {w w' : World} (h : Below w.heap.size w w') : Kept (fun k => ¬ F k) w w' := ⟨h.os, h.tape, h.output, h.size, fun i hi _ => h.block i hi⟩
theorem Ne.below {w w' : World} {F : Nat → Prop} {p : Nat} {ins : Int} {l : List An} (h : Ne w F p ins l) (k : Below w.heap.size w w') : Ne w' F p ins l := by obtain ⟨v, bm, h⟩ := h; exact ⟨v, bm, h.below k⟩
theorem Ne.since {w w' : World} {F : Nat → Prop} {p : Nat} {ins : Int} {l : List An} (h : Ne w F p ins l) (k : Below w.heap.size w w') : Ne w' (fun i => F i ∨ (w.heap.size ≤ i ∧ i < w'.heap.size)) p ins l := by obtain ⟨v, bm, h⟩ := h; exact ⟨v, bm, h.since k⟩
theorem Ne.narrow {w : World} {F G : Nat → Prop} {p : Nat} {ins : Int} {l : List An} (h : Ne w F p ins l) (hg : ∀ k, G k → F k) : Ne w G p ins l := by obtain ⟨v, bm, h⟩ := h; exact ⟨v, bm, h.narrow hg⟩

end Go.Proofs.Ytnpfegfjejfaaaa.Nt0
