/- Small texts of mine, one behind the other. -/
import Derived.Test.YtjfikpfdhjbheaaGreatPkCL14
import Derived.Test.YtjfikpfdhjbheaaGreatPkCL11
/- When a term is a sentence: what the program asks, over the reached nodes alone. -/
namespace Go.Proofs.YtjfikpfdhjbheaaGreat.Tm10
open Nd0 Pl1 Tm0 Tm1 Tm2 Tm3 Tm4 Tm5 Tm6 Tm8 Tm9 Rw1

theorem quants_skip1 (l : List Nd) (x : Nat) (h : flag (reachL l) x = false) : quantsTo l (x + 1) = quantsTo l x := by
  show (quantsTo l x).bind _ = _
  cases hq : quantsTo l x with
  | none => rfl
  | some ws => show qStep l ws x = _; unfold qStep; rw [h]; rfl
theorem flag_between (l : List Nd) {x y z : Nat} (h : (reachTo l x).length = (reachTo l y).length) (h1 : x ≤ z) (h2 : z < y) : flag (reachL l) z = false := by
  cases hf : flag (reachL l) z
  · rfl
  · have a1 := reachTo_mono l h1
    have a2 := reachTo_lt l h2 hf
    omega
theorem quants_skip (l : List Nd) {x y : Nat} (hxy : x ≤ y) (h : (reachTo l x).length = (reachTo l y).length) : quantsTo l y = quantsTo l x := by
  induction y with
  | zero => have : x = 0 := by omega
            subst this; rfl
  | succ y ih =>
    by_cases e : x = y + 1
    · subst e; rfl
    · have hf : flag (reachL l) y = false := flag_between l h (by omega) (by omega)
      rw [quants_skip1 l y hf]
      refine ih (by omega) ?_
      have := reachTo_succ l y
      rw [hf] at this
      rw [h, this]; rfl
theorem quants_same (l : List Nd) {x y : Nat} (h : (reachTo l x).length = (reachTo l y).length) : quantsTo l y = quantsTo l x := by
  rcases Nat.le_total x y with hh | hh
  · exact quants_skip l hh h
  · exact (quants_skip l hh h.symm).symm
theorem quants_len {l : List Nd} : ∀ {k : Nat} {ws : List Int}, quantsTo l k = some ws → ws.length = 8 := by
  intro k
  induction k with
  | zero => intro ws h; cases h; rfl
  | succ k ih =>
    intro ws h
    cases hq : quantsTo l k with
    | none => rw [quants_none hq _ (Nat.le_succ _)] at h; cases h
    | some w0 =>
      rw [quants_succ hq] at h
      unfold qStep at h
      split at h
      · split at h
        · cases h; rw [List.length_set]; exact ih hq
        · cases h
      · cases h; exact ih hq

def usesF (l : List Nd) : Nat → List Int
  | 0 => List.replicate l.length 0
  | k + 1 => if flag (reachL l) k then addUses (usesF l k) (parts (nth l k)) else usesF l k
theorem usesF_length (l : List Nd) (k : Nat) : (usesF l k).length = l.length := by
  induction k with
  | zero => simp [usesF]
  | succ k ih => unfold usesF; split
                 · rw [addUses_length]; exact ih
                 · exact ih
theorem uses_some {l : List Nd} {ws : List Int} : ∀ {k : Nat}, (∀ i, i < k → flag (reachL l) i = true → badNode l ws i = false) → usesTo l ws k = some (usesF l k) := by
  intro k
  induction k with
  | zero => intro _; rfl
  | succ k ih =>
    intro h
    rw [uses_succ (ih (fun i hi => h i (by omega)))]
    show uStep l ws (usesF l k) k = some (if flag (reachL l) k then addUses (usesF l k) (parts (nth l k)) else usesF l k)
    unfold uStep
    cases hf : flag (reachL l) k
    · rfl
    · rw [if_pos rfl, if_pos rfl, h k (by omega) hf]; rfl
theorem uses_bad {l : List Nd} {ws : List Int} {i k : Nat} (hi : i < k) (hf : flag (reachL l) i = true) (hb : badNode l ws i = true) : usesTo l ws k = none := by
  have : usesTo l ws (i + 1) = none := by
    show (usesTo l ws i).bind _ = none
    cases hu : usesTo l ws i with
    | none => rfl
    | some us => show uStep l ws us i = none; unfold uStep; rw [hf, if_pos rfl, hb]; rfl
  exact uses_none this _ (by omega)

theorem usesF_skip (l : List Nd) {x y : Nat} (hxy : x ≤ y) (h : (reachTo l x).length = (reachTo l y).length) : usesF l y = usesF l x := by
  induction y with
  | zero => have : x = 0 := by omega
            subst this; rfl
  | succ y ih =>
    by_cases e : x = y + 1
    · subst e; rfl
    · have hf : flag (reachL l) y = false := flag_between l h (by omega) (by omega)
      have e1 : usesF l (y + 1) = usesF l y := by show (if _ then _ else _) = _; rw [hf]; rfl
      rw [e1]
      refine ih (by omega) ?_
      have := reachTo_succ l y
      rw [hf] at this
      rw [h, this]; rfl
theorem usesF_same (l : List Nd) {x y : Nat} (h : (reachTo l x).length = (reachTo l y).length) : usesF l y = usesF l x := by
  rcases Nat.le_total x y with hh | hh
  · exact usesF_skip l hh h
  · exact (usesF_skip l hh h.symm).symm

theorem addUses_le (ps : List Int) : ∀ (us : List Int) (q : Nat), wd us (q : Int) ≤ wd (addUses us ps) (q : Int) := by
  induction ps with
  | nil => intro us q; exact Int.le_refl _
  | cons p ps ih =>
    intro us q
    refine Int.le_trans ?_ (ih (us.set p.toNat (wd us p + 1)) q)
    by_cases hp : p.toNat < us.length
    · rw [wd_set hp]
      split
      · rename_i e
        have e2 := wd_toNat us p
        rw [← e] at e2
        omega
      · exact Int.le_refl _
    · rw [List.set_eq_of_length_le (by omega)]; exact Int.le_refl _
theorem usesF_le (l : List Nd) {x y : Nat} (h : x ≤ y) (q : Nat) : wd (usesF l x) (q : Int) ≤ wd (usesF l y) (q : Int) := by
  induction y with
  | zero => have : x = 0 := by omega
            subst this; exact Int.le_refl _
  | succ y ih =>
    by_cases e : x = y + 1
    · subst e; exact Int.le_refl _
    · refine Int.le_trans (ih (by omega)) ?_
      show _ ≤ wd (if _ then _ else _) _
      split
      · exact addUses_le _ _ _
      · exact Int.le_refl _

theorem hold_prefix (l : List Nd) {k n i : Nat} (hi : i < k) (hk : k ≤ n) : flag (holdTo l n) i = flag (holdTo l k) i := by
  induction n with
  | zero => omega
  | succ n ih =>
    by_cases e : k = n + 1
    · subst e; rfl
    · rw [← ih (by omega)]
      show flag (holdTo l n ++ [_]) i = _
      unfold flag
      rw [List.getD_eq_getElem?_getD, List.getElem?_append_left (by rw [holdTo_length]; omega), ← List.getD_eq_getElem?_getD]
theorem hold_at {l : List Nd} (hD : Down l) {i : Nat} (hi : i < l.length) : flag (holdTo l l.length) i = (quant (nth l i).op || below (holdTo l l.length) (parts (nth l i))) := by
  rw [hold_prefix l (k := i + 1) (n := l.length) (by omega) (by omega)]
  have e1 : flag (holdTo l (i + 1)) i = (quant (nth l i).op || below (holdTo l i) (parts (nth l i))) := by
    show flag (holdTo l i ++ [_]) i = _
    unfold flag
    rw [List.getD_eq_getElem?_getD, List.getElem?_append_right (by rw [holdTo_length]; exact Nat.le_refl _), holdTo_length]
    simp
  rw [e1]
  congr 1
  unfold below
  rw [Bool.eq_iff_iff, List.any_eq_true, List.any_eq_true]
  constructor
  · rintro ⟨p, hp, hf⟩
    have hd := hD i hi p hp
    exact ⟨p, hp, by rw [hold_prefix l (k := i) (n := l.length) (by omega) (by omega)]; exact hf⟩
  · rintro ⟨p, hp, hf⟩
    have hd := hD i hi p hp
    exact ⟨p, hp, by rw [← hold_prefix l (k := i) (n := l.length) (by omega) (by omega)]; exact hf⟩

def Mov (l : List Nd) : Prop := (∀ i, i < l.length → flag (reachL l) i = true → flag (holdTo l l.length) i = true → outer (nth l i).op = true) ∧ ∀ i, i < l.length → flag (reachL l) i = true → flag (holdTo l l.length) i = true → wd (usesF l l.length) (i : Int) ≤ 1
def Wid (l : List Nd) (ws : List Int) : Prop := ∀ i, i < l.length → flag (reachL l) i = true → (nth l i).op = 1 → (nth l i).w = wd ws (nth l i).k

theorem sent_all {l : List Nd} {ws : List Int} (h1 : termOk l = true) (h2 : (nth l (l.length - 1)).w = 1) (h3 : (freeL l).length = 0) (hq : quantsTo l l.length = some ws) (hw : Wid l ws) (hm : Mov l) : sentB l = true := by
  have hu : usesTo l ws l.length = some (usesF l l.length) := uses_some (fun i hi hf => by
    unfold badNode
    have a1 : ((nth l i).op == 1 && wd ws (nth l i).k != (nth l i).w) = false := by
      cases ho : ((nth l i).op == 1)
      · rfl
      · have := hw i hi hf (by simpa using ho)
        simp [this]
    have a2 : (flag (holdTo l l.length) i && !outer (nth l i).op) = false := by
      cases hh : flag (holdTo l l.length) i
      · rfl
      · rw [hm.1 i hi hf hh]; rfl
    rw [a1, a2]; rfl)
  rw [sent_twice h1 h2 h3 hq hu]
  have : twice l (usesF l l.length) l.length = false := by
    unfold twice
    rw [List.any_eq_false]
    intro i hi
    have hi' := List.mem_range.1 hi
    cases hf : flag (reachL l) i
    · simp
    · cases hh : flag (holdTo l l.length) i
      · simp
      · have := hm.2 i hi' hf hh
        simp; omega
  rw [this]; rfl
theorem sent_wid {l : List Nd} {ws : List Int} (hq : quantsTo l l.length = some ws) {i : Nat} (hi : i < l.length) (hf : flag (reachL l) i = true) (ho : (nth l i).op = 1) (hw : (nth l i).w ≠ wd ws (nth l i).k) : sentB l = false :=
  sent_uses (k := l.length) (Nat.le_refl _) hq (uses_bad hi hf (by
    unfold badNode
    have : ((nth l i).op == 1 && wd ws (nth l i).k != (nth l i).w) = true := by
      rw [Bool.and_eq_true]; exact ⟨by simpa using ho, by simp; exact fun e => hw e.symm⟩
    rw [this]; rfl))
theorem sent_outer {l : List Nd} {i : Nat} (hi : i < l.length) (hf : flag (reachL l) i = true) (hh : flag (holdTo l l.length) i = true) (ho : outer (nth l i).op = false) : sentB l = false := by
  cases hq : quantsTo l l.length with
  | none => exact sent_quants (Nat.le_refl _) hq
  | some ws => exact sent_uses (k := l.length) (Nat.le_refl _) hq (uses_bad hi hf (by unfold badNode; rw [hh, ho]; simp))
theorem sent_used {l : List Nd} {i : Nat} (hi : i < l.length) (hf : flag (reachL l) i = true) (hh : flag (holdTo l l.length) i = true) (hu : 1 < wd (usesF l l.length) (i : Int)) : sentB l = false := by
  cases hq : quantsTo l l.length with
  | none => exact sent_quants (Nat.le_refl _) hq
  | some ws =>
    cases hus : usesTo l ws l.length with
    | none => exact sent_uses (k := l.length) (Nat.le_refl _) hq hus
    | some us =>
      have hno : ∀ i, i < l.length → flag (reachL l) i = true → badNode l ws i = false := by
        intro j hj hjf
        cases hb : badNode l ws j
        · rfl
        · rw [uses_bad hj hjf hb] at hus; cases hus
      have e := uses_some (k := l.length) hno
      rw [hus] at e
      cases e
      unfold sentB
      rw [hq]; simp only
      rw [hus]; simp only
      rw [twice_found hi hf hh hu]; simp

end Go.Proofs.YtjfikpfdhjbheaaGreat.Tm10

/- A term without what its root does not reach: it is right, all of it is reached, and it is pruned already, as plain data. -/
namespace Go.Proofs.YtjfikpfdhjbheaaGreat.Tm13
open Nd0 Pl1 Tm0 Tm1 Tm2 Tm3 Tm4 Tm5 Tm6 Tm8 Tm9 Tm10

def pl (l : List Nd) (x : Nat) : Nat := (reachTo l x).length
theorem plc_pl (l : List Nd) (x : Nat) : plc l (x : Int) = (pl l x : Int) := by simp [plc, pl]
theorem pl_succ (l : List Nd) (x : Nat) : pl l (x + 1) = if flag (reachL l) x then pl l x + 1 else pl l x := by
  unfold pl; rw [reachTo_succ]; split
  · simp
  · rfl
theorem prune_ok {l : List Nd} (hT : termOk l = true) : pruneL l = pruneTo l l.length := by unfold pruneL; rw [hT]; rfl
theorem prune_len {l : List Nd} (hT : termOk l = true) : (pruneL l).length = pl l l.length := by rw [prune_ok hT, pruneTo_length]; rfl
theorem pruneTo_nth (l : List Nd) {x : Nat} (hf : flag (reachL l) x = true) : ∀ k, x < k → nth (pruneTo l k) (pl l x) = remap l (nth l x) := by
  intro k
  induction k with
  | zero => intro h; omega
  | succ k ih =>
    intro h
    by_cases e : x = k
    · subst e
      rw [pruneTo_succ, hf, if_pos rfl]
      unfold nth pl
      rw [List.getD_eq_getElem?_getD, List.getElem?_append_right (by rw [pruneTo_length]; exact Nat.le_refl _), pruneTo_length]
      simp
    · have h1 := ih (by omega)
      rw [pruneTo_succ]
      split
      · rw [← h1]
        unfold nth
        rw [List.getD_eq_getElem?_getD, List.getElem?_append_left (by rw [pruneTo_length]; exact reachTo_lt l (by omega) hf), ← List.getD_eq_getElem?_getD]
      · exact h1
theorem prune_nth {l : List Nd} (hT : termOk l = true) {x : Nat} (hx : x < l.length) (hf : flag (reachL l) x = true) : nth (pruneL l) (pl l x) = remap l (nth l x) := by
  rw [prune_ok hT]; exact pruneTo_nth l hf _ hx
theorem pl_lt {l : List Nd} (hT : termOk l = true) {x : Nat} (hx : x < l.length) (hf : flag (reachL l) x = true) : pl l x < (pruneL l).length := by
  rw [prune_len hT]; exact reachTo_lt l hx hf
theorem pl_all {l : List Nd} (hT : termOk l = true) {j : Nat} (hj : j < (pruneL l).length) : ∃ x, x < l.length ∧ flag (reachL l) x = true ∧ pl l x = j := by
  rw [prune_len hT] at hj
  obtain ⟨x, _, h2, h3, h4⟩ := reach_at l l.length j hj
  exact ⟨x, h2, h3, h4⟩
theorem parts_remap (l : List Nd) (n : Nd) : parts (remap l n) = (parts n).map (plc l) := by
  rcases parts_cases n with h | h | h | h
  · have e : remap l n = n := by unfold remap; rw [h]; rfl
    rw [e, h]; rfl
  · have h0 := h
    have e : remap l n = ⟨n.op, n.w, n.k, plc l n.a, n.b, n.c⟩ := by unfold remap; rw [h]; rfl
    rw [e, h]
    have : n.op = 2 ∨ n.op = 17 ∨ n.op = 19 ∨ n.op = 20 := by
      unfold parts at h0
      split at h0
      · assumption
      · split at h0
        · simp at h0
        · split at h0 <;> simp at h0
    exact parts_one (n := ⟨n.op, n.w, n.k, plc l n.a, n.b, n.c⟩) this
  · have h0 := h
    have e : remap l n = ⟨n.op, n.w, n.k, plc l n.a, plc l n.b, n.c⟩ := by unfold remap; rw [h]; rfl
    rw [e, h]
    have : 3 ≤ n.op ∧ n.op ≤ 16 := by
      unfold parts at h0
      split at h0
      · simp at h0
      · split at h0
        · assumption
        · split at h0 <;> simp at h0
    exact parts_two (n := ⟨n.op, n.w, n.k, plc l n.a, plc l n.b, n.c⟩) this
  · have h0 := h
    have e : remap l n = ⟨n.op, n.w, n.k, plc l n.a, plc l n.b, plc l n.c⟩ := by unfold remap; rw [h]; rfl
    rw [e, h]
    have : n.op = 18 := by
      unfold parts at h0
      split at h0
      · simp at h0
      · split at h0
        · simp at h0
        · split at h0
          · assumption
          · simp at h0
    exact parts_three (n := ⟨n.op, n.w, n.k, plc l n.a, plc l n.b, plc l n.c⟩) this
theorem remap_op (l : List Nd) (n : Nd) : (remap l n).op = n.op := rfl
theorem remap_k (l : List Nd) (n : Nd) : (remap l n).k = n.k := rfl
theorem shape_remap (l : List Nd) (n : Nd) (ws : List Int) : shapeOk (remap l n) ws = shapeOk n ws := by
  obtain ⟨op, w, k, a, b, c⟩ := n
  by_cases h1 : op = 2 ∨ op = 17 ∨ op = 19 ∨ op = 20
  · have e : remap l ⟨op, w, k, a, b, c⟩ = ⟨op, w, k, plc l a, b, c⟩ := by unfold remap; rw [parts_one h1]; rfl
    rw [e]
    unfold shapeOk
    dsimp only
    rcases h1 with h | h | h | h <;> subst h <;> rfl
  · by_cases h2 : 3 ≤ op ∧ op ≤ 16
    · have e : remap l ⟨op, w, k, a, b, c⟩ = ⟨op, w, k, plc l a, plc l b, c⟩ := by unfold remap; rw [parts_two h2]; rfl
      rw [e]
      unfold shapeOk
      dsimp only
      have n0 : ¬ op = 0 := by omega
      have n1 : ¬ op = 1 := by omega
      have n2 : ¬ op = 2 := by omega
      have n3 : ¬ op = 17 := by omega
      have n4 : ¬ op = 18 := by omega
      have n5 : ¬ (op = 19 ∨ op = 20) := by omega
      simp only [if_neg n0, if_neg n1, if_neg n2, if_neg n3, if_neg n4, if_neg n5]
    · by_cases h3 : op = 18
      · subst h3
        have e : remap l ⟨18, w, k, a, b, c⟩ = ⟨18, w, k, plc l a, plc l b, plc l c⟩ := by unfold remap; rw [parts_three rfl]; rfl
        rw [e]; rfl
      · have e : remap l ⟨op, w, k, a, b, c⟩ = ⟨op, w, k, a, b, c⟩ := by unfold remap; rw [parts_none h1 h2 h3]; rfl
        rw [e]
theorem part_reached {l : List Nd} (hT : termOk l = true) {x : Nat} (hx : x < l.length) (hf : flag (reachL l) x = true) {p : Int} (hp : p ∈ parts (nth l x)) :
    ∃ y : Nat, p = (y : Int) ∧ y < x ∧ flag (reachL l) y = true ∧ plc l p = (pl l y : Int) := by
  have hd := down_of hT x hx p hp
  have hr := reach_closed (down_of hT) hx hf hp
  refine ⟨p.toNat, by omega, by omega, hr, ?_⟩
  rw [← plc_pl]; congr 1; omega
theorem prune_node {l : List Nd} (hT : termOk l = true) {x : Nat} (hx : x < l.length) (hf : flag (reachL l) x = true) : nodeOk (pruneL l) (pl l x) = true := by
  have hn := prune_nth hT hx hf
  have hk := term_node hT hx
  have e : (parts (nth (pruneL l) (pl l x))).map (width (pruneL l)) = (parts (nth l x)).map (width l) := by
    rw [hn, parts_remap, List.map_map]
    apply List.map_congr_left
    intro p hp
    obtain ⟨y, rfl, hyx, hy, hpl⟩ := part_reached hT hx hf hp
    simp only [Function.comp, width]
    rw [hpl, Int.toNat_natCast, prune_nth hT (by omega) hy, Int.toNat_natCast]
    rfl
  simp only [nodeOk, Bool.and_eq_true, List.all_eq_true, decide_eq_true_eq] at hk ⊢
  rw [e]
  refine ⟨⟨?_, ?_⟩, ?_⟩
  · intro q hq
    rw [hn, parts_remap] at hq
    obtain ⟨p, hp, rfl⟩ := List.mem_map.1 hq
    obtain ⟨y, rfl, hyx, hy, hpl⟩ := part_reached hT hx hf hp
    have := reachTo_lt l hyx hy
    rw [hpl]
    unfold pl
    omega
  · rw [hn]; exact hk.1.2
  · rw [hn, shape_remap]; exact hk.2
theorem prune_root {l : List Nd} (hT : termOk l = true) : pl l (l.length - 1) = (pruneL l).length - 1 ∧ 1 ≤ (pruneL l).length := by
  have hl := term_len hT
  have hr := reach_root (l := l) hl.1
  have h1 := pl_succ l (l.length - 1)
  rw [hr, if_pos rfl] at h1
  have e : l.length - 1 + 1 = l.length := by omega
  rw [e] at h1
  rw [prune_len hT]
  omega
theorem prune_term {l : List Nd} (hT : termOk l = true) : termOk (pruneL l) = true := by
  have hl := term_len hT
  have h1 := (prune_root hT).2
  have h2 := pruneL_le l
  refine term_good ⟨h1, by omega⟩ (fun j hj => ?_)
  obtain ⟨x, hx, hf, rfl⟩ := pl_all hT hj
  exact prune_node hT hx hf
theorem prune_reach_at {l : List Nd} (hT : termOk l = true) : ∀ d x, l.length = x + 1 + d → flag (reachL l) x = true → flag (reachL (pruneL l)) (pl l x) = true := by
  intro d
  induction d using Nat.strongRecOn with
  | ind d ih =>
    intro x hd hf
    rcases reach_why (down_of hT) (by omega) hf with h | ⟨j, h1, h2, h3, h4⟩
    · have hr := prune_root hT
      have e : x = l.length - 1 := by omega
      rw [e, hr.1]
      exact reach_root hr.2
    · have hj := ih (l.length - j - 1) (by omega) j (by omega) h3
      have hp : (pl l x : Int) ∈ parts (nth (pruneL l) (pl l j)) := by
        rw [prune_nth hT h2 h3, parts_remap, ← plc_pl]
        exact List.mem_map_of_mem h4
      have := reach_closed (down_of (prune_term hT)) (pl_lt hT h2 h3) hj hp
      rw [Int.toNat_natCast] at this
      exact this
theorem prune_reach {l : List Nd} (hT : termOk l = true) {j : Nat} (hj : j < (pruneL l).length) : flag (reachL (pruneL l)) j = true := by
  obtain ⟨x, hx, hf, rfl⟩ := pl_all hT hj
  exact prune_reach_at hT (l.length - x - 1) x (by omega) hf
end Go.Proofs.YtjfikpfdhjbheaaGreat.Tm13

/- How many bits a sentence quantifies, as plain data. -/
namespace Go.Proofs.YtjfikpfdhjbheaaGreat.Tm11
open Nd0 Pl1 Tm0 Tm1 Tm2 Tm4 Tm5 Tm6 Tm8 Tm9 Tm10

def bitsTo (l : List Nd) : Nat → Int
  | 0 => 0
  | k + 1 => if flag (reachL l) k && quant (nth l k).op then bitsTo l k + (nth l k).b else bitsTo l k
theorem quant_b {l : List Nd} {k : Nat} (h : nodeOk l k = true) (hq : quant (nth l k).op = true) : 1 ≤ (nth l k).b ∧ (nth l k).b ≤ 8 := by
  simp only [nodeOk, Bool.and_eq_true] at h
  have hs := h.2
  unfold shapeOk at hs
  have h2 : (nth l k).op = 19 ∨ (nth l k).op = 20 := by simpa [quant] using hq
  rw [if_neg (by omega), if_neg (by omega), if_neg (by omega), if_neg (by omega), if_neg (by omega), if_neg (by omega), if_neg (by omega), if_neg (by omega), if_pos h2] at hs
  simp at hs; omega
theorem bits_bound {l : List Nd} (hT : termOk l = true) : ∀ k, k ≤ l.length → 0 ≤ bitsTo l k ∧ bitsTo l k ≤ 8 * (k : Int) := by
  intro k
  induction k with
  | zero => intro _; exact ⟨Int.le_refl _, Int.le_refl _⟩
  | succ k ih =>
    intro hk
    have := ih (by omega)
    have e : bitsTo l (k + 1) = if flag (reachL l) k && quant (nth l k).op then bitsTo l k + (nth l k).b else bitsTo l k := rfl
    rw [e]
    split
    · rename_i h
      simp only [Bool.and_eq_true] at h
      have := quant_b (term_node hT (by omega : k < l.length)) h.2
      omega
    · omega
theorem bits_skip (l : List Nd) {x y : Nat} (hxy : x ≤ y) (h : (reachTo l x).length = (reachTo l y).length) : bitsTo l y = bitsTo l x := by
  induction y with
  | zero => have : x = 0 := by omega
            subst this; rfl
  | succ y ih =>
    by_cases e : x = y + 1
    · subst e; rfl
    · have hf : flag (reachL l) y = false := flag_between l h (by omega) (by omega)
      have e1 : bitsTo l (y + 1) = bitsTo l y := by show (if _ then _ else _) = _; rw [hf]; rfl
      rw [e1]
      refine ih (by omega) ?_
      have := reachTo_succ l y
      rw [hf] at this
      rw [h, this]; rfl
theorem bits_same (l : List Nd) {x y : Nat} (h : (reachTo l x).length = (reachTo l y).length) : bitsTo l y = bitsTo l x := by
  rcases Nat.le_total x y with hh | hh
  · exact bits_skip l hh h
  · exact (bits_skip l hh h.symm).symm
theorem sent_ok {l : List Nd} (h : sentB l = true) : termOk l = true := by
  cases ht : termOk l
  · rw [sent_term ht] at h; cases h
  · rfl

end Go.Proofs.YtjfikpfdhjbheaaGreat.Tm11

/- A pruned term has the same free variables, is a sentence just when the term was, and has its bits, as plain data. -/
namespace Go.Proofs.YtjfikpfdhjbheaaGreat.Tm14
open Nd0 Pl1 Tm0 Tm1 Tm2 Tm3 Tm4 Tm5 Tm6 Tm8 Tm9 Tm10 Tm11 Tm13 Rw1
open Tm7 (row_old row_new flag_freeRow)

theorem row_prefix (l : List Nd) {k n i : Nat} (hi : i < k) (hk : k ≤ n) : row (freeRows l n) (i : Int) = row (freeRows l k) (i : Int) := by
  induction n with
  | zero => omega
  | succ n ih =>
    by_cases e : k = n + 1
    · subst e; rfl
    · rw [← ih (by omega)]
      exact row_old l n _ (by omega) (by omega)
theorem free_at {l : List Nd} (hD : Down l) {i : Nat} (hi : i < l.length) {v : Nat} (hv : v < 8) : flag (row (freeRows l l.length) (i : Int)) v = freeAt (freeRows l l.length) (nth l i) v := by
  rw [row_prefix l (k := i + 1) (n := l.length) (by omega) (by omega), row_new, flag_freeRow _ _ _ hv]
  unfold freeAt
  have : inParts (freeRows l i) (parts (nth l i)) v = inParts (freeRows l l.length) (parts (nth l i)) v := by
    unfold inParts
    rw [Bool.eq_iff_iff, List.any_eq_true, List.any_eq_true]
    constructor
    · rintro ⟨p, hp, hf⟩
      have hd := hD i hi p hp
      obtain ⟨y, rfl⟩ : ∃ y : Nat, p = (y : Int) := ⟨p.toNat, by omega⟩
      exact ⟨_, hp, by rw [row_prefix l (k := i) (n := l.length) (by omega) (by omega)]; exact hf⟩
    · rintro ⟨p, hp, hf⟩
      have hd := hD i hi p hp
      obtain ⟨y, rfl⟩ : ∃ y : Nat, p = (y : Int) := ⟨p.toNat, by omega⟩
      exact ⟨_, hp, by rw [← row_prefix l (k := i) (n := l.length) (by omega) (by omega)]; exact hf⟩
  rw [this]
theorem remap_b_quant (l : List Nd) (n : Nd) (h : quant n.op = true) : (remap l n).b = n.b := by
  have h2 : n.op = 19 ∨ n.op = 20 := by simpa [quant] using h
  unfold remap
  rw [parts_one (by omega)]; rfl
theorem quants_pl {l : List Nd} (hT : termOk l = true) : ∀ x, x ≤ l.length → quantsTo (pruneL l) (pl l x) = quantsTo l x := by
  intro x
  induction x with
  | zero => intro _; rfl
  | succ x ih =>
    intro hx
    rw [pl_succ]
    cases hf : flag (reachL l) x
    · rw [quants_skip1 l x hf]; exact ih (by omega)
    · rw [if_pos rfl]
      show (quantsTo (pruneL l) (pl l x)).bind _ = (quantsTo l x).bind _
      rw [ih (by omega)]
      congr 1
      funext ws
      unfold qStep
      rw [prune_reach hT (pl_lt hT (by omega) hf), hf, prune_nth hT (by omega) hf, remap_op, remap_k]
      cases hq : quant (nth l x).op
      · rfl
      · rw [remap_b_quant l _ hq]
theorem bits_pl {l : List Nd} (hT : termOk l = true) : ∀ x, x ≤ l.length → bitsTo (pruneL l) (pl l x) = bitsTo l x := by
  intro x
  induction x with
  | zero => intro _; rfl
  | succ x ih =>
    intro hx
    rw [pl_succ]
    have e : bitsTo l (x + 1) = if flag (reachL l) x && quant (nth l x).op then bitsTo l x + (nth l x).b else bitsTo l x := rfl
    cases hf : flag (reachL l) x
    · rw [e, hf]; exact ih (by omega)
    · rw [if_pos rfl, e]
      show (if flag (reachL (pruneL l)) (pl l x) && quant (nth (pruneL l) (pl l x)).op then bitsTo (pruneL l) (pl l x) + (nth (pruneL l) (pl l x)).b else bitsTo (pruneL l) (pl l x)) = _
      rw [prune_reach hT (pl_lt hT (by omega) hf), hf, prune_nth hT (by omega) hf, remap_op, ih (by omega)]
      cases hq : quant (nth l x).op
      · rfl
      · rw [remap_b_quant l _ hq]
theorem sent_iff (l : List Nd) : sentB l = true ↔ termOk l = true ∧ (nth l (l.length - 1)).w = 1 ∧ (freeL l).length = 0 ∧ ∃ ws, quantsTo l l.length = some ws ∧ Wid l ws ∧ Mov l := by
  constructor
  · intro h
    refine ⟨sent_ok h, ?_, ?_, ?_⟩
    · apply Classical.byContradiction; intro e; rw [sent_root e] at h; cases h
    · apply Classical.byContradiction; intro e; rw [sent_free e] at h; cases h
    · cases hq : quantsTo l l.length with
      | none => rw [sent_quants (Nat.le_refl _) hq] at h; cases h
      | some ws =>
        refine ⟨ws, rfl, ?_, ?_, ?_⟩
        · intro i hi hf ho
          apply Classical.byContradiction; intro e; rw [sent_wid hq hi hf ho e] at h; cases h
        · intro i hi hf hh
          cases ho : outer (nth l i).op
          · rw [sent_outer hi hf hh ho] at h; cases h
          · rfl
        · intro i hi hf hh
          apply Classical.byContradiction; intro e; rw [sent_used hi hf hh (by omega)] at h; cases h
  · rintro ⟨h1, h2, h3, ws, hq, hw, hm⟩
    exact sent_all h1 h2 h3 hq hw hm
end Go.Proofs.YtjfikpfdhjbheaaGreat.Tm14
