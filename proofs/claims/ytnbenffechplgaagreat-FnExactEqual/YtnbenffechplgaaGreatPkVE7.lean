/- Small texts of mine, one behind the other. -/
import Derived.Test.YtnbenffechplgaaGreatPkVE4
import Derived.Test.YtnbenffechplgaaGreatPkVE5
import Derived.Test.YtnbenffechplgaaGreatPkVE3
/- How many bits a sentence quantifies, as plain data. -/
namespace Go.Proofs.YtnbenffechplgaaGreat.Tm11
open Nd0 Pl1 Tm0 Tm1 Tm2 Tm4 Tm5 Tm6 Tm8 Tm9 Tm10

def bitsTo (l : List Nd) : Nat → Int
  | 0 => 0
  | k + 1 => if flag (reachL l) k && quant (nth l k).op then bitsTo l k + (nth l k).b else bitsTo l k
theorem quant_b {l : List Nd} {k : Nat} (h : nodeOk l k = true) (hq : quant (nth l k).op = true) : 1 ≤ (nth l k).b ∧ (nth l k).b ≤ 8 := by
  simp only [nodeOk, Bool.and_eq_true] at h
  have hs := h.2
  unfold shapeOk at hs
  have h2 : (nth l k).op = 19 ∨ (nth l k).op = 20 := by simpa [quant] using hq
  rw [if_neg (by omega), if_neg (by omega), if_neg (by omega), if_neg (by omega), if_neg (by omega), if_neg (by omega), if_neg (by omega), if_neg (by omega), if_pos h2] at hs
  simp at hs; omega
theorem bits_bound {l : List Nd} (hT : termOk l = true) : ∀ k, k ≤ l.length → 0 ≤ bitsTo l k ∧ bitsTo l k ≤ 8 * (k : Int) := by
  intro k
  induction k with
  | zero => intro _; exact ⟨Int.le_refl _, Int.le_refl _⟩
  | succ k ih =>
    intro hk
    have := ih (by omega)
    have e : bitsTo l (k + 1) = if flag (reachL l) k && quant (nth l k).op then bitsTo l k + (nth l k).b else bitsTo l k := rfl
    rw [e]
    split
    · rename_i h
      simp only [Bool.and_eq_true] at h
      have := quant_b (term_node hT (by omega : k < l.length)) h.2
      omega
    · omega
theorem bits_skip (l : List Nd) {x y : Nat} (hxy : x ≤ y) (h : (reachTo l x).length = (reachTo l y).length) : bitsTo l y = bitsTo l x := by
  induction y with
  | zero => have : x = 0 := by omega
            subst this; rfl
  | succ y ih =>
    by_cases e : x = y + 1
    · subst e; rfl
    · have hf : flag (reachL l) y = false := flag_between l h (by omega) (by omega)
      have e1 : bitsTo l (y + 1) = bitsTo l y := by show (if _ then _ else _) = _; rw [hf]; rfl
      rw [e1]
      refine ih (by omega) ?_
      have := reachTo_succ l y
      rw [hf] at this
      rw [h, this]; rfl
theorem bits_same (l : List Nd) {x y : Nat} (h : (reachTo l x).length = (reachTo l y).length) : bitsTo l y = bitsTo l x := by
  rcases Nat.le_total x y with hh | hh
  · exact bits_skip l hh h
  · exact (bits_skip l hh h.symm).symm
end Go.Proofs.YtnbenffechplgaaGreat.Tm11

/- A pruned term has the same free variables, is a sentence just when the term was, and has its bits, as plain data. -/
namespace Go.Proofs.YtnbenffechplgaaGreat.Tm14
open Nd0 Pl1 Tm0 Tm1 Tm2 Tm3 Tm4 Tm5 Tm6 Tm8 Tm9 Tm10 Tm11 Tm13 Rw1
open Tm7 (row_old row_new flag_freeRow)

theorem row_prefix (l : List Nd) {k n i : Nat} (hi : i < k) (hk : k ≤ n) : row (freeRows l n) (i : Int) = row (freeRows l k) (i : Int) := by
  induction n with
  | zero => omega
  | succ n ih =>
    by_cases e : k = n + 1
    · subst e; rfl
    · rw [← ih (by omega)]
      exact row_old l n _ (by omega) (by omega)
theorem free_at {l : List Nd} (hD : Down l) {i : Nat} (hi : i < l.length) {v : Nat} (hv : v < 8) : flag (row (freeRows l l.length) (i : Int)) v = freeAt (freeRows l l.length) (nth l i) v := by
  rw [row_prefix l (k := i + 1) (n := l.length) (by omega) (by omega), row_new, flag_freeRow _ _ _ hv]
  unfold freeAt
  have : inParts (freeRows l i) (parts (nth l i)) v = inParts (freeRows l l.length) (parts (nth l i)) v := by
    unfold inParts
    rw [Bool.eq_iff_iff, List.any_eq_true, List.any_eq_true]
    constructor
    · rintro ⟨p, hp, hf⟩
      have hd := hD i hi p hp
      obtain ⟨y, rfl⟩ : ∃ y : Nat, p = (y : Int) := ⟨p.toNat, by omega⟩
      exact ⟨_, hp, by rw [row_prefix l (k := i) (n := l.length) (by omega) (by omega)]; exact hf⟩
    · rintro ⟨p, hp, hf⟩
      have hd := hD i hi p hp
      obtain ⟨y, rfl⟩ : ∃ y : Nat, p = (y : Int) := ⟨p.toNat, by omega⟩
      exact ⟨_, hp, by rw [← row_prefix l (k := i) (n := l.length) (by omega) (by omega)]; exact hf⟩
  rw [this]
theorem remap_b_quant (l : List Nd) (n : Nd) (h : quant n.op = true) : (remap l n).b = n.b := by
  have h2 : n.op = 19 ∨ n.op = 20 := by simpa [quant] using h
  unfold remap
  rw [parts_one (by omega)]; rfl
theorem quants_pl {l : List Nd} (hT : termOk l = true) : ∀ x, x ≤ l.length → quantsTo (pruneL l) (pl l x) = quantsTo l x := by
  intro x
  induction x with
  | zero => intro _; rfl
  | succ x ih =>
    intro hx
    rw [pl_succ]
    cases hf : flag (reachL l) x
    · rw [quants_skip1 l x hf]; exact ih (by omega)
    · rw [if_pos rfl]
      show (quantsTo (pruneL l) (pl l x)).bind _ = (quantsTo l x).bind _
      rw [ih (by omega)]
      congr 1
      funext ws
      unfold qStep
      rw [prune_reach hT (pl_lt hT (by omega) hf), hf, prune_nth hT (by omega) hf, remap_op, remap_k]
      cases hq : quant (nth l x).op
      · rfl
      · rw [remap_b_quant l _ hq]
theorem bits_pl {l : List Nd} (hT : termOk l = true) : ∀ x, x ≤ l.length → bitsTo (pruneL l) (pl l x) = bitsTo l x := by
  intro x
  induction x with
  | zero => intro _; rfl
  | succ x ih =>
    intro hx
    rw [pl_succ]
    have e : bitsTo l (x + 1) = if flag (reachL l) x && quant (nth l x).op then bitsTo l x + (nth l x).b else bitsTo l x := rfl
    cases hf : flag (reachL l) x
    · rw [e, hf]; exact ih (by omega)
    · rw [if_pos rfl, e]
      show (if flag (reachL (pruneL l)) (pl l x) && quant (nth (pruneL l) (pl l x)).op then bitsTo (pruneL l) (pl l x) + (nth (pruneL l) (pl l x)).b else bitsTo (pruneL l) (pl l x)) = _
      rw [prune_reach hT (pl_lt hT (by omega) hf), hf, prune_nth hT (by omega) hf, remap_op, ih (by omega)]
      cases hq : quant (nth l x).op
      · rfl
      · rw [remap_b_quant l _ hq]
end Go.Proofs.YtnbenffechplgaaGreat.Tm14

/- Terms from terms, as plain data: which variable stands free first, and what a formula's closing puts behind it. -/
namespace Go.Proofs.YtnbenffechplgaaGreat.Aq2
open Nd0 Pl1 Tm0 Tm1 Tm3 Tm4 Tm5 Tm7 Tm8 Tm12 Tm13 Tm14 Aq0
set_option linter.unusedVariables false

def isVar (n : Nd) (v : Nat) : Bool := n.op == 1 && n.k == (v : Int)
def isQ (n : Nd) (v : Nat) : Bool := quant n.op && n.k == (v : Int)
def mn (a b : Int) : Int := if b < a then b else a
def least (l : List Int) : Int := l.foldl mn 80
theorem least_snoc (l : List Int) (x : Int) : least (l ++ [x]) = mn (least l) x := by simp [least]
def ffAt (v : Nat) (i : Nat) (n : Nd) (ps : List Int) : Int := if isVar n v then (i : Int) else if isQ n v then 80 else least ps
def ffF (i : Nat) (n : Nd) (ps : List (List Int)) : List Int := (List.range 8).map fun v => ffAt v i n (ps.map fun r => r.getD v 80)
def ffTo (l : List Nd) (v k : Nat) : List Int := wk 80 (ffAt v) l k
def ffTop (l : List Nd) (v : Nat) : Int := (ffTo l v l.length).getD (l.length - 1) 80
theorem rows_at (l : List Nd) {v : Nat} (hv : v < 8) : ∀ k i, i < k → k ≤ l.length → Down l → ((wk [] ffF l k).getD i []).getD v 80 = (ffTo l v k).getD i 80 := by
  intro k
  induction k with
  | zero => intro i hi; omega
  | succ k ih =>
    intro i hi hk hD
    by_cases e : i < k
    · rw [wk_old [] ffF l (k := k) e (by omega), ih i e (by omega) hD]
      exact (wk_old 80 (ffAt v) l (k := k) e (by omega)).symm
    · have e2 : i = k := by omega
      subst e2
      unfold ffTo
      rw [wk_new, wk_new]
      unfold ffF
      rw [List.getD_eq_getElem?_getD, List.getElem?_map, List.getElem?_range hv]
      show ffAt v i (nth l i) _ = _
      congr 1
      rw [List.map_map]
      apply List.map_congr_left
      intro p hp
      have := hD i (by omega) p hp
      exact ih p.toNat (by omega) (by omega) hD

theorem mn_le (a b : Int) : mn a b ≤ a ∧ mn a b ≤ b ∧ (mn a b = a ∨ mn a b = b) := by unfold mn; split <;> omega
theorem fold_le : ∀ (l : List Int) (a : Int), l.foldl mn a ≤ a ∧ (∀ x ∈ l, l.foldl mn a ≤ x) ∧ (l.foldl mn a = a ∨ l.foldl mn a ∈ l) := by
  intro l
  induction l with
  | nil => intro a; exact ⟨Int.le_refl _, (fun x hx => by cases hx), .inl rfl⟩
  | cons y l ih =>
    intro a
    have h := mn_le a y
    have k := ih (mn a y)
    refine ⟨Int.le_trans k.1 h.1, fun x hx => ?_, ?_⟩
    · rcases List.mem_cons.1 hx with rfl | hx
      · exact Int.le_trans k.1 h.2.1
      · exact k.2.1 x hx
    · show l.foldl mn (mn a y) = a ∨ l.foldl mn (mn a y) ∈ y :: l
      rcases k.2.2 with e | e
      · rw [e]
        rcases h.2.2 with e2 | e2
        · exact .inl e2
        · exact .inr (by rw [e2]; simp)
      · exact .inr (List.mem_cons_of_mem _ e)
theorem least_le (l : List Int) : least l ≤ 80 ∧ (∀ x ∈ l, least l ≤ x) ∧ (least l = 80 ∨ least l ∈ l) := fold_le l 80

def vStep (l : List Nd) (v : Nat) (bs : List Bool) (i : Nat) : List Bool := if flag bs i && !isQ (nth l i) v then markAll bs (parts (nth l i)) else bs
def vDown (l : List Nd) (v : Nat) : Nat → List Bool → List Bool
  | 0, bs => bs
  | k + 1, bs => vDown l v k (vStep l v bs k)
def vL (l : List Nd) (v : Nat) : List Bool := vDown l v l.length (reachInit l.length)
theorem vStep_length (l : List Nd) (v : Nat) (bs : List Bool) (i : Nat) : (vStep l v bs i).length = bs.length := by
  unfold vStep; split
  · exact markAll_length _ _
  · rfl
theorem vDown_length (l : List Nd) (v : Nat) : ∀ (k : Nat) (bs : List Bool), (vDown l v k bs).length = bs.length := by
  intro k
  induction k with
  | zero => intro bs; rfl
  | succ k ih => intro bs; show (vDown l v k _).length = _; rw [ih, vStep_length]
theorem vStep_flag {l : List Nd} (v : Nat) (bs : List Bool) (k i : Nat) (hi : i < bs.length) : flag (vStep l v bs k) i = (flag bs i || ((flag bs k && !isQ (nth l k) v) && (parts (nth l k)).any fun p => p.toNat == i)) := by
  unfold vStep
  split
  · next h => rw [markAll_flag _ _ _ hi, h]; simp
  · next h => simp [Bool.eq_false_iff.2 h]
theorem v_high {l : List Nd} (hD : Down l) (v : Nat) : ∀ (k : Nat) (bs : List Bool), bs.length = l.length → k ≤ l.length → ∀ i, k ≤ i + 1 → i < l.length → flag (vDown l v k bs) i = flag bs i := by
  intro k
  induction k with
  | zero => intro bs _ _ i _ _; rfl
  | succ k ih =>
    intro bs hb hk i hi hl
    show flag (vDown l v k (vStep l v bs k)) i = _
    rw [ih _ (by rw [vStep_length]; exact hb) (by omega) i (by omega) hl, vStep_flag v bs k i (by omega)]
    have : (parts (nth l k)).any (fun p => p.toNat == i) = false := by
      rw [List.any_eq_false]
      intro p hp
      have := hD k (by omega) p hp
      simp; omega
    rw [this]; simp
theorem v_closed {l : List Nd} (hD : Down l) (v : Nat) : ∀ (k : Nat) (bs : List Bool), bs.length = l.length → k ≤ l.length → (∀ i, k ≤ i → i < l.length → flag bs i = true → isQ (nth l i) v = false → ∀ p ∈ parts (nth l i), flag bs p.toNat = true) →
    ∀ i, i < l.length → flag (vDown l v k bs) i = true → isQ (nth l i) v = false → ∀ p ∈ parts (nth l i), flag (vDown l v k bs) p.toNat = true := by
  intro k
  induction k with
  | zero => intro bs hb _ h i hi hf hq p hp; exact h i (by omega) hi hf hq p hp
  | succ k ih =>
    intro bs hb hk h i hi hf hq p hp
    refine ih (vStep l v bs k) (by rw [vStep_length]; exact hb) (by omega) (fun j hj hjl hfj hqj q hq' => ?_) i hi hf hq p hp
    have hqb := hD j hjl q hq'
    rw [vStep_flag v bs k _ (by omega)] at hfj ⊢
    by_cases e : j = k
    · subst e
      have hno : (parts (nth l j)).any (fun p => p.toNat == j) = false := by
        rw [List.any_eq_false]
        intro p hp
        have := hD j hjl p hp
        simp; omega
      rw [hno] at hfj
      simp at hfj
      rw [hfj, hqj]
      have : (parts (nth l j)).any (fun p => p.toNat == q.toNat) = true := List.any_eq_true.2 ⟨q, hq', by simp⟩
      rw [this]; simp
    · have hno : (parts (nth l k)).any (fun p => p.toNat == j) = false := by
        rw [List.any_eq_false]
        intro p hp
        have := hD k (by omega) p hp
        simp; omega
      rw [hno] at hfj
      simp at hfj
      rw [h j (by omega) hjl hfj hqj q hq']
      simp
theorem v_more {l : List Nd} (v : Nat) : ∀ (k : Nat) (bs : List Bool), bs.length = l.length → ∀ i, i < l.length → flag bs i = true → flag (vDown l v k bs) i = true := by
  intro k
  induction k with
  | zero => intro bs _ i _ h; exact h
  | succ k ih =>
    intro bs hb i hi h
    exact ih _ (by rw [vStep_length]; exact hb) i hi (by rw [vStep_flag v bs k i (by omega), h]; rfl)
theorem v_why {l : List Nd} (hD : Down l) (v : Nat) : ∀ (k : Nat) (bs : List Bool), bs.length = l.length → k ≤ l.length → ∀ i, i < l.length → flag (vDown l v k bs) i = true →
    flag bs i = true ∨ ∃ j, i < j ∧ j < l.length ∧ flag (vDown l v k bs) j = true ∧ isQ (nth l j) v = false ∧ (i : Int) ∈ parts (nth l j) := by
  intro k
  induction k with
  | zero => intro bs _ _ i _ h; exact .inl h
  | succ k ih =>
    intro bs hb hk i hi h
    have hb' : (vStep l v bs k).length = l.length := by rw [vStep_length]; exact hb
    rcases ih _ hb' (by omega) i hi h with h1 | ⟨j, h1⟩
    · rw [vStep_flag v bs k i (by omega)] at h1
      cases hf : flag bs i
      · rw [hf] at h1
        simp only [Bool.false_or, Bool.and_eq_true] at h1
        obtain ⟨⟨h2, h3⟩, h4⟩ := h1
        obtain ⟨p, hp, hpi⟩ := List.any_eq_true.1 h4
        have hpd := hD k (by omega) p hp
        have e : p = (i : Int) := by simp at hpi; omega
        subst e
        refine .inr ⟨k, by omega, by omega, ?_, by simpa using h3, hp⟩
        exact v_more v k _ hb' k (by omega) (by rw [vStep_flag v bs k k (by omega), h2]; rfl)
      · exact .inl rfl
    · exact .inr ⟨j, h1⟩
def vWid (l : List Nd) (v : Nat) : Nat → Int
  | 0 => 1
  | k + 1 => if flag (vL l v) (l.length - (k + 1)) && isVar (nth l (l.length - (k + 1))) v then (nth l (l.length - (k + 1))).w else vWid l v k
def widL (l : List Nd) (v : Nat) : Int := vWid l v l.length

theorem isVar_parts {n : Nd} {v : Nat} (h : isVar n v = true) : parts n = [] := by
  have : n.op = 1 := by unfold isVar at h; simp at h; exact h.1
  exact parts_none (by omega) (by omega) (by omega)
theorem ff_at {l : List Nd} (hD : Down l) (v : Nat) {i : Nat} (hi : i < l.length) : (ffTo l v l.length).getD i 80 = ffAt v i (nth l i) ((parts (nth l i)).map fun p => (ffTo l v l.length).getD p.toNat 80) :=
  wk_at 80 (ffAt v) hD hi hi
theorem v_root {l : List Nd} (hD : Down l) (v : Nat) (h : 1 ≤ l.length) : flag (vL l v) (l.length - 1) = true :=
  v_more v _ _ (reachInit_length _) _ (by omega) (by rw [init_flag _ _ (by omega)]; simp; omega)
theorem ff_down {l : List Nd} (hD : Down l) (v : Nat) (h1 : 1 ≤ l.length) : ∀ d i, l.length = i + 1 + d → flag (vL l v) i = true → ffTop l v ≤ (ffTo l v l.length).getD i 80 := by
  intro d
  induction d using Nat.strongRecOn with
  | ind d ih =>
    intro i hd hf
    rcases v_why hD v l.length _ (reachInit_length _) (Nat.le_refl _) i (by omega) hf with h | ⟨j, hij, hjl, hfj, hqj, hp⟩
    · rw [init_flag _ _ (by omega)] at h
      have : i = l.length - 1 := by simp at h; omega
      subst this; exact Int.le_refl _
    · refine Int.le_trans (ih (l.length - 1 - j) (by omega) j (by omega) hfj) ?_
      rw [ff_at hD v hjl]
      unfold ffAt
      have hv : isVar (nth l j) v = false := by
        cases e : isVar (nth l j) v
        · rfl
        · rw [isVar_parts e] at hp; cases hp
      rw [hv, hqj]
      simp only [Bool.false_eq_true, if_false]
      refine (least_le _).2.1 _ (List.mem_map.2 ⟨(i : Int), hp, ?_⟩)
      rw [Int.toNat_natCast]
theorem ff_up {l : List Nd} (hD : Down l) (v : Nat) : ∀ i, i < l.length → flag (vL l v) i = true →
    (ffTo l v l.length).getD i 80 = 80 ∨ ∃ j, j ≤ i ∧ (ffTo l v l.length).getD i 80 = (j : Int) ∧ flag (vL l v) j = true ∧ isVar (nth l j) v = true := by
  intro i
  induction i using Nat.strongRecOn with
  | ind i ih =>
    intro hi hf
    rw [ff_at hD v hi]
    unfold ffAt
    cases hv : isVar (nth l i) v
    · cases hq : isQ (nth l i) v
      · simp only [Bool.false_eq_true, if_false]
        rcases (least_le ((parts (nth l i)).map fun p => (ffTo l v l.length).getD p.toNat 80)).2.2 with e | e
        · exact .inl e
        · obtain ⟨p, hp, he⟩ := List.mem_map.1 e
          have hpd := hD i hi p hp
          have hfp := v_closed hD v l.length _ (reachInit_length _) (Nat.le_refl _) (fun a h1 h2 => by omega) i hi hf hq p hp
          rw [← he]
          rcases ih p.toNat (by omega) (by omega) hfp with h | ⟨j, h1, h2⟩
          · exact .inl h
          · exact .inr ⟨j, by omega, h2⟩
      · exact .inl (by simp)
    · exact .inr ⟨i, Nat.le_refl _, by simp, hf, hv⟩
theorem wid_ff {l : List Nd} (hD : Down l) (v : Nat) (h1 : 1 ≤ l.length) (h80 : l.length ≤ 80) (h : ¬ ffTop l v = 80) : ∃ j : Nat, ffTop l v = (j : Int) ∧ j < l.length ∧ widL l v = (nth l j).w := by
  rcases ff_up hD v (l.length - 1) (by omega) (v_root hD v h1) with e | ⟨j, hj, he, hf, hv⟩
  · exact absurd e h
  · refine ⟨j, he, by omega, ?_⟩
    have hmin : ∀ i, i < l.length → flag (vL l v) i = true → isVar (nth l i) v = true → j ≤ i := by
      intro i hi hfi hvi
      have h9 := ff_down hD v h1 (l.length - 1 - i) i (by omega) hfi
      rw [ff_at hD v hi] at h9
      unfold ffAt at h9
      rw [hvi, if_pos rfl] at h9
      have : ffTop l v = (j : Int) := he
      omega
    have : ∀ k, k ≤ l.length → l.length - k ≤ j → vWid l v k = (nth l j).w := by
      intro k
      induction k with
      | zero => intro _ h9; omega
      | succ k ih =>
        intro hk h9
        unfold vWid
        by_cases e : l.length - (k + 1) = j
        · rw [e, hf, hv]; simp
        · have hn : (flag (vL l v) (l.length - (k + 1)) && isVar (nth l (l.length - (k + 1))) v) = false := by
            rw [Bool.eq_false_iff]
            intro hc
            simp only [Bool.and_eq_true] at hc
            have := hmin _ (by omega) hc.1 hc.2
            omega
          rw [hn]
          exact ih (by omega) (by omega)
    exact this l.length (Nat.le_refl _) (by omega)
theorem ff_free {l : List Nd} (hD : Down l) (h80 : l.length ≤ 80) {v : Nat} (hv : v < 8) : ∀ i, i < l.length → (flag (row (freeRows l l.length) (i : Int)) v = true ↔ ¬ (ffTo l v l.length).getD i 80 = 80) := by
  intro i
  induction i using Nat.strongRecOn with
  | ind i ih =>
    intro hi
    rw [free_at hD hi hv, ff_at hD v hi]
    have hq' : (((nth l i).op == 19 || (nth l i).op == 20) && (nth l i).k == (v : Int)) = isQ (nth l i) v := rfl
    have hv' : ((nth l i).op == 1 && (nth l i).k == (v : Int)) = isVar (nth l i) v := rfl
    unfold freeAt ffAt
    rw [hq', hv']
    cases hvv : isVar (nth l i) v
    · cases hq : isQ (nth l i) v
      · simp only [Bool.false_eq_true, if_false, Bool.false_or]
        have hl := least_le ((parts (nth l i)).map fun p => (ffTo l v l.length).getD p.toNat 80)
        unfold inParts
        rw [List.any_eq_true]
        constructor
        · rintro ⟨p, hp, hf⟩
          have hpd := hD i hi p hp
          have e : ((p.toNat : Nat) : Int) = p := by omega
          rw [← e] at hf
          have h9 := (ih p.toNat (by omega) (by omega)).1 hf
          have h8 := hl.2.1 _ (List.mem_map.2 ⟨p, hp, rfl⟩)
          have h7 : (ffTo l v l.length).getD p.toNat 80 ≤ 80 := by
            rw [ff_at hD v (by omega)]
            unfold ffAt
            split
            · omega
            · split
              · omega
              · exact (least_le _).1
          omega
        · intro h9
          rcases hl.2.2 with e | e
          · exact absurd e h9
          · obtain ⟨p, hp, he⟩ := List.mem_map.1 e
            have hpd := hD i hi p hp
            refine ⟨p, hp, ?_⟩
            have e2 : ((p.toNat : Nat) : Int) = p := by omega
            rw [← e2]
            exact (ih p.toNat (by omega) (by omega)).2 (by rw [he]; exact h9)
      · simp
    · have hq : isQ (nth l i) v = false := by
        unfold isVar at hvv
        unfold isQ quant
        simp only [Bool.and_eq_true, beq_iff_eq] at hvv
        rw [hvv.1]; rfl
      rw [hq]
      simp; omega
theorem free_top {l : List Nd} (hD : Down l) (h1 : 1 ≤ l.length) (h80 : l.length ≤ 80) {v : Nat} (hv : v < 8) : flag (freeTop l) v = true ↔ ¬ ffTop l v = 80 := by
  have h := ff_free hD h80 hv (l.length - 1) (by omega)
  have e : ((l.length - 1 : Nat) : Int) = (l.length : Int) - 1 := by omega
  rw [e] at h
  exact h

end Go.Proofs.YtnbenffechplgaaGreat.Aq2
