/- Small texts of mine, one behind the other. -/
import Derived.Test.YtgfekhgeopflcaaGreatPkT610
import Derived.Test.YtgfekhgeopflcaaGreatTx4
import Derived.Test.YtgfekhgeopflcaaGreatPkT66
/- A term's canonical form is worth what it is worth. -/
namespace Go.Proofs.YtgfekhgeopflcaaGreat.Vl3
open Nd0 Pl1 Pl2 Tm0 Tm1 Tm3 Tm5 Tm8 Tm11 Tm13 Tm14 Tx0 Tx2 Tx3 Tx4 Tr0 Vl1 Vl2
set_option linter.unusedVariables false

theorem remap_reparts (l : List Nd) (n : Nd) : remap l n = reparts n ((parts n).map fun q => (plc l q).toNat) := by
  have hp : ∀ q, ((plc l q).toNat : Int) = plc l q := fun q => by unfold plc; omega
  by_cases h1 : n.op = 2 ∨ n.op = 17 ∨ n.op = 19 ∨ n.op = 20
  · unfold remap reparts; rw [parts_one h1]; simp [hp]
  · by_cases h2 : 3 ≤ n.op ∧ n.op ≤ 16
    · unfold remap reparts; rw [parts_two h2]; simp [hp]
    · by_cases h3 : n.op = 18
      · unfold remap reparts; rw [parts_three h3]; simp [hp]
      · unfold remap reparts; rw [parts_none h1 h2 h3]; simp
theorem X_prune {l : List Nd} (hT : termOk l = true) : ∀ x, x < l.length → flag (reachL l) x = true → X (pruneL l) (pl l x) = X l x := by
  intro x
  induction x using Nat.strongRecOn with
  | ind x ih =>
    intro hx hf
    have hD := down_of hT
    have hDp := down_of (prune_term hT)
    refine X_same hD hDp hx (pl_lt hT hx hf) (is := (parts (nth l x)).map fun q => (plc l q).toNat) (by simp) (by rw [prune_nth hT hx hf]; exact remap_reparts l _) ?_
    rw [List.map_map]
    apply List.map_congr_left
    intro p hp
    have h1 := hD x hx p hp
    have h2 := reach_closed hD hx hf hp
    have h3 := ih p.toNat (by omega) (by omega) h2
    have h4 := plc_pl l p.toNat
    rw [Int.toNat_of_nonneg h1.1] at h4
    simp only [Function.comp]
    rw [h4, Int.toNat_natCast]
    exact h3
theorem show_prune {l : List Nd} (hT : termOk l = true) : showL (pruneL l) = showL l := by
  rw [show_X (prune_term hT), show_X hT, ← (prune_root hT).1]
  exact X_prune hT _ (by have := term_len hT; omega) (reach_root (by have := term_len hT; omega))

theorem sum_erase {α : Type} [DecidableEq α] (f : α → Int) {x : α} : ∀ (b : List α), x ∈ b → (b.map f).sum = f x + ((b.erase x).map f).sum := by
  intro b
  induction b with
  | nil => intro h; cases h
  | cons y b ih =>
    intro h
    by_cases e : y = x
    · subst e
      rw [List.erase_cons_head]
      simp
    · have hx : x ∈ b := by
        rcases List.mem_cons.1 h with e' | e'
        · exact absurd e'.symm e
        · exact e'
      rw [List.erase_cons_tail (by simpa using e)]
      simp only [List.map_cons, List.sum_cons]
      rw [ih hx]
      omega
theorem sum_le_of_inj {α : Type} [DecidableEq α] (f : α → Int) : ∀ (a b : List α), a.Nodup → (∀ x ∈ a, x ∈ b) → (∀ x ∈ b, 0 ≤ f x) → (a.map f).sum ≤ (b.map f).sum := by
  intro a
  induction a with
  | nil =>
    intro b _ _ h0
    induction b with
    | nil => exact Int.le_refl _
    | cons y b ihb =>
      have h1 := h0 y (by simp)
      have h2 := ihb (by simp) (fun x hx => h0 x (by simp [hx]))
      simp only [List.map_nil, List.sum_nil, List.map_cons, List.sum_cons] at h2 ⊢
      omega
  | cons x a ih =>
    intro b hn hs h0
    have hx : x ∈ b := hs x (by simp)
    have hn' := List.nodup_cons.1 hn
    have h1 := ih (b.erase x) hn'.2 (fun y hy => by
      have hne : y ≠ x := by intro e; subst e; exact hn'.1 hy
      exact (List.mem_erase_of_ne hne).2 (hs y (by simp [hy]))) (fun y hy => h0 y (List.mem_of_mem_erase hy))
    have h2 := sum_erase f b hx
    rw [h2]
    simp only [List.map_cons, List.sum_cons]
    omega
/-- The bits of a tree's own quantifier. -/
def bT : Tr → Int
  | .one op _ _ b _ => if quant op then b else 0
  | _ => 0
theorem bT_at {l : List Nd} (hD : Down l) {i : Nat} (hi : i < l.length) : bT (tr l i) = if quant (nth l i).op then (nth l i).b else 0 := by
  rw [tr_at hD hi]
  generalize nth l i = n
  by_cases h1 : n.op = 2 ∨ n.op = 17 ∨ n.op = 19 ∨ n.op = 20
  · rw [mk_one h1]; rfl
  · have hq : quant n.op = false := by
      unfold quant
      simp only [Bool.or_eq_false_iff, beq_eq_false_iff_ne]
      exact ⟨fun e => h1 (by omega), fun e => h1 (by omega)⟩
    rw [hq]
    by_cases h2 : 3 ≤ n.op ∧ n.op ≤ 16
    · rw [mk_two h2]; rfl
    · by_cases h3 : n.op = 18
      · rw [mk_three h3]; rfl
      · rw [mk_leaf h1 h2 h3]; rfl
theorem bT_pos {x : Tr} (h : Rt x) : 0 ≤ bT x := by
  cases x with
  | one op w k b x =>
    obtain ⟨_, _, _, h⟩ := h
    show 0 ≤ if quant op then b else 0
    split
    · rename_i hq
      rcases h with ⟨rfl, _⟩ | ⟨rfl, _⟩ | ⟨_, _, _, _, _, h, _⟩
      · cases hq
      · cases hq
      · omega
    · exact Int.le_refl _
  | leaf _ _ _ => exact Int.le_refl _
  | two _ _ _ _ => exact Int.le_refl _
  | three _ _ _ _ _ => exact Int.le_refl _
theorem bits_le {l : List Nd} (hT : termOk l = true) : ∀ k, k ≤ l.length → bitsTo l k ≤ ((List.range k).map fun i => bT (tr l i)).sum := by
  intro k
  induction k with
  | zero => intro _; exact Int.le_refl _
  | succ k ih =>
    intro hk
    have h1 := ih (by omega)
    have h2 := bT_pos (rt_all (down_of hT) (fun k hk => term_node hT hk) k (by omega)).1
    have h3 := bT_at (down_of hT) (i := k) (by omega)
    rw [List.range_succ, List.map_append, List.sum_append]
    simp only [bitsTo, List.map_cons, List.map_nil, List.sum_cons, List.sum_nil]
    cases hf : flag (reachL l) k
    · simp only [Bool.false_and, Bool.false_eq_true, if_false]; omega
    · simp only [Bool.true_and]
      rw [h3] at h2 ⊢
      split
      · omega
      · omega
theorem bits_all {l : List Nd} (hT : termOk l = true) (hR : ∀ j, j < l.length → flag (reachL l) j = true) : ∀ k, k ≤ l.length → bitsTo l k = ((List.range k).map fun i => bT (tr l i)).sum := by
  intro k
  induction k with
  | zero => intro _; rfl
  | succ k ih =>
    intro hk
    have h1 := ih (by omega)
    have h3 := bT_at (down_of hT) (i := k) (by omega)
    rw [List.range_succ, List.map_append, List.sum_append]
    simp only [bitsTo, List.map_cons, List.map_nil, List.sum_cons, List.sum_nil]
    rw [hR k (by omega), h3, ← h1]
    simp only [Bool.true_and]
    split <;> omega
/-- A list read of a term's text has no more bits. -/
theorem bits_emb {p u : List Nd} (hP : termOk p = true) (hR : ∀ j, j < p.length → flag (reachL p) j = true) (hU : termOk u = true) (hG : Neat u) (hE : Emb p u) : bitsTo u u.length ≤ bitsTo p p.length := by
  classical
  rw [bits_all hP hR p.length (Nat.le_refl _)]
  refine Int.le_trans (bits_le hU u.length (Nat.le_refl _)) ?_
  have h := sum_le_of_inj (α := List UInt8 × Tr) (fun x => bT x.2) ((List.range u.length).map fun j => (X u j, tr u j)) ((List.range p.length).map fun i => (X p i, tr p i)) (by
    rw [List.nodup_iff_pairwise_ne, List.pairwise_map]
    refine List.Pairwise.imp_of_mem ?_ (List.nodup_range (n := u.length))
    intro a b ha hb hab e
    exact hab (text_inj hG (List.mem_range.1 ha) (List.mem_range.1 hb) (hE a (List.mem_range.1 ha)).1 (congrArg Prod.fst e))) (by
    intro x hx
    obtain ⟨j, hj, rfl⟩ := List.mem_map.1 hx
    obtain ⟨i, hi, e1, e2⟩ := (hE j (List.mem_range.1 hj)).2
    exact List.mem_map.2 ⟨i, List.mem_range.2 hi, by rw [e1, e2]⟩) (by
    intro x hx
    obtain ⟨i, hi, rfl⟩ := List.mem_map.1 hx
    exact bT_pos (rt_all (down_of hP) (fun k hk => term_node hP hk) i (List.mem_range.1 hi)).1)
  rw [List.map_map, List.map_map] at h
  exact h
theorem value_parts {l : List Nd} {e : List Int} {x : Int} : valueL l e = some x ↔ termOk l = true ∧ e.length = 8 ∧ bitsTo l l.length ≤ 12 ∧ fitT (root l) e = true ∧ vT (root l) e = x := by
  unfold valueL
  split
  · rename_i hc
    simp only [Bool.and_eq_true, decide_eq_true_eq] at hc
    constructor
    · intro h; cases h; exact ⟨hc.1.1.1, hc.1.1.2, hc.1.2, hc.2, rfl⟩
    · intro h; rw [h.2.2.2.2]
  · rename_i hc
    simp only [Bool.and_eq_true, decide_eq_true_eq] at hc
    constructor
    · intro h; cases h
    · intro h; exact absurd ⟨⟨⟨h.1, h.2.1⟩, h.2.2.1⟩, h.2.2.2.1⟩ hc
/-- A term's canonical form is worth what it is worth. -/
theorem value_canon {l : List Nd} {e : List Int} {x : Int} (h : valueL l e = some x) (hc : canonL l ≠ []) : valueL (canonL l) e = some x := by
  obtain ⟨hT, he, hb, hf, hv⟩ := value_parts.1 h
  have hS : showL l ≠ [] := by
    intro e0
    refine hc ?_
    unfold canonL
    rw [if_pos (by rw [e0]; rfl)]
  have hP := prune_term hT
  have hSp : showL (pruneL l) ≠ [] := by rw [show_prune hT]; exact hS
  obtain ⟨u, h1, h2, h3, hG, hE, hr⟩ := canon_tree hP hSp
  have hu : canonL l = u := by
    unfold canonL
    rw [if_neg (fun e0 => hS (List.eq_nil_of_length_eq_zero e0)), ← show_prune hT, h1]
  have hroot : root u = root l := by
    rw [← root_prune hT]; exact hr
  rw [hu]
  refine value_parts.2 ⟨h2, he, ?_, by rw [hroot]; exact hf, by rw [hroot]; exact hv⟩
  have hb1 := bits_emb hP (fun j hj => prune_reach hT hj) h2 hG hE
  have hb2 : bitsTo (pruneL l) (pruneL l).length = bitsTo l l.length := by
    rw [prune_len hT]; exact bits_pl hT l.length (Nat.le_refl _)
  omega

end Go.Proofs.YtgfekhgeopflcaaGreat.Vl3

/- A node put on a term; a variable told by a number: what that is worth. -/
namespace Go.Proofs.YtgfekhgeopflcaaGreat.Vl4
open Nd0 Pl1 Pl2 Tm0 Tm1 Tm3 Tm5 Tm8 Tm11 Tm12 Tm13 Tm14 Tx2 Tr0 Vl1 Vl2 Vl3
set_option linter.unusedVariables false

section
variable {t : List Nd} {q : Nd} (hT : termOk t = true) (hQ : termOk (t ++ [q]) = true) (hp : parts q = [(t.length : Int) - 1])
include hT hQ hp

theorem flag_more : ∀ d i, t.length = i + 1 + d → flag (reachL t) i = true → flag (reachL (t ++ [q])) i = true := by
  intro d
  induction d using Nat.strongRecOn with
  | ind d ih =>
    intro i hi hf
    have hl := term_len hT
    have hDq := down_of hQ
    rcases reach_why (down_of hT) (i := i) (by omega) hf with e | ⟨j, h1, h2, h3, h4⟩
    · have hr : flag (reachL (t ++ [q])) t.length = true := by
        have := reach_root (l := t ++ [q]) (by simp)
        simpa using this
      have := reach_closed hDq (i := t.length) (by simp) hr (p := (t.length : Int) - 1) (by rw [nth_app_last, hp]; simp)
      rw [show ((t.length : Int) - 1).toNat = i by omega] at this
      exact this
    · have := reach_closed hDq (i := j) (by simp; omega) (ih (t.length - (j + 1)) (by omega) j (by omega) h3) (p := (i : Int)) (by rw [nth_app_left h2]; exact h4)
      rw [Int.toNat_natCast] at this
      exact this
theorem flag_less : ∀ d i, t.length = i + 1 + d → flag (reachL (t ++ [q])) i = true → flag (reachL t) i = true := by
  intro d
  induction d using Nat.strongRecOn with
  | ind d ih =>
    intro i hi hf
    have hl := term_len hT
    rcases reach_why (down_of hQ) (i := i) (by simp; omega) hf with e | ⟨j, h1, h2, h3, h4⟩
    · simp at e; omega
    · simp only [List.length_append, List.length_cons, List.length_nil] at h2
      by_cases hj : j < t.length
      · rw [nth_app_left hj] at h4
        have := reach_closed (down_of hT) (i := j) hj (ih (t.length - (j + 1)) (by omega) j (by omega) h3) (p := (i : Int)) h4
        rw [Int.toNat_natCast] at this
        exact this
      · have e : j = t.length := by omega
        subst e
        rw [nth_app_last, hp] at h4
        have e2 : (i : Int) = (t.length : Int) - 1 := by simpa using h4
        have e3 : i = t.length - 1 := by omega
        rw [e3]
        exact reach_root (by omega)
theorem flag_snoc {i : Nat} (hi : i < t.length) : flag (reachL (t ++ [q])) i = flag (reachL t) i := by
  cases h : flag (reachL t) i
  · cases h2 : flag (reachL (t ++ [q])) i
    · rfl
    · rw [flag_less hT hQ hp (t.length - (i + 1)) i (by omega) h2] at h; cases h
  · exact flag_more hT hQ hp (t.length - (i + 1)) i (by omega) h
theorem bits_to : ∀ k, k ≤ t.length → bitsTo (t ++ [q]) k = bitsTo t k := by
  intro k
  induction k with
  | zero => intro _; rfl
  | succ k ih =>
    intro hk
    simp only [bitsTo]
    rw [ih (by omega), flag_snoc hT hQ hp (by omega), nth_app_left (by omega)]
theorem bits_snoc : bitsTo (t ++ [q]) (t ++ [q]).length = bitsTo t t.length + (if quant q.op then q.b else 0) := by
  have hr : flag (reachL (t ++ [q])) t.length = true := by
    have := reach_root (l := t ++ [q]) (by simp)
    simpa using this
  rw [List.length_append]
  show bitsTo (t ++ [q]) (t.length + 1) = _
  simp only [bitsTo]
  rw [hr, nth_app_last, bits_to hT hQ hp t.length (Nat.le_refl _)]
  simp only [Bool.true_and]
  split <;> omega
theorem root_snoc (h1 : q.op = 2 ∨ q.op = 17 ∨ q.op = 19 ∨ q.op = 20) : root (t ++ [q]) = .one q.op q.w q.k q.b (root t) := by
  have hl := term_len hT
  have ha : q.a = (t.length : Int) - 1 := by
    rw [parts_one h1] at hp
    simpa using hp
  unfold root
  have e : (t ++ [q]).length - 1 = t.length := by simp
  rw [e, tr_at (down_of hQ) (by simp), nth_app_last, mk_one h1, ha, show ((t.length : Int) - 1).toNat = t.length - 1 by omega, tr_app t [q] (by omega)]
end

theorem fit_one {op w k b : Int} {x : Tr} {e : List Int} (hq : quant op = true) : fitT (.one op w k b x) e = true ↔ ∃ r, needT x = some r ∧ ¬ (r.getD k.toNat 0 ≠ 0 ∧ r.getD k.toNat 0 ≠ 2 ^ b.toNat) ∧ Fits (r.set k.toNat 0) e := by
  unfold fitT
  simp only [needT]
  cases hn : needT x with
  | none => simp
  | some r =>
    simp only [Option.bind_some, hq, if_true]
    by_cases hc : r.getD k.toNat 0 ≠ 0 ∧ r.getD k.toNat 0 ≠ 2 ^ b.toNat
    · rw [if_pos hc]
      constructor
      · intro h; cases h
      · rintro ⟨r', h1, h2, _⟩; cases h1; exact absurd hc h2
    · rw [if_neg hc]
      constructor
      · intro h; exact ⟨r, rfl, hc, fit_iff.1 h⟩
      · rintro ⟨r', h1, _, h3⟩; cases h1; exact fit_iff.2 h3
/-- A quantifier put on a formula: each value put in has a value, and the whole is worth 1 just when all are, or one is. -/
theorem value_quant {t : List Nd} {e : List Int} {op v w x : Int} (hT : termOk t = true) (hw : (nth t (t.length - 1)).w = 1) (hl : t.length < 80) (hop : op = 19 ∨ op = 20) (hv : 0 ≤ v ∧ v ≤ 7) (hb : 1 ≤ w ∧ w ≤ 8)
    (h : valueL (t ++ [⟨op, 1, v, (t.length : Int) - 1, w, 0⟩]) e = some x) :
    (∀ k : Nat, k < 2 ^ w.toNat → valueL t (e.set v.toNat (k : Int)) = some (vT (root t) (e.set v.toNat (k : Int)))) ∧ vT (.one op 1 v w (root t)) e = x := by
  have hQ := termOk_quant hT hw hl hop hv hb
  have hp : parts (⟨op, 1, v, (t.length : Int) - 1, w, 0⟩ : Nd) = [(t.length : Int) - 1] := parts_one (by rcases hop with e | e <;> simp [e])
  have hq : quant op = true := by rcases hop with rfl | rfl <;> rfl
  obtain ⟨_, he, hbt, hf, hx⟩ := value_parts.1 h
  rw [root_snoc hT hQ hp (by rcases hop with e | e <;> simp [e])] at hf hx
  rw [bits_snoc hT hQ hp] at hbt
  simp only [hq, if_true] at hbt
  obtain ⟨r, hr, hc, hF⟩ := (fit_one hq).1 hf
  refine ⟨fun k hk => value_parts.2 ⟨hT, by rw [List.length_set]; exact he, by omega, ?_, rfl⟩, hx⟩
  unfold fitT
  rw [hr]
  exact fit_iff.2 (Fits.below (need_len _ _ hr) he hv hb hk hc hF)
theorem quant_can {t : List Nd} {e : List Int} {v w : Int} (hT : termOk t = true) (hw : (nth t (t.length - 1)).w = 1) (hl : t.length < 80) (hv : 0 ≤ v ∧ v ≤ 7) (hb : 1 ≤ w ∧ w ≤ 8) {op op' : Int} (ho : op = 19 ∨ op = 20) (ho' : op' = 19 ∨ op' = 20)
    (h : (valueL (t ++ [⟨op, 1, v, (t.length : Int) - 1, w, 0⟩]) e).isSome = true) : (valueL (t ++ [⟨op', 1, v, (t.length : Int) - 1, w, 0⟩]) e).isSome = true := by
  obtain ⟨x, h⟩ := Option.isSome_iff_exists.1 h
  have hQ := termOk_quant hT hw hl ho hv hb
  have hQ' := termOk_quant hT hw hl ho' hv hb
  have hp : parts (⟨op, 1, v, (t.length : Int) - 1, w, 0⟩ : Nd) = [(t.length : Int) - 1] := parts_one (by rcases ho with e | e <;> simp [e])
  have hp' : parts (⟨op', 1, v, (t.length : Int) - 1, w, 0⟩ : Nd) = [(t.length : Int) - 1] := parts_one (by rcases ho' with e | e <;> simp [e])
  have hq : quant op = true := by rcases ho with rfl | rfl <;> rfl
  have hq' : quant op' = true := by rcases ho' with rfl | rfl <;> rfl
  obtain ⟨_, he, hbt, hf, hx⟩ := value_parts.1 h
  rw [root_snoc hT hQ hp (by rcases ho with e | e <;> simp [e])] at hf
  rw [bits_snoc hT hQ hp] at hbt
  simp only [hq, if_true] at hbt
  refine Option.isSome_iff_exists.2 ⟨_, value_parts.2 ⟨hQ', he, ?_, ?_, rfl⟩⟩
  · rw [bits_snoc hT hQ' hp']
    simp only [hq', if_true]
    exact hbt
  · rw [root_snoc hT hQ' hp' (by rcases ho' with e | e <;> simp [e])]
    exact (fit_one hq').2 ((fit_one hq).1 hf)

/-- A variable told by a number. -/
def badR (v k : Int) (n : Nd) : Bool := (quant n.op && n.k == v) || (n.op == 1 && n.k == v && !wok n.w k)
def replN (v k : Int) (n : Nd) : Nd := if n.op = 1 ∧ n.k = v then ⟨0, n.w, k, n.a, n.b, n.c⟩ else n
def replL (t : List Nd) (v k : Int) : Option (List Nd) := if termOk t && !t.any (badR v k) then some (t.map (replN v k)) else none
def subT (v k : Int) : Tr → Tr
  | .leaf op w x => if op = 1 ∧ x = v then .leaf 0 w k else .leaf op w x
  | .one op w x b y => .one op w x b (subT v k y)
  | .two op w x y => .two op w (subT v k x) (subT v k y)
  | .three op w x y z => .three op w (subT v k x) (subT v k y) (subT v k z)
theorem sub_wid (v k : Int) (x : Tr) : (subT v k x).wid = x.wid := by
  cases x with
  | leaf op w y => unfold subT; split <;> rfl
  | one => rfl
  | two => rfl
  | three => rfl
/-- No quantifier of v is in it. -/
def NoQ (v : Int) : Tr → Prop
  | .leaf _ _ _ => True
  | .one op _ x _ y => ¬ (quant op = true ∧ x = v) ∧ NoQ v y
  | .two _ _ x y => NoQ v x ∧ NoQ v y
  | .three _ _ x y z => NoQ v x ∧ NoQ v y ∧ NoQ v z
theorem sub_value {v k : Int} (hv : 0 ≤ v ∧ v ≤ 7) : ∀ (x : Tr) (e : List Int), e.length = 8 → Rt x → NoQ v x → vT (subT v k x) e = vT x (e.set v.toNat k) := by
  intro x
  induction x with
  | leaf op w y =>
    intro e he hr _
    obtain ⟨h1, h8, h⟩ := hr
    by_cases hc : op = 1 ∧ y = v
    · obtain ⟨rfl, rfl⟩ := hc
      have e1 : subT y k (.leaf 1 w y) = .leaf 0 w k := if_pos ⟨rfl, rfl⟩
      rw [e1]
      simp only [vT]
      rw [if_neg (by decide), app_in ⟨h1, h8⟩ (by decide) (by decide) (by decide) (by decide)]
      simp only [if_true]
      rw [List.getD_eq_getElem?_getD, List.getElem?_set_self (by omega)]
      rfl
    · have e1 : subT v k (.leaf op w y) = .leaf op w y := if_neg hc
      rw [e1]
      simp only [vT]
      by_cases h1 : op = 1
      · rw [if_pos h1, if_pos h1, List.getD_eq_getElem?_getD, List.getD_eq_getElem?_getD, List.getElem?_set_ne]
        intro e2
        refine hc ⟨h1, ?_⟩
        rcases h with ⟨rfl, _⟩ | ⟨_, a, b⟩
        · cases h1
        · omega
      · rw [if_neg h1, if_neg h1]
  | one op w y b x ih =>
    intro e he hr hn
    obtain ⟨hn1, hn2⟩ := hn
    obtain ⟨_, _, hx, h⟩ := hr
    have hstep : quant op = true → ∀ i : Nat, vT (subT v k x) (e.set y.toNat (i : Int)) = vT x ((e.set v.toNat k).set y.toNat (i : Int)) := fun hq i => by
      rw [ih _ (by rw [List.length_set]; exact he) hx hn2, List.set_comm]
      intro e2
      have hyv : ¬ y = v := fun e3 => hn1 ⟨hq, e3⟩
      rcases h with ⟨rfl, _⟩ | ⟨rfl, _⟩ | ⟨_, _, _, a, b, _⟩
      · cases hq
      · cases hq
      · omega
    show vT (.one op w y b (subT v k x)) e = _
    simp only [vT]
    by_cases h19 : op = 19
    · have hq : quant op = true := by rw [h19]; rfl
      rw [if_pos h19, if_pos h19]
      simp only [hstep hq]
    · rw [if_neg h19, if_neg h19]
      by_cases h20 : op = 20
      · have hq : quant op = true := by rw [h20]; rfl
        rw [if_pos h20, if_pos h20]
        simp only [hstep hq]
      · rw [if_neg h20, if_neg h20, sub_wid, ih e he hx hn2]
  | two op w x y ih1 ih2 =>
    intro e he hr hn
    obtain ⟨_, _, hx, hy, _⟩ := hr
    show vT (.two op w (subT v k x) (subT v k y)) e = _
    simp only [vT]
    rw [sub_wid, ih1 e he hx hn.1, ih2 e he hy hn.2]
  | three op w x y z ih1 ih2 ih3 =>
    intro e he hr hn
    obtain ⟨_, _, hx, hy, hz, _⟩ := hr
    show vT (.three op w (subT v k x) (subT v k y) (subT v k z)) e = _
    simp only [vT]
    rw [sub_wid, ih1 e he hx hn.1, ih2 e he hy hn.2.1, ih3 e he hz hn.2.2]
theorem repl_parts (v k : Int) (n : Nd) : parts (replN v k n) = parts n := by
  unfold replN
  split
  · rename_i h
    rw [parts_none (n := n) (by omega) (by omega) (by omega)]
    exact parts_none (by simp only; omega) (by simp only; omega) (by simp only; omega)
  · rfl
theorem repl_nth (t : List Nd) (v k : Int) {i : Nat} (hi : i < t.length) : nth (t.map (replN v k)) i = replN v k (nth t i) := by
  rw [← nth_get (l := t.map (replN v k)) (by simpa using hi), List.getElem_map, nth_get hi]
theorem repl_down {t : List Nd} (hD : Down t) (v k : Int) : Down (t.map (replN v k)) := by
  intro i hi p hp
  rw [List.length_map] at hi
  rw [repl_nth t v k hi, repl_parts] at hp
  exact hD i hi p hp
theorem tr_repl {t : List Nd} (hD : Down t) (v k : Int) : ∀ i, i < t.length → tr (t.map (replN v k)) i = subT v k (tr t i) := by
  intro i
  induction i using Nat.strongRecOn with
  | ind i ih =>
    intro hi
    rw [tr_at (repl_down hD v k) (by simpa using hi), tr_at hD hi, repl_nth t v k hi]
    have hp : ∀ p ∈ parts (nth t i), tr (t.map (replN v k)) p.toNat = subT v k (tr t p.toNat) := fun p hp => by
      have := hD i hi p hp
      exact ih p.toNat (by omega) (by omega)
    generalize nth t i = n at hp
    by_cases h1 : n.op = 2 ∨ n.op = 17 ∨ n.op = 19 ∨ n.op = 20
    · have e : replN v k n = n := if_neg (by omega)
      rw [parts_one h1] at hp
      rw [e, mk_one h1, mk_one h1, hp n.a (by simp)]
      rfl
    · by_cases h2 : 3 ≤ n.op ∧ n.op ≤ 16
      · have e : replN v k n = n := if_neg (by omega)
        rw [parts_two h2] at hp
        rw [e, mk_two h2, mk_two h2, hp n.a (by simp), hp n.b (by simp)]
        rfl
      · by_cases h3 : n.op = 18
        · have e : replN v k n = n := if_neg (by omega)
          rw [parts_three h3] at hp
          rw [e, mk_three h3, mk_three h3, hp n.a (by simp), hp n.b (by simp), hp n.c (by simp)]
          rfl
        · rw [mk_leaf (n := n) h1 h2 h3]
          by_cases hc : n.op = 1 ∧ n.k = v
          · have e : replN v k n = ⟨0, n.w, k, n.a, n.b, n.c⟩ := if_pos hc
            rw [e, mk_leaf (by simp only; omega) (by simp only; omega) (by simp only; omega)]
            exact (if_pos hc).symm
          · have e : replN v k n = n := if_neg hc
            rw [e, mk_leaf (n := n) h1 h2 h3]
            exact (if_neg hc).symm
theorem noQ_all {t : List Nd} (hD : Down t) {v k : Int} (h : t.any (badR v k) = false) : ∀ i, i < t.length → NoQ v (tr t i) := by
  intro i
  induction i using Nat.strongRecOn with
  | ind i ih =>
    intro hi
    have hb : badR v k (nth t i) = false := by
      rw [List.any_eq_false] at h
      have := h (nth t i) (by rw [← nth_get hi]; exact List.getElem_mem _)
      simpa using this
    rw [tr_at hD hi]
    have hp : ∀ p ∈ parts (nth t i), NoQ v (tr t p.toNat) := fun p hp => by
      have := hD i hi p hp
      exact ih p.toNat (by omega) (by omega)
    generalize nth t i = n at hp hb
    by_cases h1 : n.op = 2 ∨ n.op = 17 ∨ n.op = 19 ∨ n.op = 20
    · rw [parts_one h1] at hp
      rw [mk_one h1]
      refine ⟨fun hc => ?_, hp n.a (by simp)⟩
      unfold badR at hb
      rw [hc.1, hc.2] at hb
      simp at hb
    · by_cases h2 : 3 ≤ n.op ∧ n.op ≤ 16
      · rw [parts_two h2] at hp
        rw [mk_two h2]
        exact ⟨hp n.a (by simp), hp n.b (by simp)⟩
      · by_cases h3 : n.op = 18
        · rw [parts_three h3] at hp
          rw [mk_three h3]
          exact ⟨hp n.a (by simp), hp n.b (by simp), hp n.c (by simp)⟩
        · rw [mk_leaf h1 h2 h3]; trivial
/-- A variable told by a number is worth what it is worth where it has that value. -/
theorem value_repl {t u : List Nd} {v k : Int} {e : List Int} {a b : Int} (hv : 0 ≤ v ∧ v ≤ 7) (hu : replL t v k = some u) (ha : valueL t (e.set v.toNat k) = some a) (hb : valueL u e = some b) : a = b := by
  obtain ⟨hT, he, _, _, h1⟩ := value_parts.1 ha
  obtain ⟨_, he2, _, _, h2⟩ := value_parts.1 hb
  unfold replL at hu
  split at hu
  · rename_i hc
    simp only [Bool.and_eq_true, Bool.not_eq_true'] at hc
    cases hu
    have hl := term_len hT
    have hD := down_of hT
    unfold root at h1 h2
    rw [List.length_map, tr_repl hD v k _ (by omega)] at h2
    rw [sub_value hv _ e he2 (rt_all hD (fun k hk => term_node hT hk) _ (by omega)).1 (noQ_all hD hc.2 _ (by omega)), h1] at h2
    exact h2
  · cases hu

end Go.Proofs.YtgfekhgeopflcaaGreat.Vl4
