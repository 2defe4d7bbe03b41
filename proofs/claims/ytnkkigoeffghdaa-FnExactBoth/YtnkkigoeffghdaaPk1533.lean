/- Small texts of mine, one behind the other. -/
import Derived.Test.YtnkkigoeffghdaaRows
import Derived.Test.YtnkkigoeffghdaaPk1532
import Derived.Test.YtnkkigoeffghdaaPk156
import Derived.Test.YtnkkigoeffghdaaPk1511
/- A node put on a term; a variable told by a number: what that is worth. -/
namespace Go.Proofs.Ytnkkigoeffghdaa.Vl4
open Nd0 Pl1 Pl2 Tm0 Tm1 Tm3 Tm5 Tm8 Tm11 Tm12 Tm13 Tm14 Tx2 Tr0 Vl1 Vl2 Vl3
set_option linter.unusedVariables false

section
variable {t : List Nd} {q : Nd} (hT : termOk t = true) (hQ : termOk (t ++ [q]) = true) (hp : parts q = [(t.length : Int) - 1])
include hT hQ hp

theorem flag_more : ∀ d i, t.length = i + 1 + d → flag (reachL t) i = true → flag (reachL (t ++ [q])) i = true := by
  intro d
  induction d using Nat.strongRecOn with
  | ind d ih =>
    intro i hi hf
    have hl := term_len hT
    have hDq := down_of hQ
    rcases reach_why (down_of hT) (i := i) (by omega) hf with e | ⟨j, h1, h2, h3, h4⟩
    · have hr : flag (reachL (t ++ [q])) t.length = true := by
        have := reach_root (l := t ++ [q]) (by simp)
        simpa using this
      have := reach_closed hDq (i := t.length) (by simp) hr (p := (t.length : Int) - 1) (by rw [nth_app_last, hp]; simp)
      rw [show ((t.length : Int) - 1).toNat = i by omega] at this
      exact this
    · have := reach_closed hDq (i := j) (by simp; omega) (ih (t.length - (j + 1)) (by omega) j (by omega) h3) (p := (i : Int)) (by rw [nth_app_left h2]; exact h4)
      rw [Int.toNat_natCast] at this
      exact this
theorem flag_less : ∀ d i, t.length = i + 1 + d → flag (reachL (t ++ [q])) i = true → flag (reachL t) i = true := by
  intro d
  induction d using Nat.strongRecOn with
  | ind d ih =>
    intro i hi hf
    have hl := term_len hT
    rcases reach_why (down_of hQ) (i := i) (by simp; omega) hf with e | ⟨j, h1, h2, h3, h4⟩
    · simp at e; omega
    · simp only [List.length_append, List.length_cons, List.length_nil] at h2
      by_cases hj : j < t.length
      · rw [nth_app_left hj] at h4
        have := reach_closed (down_of hT) (i := j) hj (ih (t.length - (j + 1)) (by omega) j (by omega) h3) (p := (i : Int)) h4
        rw [Int.toNat_natCast] at this
        exact this
      · have e : j = t.length := by omega
        subst e
        rw [nth_app_last, hp] at h4
        have e2 : (i : Int) = (t.length : Int) - 1 := by simpa using h4
        have e3 : i = t.length - 1 := by omega
        rw [e3]
        exact reach_root (by omega)
theorem flag_snoc {i : Nat} (hi : i < t.length) : flag (reachL (t ++ [q])) i = flag (reachL t) i := by
  cases h : flag (reachL t) i
  · cases h2 : flag (reachL (t ++ [q])) i
    · rfl
    · rw [flag_less hT hQ hp (t.length - (i + 1)) i (by omega) h2] at h; cases h
  · exact flag_more hT hQ hp (t.length - (i + 1)) i (by omega) h
theorem bits_to : ∀ k, k ≤ t.length → bitsTo (t ++ [q]) k = bitsTo t k := by
  intro k
  induction k with
  | zero => intro _; rfl
  | succ k ih =>
    intro hk
    simp only [bitsTo]
    rw [ih (by omega), flag_snoc hT hQ hp (by omega), nth_app_left (by omega)]
theorem bits_snoc : bitsTo (t ++ [q]) (t ++ [q]).length = bitsTo t t.length + (if quant q.op then q.b else 0) := by
  have hr : flag (reachL (t ++ [q])) t.length = true := by
    have := reach_root (l := t ++ [q]) (by simp)
    simpa using this
  rw [List.length_append]
  show bitsTo (t ++ [q]) (t.length + 1) = _
  simp only [bitsTo]
  rw [hr, nth_app_last, bits_to hT hQ hp t.length (Nat.le_refl _)]
  simp only [Bool.true_and]
  split <;> omega
theorem root_snoc (h1 : q.op = 2 ∨ q.op = 17 ∨ q.op = 19 ∨ q.op = 20) : root (t ++ [q]) = .one q.op q.w q.k q.b (root t) := by
  have hl := term_len hT
  have ha : q.a = (t.length : Int) - 1 := by
    rw [parts_one h1] at hp
    simpa using hp
  unfold root
  have e : (t ++ [q]).length - 1 = t.length := by simp
  rw [e, tr_at (down_of hQ) (by simp), nth_app_last, mk_one h1, ha, show ((t.length : Int) - 1).toNat = t.length - 1 by omega, tr_app t [q] (by omega)]
end

theorem fit_one {op w k b : Int} {x : Tr} {e : List Int} (hq : quant op = true) : fitT (.one op w k b x) e = true ↔ ∃ r, needT x = some r ∧ ¬ (r.getD k.toNat 0 ≠ 0 ∧ r.getD k.toNat 0 ≠ 2 ^ b.toNat) ∧ Fits (r.set k.toNat 0) e := by
  unfold fitT
  simp only [needT]
  cases hn : needT x with
  | none => simp
  | some r =>
    simp only [Option.bind_some, hq, if_true]
    by_cases hc : r.getD k.toNat 0 ≠ 0 ∧ r.getD k.toNat 0 ≠ 2 ^ b.toNat
    · rw [if_pos hc]
      constructor
      · intro h; cases h
      · rintro ⟨r', h1, h2, _⟩; cases h1; exact absurd hc h2
    · rw [if_neg hc]
      constructor
      · intro h; exact ⟨r, rfl, hc, fit_iff.1 h⟩
      · rintro ⟨r', h1, _, h3⟩; cases h1; exact fit_iff.2 h3
/-- A quantifier put on a formula: each value put in has a value, and the whole is worth 1 just when all are, or one is. -/
theorem value_quant {t : List Nd} {e : List Int} {op v w x : Int} (hT : termOk t = true) (hw : (nth t (t.length - 1)).w = 1) (hl : t.length < 80) (hop : op = 19 ∨ op = 20) (hv : 0 ≤ v ∧ v ≤ 7) (hb : 1 ≤ w ∧ w ≤ 8)
    (h : valueL (t ++ [⟨op, 1, v, (t.length : Int) - 1, w, 0⟩]) e = some x) :
    (∀ k : Nat, k < 2 ^ w.toNat → valueL t (e.set v.toNat (k : Int)) = some (vT (root t) (e.set v.toNat (k : Int)))) ∧ vT (.one op 1 v w (root t)) e = x := by
  have hQ := termOk_quant hT hw hl hop hv hb
  have hp : parts (⟨op, 1, v, (t.length : Int) - 1, w, 0⟩ : Nd) = [(t.length : Int) - 1] := parts_one (by rcases hop with e | e <;> simp [e])
  have hq : quant op = true := by rcases hop with rfl | rfl <;> rfl
  obtain ⟨_, he, hbt, hf, hx⟩ := value_parts.1 h
  rw [root_snoc hT hQ hp (by rcases hop with e | e <;> simp [e])] at hf hx
  rw [bits_snoc hT hQ hp] at hbt
  simp only [hq, if_true] at hbt
  obtain ⟨r, hr, hc, hF⟩ := (fit_one hq).1 hf
  refine ⟨fun k hk => value_parts.2 ⟨hT, by rw [List.length_set]; exact he, by omega, ?_, rfl⟩, hx⟩
  unfold fitT
  rw [hr]
  exact fit_iff.2 (Fits.below (need_len _ _ hr) he hv hb hk hc hF)
theorem quant_can {t : List Nd} {e : List Int} {v w : Int} (hT : termOk t = true) (hw : (nth t (t.length - 1)).w = 1) (hl : t.length < 80) (hv : 0 ≤ v ∧ v ≤ 7) (hb : 1 ≤ w ∧ w ≤ 8) {op op' : Int} (ho : op = 19 ∨ op = 20) (ho' : op' = 19 ∨ op' = 20)
    (h : (valueL (t ++ [⟨op, 1, v, (t.length : Int) - 1, w, 0⟩]) e).isSome = true) : (valueL (t ++ [⟨op', 1, v, (t.length : Int) - 1, w, 0⟩]) e).isSome = true := by
  obtain ⟨x, h⟩ := Option.isSome_iff_exists.1 h
  have hQ := termOk_quant hT hw hl ho hv hb
  have hQ' := termOk_quant hT hw hl ho' hv hb
  have hp : parts (⟨op, 1, v, (t.length : Int) - 1, w, 0⟩ : Nd) = [(t.length : Int) - 1] := parts_one (by rcases ho with e | e <;> simp [e])
  have hp' : parts (⟨op', 1, v, (t.length : Int) - 1, w, 0⟩ : Nd) = [(t.length : Int) - 1] := parts_one (by rcases ho' with e | e <;> simp [e])
  have hq : quant op = true := by rcases ho with rfl | rfl <;> rfl
  have hq' : quant op' = true := by rcases ho' with rfl | rfl <;> rfl
  obtain ⟨_, he, hbt, hf, hx⟩ := value_parts.1 h
  rw [root_snoc hT hQ hp (by rcases ho with e | e <;> simp [e])] at hf
  rw [bits_snoc hT hQ hp] at hbt
  simp only [hq, if_true] at hbt
  refine Option.isSome_iff_exists.2 ⟨_, value_parts.2 ⟨hQ', he, ?_, ?_, rfl⟩⟩
  · rw [bits_snoc hT hQ' hp']
    simp only [hq', if_true]
    exact hbt
  · rw [root_snoc hT hQ' hp' (by rcases ho' with e | e <;> simp [e])]
    exact (fit_one hq').2 ((fit_one hq).1 hf)

/-- A variable told by a number. -/
def badR (v k : Int) (n : Nd) : Bool := (quant n.op && n.k == v) || (n.op == 1 && n.k == v && !wok n.w k)
def replN (v k : Int) (n : Nd) : Nd := if n.op = 1 ∧ n.k = v then ⟨0, n.w, k, n.a, n.b, n.c⟩ else n
def replL (t : List Nd) (v k : Int) : Option (List Nd) := if termOk t && !t.any (badR v k) then some (t.map (replN v k)) else none
def subT (v k : Int) : Tr → Tr
  | .leaf op w x => if op = 1 ∧ x = v then .leaf 0 w k else .leaf op w x
  | .one op w x b y => .one op w x b (subT v k y)
  | .two op w x y => .two op w (subT v k x) (subT v k y)
  | .three op w x y z => .three op w (subT v k x) (subT v k y) (subT v k z)
theorem sub_wid (v k : Int) (x : Tr) : (subT v k x).wid = x.wid := by
  cases x with
  | leaf op w y => unfold subT; split <;> rfl
  | one => rfl
  | two => rfl
  | three => rfl
/-- No quantifier of v is in it. -/
def NoQ (v : Int) : Tr → Prop
  | .leaf _ _ _ => True
  | .one op _ x _ y => ¬ (quant op = true ∧ x = v) ∧ NoQ v y
  | .two _ _ x y => NoQ v x ∧ NoQ v y
  | .three _ _ x y z => NoQ v x ∧ NoQ v y ∧ NoQ v z
theorem sub_value {v k : Int} (hv : 0 ≤ v ∧ v ≤ 7) : ∀ (x : Tr) (e : List Int), e.length = 8 → Rt x → NoQ v x → vT (subT v k x) e = vT x (e.set v.toNat k) := by
  intro x
  induction x with
  | leaf op w y =>
    intro e he hr _
    obtain ⟨h1, h8, h⟩ := hr
    by_cases hc : op = 1 ∧ y = v
    · obtain ⟨rfl, rfl⟩ := hc
      have e1 : subT y k (.leaf 1 w y) = .leaf 0 w k := if_pos ⟨rfl, rfl⟩
      rw [e1]
      simp only [vT]
      rw [if_neg (by decide), app_in ⟨h1, h8⟩ (by decide) (by decide) (by decide) (by decide)]
      simp only [if_true]
      rw [List.getD_eq_getElem?_getD, List.getElem?_set_self (by omega)]
      rfl
    · have e1 : subT v k (.leaf op w y) = .leaf op w y := if_neg hc
      rw [e1]
      simp only [vT]
      by_cases h1 : op = 1
      · rw [if_pos h1, if_pos h1, List.getD_eq_getElem?_getD, List.getD_eq_getElem?_getD, List.getElem?_set_ne]
        intro e2
        refine hc ⟨h1, ?_⟩
        rcases h with ⟨rfl, _⟩ | ⟨_, a, b⟩
        · cases h1
        · omega
      · rw [if_neg h1, if_neg h1]
  | one op w y b x ih =>
    intro e he hr hn
    obtain ⟨hn1, hn2⟩ := hn
    obtain ⟨_, _, hx, h⟩ := hr
    have hstep : quant op = true → ∀ i : Nat, vT (subT v k x) (e.set y.toNat (i : Int)) = vT x ((e.set v.toNat k).set y.toNat (i : Int)) := fun hq i => by
      rw [ih _ (by rw [List.length_set]; exact he) hx hn2, List.set_comm]
      intro e2
      have hyv : ¬ y = v := fun e3 => hn1 ⟨hq, e3⟩
      rcases h with ⟨rfl, _⟩ | ⟨rfl, _⟩ | ⟨_, _, _, a, b, _⟩
      · cases hq
      · cases hq
      · omega
    show vT (.one op w y b (subT v k x)) e = _
    simp only [vT]
    by_cases h19 : op = 19
    · have hq : quant op = true := by rw [h19]; rfl
      rw [if_pos h19, if_pos h19]
      simp only [hstep hq]
    · rw [if_neg h19, if_neg h19]
      by_cases h20 : op = 20
      · have hq : quant op = true := by rw [h20]; rfl
        rw [if_pos h20, if_pos h20]
        simp only [hstep hq]
      · rw [if_neg h20, if_neg h20, sub_wid, ih e he hx hn2]
  | two op w x y ih1 ih2 =>
    intro e he hr hn
    obtain ⟨_, _, hx, hy, _⟩ := hr
    show vT (.two op w (subT v k x) (subT v k y)) e = _
    simp only [vT]
    rw [sub_wid, ih1 e he hx hn.1, ih2 e he hy hn.2]
  | three op w x y z ih1 ih2 ih3 =>
    intro e he hr hn
    obtain ⟨_, _, hx, hy, hz, _⟩ := hr
    show vT (.three op w (subT v k x) (subT v k y) (subT v k z)) e = _
    simp only [vT]
    rw [sub_wid, ih1 e he hx hn.1, ih2 e he hy hn.2.1, ih3 e he hz hn.2.2]
theorem repl_parts (v k : Int) (n : Nd) : parts (replN v k n) = parts n := by
  unfold replN
  split
  · rename_i h
    rw [parts_none (n := n) (by omega) (by omega) (by omega)]
    exact parts_none (by simp only; omega) (by simp only; omega) (by simp only; omega)
  · rfl
theorem repl_nth (t : List Nd) (v k : Int) {i : Nat} (hi : i < t.length) : nth (t.map (replN v k)) i = replN v k (nth t i) := by
  rw [← nth_get (l := t.map (replN v k)) (by simpa using hi), List.getElem_map, nth_get hi]
theorem repl_down {t : List Nd} (hD : Down t) (v k : Int) : Down (t.map (replN v k)) := by
  intro i hi p hp
  rw [List.length_map] at hi
  rw [repl_nth t v k hi, repl_parts] at hp
  exact hD i hi p hp
theorem tr_repl {t : List Nd} (hD : Down t) (v k : Int) : ∀ i, i < t.length → tr (t.map (replN v k)) i = subT v k (tr t i) := by
  intro i
  induction i using Nat.strongRecOn with
  | ind i ih =>
    intro hi
    rw [tr_at (repl_down hD v k) (by simpa using hi), tr_at hD hi, repl_nth t v k hi]
    have hp : ∀ p ∈ parts (nth t i), tr (t.map (replN v k)) p.toNat = subT v k (tr t p.toNat) := fun p hp => by
      have := hD i hi p hp
      exact ih p.toNat (by omega) (by omega)
    generalize nth t i = n at hp
    by_cases h1 : n.op = 2 ∨ n.op = 17 ∨ n.op = 19 ∨ n.op = 20
    · have e : replN v k n = n := if_neg (by omega)
      rw [parts_one h1] at hp
      rw [e, mk_one h1, mk_one h1, hp n.a (by simp)]
      rfl
    · by_cases h2 : 3 ≤ n.op ∧ n.op ≤ 16
      · have e : replN v k n = n := if_neg (by omega)
        rw [parts_two h2] at hp
        rw [e, mk_two h2, mk_two h2, hp n.a (by simp), hp n.b (by simp)]
        rfl
      · by_cases h3 : n.op = 18
        · have e : replN v k n = n := if_neg (by omega)
          rw [parts_three h3] at hp
          rw [e, mk_three h3, mk_three h3, hp n.a (by simp), hp n.b (by simp), hp n.c (by simp)]
          rfl
        · rw [mk_leaf (n := n) h1 h2 h3]
          by_cases hc : n.op = 1 ∧ n.k = v
          · have e : replN v k n = ⟨0, n.w, k, n.a, n.b, n.c⟩ := if_pos hc
            rw [e, mk_leaf (by simp only; omega) (by simp only; omega) (by simp only; omega)]
            exact (if_pos hc).symm
          · have e : replN v k n = n := if_neg hc
            rw [e, mk_leaf (n := n) h1 h2 h3]
            exact (if_neg hc).symm
theorem noQ_all {t : List Nd} (hD : Down t) {v k : Int} (h : t.any (badR v k) = false) : ∀ i, i < t.length → NoQ v (tr t i) := by
  intro i
  induction i using Nat.strongRecOn with
  | ind i ih =>
    intro hi
    have hb : badR v k (nth t i) = false := by
      rw [List.any_eq_false] at h
      have := h (nth t i) (by rw [← nth_get hi]; exact List.getElem_mem _)
      simpa using this
    rw [tr_at hD hi]
    have hp : ∀ p ∈ parts (nth t i), NoQ v (tr t p.toNat) := fun p hp => by
      have := hD i hi p hp
      exact ih p.toNat (by omega) (by omega)
    generalize nth t i = n at hp hb
    by_cases h1 : n.op = 2 ∨ n.op = 17 ∨ n.op = 19 ∨ n.op = 20
    · rw [parts_one h1] at hp
      rw [mk_one h1]
      refine ⟨fun hc => ?_, hp n.a (by simp)⟩
      unfold badR at hb
      rw [hc.1, hc.2] at hb
      simp at hb
    · by_cases h2 : 3 ≤ n.op ∧ n.op ≤ 16
      · rw [parts_two h2] at hp
        rw [mk_two h2]
        exact ⟨hp n.a (by simp), hp n.b (by simp)⟩
      · by_cases h3 : n.op = 18
        · rw [parts_three h3] at hp
          rw [mk_three h3]
          exact ⟨hp n.a (by simp), hp n.b (by simp), hp n.c (by simp)⟩
        · rw [mk_leaf h1 h2 h3]; trivial
/-- A variable told by a number is worth what it is worth where it has that value. -/
theorem value_repl {t u : List Nd} {v k : Int} {e : List Int} {a b : Int} (hv : 0 ≤ v ∧ v ≤ 7) (hu : replL t v k = some u) (ha : valueL t (e.set v.toNat k) = some a) (hb : valueL u e = some b) : a = b := by
  obtain ⟨hT, he, _, _, h1⟩ := value_parts.1 ha
  obtain ⟨_, he2, _, _, h2⟩ := value_parts.1 hb
  unfold replL at hu
  split at hu
  · rename_i hc
    simp only [Bool.and_eq_true, Bool.not_eq_true'] at hc
    cases hu
    have hl := term_len hT
    have hD := down_of hT
    unfold root at h1 h2
    rw [List.length_map, tr_repl hD v k _ (by omega)] at h2
    rw [sub_value hv _ e he2 (rt_all hD (fun k hk => term_node hT hk) _ (by omega)).1 (noQ_all hD hc.2 _ (by omega)), h1] at h2
    exact h2
  · cases hu

end Go.Proofs.Ytnkkigoeffghdaa.Vl4

/- A sentence that is denied: it is a sentence, of the same bits, and worth the other one. -/
namespace Go.Proofs.Ytnkkigoeffghdaa.Vl5
open Nd0 Pl1 Pl2 Tm0 Tm1 Tm2 Tm3 Tm4 Tm5 Tm6 Tm7 Tm8 Tm9 Tm10 Tm11 Tm12 Tm13 Tm14 Tr0 Vl1 Vl2 Vl3 Vl4
set_option linter.unusedVariables false

/-- The node that denies the root of t. -/
def notN (t : List Nd) : Nd := ⟨2, 1, 0, (t.length : Int) - 1, 0, 0⟩
theorem not_parts (t : List Nd) : parts (notN t) = [(t.length : Int) - 1] := parts_one (.inl rfl)
theorem termOk_not {l : List Nd} (hT : termOk l = true) (hw : (nth l (l.length - 1)).w = 1) (hl : l.length < 80) : termOk (l ++ [notN l]) = true := by
  obtain ⟨hl1, hl2⟩ := term_len hT
  refine term_good (by simp; omega) (fun i hi => ?_)
  simp at hi
  by_cases e : i < l.length
  · exact nodeOk_app e (term_node hT e)
  · have e2 : i = l.length := by omega
    subst e2
    have hp : parts (nth (l ++ [notN l]) l.length) = [(l.length : Int) - 1] := by
      rw [nth_app_last]; exact not_parts l
    refine (node_kind (fun j hj => ?_) ?_).trans ?_
    · simp only [hp] at hj ⊢
      simp at hj
      subst hj
      simp; omega
    · rw [nth_app_last]; simp [notN]
    · rw [hp]
      have ew : width (l ++ [notN l]) ((l.length : Int) - 1) = 1 := by
        unfold width
        have : ((l.length : Int) - 1).toNat = l.length - 1 := by omega
        rw [this, nth_app_left (by omega)]; exact hw
      rw [nth_app_last]
      simp only [List.map_cons, List.map_nil, ew]
      unfold shapeOk notN
      simp
theorem free_not {l : List Nd} (hT : termOk l = true) (hw : (nth l (l.length - 1)).w = 1) (hl : l.length < 80) : freeL (l ++ [notN l]) = freeL l := by
  obtain ⟨hl1, hl2⟩ := term_len hT
  have hT2 := termOk_not hT hw hl
  have et : freeTop (l ++ [notN l]) = freeRow (freeRows l l.length) (notN l) := by
    unfold freeTop
    have e1 : ((l ++ [notN l]).length : Int) - 1 = (l.length : Int) := by simp
    have e2 : (l ++ [notN l]).length = l.length + 1 := by simp
    rw [e1, e2, row_new, nth_app_last, freeRows_app l _ _ (Nat.le_refl _)]
  have ef : ∀ v, v < 8 → flag (freeTop (l ++ [notN l])) v = flag (freeTop l) v := by
    intro v hv
    rw [et, flag_freeRow _ _ _ hv]
    unfold freeAt
    rw [not_parts]
    have hin : inParts (freeRows l l.length) [(l.length : Int) - 1] v = flag (freeTop l) v := by simp [inParts, freeTop]
    rw [hin]
    simp [notN]
  unfold freeL
  rw [hT, hT2]
  simp only [if_true]
  unfold freeTo
  congr 1
  apply List.filter_congr
  intro v hv
  rw [ef v (List.mem_range.1 hv)]

section
variable {t : List Nd} {q : Nd} (hT : termOk t = true) (hQ : termOk (t ++ [q]) = true) (hp : parts q = [(t.length : Int) - 1])
include hT hQ hp
theorem quants_to : ∀ k, k ≤ t.length → quantsTo (t ++ [q]) k = quantsTo t k := by
  intro k
  induction k with
  | zero => intro _; rfl
  | succ k ih =>
    intro hk
    show (quantsTo (t ++ [q]) k).bind _ = (quantsTo t k).bind _
    rw [ih (by omega)]
    congr 1
    funext ws
    unfold qStep
    rw [flag_snoc hT hQ hp (by omega), nth_app_left (by omega)]
theorem uses_to : ∀ k, k ≤ t.length → ∀ i, i < t.length → wd (usesF (t ++ [q]) k) (i : Int) = wd (usesF t k) (i : Int) := by
  intro k
  induction k with
  | zero => intro _ i _; show wd (List.replicate _ 0) _ = wd (List.replicate _ 0) _; rw [wd_zeros, wd_zeros]
  | succ k ih =>
    intro hk i hi
    simp only [usesF]
    rw [flag_snoc hT hQ hp (by omega), nth_app_left (by omega)]
    have hd := down_of hT k (by omega)
    cases flag (reachL t) k
    · exact ih (by omega) i hi
    · simp only [if_true]
      rw [addUses_wd _ _ _ (fun p h => by rw [usesF_length]; have := hd p h; simp; omega), addUses_wd _ _ _ (fun p h => by rw [usesF_length]; have := hd p h; omega), ih (by omega) i hi]
end
theorem times_zero {ps : List Int} {q : Nat} (h : ∀ p ∈ ps, p.toNat ≠ q) : times ps q = 0 := by
  unfold times
  rw [List.length_eq_zero_iff, List.filter_eq_nil_iff]
  intro p hp
  simpa using h p hp
theorem uses_above {l : List Nd} (hD : Down l) : ∀ k, k ≤ l.length → ∀ i, k ≤ i + 1 → wd (usesF l k) (i : Int) = 0 := by
  intro k
  induction k with
  | zero => intro _ i _; exact wd_zeros _ _
  | succ k ih =>
    intro hk i hi
    simp only [usesF]
    have hd := hD k (by omega)
    cases flag (reachL l) k
    · exact ih (by omega) i (by omega)
    · simp only [if_true]
      rw [addUses_wd _ _ _ (fun p h => by rw [usesF_length]; have := hd p h; omega), ih (by omega) i (by omega), times_zero (fun p h => by have := hd p h; omega)]
      rfl
theorem hold_to (t : List Nd) (q : Nd) : ∀ k, k ≤ t.length → holdTo (t ++ [q]) k = holdTo t k := by
  intro k
  induction k with
  | zero => intro _; rfl
  | succ k ih =>
    intro hk
    show holdTo (t ++ [q]) k ++ [_] = holdTo t k ++ [_]
    rw [ih (by omega), nth_app_left (by omega)]
theorem hold_snoc (t : List Nd) (q : Nd) {i : Nat} (hi : i < t.length) : flag (holdTo (t ++ [q]) (t ++ [q]).length) i = flag (holdTo t t.length) i := by
  have e : (t ++ [q]).length = t.length + 1 := by simp
  rw [e]
  show flag (holdTo (t ++ [q]) t.length ++ [_]) i = _
  rw [hold_to t q _ (Nat.le_refl _)]
  unfold flag
  rw [List.getD_eq_getElem?_getD, List.getElem?_append_left (by rw [holdTo_length]; exact hi), ← List.getD_eq_getElem?_getD]
/-- A sentence that is denied is a sentence. -/
theorem sent_not {t : List Nd} (hS : sentB t = true) (hl : t.length < 80) : sentB (t ++ [notN t]) = true := by
  obtain ⟨hT, hw, hf, ws, hq, hW, hM⟩ := (sent_iff t).1 hS
  have hQ := termOk_not hT hw hl
  have hp := not_parts t
  have hlen := term_len hT
  have hL : (t ++ [notN t]).length = t.length + 1 := by simp
  have hr : flag (reachL (t ++ [notN t])) t.length = true := by
    have := reach_root (l := t ++ [notN t]) (by simp)
    simpa using this
  refine (sent_iff _).2 ⟨hQ, ?_, by rw [free_not hT hw hl]; exact hf, ws, ?_, ?_, ?_, ?_⟩
  · rw [hL, Nat.add_sub_cancel, nth_app_last]; rfl
  · rw [hL]
    show (quantsTo (t ++ [notN t]) t.length).bind _ = _
    rw [quants_to hT hQ hp _ (Nat.le_refl _), hq]
    show qStep (t ++ [notN t]) ws t.length = _
    unfold qStep
    rw [nth_app_last]
    simp [notN, quant]
  · intro i hi hfl ho
    rw [hL] at hi
    by_cases e : i < t.length
    · rw [nth_app_left e] at ho ⊢
      rw [flag_snoc hT hQ hp e] at hfl
      exact hW i e hfl ho
    · have e2 : i = t.length := by omega
      subst e2
      rw [nth_app_last] at ho
      cases ho
  · intro i hi hfl hh
    rw [hL] at hi
    by_cases e : i < t.length
    · rw [nth_app_left e]
      rw [flag_snoc hT hQ hp e] at hfl
      rw [hold_snoc t _ e] at hh
      exact hM.1 i e hfl hh
    · have e2 : i = t.length := by omega
      subst e2
      rw [nth_app_last]; rfl
  · intro i hi hfl hh
    have hu : wd (usesF (t ++ [notN t]) (t ++ [notN t]).length) (i : Int) = wd (usesF (t ++ [notN t]) t.length) (i : Int) + (times [(t.length : Int) - 1] i : Int) := by
      rw [hL]
      simp only [usesF]
      rw [hr, if_pos rfl, nth_app_last, hp, addUses_wd _ _ _ (fun p h => by
        rw [usesF_length]
        have : p = (t.length : Int) - 1 := by simpa using h
        simp; omega)]
    rw [hL] at hi
    rw [hu]
    by_cases e : i < t.length
    · rw [uses_to hT hQ hp _ (Nat.le_refl _) i e]
      rw [flag_snoc hT hQ hp e] at hfl
      rw [hold_snoc t _ e] at hh
      by_cases e3 : i = t.length - 1
      · rw [uses_above (down_of hT) t.length (Nat.le_refl _) i (by omega)]
        have : times [(t.length : Int) - 1] i ≤ 1 := List.length_filter_le _ _
        omega
      · rw [times_zero (fun p h => by
          have : p = (t.length : Int) - 1 := by simpa using h
          omega)]
        have := hM.2 i e hfl hh
        omega
    · have e2 : i = t.length := by omega
      rw [uses_above (down_of hQ) t.length (by simp) i (by omega), times_zero (fun p h => by
          have : p = (t.length : Int) - 1 := by simpa using h
          omega)]
      simp
/-- Of the same bits. -/
theorem bits_not {t : List Nd} (hS : sentB t = true) (hl : t.length < 80) : bitsL (t ++ [notN t]) = bitsL t := by
  obtain ⟨hT, hw, _⟩ := (sent_iff t).1 hS
  unfold bitsL
  rw [sent_not hS hl, hS]
  simp only [if_true]
  rw [bits_snoc hT (termOk_not hT hw hl) (not_parts t)]
  simp [notN, quant]
theorem flip_one {x : Int} (h : x = 0 ∨ x = 1) : vFlip 1 x = 1 - x := by
  rcases h with rfl | rfl <;> decide
/-- And worth the other one. -/
theorem value_not {t : List Nd} {e : List Int} {x : Int} (hT : termOk t = true) (hw : (nth t (t.length - 1)).w = 1) (hl : t.length < 80) (h : valueL t e = some x) : valueL (t ++ [notN t]) e = some (1 - x) := by
  have hQ := termOk_not hT hw hl
  have hp := not_parts t
  have hx := value_wok h
  rw [hw] at hx
  obtain ⟨_, he, hb, hf, hv⟩ := value_parts.1 h
  have hr := root_snoc hT hQ hp (.inl rfl)
  refine value_parts.2 ⟨hQ, he, ?_, ?_, ?_⟩
  · rw [bits_snoc hT hQ hp]; simp [notN, quant]; exact hb
  · rw [hr]
    unfold fitT at hf ⊢
    simp only [needT]
    cases hn : needT (root t) with
    | none => rw [hn] at hf; cases hf
    | some r =>
      rw [hn] at hf
      exact hf
  · rw [hr]
    have hxx : x = 0 ∨ x = 1 := by
      have := wok_iff.1 hx
      have e : p2 (1 : Int).toNat = 2 := rfl
      rw [e] at this
      omega
    have hwid : (root t).wid = 1 := by
      have := (rt_all (down_of hT) (fun k hk => term_node hT hk) (t.length - 1) (by have := term_len hT; omega)).2
      rw [hw] at this
      exact this
    show (if (2 : Int) = 19 then _ else if (2 : Int) = 20 then _ else applyL 2 1 0 (root t).wid (vT (root t) e) 0 0) = _
    rw [if_neg (by decide), if_neg (by decide), hwid, hv, app_in ⟨by decide, by decide⟩ ⟨by decide, by decide⟩ (by omega) ⟨by decide, by decide⟩ ⟨by decide, by decide⟩]
    show vFlip 1 x = _
    exact flip_one hxx

/-- What a sentence is worth; none where it is no sentence or has too many bits. -/
def holdsL (l : List Nd) : Option Int := if sentB l then valueL l (List.replicate 8 0) else none

end Go.Proofs.Ytnkkigoeffghdaa.Vl5

/- What the program's functions of chapter 4 are to do. -/
namespace Go.Proofs.Ytnkkigoeffghdaa.Ic4
open Go.RowKit
open Nd0 Nd3 Tm0 Vl1 Vl4 Vl5
/-- What is left where a variable is told by a number: nothing where it can't be. -/
def replO (l : List Nd) (v k : Int) : List Nd := (replL l v k).getD []
theorem replO_le (l : List Nd) (v k : Int) : (replO l v k).length ≤ l.length := by
  unfold replO replL
  split
  · simp
  · exact Nat.zero_le _
/-- What the program's Apply is to do. -/
def IApply : Prop := ∀ (n : Nd) (W a b c : Int) (w : World), (Lit.int .i64 n.k).wf = true →
    Calls Try.prog 112 #[.agg #[.int .i64 n.op, .int .i64 n.w, .int .i64 n.k, .int .i64 n.a, .int .i64 n.b, .int .i64 n.c], .int .i64 W, .int .i64 a, .int .i64 b, .int .i64 c] w fun e w' => e = .returned (.int .i64 (applyL n.op n.w n.k W a b c)) ∧ Below w.heap.size w w'
end Go.Proofs.Ytnkkigoeffghdaa.Ic4
