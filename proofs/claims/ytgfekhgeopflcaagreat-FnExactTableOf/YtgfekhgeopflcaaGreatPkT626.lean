/- Small texts of mine, one behind the other. -/
import Derived.Test.YtgfekhgeopflcaaGreatRows
import Derived.Test.YtgfekhgeopflcaaGreatPkT625
import Derived.Test.YtgfekhgeopflcaaGreatPkT615
/- A sentence that is denied: it is a sentence, of the same bits, and worth the other one. -/
namespace Go.Proofs.YtgfekhgeopflcaaGreat.Vl5
open Nd0 Pl1 Pl2 Tm0 Tm1 Tm2 Tm3 Tm4 Tm5 Tm6 Tm7 Tm8 Tm9 Tm10 Tm11 Tm12 Tm13 Tm14 Tr0 Vl1 Vl2 Vl3 Vl4
set_option linter.unusedVariables false

/-- The node that denies the root of t. -/
def notN (t : List Nd) : Nd := ⟨2, 1, 0, (t.length : Int) - 1, 0, 0⟩
theorem not_parts (t : List Nd) : parts (notN t) = [(t.length : Int) - 1] := parts_one (.inl rfl)
theorem termOk_not {l : List Nd} (hT : termOk l = true) (hw : (nth l (l.length - 1)).w = 1) (hl : l.length < 80) : termOk (l ++ [notN l]) = true := by
  obtain ⟨hl1, hl2⟩ := term_len hT
  refine term_good (by simp; omega) (fun i hi => ?_)
  simp at hi
  by_cases e : i < l.length
  · exact nodeOk_app e (term_node hT e)
  · have e2 : i = l.length := by omega
    subst e2
    have hp : parts (nth (l ++ [notN l]) l.length) = [(l.length : Int) - 1] := by
      rw [nth_app_last]; exact not_parts l
    refine (node_kind (fun j hj => ?_) ?_).trans ?_
    · simp only [hp] at hj ⊢
      simp at hj
      subst hj
      simp; omega
    · rw [nth_app_last]; simp [notN]
    · rw [hp]
      have ew : width (l ++ [notN l]) ((l.length : Int) - 1) = 1 := by
        unfold width
        have : ((l.length : Int) - 1).toNat = l.length - 1 := by omega
        rw [this, nth_app_left (by omega)]; exact hw
      rw [nth_app_last]
      simp only [List.map_cons, List.map_nil, ew]
      unfold shapeOk notN
      simp
theorem free_not {l : List Nd} (hT : termOk l = true) (hw : (nth l (l.length - 1)).w = 1) (hl : l.length < 80) : freeL (l ++ [notN l]) = freeL l := by
  obtain ⟨hl1, hl2⟩ := term_len hT
  have hT2 := termOk_not hT hw hl
  have et : freeTop (l ++ [notN l]) = freeRow (freeRows l l.length) (notN l) := by
    unfold freeTop
    have e1 : ((l ++ [notN l]).length : Int) - 1 = (l.length : Int) := by simp
    have e2 : (l ++ [notN l]).length = l.length + 1 := by simp
    rw [e1, e2, row_new, nth_app_last, freeRows_app l _ _ (Nat.le_refl _)]
  have ef : ∀ v, v < 8 → flag (freeTop (l ++ [notN l])) v = flag (freeTop l) v := by
    intro v hv
    rw [et, flag_freeRow _ _ _ hv]
    unfold freeAt
    rw [not_parts]
    have hin : inParts (freeRows l l.length) [(l.length : Int) - 1] v = flag (freeTop l) v := by simp [inParts, freeTop]
    rw [hin]
    simp [notN]
  unfold freeL
  rw [hT, hT2]
  simp only [if_true]
  unfold freeTo
  congr 1
  apply List.filter_congr
  intro v hv
  rw [ef v (List.mem_range.1 hv)]

section
variable {t : List Nd} {q : Nd} (hT : termOk t = true) (hQ : termOk (t ++ [q]) = true) (hp : parts q = [(t.length : Int) - 1])
include hT hQ hp
theorem quants_to : ∀ k, k ≤ t.length → quantsTo (t ++ [q]) k = quantsTo t k := by
  intro k
  induction k with
  | zero => intro _; rfl
  | succ k ih =>
    intro hk
    show (quantsTo (t ++ [q]) k).bind _ = (quantsTo t k).bind _
    rw [ih (by omega)]
    congr 1
    funext ws
    unfold qStep
    rw [flag_snoc hT hQ hp (by omega), nth_app_left (by omega)]
theorem uses_to : ∀ k, k ≤ t.length → ∀ i, i < t.length → wd (usesF (t ++ [q]) k) (i : Int) = wd (usesF t k) (i : Int) := by
  intro k
  induction k with
  | zero => intro _ i _; show wd (List.replicate _ 0) _ = wd (List.replicate _ 0) _; rw [wd_zeros, wd_zeros]
  | succ k ih =>
    intro hk i hi
    simp only [usesF]
    rw [flag_snoc hT hQ hp (by omega), nth_app_left (by omega)]
    have hd := down_of hT k (by omega)
    cases flag (reachL t) k
    · exact ih (by omega) i hi
    · simp only [if_true]
      rw [addUses_wd _ _ _ (fun p h => by rw [usesF_length]; have := hd p h; simp; omega), addUses_wd _ _ _ (fun p h => by rw [usesF_length]; have := hd p h; omega), ih (by omega) i hi]
end
theorem times_zero {ps : List Int} {q : Nat} (h : ∀ p ∈ ps, p.toNat ≠ q) : times ps q = 0 := by
  unfold times
  rw [List.length_eq_zero_iff, List.filter_eq_nil_iff]
  intro p hp
  simpa using h p hp
theorem uses_above {l : List Nd} (hD : Down l) : ∀ k, k ≤ l.length → ∀ i, k ≤ i + 1 → wd (usesF l k) (i : Int) = 0 := by
  intro k
  induction k with
  | zero => intro _ i _; exact wd_zeros _ _
  | succ k ih =>
    intro hk i hi
    simp only [usesF]
    have hd := hD k (by omega)
    cases flag (reachL l) k
    · exact ih (by omega) i (by omega)
    · simp only [if_true]
      rw [addUses_wd _ _ _ (fun p h => by rw [usesF_length]; have := hd p h; omega), ih (by omega) i (by omega), times_zero (fun p h => by have := hd p h; omega)]
      rfl
theorem hold_to (t : List Nd) (q : Nd) : ∀ k, k ≤ t.length → holdTo (t ++ [q]) k = holdTo t k := by
  intro k
  induction k with
  | zero => intro _; rfl
  | succ k ih =>
    intro hk
    show holdTo (t ++ [q]) k ++ [_] = holdTo t k ++ [_]
    rw [ih (by omega), nth_app_left (by omega)]
theorem hold_snoc (t : List Nd) (q : Nd) {i : Nat} (hi : i < t.length) : flag (holdTo (t ++ [q]) (t ++ [q]).length) i = flag (holdTo t t.length) i := by
  have e : (t ++ [q]).length = t.length + 1 := by simp
  rw [e]
  show flag (holdTo (t ++ [q]) t.length ++ [_]) i = _
  rw [hold_to t q _ (Nat.le_refl _)]
  unfold flag
  rw [List.getD_eq_getElem?_getD, List.getElem?_append_left (by rw [holdTo_length]; exact hi), ← List.getD_eq_getElem?_getD]
/-- A sentence that is denied is a sentence. -/
theorem sent_not {t : List Nd} (hS : sentB t = true) (hl : t.length < 80) : sentB (t ++ [notN t]) = true := by
  obtain ⟨hT, hw, hf, ws, hq, hW, hM⟩ := (sent_iff t).1 hS
  have hQ := termOk_not hT hw hl
  have hp := not_parts t
  have hlen := term_len hT
  have hL : (t ++ [notN t]).length = t.length + 1 := by simp
  have hr : flag (reachL (t ++ [notN t])) t.length = true := by
    have := reach_root (l := t ++ [notN t]) (by simp)
    simpa using this
  refine (sent_iff _).2 ⟨hQ, ?_, by rw [free_not hT hw hl]; exact hf, ws, ?_, ?_, ?_, ?_⟩
  · rw [hL, Nat.add_sub_cancel, nth_app_last]; rfl
  · rw [hL]
    show (quantsTo (t ++ [notN t]) t.length).bind _ = _
    rw [quants_to hT hQ hp _ (Nat.le_refl _), hq]
    show qStep (t ++ [notN t]) ws t.length = _
    unfold qStep
    rw [nth_app_last]
    simp [notN, quant]
  · intro i hi hfl ho
    rw [hL] at hi
    by_cases e : i < t.length
    · rw [nth_app_left e] at ho ⊢
      rw [flag_snoc hT hQ hp e] at hfl
      exact hW i e hfl ho
    · have e2 : i = t.length := by omega
      subst e2
      rw [nth_app_last] at ho
      cases ho
  · intro i hi hfl hh
    rw [hL] at hi
    by_cases e : i < t.length
    · rw [nth_app_left e]
      rw [flag_snoc hT hQ hp e] at hfl
      rw [hold_snoc t _ e] at hh
      exact hM.1 i e hfl hh
    · have e2 : i = t.length := by omega
      subst e2
      rw [nth_app_last]; rfl
  · intro i hi hfl hh
    have hu : wd (usesF (t ++ [notN t]) (t ++ [notN t]).length) (i : Int) = wd (usesF (t ++ [notN t]) t.length) (i : Int) + (times [(t.length : Int) - 1] i : Int) := by
      rw [hL]
      simp only [usesF]
      rw [hr, if_pos rfl, nth_app_last, hp, addUses_wd _ _ _ (fun p h => by
        rw [usesF_length]
        have : p = (t.length : Int) - 1 := by simpa using h
        simp; omega)]
    rw [hL] at hi
    rw [hu]
    by_cases e : i < t.length
    · rw [uses_to hT hQ hp _ (Nat.le_refl _) i e]
      rw [flag_snoc hT hQ hp e] at hfl
      rw [hold_snoc t _ e] at hh
      by_cases e3 : i = t.length - 1
      · rw [uses_above (down_of hT) t.length (Nat.le_refl _) i (by omega)]
        have : times [(t.length : Int) - 1] i ≤ 1 := List.length_filter_le _ _
        omega
      · rw [times_zero (fun p h => by
          have : p = (t.length : Int) - 1 := by simpa using h
          omega)]
        have := hM.2 i e hfl hh
        omega
    · have e2 : i = t.length := by omega
      rw [uses_above (down_of hQ) t.length (by simp) i (by omega), times_zero (fun p h => by
          have : p = (t.length : Int) - 1 := by simpa using h
          omega)]
      simp
/-- Of the same bits. -/
theorem bits_not {t : List Nd} (hS : sentB t = true) (hl : t.length < 80) : bitsL (t ++ [notN t]) = bitsL t := by
  obtain ⟨hT, hw, _⟩ := (sent_iff t).1 hS
  unfold bitsL
  rw [sent_not hS hl, hS]
  simp only [if_true]
  rw [bits_snoc hT (termOk_not hT hw hl) (not_parts t)]
  simp [notN, quant]
theorem flip_one {x : Int} (h : x = 0 ∨ x = 1) : vFlip 1 x = 1 - x := by
  rcases h with rfl | rfl <;> decide
/-- And worth the other one. -/
theorem value_not {t : List Nd} {e : List Int} {x : Int} (hT : termOk t = true) (hw : (nth t (t.length - 1)).w = 1) (hl : t.length < 80) (h : valueL t e = some x) : valueL (t ++ [notN t]) e = some (1 - x) := by
  have hQ := termOk_not hT hw hl
  have hp := not_parts t
  have hx := value_wok h
  rw [hw] at hx
  obtain ⟨_, he, hb, hf, hv⟩ := value_parts.1 h
  have hr := root_snoc hT hQ hp (.inl rfl)
  refine value_parts.2 ⟨hQ, he, ?_, ?_, ?_⟩
  · rw [bits_snoc hT hQ hp]; simp [notN, quant]; exact hb
  · rw [hr]
    unfold fitT at hf ⊢
    simp only [needT]
    cases hn : needT (root t) with
    | none => rw [hn] at hf; cases hf
    | some r =>
      rw [hn] at hf
      exact hf
  · rw [hr]
    have hxx : x = 0 ∨ x = 1 := by
      have := wok_iff.1 hx
      have e : p2 (1 : Int).toNat = 2 := rfl
      rw [e] at this
      omega
    have hwid : (root t).wid = 1 := by
      have := (rt_all (down_of hT) (fun k hk => term_node hT hk) (t.length - 1) (by have := term_len hT; omega)).2
      rw [hw] at this
      exact this
    show (if (2 : Int) = 19 then _ else if (2 : Int) = 20 then _ else applyL 2 1 0 (root t).wid (vT (root t) e) 0 0) = _
    rw [if_neg (by decide), if_neg (by decide), hwid, hv, app_in ⟨by decide, by decide⟩ ⟨by decide, by decide⟩ (by omega) ⟨by decide, by decide⟩ ⟨by decide, by decide⟩]
    show vFlip 1 x = _
    exact flip_one hxx

/-- What a sentence is worth; none where it is no sentence or has too many bits. -/
def holdsL (l : List Nd) : Option Int := if sentB l then valueL l (List.replicate 8 0) else none

end Go.Proofs.YtgfekhgeopflcaaGreat.Vl5

/- What the program's functions of chapter 4 are to do. -/
namespace Go.Proofs.YtgfekhgeopflcaaGreat.Ic4
open Go.RowKit
open Nd0 Nd3 Tm0 Vl1 Vl4 Vl5
/-- What is left where a variable is told by a number: nothing where it can't be. -/
def replO (l : List Nd) (v k : Int) : List Nd := (replL l v k).getD []
theorem replO_le (l : List Nd) (v k : Int) : (replO l v k).length ≤ l.length := by
  unfold replO replL
  split
  · simp
  · exact Nat.zero_le _
/-- What the program's Apply is to do. -/
def IApply : Prop := ∀ (n : Nd) (W a b c : Int) (w : World), (Lit.int .i64 n.k).wf = true →
    Calls Tryz.prog 54 #[.agg #[.int .i64 n.op, .int .i64 n.w, .int .i64 n.k, .int .i64 n.a, .int .i64 n.b, .int .i64 n.c], .int .i64 W, .int .i64 a, .int .i64 b, .int .i64 c] w fun e w' => e = .returned (.int .i64 (applyL n.op n.w n.k W a b c)) ∧ Below w.heap.size w w'
end Go.Proofs.YtgfekhgeopflcaaGreat.Ic4
