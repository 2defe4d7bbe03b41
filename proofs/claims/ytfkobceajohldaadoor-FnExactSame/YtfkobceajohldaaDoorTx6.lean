/- How the program writes a term, as plain data: the texts written so far. -/
import Derived.Test.YtfkobceajohldaaDoorTx5
import Derived.Test.YtfkobceajohldaaDoorSs10
namespace Go.Proofs.YtfkobceajohldaaDoor.Tx6
open Nd0 Pl1 Tm0 Tm1 Tm2 Tm8 Tx0 Tx2 Tx3 Tx5 Ss10
open Ss9 (Wr wr_of)

/-- The texts behind k of the places that the root reaches. -/
def pt (l : List Nd) (k i : Nat) : List UInt8 := if flag (reachL l) i = true ∧ (reachTo l i).length < k then X l i else []
def pts (l : List Nd) (k : Nat) : List (List UInt8) := (List.range l.length).map (pt l k)
theorem pts_length (l : List Nd) (k : Nat) : (pts l k).length = l.length := by simp [pts]
theorem pts_get (l : List Nd) (k i : Nat) (h : i < (pts l k).length) : (pts l k)[i] = pt l k i := by simp [pts]
theorem pts_txt {l : List Nd} {k i : Nat} (h : i < l.length) : txt (pts l k) (i : Int) = pt l k i := by
  rw [txt_nat]
  simp [pts, List.getD_eq_getElem?_getD, h]
theorem pt_zero (l : List Nd) (i : Nat) : pt l 0 i = [] := by
  unfold pt
  rw [if_neg (by omega)]
theorem pt_succ {l : List Nd} {k x : Nat} (hf : flag (reachL l) x = true) (hk : (reachTo l x).length = k) (i : Nat) : pt l (k + 1) i = if i = x then X l x else pt l k i := by
  unfold pt
  by_cases e : i = x
  · subst e
    rw [if_pos rfl, if_pos ⟨hf, by omega⟩]
  · rw [if_neg e]
    by_cases hi : flag (reachL l) i = true
    · have hne : (reachTo l i).length ≠ k := fun h => e (reachTo_inj l hi hf (by omega))
      by_cases hlt : (reachTo l i).length < k
      · rw [if_pos ⟨hi, by omega⟩, if_pos ⟨hi, hlt⟩]
      · rw [if_neg (by omega), if_neg (by omega)]
    · rw [if_neg (fun h => hi h.1), if_neg (fun h => hi h.1)]
theorem pts_short {l : List Nd} (hT : termOk l = true) (k : Nat) : ∀ t ∈ pts l k, t.length ≤ 4000 := by
  intro t ht
  obtain ⟨i, hi, rfl⟩ := List.mem_map.1 ht
  have hil := List.mem_range.1 hi
  unfold pt
  split
  · have h9 := showTo_short hT (k := l.length) (Nat.le_refl _) (X l i) (by
      have hlt : i < (showTo l l.length).length := by rw [showTo_length]; exact hil
      rw [← showTo_get l hlt (Nat.le_refl _)]
      exact List.getElem_mem hlt)
    exact h9
  · simp
theorem wr_at {l : List Nd} (hT : termOk l = true) {x : Nat} (hx : x < l.length) : Wr (nth l x) l.length := by
  have hall : ∀ k, k < l.length → nodeOk l k = true := fun _ hk => term_node hT hk
  have h := wr_of (l := l) (i := x) (fun j hj => (node_width (hall j (by omega))).2) (hall x hx)
  exact ⟨h.w0, h.w1, h.k0, h.b0, fun p hp => by have := h.ps p hp; omega, h.op⟩
theorem step_text {l : List Nd} (hT : termOk l = true) {x k : Nat} (hx : x < l.length) (hf : flag (reachL l) x = true) (hk : (reachTo l x).length = k)
    (hd : ∀ i, i < l.length → flag (reachL l) i = true → (reachTo l i).length < k → X l i ≠ []) :
    X l x = if 4000 < (progN (nth l x) (pts l k)).length then [] else progN (nth l x) (pts l k) := by
  have hD := down_of hT
  have hW := wr_at hT hx
  have hpp : ∀ p ∈ parts (nth l x), txt (pts l k) p = txt (showTo l l.length) p ∧ txt (pts l k) p ≠ [] := by
    intro p hp
    have hpd := hD x hx p hp
    obtain ⟨y, rfl⟩ : ∃ y : Nat, p = (y : Int) := ⟨p.toNat, by omega⟩
    have hyf : flag (reachL l) y = true := by
      have := reach_closed hD hx hf hp
      rwa [Int.toNat_natCast] at this
    have hyk : (reachTo l y).length < k := by rw [← hk]; exact reachTo_lt l (by omega) hyf
    have e : txt (pts l k) (y : Int) = X l y := by
      rw [pts_txt (by omega)]
      unfold pt
      rw [if_pos ⟨hyf, hyk⟩]
    refine ⟨e, ?_⟩
    rw [e]
    exact hd y (by omega) hyf hyk
  have h1 : progN (nth l x) (pts l k) = progN (nth l x) (showTo l l.length) := prog_congr (fun p hp => (hpp p hp).1)
  rw [X_at hD hx, h1]
  refine prog_show hW.op.1 hW.op.2 (fun h => prog_small h (hW.k0 (by omega)) ⟨hW.w0, hW.w1⟩) (fun p hp => ?_)
  rw [← (hpp p hp).1]
  exact (hpp p hp).2
theorem has_true {l : List Nd} (h : showL l ≠ []) : hasB l = true := by
  unfold hasB
  have : ¬ (showL l).length = 0 := fun e => h (List.eq_nil_of_length_eq_zero e)
  simp [this]
theorem has_false {l : List Nd} (h : showL l = []) : hasB l = false := by
  unfold hasB; rw [h]; rfl

end Go.Proofs.YtfkobceajohldaaDoor.Tx6
