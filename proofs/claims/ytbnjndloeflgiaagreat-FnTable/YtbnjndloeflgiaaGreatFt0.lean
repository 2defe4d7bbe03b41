/- The bits that FnTable lays, and the variables that they make: plain facts of FnTable. -/
import Derived.Test.YtbnjndloeflgiaaGreatPkTA39
import Derived.Test.YtbnjndloeflgiaaGreatPkTA34
namespace Go.Proofs.YtbnjndloeflgiaaGreat.Ft0
open Nd0 Qa0 Pl1 Tm0 Tm1 Tm5 Tm6 Tm8 Tm10 Tm11 Tr0 Vl1 Vl2 Fr0 Fr1 Fr2 Fr3 Fr4 Fr5 To0 To0t De0 Dh0 Dh1 Ta2
set_option linter.unusedVariables false

def Bts (l : List Int) : Prop := ∀ x ∈ l, x = 0 ∨ x = 1
theorem Bts.nil : Bts [] := fun x h => by cases h
theorem Bts.app {l m : List Int} (h : Bts l) (k : Bts m) : Bts (l ++ m) := fun x hx => (List.mem_append.1 hx).elim (h x) (k x)
theorem Bts.one {y : Int} (h : y = 0 ∨ y = 1) : Bts [y] := fun x hx => by rw [List.mem_singleton.1 hx]; exact h
theorem Bts.at {l : List Int} (h : Bts l) {i : Nat} (hi : i < l.length) : bitB (l.getD i 0) = true := by
  rw [List.getD_eq_getElem?_getD, List.getElem?_eq_getElem hi]
  exact decide_eq_true (h _ (List.getElem_mem hi))
def num (l : List Int) : Nat := plc l l.length
theorem plc_ext {l m : List Int} : ∀ k, (∀ i, i < k → l.getD i 0 = m.getD i 0) → plc l k = plc m k := by
  intro k
  induction k with
  | zero => intro _; rfl
  | succ k ih =>
    intro h
    show 2 * plc l k + _ = 2 * plc m k + _
    rw [ih fun i hi => h i (by omega), h k (by omega)]
theorem plc_app (l m : List Int) : ∀ k, plc (l ++ m) (l.length + k) = num l * 2 ^ k + plc m k := by
  intro k
  induction k with
  | zero =>
    rw [Nat.add_zero, Nat.pow_zero, Nat.mul_one]
    show plc (l ++ m) l.length = plc l l.length + 0
    rw [Nat.add_zero]
    exact plc_ext _ fun i hi => by rw [List.getD_eq_getElem?_getD, List.getElem?_append_left hi, List.getD_eq_getElem?_getD]
  | succ k ih =>
    show 2 * plc (l ++ m) (l.length + k) + ((l ++ m).getD (l.length + k) 0).toNat = num l * 2 ^ (k + 1) + (2 * plc m k + (m.getD k 0).toNat)
    rw [ih]
    have : (l ++ m).getD (l.length + k) 0 = m.getD k 0 := by
      rw [List.getD_eq_getElem?_getD, List.getElem?_append_right (by omega), List.getD_eq_getElem?_getD]
      congr 2
      omega
    rw [this, Nat.pow_succ, ← Nat.mul_assoc]
    omega
theorem num_app (l m : List Int) : num (l ++ m) = num l * 2 ^ m.length + num m := by
  unfold num
  rw [List.length_append]
  exact plc_app l m m.length
theorem num_lt {l : List Int} (h : Bts l) : num l < 2 ^ l.length := plc_lt fun i hi => h.at hi
theorem num_one {l : List Int} {y : Int} : num (l ++ [y]) = 2 * num l + y.toNat := by
  rw [num_app]
  show num l * 2 ^ 1 + (2 * 0 + y.toNat) = _
  omega
theorem num_seg {l s t : List Int} (hs : Bts s) (ht : Bts t) : num ((l ++ s) ++ t) / 2 ^ t.length % 2 ^ s.length = num s := by
  rw [num_app, Nat.mul_comm, Nat.mul_add_div (Nat.two_pow_pos _), Nat.div_eq_of_lt (num_lt ht), Nat.add_zero, num_app, Nat.mul_comm, Nat.mul_add_mod, Nat.mod_eq_of_lt (num_lt hs)]
structure Bi (q : List Qu) (i : Nat) (l e : List Int) : Prop where
  bts : Bts l
  len : l.length + bitL (q.drop i) = bitL q
  wid : e.length = 8
  all : ∀ t, Bts t → t.length = bitL (q.drop i) → MI q (num (l ++ t)) i e
theorem Bi.zero (q : List Qu) : Bi q 0 [] (List.replicate 8 0) :=
  ⟨Bts.nil, by simp, by simp, fun t _ _ => MI.zero _ _⟩
theorem Bi.next {q : List Qu} {i : Nat} {l e s : List Int} (h : Bi q i l e) (hA : Ap q) (hi : i < q.length) (hv : (qth q i).vr.toNat < 8) (hs : Bts s) (hl : s.length = (qth q i).bits.toNat) : Bi q (i + 1) (l ++ s) (e.set (qth q i).vr.toNat ((num s : Nat) : Int)) := by
  have hd := bit_drop hi
  refine ⟨h.bts.app hs, ?_, by rw [List.length_set]; exact h.wid, fun t ht htl => ?_⟩
  · have := h.len
    rw [List.length_append]
    omega
  · have h1 := (h.all (s ++ t) (hs.app ht) (by rw [List.length_append, htl, hl]; omega)).next hA hi hv
    rw [← List.append_assoc] at h1
    have h2 := num_seg (l := l) hs ht
    rw [htl, hl] at h2
    rw [h2] at h1
    exact h1
theorem no_quants {q : List Qu} {l : List Nd} (h : frontOkB q l = true) : ∀ k, k ≤ l.length → bitsTo l k = 0 := by
  obtain ⟨hT, hr, ws, hw, hg⟩ := fo_of h
  intro k
  induction k with
  | zero => intro _; rfl
  | succ k ih =>
    intro hk
    show (if flag (reachL l) k && quant (nth l k).op then bitsTo l k + (nth l k).b else bitsTo l k) = 0
    have hb := hg k (by omega)
    unfold badF at hb
    rw [(Bool.or_eq_false_iff.1 hb).1, Bool.and_false]
    exact ih (by omega)
theorem Bi.end_ {q : List Qu} {r : List Nd} {l e : List Int} (h : Bi q q.length l e) (hF : toB q r = true) : valueL r e = some (atB (bitL q) (atL q r) l) := by
  unfold toB at hF
  obtain ⟨hfew, hfo⟩ := Bool.and_eq_true_iff.1 hF
  obtain ⟨ws, hG⟩ := fo_all hfo
  have hd : q.drop q.length = [] := List.drop_length
  have h0 : bitL (q.drop q.length) = 0 := by rw [hd]; rfl
  have hlen : l.length = bitL q := by have := h.len; omega
  have hM := h.all [] Bts.nil (by rw [h0]; rfl)
  rw [List.append_nil] at hM
  have he : e = envL q (num l) := hM.end_ fun j hj => (hG.q hj).1
  have hE : EnvOk ws (envL q (num l)) := env_ok hG.env (num l) q hG.tq
  have hfit : fitT (root r) (envL q (num l)) = true := by
    obtain ⟨x, hr1, hr2⟩ := need_ty (root r) hG.rt hG.ty
    unfold fitT
    rw [hr1]
    exact fit_iff.2 (fits_ty hr2 hE)
  rw [he]
  refine Vl3.value_parts.2 ⟨hG.term, env_len _ _, by rw [no_quants hfo _ (Nat.le_refl _)]; omega, hfit, ?_⟩
  rw [hG.bit, at_good hlen fun i hi => h.bts.at hi]
  show _ = ((atL q r (num l)).toNat : Int)
  cases atL q r (num l) <;> rfl

end Go.Proofs.YtbnjndloeflgiaaGreat.Ft0
