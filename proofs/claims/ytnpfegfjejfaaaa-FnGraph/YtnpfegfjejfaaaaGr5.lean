/- What FnGraph asks of the circuit of a table: plain facts. -/
import Derived.Test.YtnpfegfjejfaaaaPkHi
import Derived.Test.YtnpfegfjejfaaaaGt0
import Derived.Test.YtnpfegfjejfaaaaGv0
import Derived.Test.YtnpfegfjejfaaaaGr2
namespace Go.Proofs.Ytnpfegfjejfaaaa.Gr5
open Go.RowKit
open Qb0 Gr0 Gr1 Gr2 Gr3 Gr4 Wv0 Gv0 Gt0 Ta1 Ta3 Td1
open Ta2 (plc atB bitB at_good)
set_option linter.unusedVariables false

theorem plc_pl (vs : List Int) (N : Nat) (hb : ∀ i, i < N → bitB (vs.getD i 0) = true) (n : Nat) (hn : n ≤ N) : plc vs N = plc vs (N - n) * 2 ^ n + plN (bI vs) N n := by
  induction n with
  | zero => simp [plN]
  | succ n ih =>
    rw [ih (by omega), plN, show N - n = (N - (n + 1)) + 1 by omega]
    have e : (vs.getD (N - (n + 1)) 0).toNat = (bI vs (N - (n + 1))).toNat := by
      have := of_decide_eq_true (hb (N - (n + 1)) (by omega))
      unfold bI
      rcases this with e | e
      · rw [e]; rfl
      · rw [e]; rfl
    rw [plc, e, Nat.pow_succ, Nat.add_mul, ← Nat.add_assoc]
    congr 2
    rw [Nat.mul_comm 2, Nat.mul_assoc, Nat.mul_comm 2]
theorem place_pl (N p n : Nat) (hn : n ≤ N) : p = p / 2 ^ n * 2 ^ n + plN (fun i => pbit N i p) N n := by
  induction n with
  | zero => simp [plN]
  | succ n ih =>
    have h := ih (by omega)
    rw [plN]
    have e : (pbit N (N - (n + 1)) p).toNat = p / 2 ^ n % 2 := by
      unfold pbit
      rw [show N - 1 - (N - (n + 1)) = n by omega]
      rcases (by omega : p / 2 ^ n % 2 = 0 ∨ p / 2 ^ n % 2 = 1) with e | e
      · rw [e]; rfl
      · rw [e]; rfl
    rw [e, Nat.pow_succ, ← Nat.div_div_eq_div_mul]
    have h2 : p / 2 ^ n / 2 * (2 ^ n * 2) + p / 2 ^ n % 2 * 2 ^ n = p / 2 ^ n * 2 ^ n := by
      rw [Nat.mul_comm (2 ^ n) 2, ← Nat.mul_assoc, ← Nat.add_mul]
      congr 1
      omega
    rw [← Nat.add_assoc, h2]
    exact h
theorem rg_ok {n : Nat} {l : List An} (hn : n ≤ 12) (hl : l.length ≤ 3000) (hok : okL n l = true) : Rg l := by
  intro i hi
  obtain ⟨f1, f2, f3⟩ := ok_facts hok hi
  unfold Rn
  omega
structure Of (n : Nat) (F : Nat → Bool) (l : List An) (x : Int) : Prop where
  e : gOf n F = ((n : Int), l, x)
  rx : 0 ≤ x ∧ x ≤ 1000000
  ok : gokB n l = true
  w : wireB n l x = true
  len : l.length ≤ 3 * 2 ^ n
  rg : Rg l
  tt : tab n (gtab n l x) = tab n F
  tn : tab n (gtab n l (turnW x)) = tab n (fun p => !F p)
  val : ∀ vs : List Int, vs.length = n → (∀ i, i < vs.length → bitB (vs.getD i 0) = true) → valG n l vs x = atB n F vs
  size : 0 ≤ sizeG n l x ∧ sizeG n l x ≤ l.length
theorem of_facts (n : Nat) (F : Nat → Bool) (hn : n ≤ 6) : ∃ l x, Of n F l x := by
  have hp : 2 ^ n ≤ 2 ^ 6 := Nat.pow_le_pow_right (by omega) hn
  have hp0 := Nat.two_pow_pos n
  obtain ⟨s1, s2⟩ := tW_step (N := n) n (Nat.le_refl _) F [] rfl (by simp only [List.length_nil]; omega)
  obtain ⟨g1, g2, _, g4⟩ := tW_gd (ins := (n : Int)) (by omega) n F [] rfl (Nat.zero_le _)
  have hv : ∀ I, gval I n (tW n n F []).1 (tW n n F []).2 = F (plN I n n) := fun I => tW_val I n (Nat.le_refl _) F [] rfl (Nat.zero_le _) s2
  have he : gOf n F = ((n : Int), (tW n n F []).1, (tW n n F []).2) := by unfold gOf; rw [if_neg s2]
  generalize tW n n F [] = r at *
  obtain ⟨l, x⟩ := r
  simp only at s1 s2 g1 g2 g4 hv he
  have hw := g4.resolve_left s2
  have rx := of_decide_eq_true hw
  simp only [List.length_nil] at s1
  have hgk : gokB n l = true := by
    unfold gokB
    simp [g1]
    omega
  have hpl : ∀ p, p < 2 ^ n → plN (fun i => pbit n i p) n n = p := fun p h => by
    have := place_pl n p n (Nat.le_refl _)
    rw [Nat.div_eq_of_lt h] at this
    omega
  refine ⟨l, x, ⟨he, ⟨rx.1, by omega⟩, hgk, hw, by omega, rg_ok (by omega) g2 g1, ?_, ?_, ?_, ?_⟩⟩
  · refine tab_ext fun p h => ?_
    unfold gtab
    rw [hv, hpl p h]
  · refine tab_ext fun p h => ?_
    unfold gtab
    rw [gval_turn rx.1, hv, hpl p h]
  · intro vs hl hb
    have hbb : bitsB vs = true := by
      unfold bitsB
      rw [List.all_eq_true]
      intro b hm
      obtain ⟨i, hi, rfl⟩ := List.mem_iff_getElem.1 hm
      have := of_decide_eq_true (hb i hi)
      rw [show vs.getD i 0 = vs[i] by simp [List.getD, hi]] at this
      exact decide_eq_true (by omega)
    rw [at_good hl hb]
    unfold valG
    rw [if_pos ⟨hgk, by omega, hw, hbb⟩, Int.toNat_natCast, hv]
    have := plc_pl vs n (fun i hi => hb i (by omega)) n (Nat.le_refl _)
    rw [Nat.sub_self] at this
    rw [hl, this]
    simp [plc]
  · unfold sizeG
    rw [if_pos ⟨hgk, hw⟩]
    have := szC_le (n : Int).toNat l (x.toNat / 2) l.length
    omega

end Go.Proofs.Ytnpfegfjejfaaaa.Gr5
