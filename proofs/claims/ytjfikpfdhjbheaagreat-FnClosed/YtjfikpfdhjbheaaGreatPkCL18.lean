/- Small texts of mine, one behind the other. -/
import Derived.Test.YtjfikpfdhjbheaaGreatRows
import Derived.Test.YtjfikpfdhjbheaaGreatPkCL16
import Derived.Test.YtjfikpfdhjbheaaGreatPkCL17
import Derived.Test.YtjfikpfdhjbheaaGreatPkCL0
import Derived.Test.YtjfikpfdhjbheaaGreatPkCL11
import Derived.Test.YtjfikpfdhjbheaaGreatPkCL15
/- A sentence that is denied: it is a sentence, of the same bits, and worth the other one. -/
namespace Go.Proofs.YtjfikpfdhjbheaaGreat.Vl5
open Nd0 Pl1 Pl2 Tm0 Tm1 Tm2 Tm3 Tm4 Tm5 Tm6 Tm7 Tm8 Tm9 Tm10 Tm11 Tm12 Tm13 Tm14 Tr0 Vl1 Vl2 Vl3 Vl4
set_option linter.unusedVariables false

section
variable {t : List Nd} {q : Nd} (hT : termOk t = true) (hQ : termOk (t ++ [q]) = true) (hp : parts q = [(t.length : Int) - 1])
include hT hQ hp
end
def holdsL (l : List Nd) : Option Int := if sentB l then valueL l (List.replicate 8 0) else none

end Go.Proofs.YtjfikpfdhjbheaaGreat.Vl5

/- What a formula is worth when its free variables are closed. -/
namespace Go.Proofs.YtjfikpfdhjbheaaGreat.Vc1
open Nd0 Pl1 Tm0 Tm1 Tm3 Tm4 Tm5 Tm6 Tm8 Tm12 Tm14 Tr0 Vl1 Vl2 Vl3 Vl4 Vl5 Aq0 Aq2 Aq12 Vc0
set_option linter.unusedVariables false

theorem ext8 {a b : List Int} (ha : a.length = 8) (hb : b.length = 8) (h : ∀ v, v < 8 → a.getD v 0 = b.getD v 0) : a = b := by
  refine List.ext_getElem (by rw [ha, hb]) fun i h1 h2 => ?_
  have := h i (by omega)
  rw [List.getD_eq_getElem?_getD, List.getD_eq_getElem?_getD, List.getElem?_eq_getElem h1, List.getElem?_eq_getElem h2] at this
  exact this
theorem map8 (g : Nat → Int) {v : Nat} (hv : v < 8) : ((List.range 8).map g).getD v 0 = g v := by
  rw [List.getD_eq_getElem?_getD, List.getElem?_map, List.getElem?_range hv]; rfl
theorem zero8 (v : Nat) : (List.replicate 8 (0 : Int)).getD v 0 = 0 := by
  rw [List.getD_eq_getElem?_getD, List.getElem?_replicate]
  split <;> rfl
section
variable {t : List Nd} (hT : termOk t = true) (hw : (nth t (t.length - 1)).w = 1) (hA : termOk (clAll t) = true)
include hT hA
theorem ok_k {k : Nat} (hk : k ≤ 8) : termOk (t ++ clTo t k) = true := cl_less (term_len hT).1 (8 - k) k (by omega) hA
omit hA hT in
theorem more_k {k : Nat} (h : ¬ ffTop t (7 - k) = 80) : t ++ clTo t (k + 1) = (t ++ clTo t k) ++ [⟨19, 1, ((7 - k : Nat) : Int), ((t ++ clTo t k).length : Int) - 1, widL t (7 - k), 0⟩] := by
  rw [clTo_more h, List.append_assoc, List.length_append]
  unfold clN
  congr 4
theorem len_k {k : Nat} (hk : k < 8) (h : ¬ ffTop t (7 - k) = 80) : (t ++ clTo t k).length < 80 := by
  have h1 := (term_len (ok_k hT hA (k := k + 1) (by omega))).2
  rw [more_k h, List.length_append] at h1
  simp only [List.length_cons, List.length_nil] at h1
  omega
include hw
omit hA hT in
theorem w_k : ∀ k, (nth (t ++ clTo t k) ((t ++ clTo t k).length - 1)).w = 1 := by
  intro k
  induction k with
  | zero =>
    have e0 : t ++ clTo t 0 = t := List.append_nil t
    rw [e0]; exact hw
  | succ k ih =>
    by_cases h : ffTop t (7 - k) = 80
    · rw [clTo_skip h]; exact ih
    · rw [more_k h]
      have e : ((t ++ clTo t k) ++ [(⟨19, 1, ((7 - k : Nat) : Int), ((t ++ clTo t k).length : Int) - 1, widL t (7 - k), 0⟩ : Nd)]).length - 1 = (t ++ clTo t k).length := by rw [List.length_append]; rfl
      rw [e, nth_app_last]
omit hw in
theorem one_k {k : Nat} (hk : k < 8) (h : ¬ ffTop t (7 - k) = 80) : root (t ++ clTo t (k + 1)) = .one 19 1 ((7 - k : Nat) : Int) (widL t (7 - k)) (root (t ++ clTo t k)) ∧ 1 ≤ widL t (7 - k) ∧ widL t (7 - k) ≤ 8 := by
  have h1 := ok_k hT hA (k := k + 1) (by omega)
  have h2 := ok_k hT hA (k := k) (by omega)
  have hrt := (rt_all (down_of h1) (fun i hi => term_node h1 hi) ((t ++ clTo t (k + 1)).length - 1) (by have := (term_len h1).1; omega)).1
  have e : root (t ++ clTo t (k + 1)) = .one 19 1 ((7 - k : Nat) : Int) (widL t (7 - k)) (root (t ++ clTo t k)) := by
    rw [more_k h] at h1 ⊢
    exact root_snoc h2 h1 (parts_one (.inr (.inr (.inl rfl)))) (.inr (.inr (.inl rfl)))
  refine ⟨e, ?_⟩
  have hrt : Rt (root (t ++ clTo t (k + 1))) := hrt
  rw [e] at hrt
  obtain ⟨_, _, _, hop⟩ := hrt
  rcases hop with h9 | h9 | h9
  · omega
  · omega
  · exact ⟨h9.2.2.2.2.2.1, h9.2.2.2.2.2.2⟩
theorem down {e : List Int} (h8 : valueL (clAll t) e = some 1) : ∀ d k, k + d = 8 → ∀ e' : List Int, e'.length = 8 → (∀ v, v < 8 → (ffTop t v = 80 ∨ 8 ≤ v + k) → e'.getD v 0 = e.getD v 0) →
    (∀ v, v < 8 → ¬ ffTop t v = 80 → v + k < 8 → 0 ≤ e'.getD v 0 ∧ e'.getD v 0 < ((2 ^ (widL t v).toNat : Nat) : Int)) → valueL (t ++ clTo t k) e' = some 1 := by
  have he : e.length = 8 := (value_parts.1 h8).2.1
  intro d
  induction d with
  | zero =>
    intro k hk e' he' h1 _
    have hk8 : k = 8 := by omega
    subst hk8
    have : e' = e := ext8 he' he (fun v hv => h1 v hv (.inr (by omega)))
    rw [this]; exact h8
  | succ d ih =>
    intro k hk e' he' h1 h2
    by_cases h : ffTop t (7 - k) = 80
    · have h9 := ih (k + 1) (by omega) e' he' (fun v hv hc => h1 v hv (by
        rcases hc with hc | hc
        · exact .inl hc
        · by_cases hvk : v = 7 - k
          · subst hvk; exact .inl h
          · exact .inr (by omega))) (fun v hv hc hlt => h2 v hv hc (by omega))
      rw [clTo_skip h] at h9
      exact h9
    · obtain ⟨_, hb1, hb8⟩ := one_k hT hA (k := k) (by omega) h
      have h9 := ih (k + 1) (by omega) (e'.set (7 - k) (e.getD (7 - k) 0)) (by rw [List.length_set]; exact he') (fun v hv hc => by
        rw [getI_set]
        by_cases hvk : 7 - k = v
        · subst hvk
          rw [if_pos ⟨rfl, by omega⟩]
        · rw [if_neg (by omega)]
          exact h1 v hv (by rcases hc with hc | hc
                            · exact .inl hc
                            · exact .inr (by omega))) (fun v hv hc hlt => by
        rw [getI_set, if_neg (by omega)]
        exact h2 v hv hc (by omega))
      rw [more_k h] at h9
      obtain ⟨g1, g2⟩ := value_quant (ok_k hT hA (by omega)) (w_k hw k) (len_k hT hA (by omega) h) (.inl rfl) (by omega) ⟨hb1, hb8⟩ h9
      obtain ⟨r0, r1⟩ := h2 (7 - k) (by omega) h (by omega)
      have hi : (e'.getD (7 - k) 0).toNat < 2 ^ (widL t (7 - k)).toNat := by omega
      have g3 := g1 _ hi
      have es : (e'.set (7 - k) (e.getD (7 - k) 0)).set ((7 - k : Nat) : Int).toNat (((e'.getD (7 - k) 0).toNat : Nat) : Int) = e' := by
        refine ext8 (by rw [List.length_set, List.length_set]; exact he') he' fun v hv => ?_
        rw [Int.toNat_natCast, getI_set, List.length_set, getI_set]
        by_cases hvk : 7 - k = v
        · subst hvk
          rw [if_pos ⟨rfl, by omega⟩]; omega
        · rw [if_neg (by omega), if_neg (by omega)]
      rw [es] at g3
      simp only [vT] at g2
      have hall : ((List.range (2 ^ (widL t (7 - k)).toNat)).all fun i => vT (root (t ++ clTo t k)) ((e'.set (7 - k) (e.getD (7 - k) 0)).set ((7 - k : Nat) : Int).toNat (i : Int)) == 1) = true := by
        rw [if_pos trivial] at g2
        by_cases hc : ((List.range (2 ^ (widL t (7 - k)).toNat)).all fun i => vT (root (t ++ clTo t k)) ((e'.set (7 - k) (e.getD (7 - k) 0)).set ((7 - k : Nat) : Int).toNat (i : Int)) == 1) = true
        · exact hc
        · rw [if_neg hc] at g2; cases g2
      have g4 := List.all_eq_true.1 hall _ (List.mem_range.2 hi)
      rw [es] at g4
      rw [g3]
      congr 1
      simpa using g4
omit hw in
theorem needs {r : List Nat} (h8 : needT (root (clAll t)) = some r) : ∀ d k, k + d = 8 → ∃ s, needT (root (t ++ clTo t k)) = some s := by
  intro d
  induction d with
  | zero =>
    intro k hk
    have hk8 : k = 8 := by omega
    subst hk8
    exact ⟨r, h8⟩
  | succ d ih =>
    intro k hk
    obtain ⟨s, hs⟩ := ih (k + 1) (by omega)
    by_cases h : ffTop t (7 - k) = 80
    · rw [clTo_skip h] at hs; exact ⟨s, hs⟩
    · rw [(one_k hT hA (k := k) (by omega) h).1] at hs
      simp only [needT] at hs
      obtain ⟨a, h2, _⟩ := Option.bind_eq_some_iff.1 hs
      exact ⟨a, h2⟩
omit hw in
theorem need_same {r r0 : List Nat} (h8 : needT (root (clAll t)) = some r) (h0 : needT (root t) = some r0) : ∀ k, k ≤ 8 → ∀ s, needT (root (t ++ clTo t k)) = some s → ∀ v, v + k < 8 → s.getD v 0 = r0.getD v 0 := by
  intro k
  induction k with
  | zero =>
    intro _ s hs v _
    have hs : needT (root (t ++ [])) = some s := hs
    rw [List.append_nil, h0] at hs
    rw [Option.some.inj hs]
  | succ k ih =>
    intro hk s hs v hv
    by_cases h : ffTop t (7 - k) = 80
    · rw [clTo_skip h] at hs
      exact ih (by omega) s hs v (by omega)
    · rw [(one_k hT hA (k := k) (by omega) h).1] at hs
      simp only [needT] at hs
      obtain ⟨a, h2, hn⟩ := Option.bind_eq_some_iff.1 hs
      rw [show quant 19 = true from rfl, if_pos rfl] at hn
      split at hn
      · cases hn
      · have hn := (Option.some.inj hn).symm
        subst hn
        rw [getD_set, if_neg (by omega)]
        exact ih (by omega) a h2 v (by omega)
omit hw in
theorem need_width {r r0 : List Nat} (h8 : needT (root (clAll t)) = some r) (h0 : needT (root t) = some r0) {v : Nat} (hv : v < 8) (hf : ¬ ffTop t v = 80) (hne : r0.getD v 0 ≠ 0) : r0.getD v 0 = 2 ^ (widL t v).toNat ∧ 1 ≤ widL t v ∧ widL t v ≤ 8 := by
  have e : 7 - (7 - v) = v := by omega
  obtain ⟨s, hs⟩ := needs hT hA h8 v (7 - v + 1) (by omega)
  have h1 := one_k hT hA (k := 7 - v) (by omega) (by rw [e]; exact hf)
  rw [h1.1] at hs
  simp only [needT] at hs
  obtain ⟨a, h2, hn⟩ := Option.bind_eq_some_iff.1 hs
  rw [show quant 19 = true from rfl, if_pos rfl, e] at hn
  have h3 := need_same hT hA h8 h0 (7 - v) (by omega) a h2 v (by omega)
  rw [e] at h1
  refine ⟨?_, h1.2⟩
  rw [Int.toNat_natCast, h3] at hn
  split at hn
  · cases hn
  · rename_i hc
    by_cases h9 : r0.getD v 0 = 2 ^ (widL t v).toNat
    · exact h9
    · exact absurd ⟨hne, h9⟩ hc
theorem closed_one (h : valueL (clAll t) (List.replicate 8 0) = some 1) {e : List Int} (he : e.length = 8) (hf : fitT (root t) e = true) : vT (root t) e = 1 := by
  obtain ⟨_, _, _, hf8, _⟩ := value_parts.1 h
  obtain ⟨r, h8⟩ : ∃ r, needT (root (clAll t)) = some r := by
    unfold fitT at hf8
    cases hn : needT (root (clAll t)) with
    | none => rw [hn] at hf8; cases hf8
    | some r => exact ⟨r, rfl⟩
  obtain ⟨r0, h0, hF⟩ : ∃ r0, needT (root t) = some r0 ∧ Fits r0 e := by
    unfold fitT at hf
    cases hn : needT (root t) with
    | none => rw [hn] at hf; cases hf
    | some r => rw [hn] at hf; exact ⟨r, rfl, fit_iff.1 hf⟩
  obtain ⟨hl1, hl80⟩ := term_len hT
  have hD := down_of hT
  have hfree : ∀ v, v < 8 → r0.getD v 0 ≠ 0 → ¬ ffTop t v = 80 := fun v hv hne => (free_top hD hl1 hl80 hv).1 (by
    have h1 := need_free hT (t.length - 1) (by omega) r0 h0 v hv hne
    unfold freeTop
    rw [show (t.length : Int) - 1 = ((t.length - 1 : Nat) : Int) by omega]
    exact h1)
  have hd := down hT hw hA h 8 0 rfl ((List.range 8).map fun v => if r0.getD v 0 = 0 then 0 else e.getD v 0) (by simp) (fun v hv hc => by
    rw [map8 _ hv, zero8]
    by_cases hz : r0.getD v 0 = 0
    · rw [if_pos hz]
    · rcases hc with hc | hc
      · exact absurd hc (hfree v hv hz)
      · omega) (fun v hv hc _ => by
    rw [map8 _ hv]
    by_cases hz : r0.getD v 0 = 0
    · rw [if_pos hz]
      exact ⟨Int.le_refl _, by exact_mod_cast Nat.two_pow_pos _⟩
    · rw [if_neg hz]
      obtain ⟨g1, g2, g3⟩ := need_width hT hA h8 h0 hv hc hz
      have g4 := hF v hv (widL t v).toNat (by omega) (by omega) (by rw [g1, Nat.testBit_two_pow]; simp)
      rw [show (((widL t v).toNat : Nat) : Int) = widL t v by omega] at g4
      obtain ⟨_, _, g5, g6⟩ := wok_iff.1 g4
      rw [p2_nat] at g6
      exact ⟨g5, g6⟩)
  have hd : valueL (t ++ []) _ = some 1 := hd
  rw [List.append_nil] at hd
  have h1 := (value_parts.1 hd).2.2.2.2
  rw [← h1]
  refine agree _ r0 _ _ (rt_all hD (fun i hi => term_node hT hi) _ (by omega)).1 h0 he (by simp) fun v hv hne => ?_
  rw [map8 _ hv, if_neg hne]
theorem closed_zero : ∀ k, k ≤ 8 → ∀ e : List Int, valueL (t ++ clTo t k) e = some 0 → ∃ e', valueL t e' = some 0 := by
  intro k
  induction k with
  | zero =>
    intro _ e h
    have h : valueL (t ++ []) e = some 0 := h
    rw [List.append_nil] at h
    exact ⟨e, h⟩
  | succ k ih =>
    intro hk e h9
    by_cases h : ffTop t (7 - k) = 80
    · rw [clTo_skip h] at h9
      exact ih (by omega) e h9
    · obtain ⟨_, hb1, hb8⟩ := one_k hT hA (k := k) (by omega) h
      rw [more_k h] at h9
      obtain ⟨g1, g2⟩ := value_quant (ok_k hT hA (by omega)) (w_k hw k) (len_k hT hA (by omega) h) (.inl rfl) (by omega) ⟨hb1, hb8⟩ h9
      simp only [vT] at g2
      rw [if_pos trivial] at g2
      by_cases hc : ((List.range (2 ^ (widL t (7 - k)).toNat)).all fun i => vT (root (t ++ clTo t k)) (e.set ((7 - k : Nat) : Int).toNat (i : Int)) == 1) = true
      · rw [if_pos hc] at g2; cases g2
      · obtain ⟨i, hi, hne⟩ : ∃ i : Nat, i < 2 ^ (widL t (7 - k)).toNat ∧ vT (root (t ++ clTo t k)) (e.set ((7 - k : Nat) : Int).toNat (i : Int)) ≠ 1 := by
          apply Classical.byContradiction
          intro hno
          apply hc
          rw [List.all_eq_true]
          intro i hi
          rw [beq_iff_eq]
          apply Classical.byContradiction
          intro h7
          exact hno ⟨i, List.mem_range.1 hi, h7⟩
        have g3 := g1 i hi
        have g4 := value_wok g3
        rw [w_k hw k] at g4
        obtain ⟨_, _, g5, g6⟩ := wok_iff.1 g4
        have g7 : p2 (1 : Int).toNat = 2 := rfl
        have g8 : vT (root (t ++ clTo t k)) (e.set ((7 - k : Nat) : Int).toNat (i : Int)) = 0 := by
          rw [g7] at g6
          omega
        rw [g8] at g3
        exact ih (by omega) _ g3
end
theorem clTo_length {t : List Nd} (hT : termOk t = true) : ∀ k, k ≤ 8 → (clTo t k).length + (freeTo t (8 - k)).length = (freeTo t 8).length := by
  obtain ⟨hl1, hl80⟩ := term_len hT
  intro k
  induction k with
  | zero => intro _; simp [clTo]
  | succ k ih =>
    intro hk
    have h1 := ih (by omega)
    rw [show 8 - k = (7 - k) + 1 by omega, freeTo_succ] at h1
    rw [show 8 - (k + 1) = 7 - k by omega]
    have h2 := free_top (down_of hT) hl1 hl80 (v := 7 - k) (by omega)
    by_cases h : ffTop t (7 - k) = 80
    · have h3 : flag (freeTop t) (7 - k) = false := by
        cases hf : flag (freeTop t) (7 - k)
        · rfl
        · exact absurd h (h2.1 hf)
      rw [h3] at h1
      rw [clTo_skip h]
      exact h1
    · rw [h2.2 h, if_pos rfl, List.length_append] at h1
      rw [clTo_more h, List.length_append]
      simp only [List.length_cons, List.length_nil] at h1 ⊢
      omega
theorem holds_closed {t : List Nd} {x : Int} (h : holdsL (clL t) = some x) : clB t = true ∧ termOk t = true ∧ (nth t (t.length - 1)).w = 1 ∧ termOk (clAll t) = true ∧ clL t = clAll t ∧ sentB (clAll t) = true ∧ valueL (clAll t) (List.replicate 8 0) = some x ∧ (x = 0 ∨ x = 1) := by
  unfold holdsL at h
  cases hs : sentB (clL t)
  · rw [hs] at h; cases h
  · rw [hs, if_pos rfl] at h
    have hb : clB t = true := by
      cases hb : clB t
      · have : clL t = [] := by unfold clL; rw [hb]; rfl
        rw [this, sent_term (by decide)] at hs
        cases hs
      · rfl
    have hl : clL t = clAll t := by unfold clL; rw [hb]; rfl
    rw [hl] at h hs
    have hb2 := hb
    unfold clB at hb2
    simp only [Bool.and_eq_true, beq_iff_eq] at hb2
    refine ⟨hb, hb2.1.1, hb2.1.2, hb2.2, hl, hs, h, ?_⟩
    have g4 := value_wok h
    have hw := w_k hb2.1.2 8
    have hw : (nth (clAll t) ((clAll t).length - 1)).w = 1 := hw
    rw [hw] at g4
    obtain ⟨_, _, g5, g6⟩ := wok_iff.1 g4
    have g7 : p2 (1 : Int).toNat = 2 := rfl
    rw [g7] at g6
    omega

end Go.Proofs.YtjfikpfdhjbheaaGreat.Vc1

/- What the program's functions of chapter 2 are to do. -/
namespace Go.Proofs.YtjfikpfdhjbheaaGreat.Lx1
open Go.RowKit
open Nd0 Nd3 Tm0 Tm1 Tm2 Tm3 Tm4 Tm5 Tm6 Tm11
/-- What the program's TermOk is to do. -/
def ITermOk : Prop := ∀ (w : World) (a : Option Addr) (l : List Nd) (c : Nat), Nodes w a l → l.length ≤ c → l.length ≤ 1048576 →
    Calls Tryz.prog 21 #[.slice a l.length c] w fun e w' => e = .returned (.bool (termOk l)) ∧ Below w.heap.size w w'
end Go.Proofs.YtjfikpfdhjbheaaGreat.Lx1
namespace Go.Proofs.YtjfikpfdhjbheaaGreat.Lx2
open Go.RowKit
open Nd0 Nd3 Tm0 Tm1 Tm2 Tm3 Tm4 Tm5 Tm6 Tm11
/-- What the program's Reached is to do. -/
def IReached : Prop := ∀ (w : World) (a : Option Addr) (l : List Nd) (c : Nat), Nodes w a l → l.length ≤ c → l.length ≤ 1048576 →
    Calls Tryz.prog 74 #[.slice a l.length c] w fun e w' => (∃ a' c', e = .returned (.slice a' (reachedL l).length c') ∧ WInts w' w.heap.size a' (reachedL l)) ∧ Below w.heap.size w w'
end Go.Proofs.YtjfikpfdhjbheaaGreat.Lx2
namespace Go.Proofs.YtjfikpfdhjbheaaGreat.Lx3
open Go.RowKit
open Nd0 Nd3 Tm0 Tm1 Tm2 Tm3 Tm4 Tm5 Tm6 Tm11
/-- What the program's Free is to do. -/
def IFree : Prop := ∀ (w : World) (a : Option Addr) (l : List Nd) (c : Nat), Nodes w a l → l.length ≤ c → l.length ≤ 1048576 →
    Calls Tryz.prog 10 #[.slice a l.length c] w fun e w' => (∃ a' c', e = .returned (.slice a' (freeL l).length c') ∧ WInts w' w.heap.size a' (freeL l)) ∧ Below w.heap.size w w'
end Go.Proofs.YtjfikpfdhjbheaaGreat.Lx3
namespace Go.Proofs.YtjfikpfdhjbheaaGreat.Lx4
open Go.RowKit
open Nd0 Nd3 Tm0 Tm1 Tm2 Tm3 Tm4 Tm5 Tm6 Tm11
end Go.Proofs.YtjfikpfdhjbheaaGreat.Lx4
namespace Go.Proofs.YtjfikpfdhjbheaaGreat.Lx6
open Go.RowKit
open Nd0 Nd3 Tm0 Tm1 Tm2 Tm3 Tm4 Tm5 Tm6 Tm11
/-- What the program's Sentence is to do. -/
def ISentence : Prop := ∀ (w : World) (a : Option Addr) (l : List Nd) (c : Nat), Nodes w a l → l.length ≤ c → l.length ≤ 1048576 →
    Calls Tryz.prog 40 #[.slice a l.length c] w fun e w' => e = .returned (.bool (sentB l)) ∧ Below w.heap.size w w'
end Go.Proofs.YtjfikpfdhjbheaaGreat.Lx6

/- What the program's functions of chapter 4 are to do. -/
namespace Go.Proofs.YtjfikpfdhjbheaaGreat.Ic4
open Go.RowKit
open Nd0 Nd3 Tm0 Vl1 Vl4 Vl5
def IApply : Prop := ∀ (n : Nd) (W a b c : Int) (w : World), (Lit.int .i64 n.k).wf = true →
    Calls Tryz.prog 94 #[.agg #[.int .i64 n.op, .int .i64 n.w, .int .i64 n.k, .int .i64 n.a, .int .i64 n.b, .int .i64 n.c], .int .i64 W, .int .i64 a, .int .i64 b, .int .i64 c] w fun e w' => e = .returned (.int .i64 (applyL n.op n.w n.k W a b c)) ∧ Below w.heap.size w w'
def IValue : Prop := ∀ (w : World) (a ae : Option Addr) (l : List Nd) (e : List Int) (c ce : Nat), Nodes w a l → l.length ≤ c → l.length ≤ 1048576 → Ints w ae e → e.length ≤ ce →
    Calls Tryz.prog 12 #[.slice a l.length c, .slice ae e.length ce] w fun x w' => x = .returned (.tuple #[.int .i64 ((valueL l e).getD 0), .bool (valueL l e).isSome]) ∧ Below w.heap.size w w'
def IHolds : Prop := ∀ (w : World) (a : Option Addr) (l : List Nd) (c : Nat), Nodes w a l → l.length ≤ c → l.length ≤ 1048576 →
    Calls Tryz.prog 18 #[.slice a l.length c] w fun x w' => x = .returned (.tuple #[.int .i64 ((holdsL l).getD 0), .bool (holdsL l).isSome]) ∧ Below w.heap.size w w'
end Go.Proofs.YtjfikpfdhjbheaaGreat.Ic4
