/- Small texts of mine, one behind the other. -/
import Derived.Test.YtlpbfbghgacjiaaPkR20
import Derived.Test.YtlpbfbghgacjiaaPkR23
import Derived.Test.YtlpbfbghgacjiaaWp10
import Derived.Test.YtlpbfbghgacjiaaPkR13
import Derived.Test.YtlpbfbghgacjiaaPkR18
/- The walk of Checks, by induction over the row. -/
namespace Go.Proofs.Ytlpbfbghgacjiaa.Wp20
open Go.RowKit
open Nd0 (Kept Ints WInts lt_of_cell)
open Nd6 (Bools)
open Op6 (Pk PkAt Pks)
open Ta1 (tab tab_length)
open Ta2 (bitB)
open Ta3 (hb)
open Tc2 (tv ret_bool)
open Tc5 (Lay)
open Td1 (knw)
open Te3 (iHalf iHalf0)
open Ss0 (bs bs_size)
open Vo0 (allB valB)
open Mv0 (Mv Sp Sm)
open Dq1 (ownF)
open Wp9 (findP)
open Wp10 (chk knw_zero)
open Wp13 (sp fp)
open Wp14 (iGive fp_find)
open Ap0 Wp12 Wp15 Wp16 Wp17 Wp18 Wp19
set_option linter.unusedVariables false

/-- What Checks' giver keeps: the map. -/
def Jc (mb bm c : Nat) (ps : List Pk) (_ : Unit) (vv : Value) (W : World) : Prop :=
  W.cell? ⟨mb, 0, none⟩ = some (.map (some bm)) ∧ Mv W bm c (fp ps) ∧ ∀ b, vv.ownBlock = some b → b ≠ mb ∧ b ≠ bm
def S0 (_ : Unit) (_ : Nat) : Prop := False
theorem jm_c {k : Kn} {mb bm c : Nat} {ps : List Pk} (h1 : mb ≠ k.vb) (h2 : bm ≠ k.vb) : Jm k (Jc mb bm c ps) := by
  intro t vv vv' W W' hj kk hn
  obtain ⟨j1, j2, j3⟩ := hj
  have l1 : mb < W.heap.size := lt_of_cell j1
  have l2 := j2.lt
  have nm : ∀ x, (x = mb ∨ x = bm) → ¬ (x = k.vb ∨ vv.ownBlock = some x) := fun x hx h => by
    rcases h with e | e
    · rcases hx with e2 | e2
      · exact h1 (e2.symm.trans e)
      · exact h2 (e2.symm.trans e)
    · rcases hx with e2 | e2
      · exact (j3 x e).1 e2
      · exact (j3 x e).2 e2
  refine ⟨by rw [kk.cell (p := ⟨mb, 0, none⟩) l1 (nm mb (.inl rfl))]; exact j1, j2.kept kk (nm bm (.inr rfl)), fun b hb => ?_⟩
  rcases hn b hb with e | e
  · exact j3 b e
  · exact ⟨by omega, by omega⟩
theorem knw_b (n : Nat) (F : Nat → Bool) : bitB (knw n F) = decide (0 ≤ knw n F) := by
  have := Ta3.knw_range n F
  unfold bitB
  exact decide_eq_decide.mpr (by omega)
theorem val_of {vs : List Int} (h : ∀ b ∈ vs, bitB b = true) (hl : vs.length ≤ 12) : valB vs 12 = true := by
  unfold valB allB
  simp
  exact ⟨h, by omega⟩
/-- Where the walk is right. -/
def FC (k : Kn) (mb bm c : Nat) (ps : List Pk) (row : List Bool) : Prop := ∀ (F : Nat → Bool) (vs : List Int) (vv : Value) (W : World), Wl k (Jc mb bm c ps) () vs vv W → (∀ b ∈ vs, bitB b = true) → k.OL.drop vs.length = row.map (ownF k.v) → vs.length + row.length ≤ 12 →
  Calls Try.prog 83 #[tv (row.length : Int) (bs (tab row.length F)), ptr k.g, ptr k.vb, ptr k.gb, ptr k.wb] W (PoW k (Jc mb bm c ps) S0 W () vs vv (chk ps k.v row F vs) ())
theorem fc_nil (k : Kn) (mb bm c : Nat) (ps : List Pk) (ks : Ks k) (h1 : mb ≠ k.vb) (h2 : bm ≠ k.vb) : FC k mb bm c ps [] := by
  intro F vs vv W hW hb hd hl
  exact iFromKnown k _ S0 ks (jm_c h1 h2) W () vs vv 0 F (by omega) _ hW (by rw [knw_b]; exact decide_eq_true (knw_zero F)) rfl
theorem fc_cons {k : Kn} {mb bm c : Nat} {ps : List Pk} (ks : Ks k) (h1 : mb ≠ k.vb) (h2 : bm ≠ k.vb) (hg : k.give = .func (.func 54) #[] #[ptr mb]) {q : Bool} {r : List Bool} (ih : FC k mb bm c ps r) : FC k mb bm c ps (q :: r) := by
  intro F vs vv W hW hv hd hl
  rw [List.length_cons] at hl ⊢
  have hS : ∀ (t : Unit) vv W, Jc mb bm c ps t vv W → ∀ b, S0 t b → b < W.heap.size := fun _ _ _ _ _ h => h.elim
  have jm := jm_c (c := c) (ps := ps) h1 h2
  by_cases hk : 0 ≤ knw (r.length + 1) F
  · exact iFromKnown k _ S0 ks jm W () vs vv (r.length + 1) F (by omega) _ hW (by rw [knw_b]; exact decide_eq_true hk) (by unfold chk; rw [if_pos hk])
  · have hkb : bitB (knw (r.length + 1) F) = false := by rw [knw_b]; exact decide_eq_false hk
    have e : chk ps k.v (q :: r) F vs = (if (q == (k.v == 0)) = true then (if findP ps vs = 0 then chk ps k.v r (hb r.length 0 F) (vs ++ [0]) else if findP ps vs = 1 then chk ps k.v r (hb r.length 1 F) (vs ++ [1]) else false) else (chk ps k.v r (hb r.length 0 F) (vs ++ [0]) && chk ps k.v r (hb r.length 1 F) (vs ++ [1]))) := by
      conv => lhs; unfold chk
      rw [if_neg hk]
    have hlt : vs.length < k.OL.length := by
      have := congrArg List.length hd
      rw [List.length_drop, List.length_map, List.length_cons] at this
      omega
    have hq : k.OL[vs.length] = (q == (k.v == 0)) := by
      have := hd
      rw [List.drop_eq_getElem_cons hlt, List.map_cons] at this
      exact (List.cons.inj this).1
    have hd' : ∀ b : Int, k.OL.drop (vs ++ [b]).length = r.map (ownF k.v) := fun b => by
      have := hd
      rw [List.drop_eq_getElem_cons hlt, List.map_cons] at this
      rw [List.length_append, List.length_singleton]
      exact (List.cons.inj this).2
    have hw : ∀ (b : Nat), b ≤ 1 → ∀ vv1 W1, Wl k (Jc mb bm c ps) () vs vv1 W1 → Calls Try.prog 81 #[.int .i64 (b : Int), tv ((r.length + 1 : Nat) : Int) (bs (tab (r.length + 1) F)), ptr k.vb, ptr k.fb] W1 (PoW k (Jc mb bm c ps) S0 W1 () vs vv1 (chk ps k.v r (hb r.length b F) (vs ++ [(b : Int)])) ()) := fun b hb1 vv1 W1 hW1 =>
      iWith k _ S0 ks jm W1 () () vs vv1 (b : Int) _ _ _ _ _ (by omega) hW1 (fun W => iHalf r.length b F W (by omega) hb1) (fun vv2 W2 hW2 =>
        ih (hb r.length b F) (vs ++ [(b : Int)]) vv2 W2 hW2 (fun x hx => by
          rcases List.mem_append.mp hx with h | h
          · exact hv x h
          · rw [List.mem_singleton.mp h]; exact decide_eq_true (by omega)) (hd' _) (by rw [List.length_append, List.length_singleton]; omega))
    by_cases hqo : (q == (k.v == 0)) = true
    · rw [e, if_pos hqo]
      have hvb := val_of hv (by omega)
      have hf := fp_find (ps := ps) hvb
      refine iFromOwn k _ S0 ks jm hS W () () () vs vv (r.length + 1) F (by omega) mb hg ((fp ps (sp vs)).getD 0) (fp ps (sp vs)).isSome _ hW hkb hlt (by rw [hq]; exact hqo) (fun W1 hW1 => ?_) (fun hth vv1 W1 hW1 => ?_) (fun hth => ?_)
      · obtain ⟨va, vc, evv, hI⟩ := hW1.vo.form
        subst evv
        refine (iGive va vs vc _ _ mb bm c (fp ps) W1 hvb hI.ints hW1.j.1 hW1.j.2.1).mono ?_
        rintro e w' ⟨he, hbw⟩
        exact ⟨he, hW1.below ks jm hbw, Kept.ofBelow hbw, fun i h => h.elim⟩
      · cases hfp : fp ps (sp vs) with
        | none => rw [hfp] at hth; cases hth
        | some z =>
          rw [hfp] at hf
          show Calls _ _ #[.int .i64 z, _, _, _] _ _
          by_cases z0 : z = 0
          · subst z0
            rw [if_pos (by rw [hf]; rfl)]
            exact hw 0 (by omega) vv1 W1 hW1
          · by_cases z1 : z = 1
            · subst z1
              rw [if_neg (by rw [hf]; decide), if_pos (by rw [hf]; rfl)]
              exact hw 1 (by omega) vv1 W1 hW1
            · have hz : bitB z = false := decide_eq_false (by omega)
              have hf1 : findP ps vs = -1 := by rw [hf]; show (if bitB z = true then z else -1) = -1; rw [hz]; rfl
              rw [if_neg (by rw [hf1]; decide), if_neg (by rw [hf1]; decide)]
              refine iWith0 k _ S0 ks jm W1 () vs vv1 z _ _ _ _ (by omega) hW1 (fun W => iHalf0 W ?_ (fun h => by rw [hz] at h; exact absurd h.2.2 (by decide)))
              rw [bs_size, tab_length]
              have : 2 ^ (r.length + 1) ≤ 2 ^ 12 := Nat.pow_le_pow_right (by decide) (by omega)
              omega
      · refine ⟨?_, rfl⟩
        cases hfp : fp ps (sp vs) with
        | some z => rw [hfp] at hth; cases hth
        | none =>
          rw [hfp] at hf
          have hf1 : findP ps vs = -1 := hf
          rw [if_neg (by rw [hf1]; decide), if_neg (by rw [hf1]; decide)]
    · rw [e, if_neg hqo]
      exact iFromOther k _ S0 ks jm hS W () () () vs vv (r.length + 1) F (by omega) _ _ _ () rfl (by simp) hW hkb hlt (by rw [hq]; exact Bool.eq_false_iff.mpr hqo) (hw 0 (by omega)) (hw 1 (by omega))
theorem fc_all {k : Kn} {mb bm c : Nat} {ps : List Pk} (ks : Ks k) (h1 : mb ≠ k.vb) (h2 : bm ≠ k.vb) (hg : k.give = .func (.func 54) #[] #[ptr mb]) : ∀ row, FC k mb bm c ps row := by
  intro row
  induction row with
  | nil => exact fc_nil k mb bm c ps ks h1 h2
  | cons q r ih => exact fc_cons ks h1 h2 hg ih
end Go.Proofs.Ytlpbfbghgacjiaa.Wp20

/- The walk of Checks. -/
namespace Go.Proofs.Ytlpbfbghgacjiaa.Wp21
open Go.RowKit
open Nd0 (Kept Ints WInts lt_of_cell)
open Nd6 (Bools)
open Op6 (Pk PkAt Pks)
open Ta1 (tab tab_length)
open Ta2 (bitB)
open Tc2 (tv ret_bool)
open Ss0 (bs bs_size)
open Mv0 (Mv Sp Sm)
open Dq1 (ownF ownL ownL_yes)
open Wp10 (chk)
open Wp13 (sp fp)
open Ap0 Wp12 Wp15 Wp16 Wp17 Wp18 Wp19 Wp20
set_option linter.unusedVariables false

def kc (n : Nat) (N : Int) (S : ByteArray) (v : Int) (a : Option Addr) (o : Nat) (OL : List Bool) (gi : Value) : Kn := ⟨n, n + 1 + 1 + 1, n + 1, n + 1 + 1 + 1 + 1, n + 1 + 1 + 1 + 1 + 1, n + 1 + 1, N, S, v, a, o, OL, gi⟩
theorem ks_c (w : World) (N : Int) (S : ByteArray) (v : Int) (a : Option Addr) (o : Nat) (OL : List Bool) (gi : Value) (hB : Bools w a OL) : Ks (kc w.heap.size N S v a o OL gi) := by
  refine ⟨?_, ?_, ?_, ?_, ?_, ?_, ?_⟩
  · show w.heap.size < w.heap.size + 1 + 1; omega
  · show w.heap.size + 1 < w.heap.size + 1 + 1; omega
  · show w.heap.size ≠ w.heap.size + 1 + 1 + 1; omega
  · show w.heap.size + 1 ≠ w.heap.size + 1 + 1 + 1; omega
  · show w.heap.size + 1 + 1 + 1 + 1 ≠ w.heap.size + 1 + 1 + 1; omega
  · show w.heap.size + 1 + 1 + 1 + 1 + 1 ≠ w.heap.size + 1 + 1 + 1; omega
  · intro x hx hl
    rcases hB.2 with e | ⟨b, i, e, hc⟩
    · have : 0 < OL.length := hl
      omega
    · have hx' : a = some x := hx
      rw [e] at hx'
      cases hx'
      have := lt_of_cell (hc 0 hl)
      show b < w.heap.size + 1 + 1 ∧ b ≠ w.heap.size + 1 + 1 + 1
      have h2 : b < w.heap.size := this
      exact ⟨by omega, by omega⟩
theorem wl_c (w : World) (N : Int) (S : ByteArray) (v : Int) (a : Option Addr) (o : Nat) (OL : List Bool) (gi : Value) (mb bm c : Nat) (ps : List Pk) (hB : Bools w a OL) (hm : w.cell? ⟨mb, 0, none⟩ = some (.map (some bm))) (hM : Mv w bm c (fp ps)) (T0 T1 T3 T4 T5 : Nat) :
    ∀ X, X = ((((((w.alloc (.cells #[.int .i64 N, .string S, .int .i64 v, .slice a OL.length o] T0)).alloc (.cells #[gi] T1)).alloc (.cells #[] 3)).alloc (.cells #[.slice (some ⟨w.heap.size + 1 + 1, 0, none⟩) 0 0] T3)).alloc (.cells #[(kc w.heap.size N S v a o OL gi).from_] T4)).alloc (.cells #[(kc w.heap.size N S v a o OL gi).with_] T5)) → Wl (kc w.heap.size N S v a o OL gi) (Jc mb bm c ps) () [] (.slice (some ⟨w.heap.size + 1 + 1, 0, none⟩) 0 0) X ∧ Below w.heap.size w X := by
  intro X hX
  rw [hX]
  clear hX X
  obtain ⟨fr, hfr⟩ : ∃ x, x = (kc w.heap.size N S v a o OL gi).from_ := ⟨_, rfl⟩
  obtain ⟨wi, hwi⟩ : ∃ x, x = (kc w.heap.size N S v a o OL gi).with_ := ⟨_, rfl⟩
  rw [← hfr, ← hwi]
  obtain ⟨X1, h1⟩ : ∃ X, X = w.alloc (.cells #[.int .i64 N, .string S, .int .i64 v, .slice a OL.length o] T0) := ⟨_, rfl⟩
  have z1 : X1.heap.size = w.heap.size + 1 := by rw [h1]; simp
  have g1 : G4 X1 w.heap.size (.int .i64 N) (.string S) (.int .i64 v) (.slice a OL.length o) := by rw [h1]; exact G4.made _ _ _ _ _ _
  have b1 : Below w.heap.size w X1 := by rw [h1]; exact (Below.refl _ _).alloc (Nat.le_refl _) _
  rw [← h1]
  obtain ⟨X2, h2⟩ : ∃ X, X = X1.alloc (.cells #[gi] T1) := ⟨_, rfl⟩
  have z2 : X2.heap.size = w.heap.size + 1 + 1 := by rw [h2, ← z1]; simp
  have c2 : X2.cell? ⟨w.heap.size + 1, 0, none⟩ = some gi := by rw [h2, ← z1]; simp
  have b2 : Below X1.heap.size X1 X2 := by rw [h2]; exact (Below.refl _ _).alloc (Nat.le_refl _) _
  rw [← h2]
  obtain ⟨X3, h3⟩ : ∃ X, X = X2.alloc (.cells #[] 3) := ⟨_, rfl⟩
  have z3 : X3.heap.size = w.heap.size + 1 + 1 + 1 := by rw [h3, ← z2]; simp
  have o3 : Ows X3 (w.heap.size + 1 + 1) (.slice (some ⟨w.heap.size + 1 + 1, 0, none⟩) 0 0) [] := by rw [h3, ← z2]; exact Ows.lit X2 _ (Nat.le_refl _)
  have b3 : Below X2.heap.size X2 X3 := by rw [h3]; exact (Below.refl _ _).alloc (Nat.le_refl _) _
  rw [← h3]
  obtain ⟨X4, h4⟩ : ∃ X, X = X3.alloc (.cells #[.slice (some ⟨w.heap.size + 1 + 1, 0, none⟩) 0 0] T3) := ⟨_, rfl⟩
  have z4 : X4.heap.size = w.heap.size + 1 + 1 + 1 + 1 := by rw [h4, ← z3]; simp
  have c4 : X4.cell? ⟨w.heap.size + 1 + 1 + 1, 0, none⟩ = some (.slice (some ⟨w.heap.size + 1 + 1, 0, none⟩) 0 0) := by rw [h4, ← z3]; simp
  have f4 : X4.frozen? ⟨w.heap.size + 1 + 1 + 1, 0, none⟩ = false := by rw [h4, ← z3]; simp
  have b4 : Below X3.heap.size X3 X4 := by rw [h4]; exact (Below.refl _ _).alloc (Nat.le_refl _) _
  rw [← h4]
  obtain ⟨X5, h5⟩ : ∃ X, X = X4.alloc (.cells #[fr] T4) := ⟨_, rfl⟩
  have z5 : X5.heap.size = w.heap.size + 1 + 1 + 1 + 1 + 1 := by rw [h5, ← z4]; simp
  have c5 : X5.cell? ⟨w.heap.size + 1 + 1 + 1 + 1, 0, none⟩ = some fr := by rw [h5, ← z4]; simp
  have b5 : Below X4.heap.size X4 X5 := by rw [h5]; exact (Below.refl _ _).alloc (Nat.le_refl _) _
  rw [← h5]
  obtain ⟨X6, h6⟩ : ∃ X, X = X5.alloc (.cells #[wi] T5) := ⟨_, rfl⟩
  have c6 : X6.cell? ⟨w.heap.size + 1 + 1 + 1 + 1 + 1, 0, none⟩ = some wi := by rw [h6, ← z5]; simp
  have b6 : Below X5.heap.size X5 X6 := by rw [h6]; exact (Below.refl _ _).alloc (Nat.le_refl _) _
  rw [← h6]
  have a5 : Below X4.heap.size X4 X6 := b5.trans (b6.mono b5.size)
  have a4 : Below X3.heap.size X3 X6 := b4.trans (a5.mono b4.size)
  have a3 : Below X2.heap.size X2 X6 := b3.trans (a4.mono b3.size)
  have a2 : Below X1.heap.size X1 X6 := b2.trans (a3.mono b2.size)
  have a1 : Below w.heap.size w X6 := b1.trans (a2.mono b1.size)
  have zz := a5.size
  refine ⟨⟨g1.below a2, hB.below a1, ?_, ?_, ?_, ?_, ?_, ?_, ?_, ?_, ?_⟩, a1⟩
  · exact (a5.cell (p := ⟨w.heap.size + 1 + 1 + 1, 0, none⟩) (lt_of_cell c4)).trans c4
  · exact (a5.frozen (p := ⟨w.heap.size + 1 + 1 + 1, 0, none⟩) (lt_of_cell c4)).trans f4
  · exact o3.kept (S := fun _ => False) (Kept.ofBelow a4) (fun _ _ h => h)
  · exact (a3.cell (p := ⟨w.heap.size + 1, 0, none⟩) (lt_of_cell c2)).trans c2
  · rw [← hfr]; exact (b6.cell (p := ⟨w.heap.size + 1 + 1 + 1 + 1, 0, none⟩) (lt_of_cell c5)).trans c5
  · rw [← hwi]; exact c6
  · refine ⟨(a1.cell (p := ⟨mb, 0, none⟩) (lt_of_cell hm)).trans hm, hM.below a1, fun b hb => ?_⟩
    have hb' : w.heap.size + 1 + 1 = b := by simpa [Value.ownBlock] using hb
    have l1 : mb < w.heap.size := lt_of_cell hm
    have l2 := hM.lt
    exact ⟨by omega, by omega⟩
  · show w.heap.size + 1 + 1 ≤ X6.heap.size
    omega
  · intro b hb
    have hb' : w.heap.size + 1 + 1 = b := by simpa [Value.ownBlock] using hb
    show b ≠ w.heap.size + 1 + 1 + 1 ∧ b ≠ w.heap.size + 1 + 1 + 1 + 1 ∧ b ≠ w.heap.size + 1 + 1 + 1 + 1 + 1
    exact ⟨by omega, by omega, by omega⟩

theorem at_c (F : Nat → Bool) (v : Int) (row : List Bool) (ps : List Pk) (a : Option Addr) (o c mb bm : Nat) (w : World) (r : Bool) (hr : r = chk ps v row F []) (hn : row.length ≤ 12) (hv : bitB v = true) (hB : Bools w a (ownL v row)) (hmm : w.cell? ⟨mb, 0, none⟩ = some (.map (some bm))) (hM : Mv w bm c (fp ps)) (T0 T1 T3 T4 T5 : Nat) :
    Calls Try.prog 83 #[tv (row.length : Int) (bs (tab row.length F)), ptr w.heap.size, ptr (w.heap.size + 1 + 1 + 1), ptr (w.heap.size + 1), ptr (w.heap.size + 1 + 1 + 1 + 1 + 1)] ((((((w.alloc (.cells #[.int .i64 (row.length : Int), .string (bs (tab row.length F)), .int .i64 v, .slice a (ownL v row).length o] T0)).alloc (.cells #[(.func (.func 54) #[] #[ptr mb])] T1)).alloc (.cells #[] 3)).alloc (.cells #[.slice (some ⟨w.heap.size + 1 + 1, 0, none⟩) 0 0] T3)).alloc (.cells #[(.func (.func 83) #[] #[ptr w.heap.size, ptr (w.heap.size + 1 + 1 + 1), ptr (w.heap.size + 1), ptr (w.heap.size + 1 + 1 + 1 + 1 + 1)])] T4)).alloc (.cells #[(.func (.func 81) #[] #[ptr (w.heap.size + 1 + 1 + 1), ptr (w.heap.size + 1 + 1 + 1 + 1)])] T5)) fun e w' => e = .returned (.bool r) ∧ Below w.heap.size w w' := by
  have H := wl_c w (row.length : Int) (bs (tab row.length F)) v a o (ownL v row) (.func (.func 54) #[] #[ptr mb]) mb bm c ps hB hmm hM T0 T1 T3 T4 T5 ((((((w.alloc (.cells #[.int .i64 (row.length : Int), .string (bs (tab row.length F)), .int .i64 v, .slice a (ownL v row).length o] T0)).alloc (.cells #[(.func (.func 54) #[] #[ptr mb])] T1)).alloc (.cells #[] 3)).alloc (.cells #[.slice (some ⟨w.heap.size + 1 + 1, 0, none⟩) 0 0] T3)).alloc (.cells #[(.func (.func 83) #[] #[ptr w.heap.size, ptr (w.heap.size + 1 + 1 + 1), ptr (w.heap.size + 1), ptr (w.heap.size + 1 + 1 + 1 + 1 + 1)])] T4)).alloc (.cells #[(.func (.func 81) #[] #[ptr (w.heap.size + 1 + 1 + 1), ptr (w.heap.size + 1 + 1 + 1 + 1)])] T5)) rfl
  have hl1 : mb < w.heap.size := lt_of_cell hmm
  have hl2 := hM.lt
  have h := fc_all (k := kc w.heap.size (row.length : Int) (bs (tab row.length F)) v a o (ownL v row) (.func (.func 54) #[] #[ptr mb])) (mb := mb) (bm := bm) (c := c) (ps := ps) (ks_c w _ _ v a o _ _ hB) (by show mb ≠ w.heap.size + 1 + 1 + 1; omega) (by show bm ≠ w.heap.size + 1 + 1 + 1; omega) rfl row F [] _ _ H.1 (fun _ h => by cases h) (by show (ownL v row).drop 0 = _; rw [List.drop_zero]; exact ownL_yes hv) (by simpa using hn)
  refine h.mono ?_
  rintro e w' ⟨he, vv', _, hK, _, _⟩
  refine ⟨by rw [he, hr]; rfl, H.2.trans (hK.below (B := w.heap.size) (fun i hi => ?_) H.2.size)⟩
  rcases hi with e | e | e
  · have e' : i = w.heap.size + 1 + 1 + 1 := e
    omega
  · have e' : w.heap.size + 1 + 1 = i := by simpa [Value.ownBlock] using e
    omega
  · exact e.elim

set_option maxRecDepth 100000 in
set_option maxHeartbeats 4000000 in
theorem iWalk (F : Nat → Bool) (v : Int) (row : List Bool) (ps : List Pk) (a : Option Addr) (o c mb bm : Nat) (w : World) (hn : row.length ≤ 12) (hv : bitB v = true) (hB : Bools w a (ownL v row)) (hm : w.cell? ⟨mb, 0, none⟩ = some (.map (some bm))) (hM : Mv w bm c (fp ps)) :
    Calls Try.prog 47 #[gv (row.length : Int) (bs (tab row.length F)) v a (ownL v row).length o, .func (.func 54) #[] #[ptr mb]] w fun e w' => e = .returned (.bool (chk ps v row F [])) ∧ Below w.heap.size w w' := by
  have HV : Hid (bitB v = true ∧ Bools w a (ownL v row) ∧ w.cell? ⟨mb, 0, none⟩ = some (.map (some bm)) ∧ Mv w bm c (fp ps) ∧ row.length ≤ 12) := ⟨hv, hB, hm, hM, hn⟩
  clear hv hB hm hM hn
  obtain ⟨r, hr⟩ : ∃ r, r = chk ps v row F [] := ⟨_, rfl⟩
  have HR : Hid (r = chk ps v row F []) := hr
  rw [← hr]
  clear hr
  obtain ⟨m, hm⟩ : ∃ m, m = (ownL v row).length := ⟨_, rfl⟩
  have HM : Hid (m = (ownL v row).length) := hm
  rw [← hm]
  clear hm
  obtain ⟨S, hS⟩ : ∃ S, S = bs (tab row.length F) := ⟨_, rfl⟩
  have HS : Hid (S = bs (tab row.length F)) := hS
  rw [← hS]
  clear hS
  go_enter Try.func47, Try.ntmps47
  go_upto_region 5 with fail
  go_wp2_with fail
  have hm := HM.out
  have hs := HS.out
  subst hm hs
  obtain ⟨hv, hB, hmm, hM, hn⟩ := HV.out
  refine Calls.mono (R := fun e w' => e = .returned (.bool r) ∧ Below w.heap.size w w') ?_ ?_
  · exact at_c F v row ps a o c mb bm w r HR.out hn hv hB hmm hM _ _ _ _ _
  · rintro e w' ⟨rfl, hb⟩
    have HB : Hid (Below w.heap.size w w') := hb
    clear hb
    go_wp2_with fail
    go_ret
    exact ⟨rfl, HB.out⟩
end Go.Proofs.Ytlpbfbghgacjiaa.Wp21
