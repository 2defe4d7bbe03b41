/- Small texts of mine, one behind the other. -/
import Derived.Deep.RegionHeld3
import Derived.Deep.CutBlock
import Derived.Test.YtlpbfbghgacjiaaPkR25
import Derived.Test.YtlpbfbghgacjiaaPkR15
import Derived.Test.YtlpbfbghgacjiaaPkR17
import Derived.Test.YtlpbfbghgacjiaaTd4
import Derived.Test.YtlpbfbghgacjiaaWp10
/- The program's Checks. -/
namespace Go.Proofs.Ytlpbfbghgacjiaa.Wp22
open Go.RowKit
open Nd0 (Kept Ints WInts lt_of_cell)
open Nd6 (Bools)
open Op6 (Pk PkAt Pks)
open Ta1 (tab tab_length)
open Ta2 (bitB)
open Tc2 (tv ret_bool)
open Tc5 (Lay)
open Ss0 (bs bs_size)
open Mv0 (Mv Sp Sm)
open Dq1 (ownF ownL ownL_yes)
open Wp10 (chk)
open Wp13 (sp fp iFirst)
open Ap0 Wp7 Wp12 Wp15 Wp21
set_option linter.unusedVariables false

set_option maxRecDepth 100000 in
set_option maxHeartbeats 4000000 in
theorem iChecks (row : List Bool) (F : Nat → Bool) (v : Int) (ps : List Pk) (ra la : Option Addr) (c lc : Nat) (w : World) (hn : row.length ≤ 12) (hB : Bools w ra row) (hv : bitB v = true) (hl : ps.length ≤ 5000) (hP : Pks w la ps) (hw : ∀ p ∈ ps, (Lit.int .i64 p.v).wf = true) :
    Calls Try.prog 13 #[.slice ra row.length c, tv (row.length : Int) (bs (tab row.length F)), .int .i64 v, .slice la ps.length lc] w fun e w' => e = .returned (.bool (chk ps v row F [])) ∧ Below w.heap.size w w' := by
  obtain ⟨X0, hX0⟩ : ∃ X, X = w.alloc (.cells #[.int .i64 (row.length : Int), .string (bs (tab row.length F))] 26) := ⟨_, rfl⟩
  have b0 : Below w.heap.size w X0 := by rw [hX0]; exact (Below.refl _ _).alloc (Nat.le_refl _) _
  have HB0 : Hid (Below w.heap.size w X0) := b0
  have HL0 : Hid (Lay X0 w.heap.size (.int .i64 (row.length : Int)) (.string (bs (tab row.length F)))) := by rw [hX0]; exact Lay.made _ _ _ _
  have hE : w.alloc (.cells #[.int .i64 (row.length : Int), .string (bs (tab row.length F))] 26) = X0 := hX0.symm
  have HGA : Hid _ := iGame row.length F v row ra c X0 hn rfl (hB.below b0) hv
  have HFI : Hid (∀ W, Below w.heap.size w W → Calls Try.prog 53 #[.slice la ps.length lc] W fun e w' => (∃ bm, e = .returned (.map (some bm)) ∧ W.heap.size ≤ bm ∧ ∃ k, Mv w' bm k (fp ps)) ∧ Below W.heap.size W w') := fun W hb => iFirst W la ps lc (pks_below hP hb) (by omega) hw
  obtain ⟨r, hr⟩ : ∃ r, r = chk ps v row F [] := ⟨_, rfl⟩
  rw [← hr]
  have HWK : Hid (∀ a o cc mb bm W, Bools W a (ownL v row) → W.cell? ⟨mb, 0, none⟩ = some (.map (some bm)) → Mv W bm cc (fp ps) → Calls Try.prog 47 #[gv (row.length : Int) (bs (tab row.length F)) v a (ownL v row).length o, .func (.func 54) #[] #[ptr mb]] W fun e w' => e = .returned (.bool r) ∧ Below W.heap.size W w') := fun a o cc mb bm W h1 h2 h3 => by
    rw [hr]
    exact iWalk F v row ps a o cc mb bm W hn hv h1 h2 h3
  have hlz : ¬ (5000 : Int) < (ps.length : Int) := by omega
  clear hX0 b0 hn hB hv hl hP hw hr
  generalize ownL v row = OL at *
  generalize bs (tab row.length F) = S at *
  go_enter Try.func13, Try.ntmps13
  go_upto_region 1 with fail
  clear hE
  obtain ⟨d0, d1, _, _⟩ := HL0.out
  have hd := HL0.out.lt
  go_wp2_with fail
  clear d0 d1 hd
  refine Calls.mono HGA.out ?_
  rintro e w1 ⟨⟨ga, go, rfl, hb1'⟩, hb1⟩
  have HB1 : Hid (Below w.heap.size w w1) := HB0.out.trans (hb1.mono HB0.out.size)
  have HO1 : Hid (Bools w1 ga OL) := hb1'
  clear hb1 hb1' HB0 HL0 HGA
  go_upto_region 2 with fail
  obtain ⟨W2, hW2⟩ : ∃ X, X = w1.alloc (.cells #[.int .i64 (row.length : Int), .string S, .int .i64 v, .slice ga OL.length go] 74) := ⟨_, rfl⟩
  obtain ⟨g, hg⟩ : ∃ g, g = w1.heap.size := ⟨_, rfl⟩
  have hb2 : Below w1.heap.size w1 W2 := by rw [hW2]; exact (Below.refl _ _).alloc (Nat.le_refl _) _
  have HB2 : Hid (Below w.heap.size w W2) := HB1.out.trans (hb2.mono HB1.out.size)
  have HG2 : Hid (G4 W2 g (.int .i64 (row.length : Int)) (.string S) (.int .i64 v) (.slice ga OL.length go)) := by rw [hW2, hg]; exact G4.made _ _ _ _ _ _
  have HO2 : Hid (Bools W2 ga OL) := HO1.out.below hb2
  rw [← hW2, ← hg]
  clear hW2 hg hb2 HB1 HO1
  go_upto_region 4 with fail
  go_wp2_with fail
  refine (HFI.out _ HB2.out).mono ?_
  rintro e w3 ⟨⟨bm, rfl, hbm, kk, hM⟩, hb3⟩
  have HB3 : Hid (Below w.heap.size w w3) := HB2.out.trans (hb3.mono HB2.out.size)
  have HG3 : Hid (G4 w3 g (.int .i64 (row.length : Int)) (.string S) (.int .i64 v) (.slice ga OL.length go)) := HG2.out.below hb3
  have HO3 : Hid (Bools w3 ga OL) := HO2.out.below hb3
  have HM3 : Hid (Mv w3 bm kk (fp ps)) := hM
  clear hb3 hM hbm HB2 HG2 HO2
  go_upto_region 5 with fail
  have hmade : ∀ T : Nat, (w3.alloc (.cells #[.map (some bm)] T)).cell? ⟨w3.heap.size, 0, none⟩ = some (.map (some bm)) ∧ Below w3.heap.size w3 (w3.alloc (.cells #[.map (some bm)] T)) := fun T => ⟨by simp, (Below.refl _ _).alloc (Nat.le_refl _) _⟩
  generalize hW4 : World.alloc w3 _ = W4
  generalize hq : w3.heap.size = q at *
  have hc4 : W4.cell? ⟨q, 0, none⟩ = some (.map (some bm)) := by rw [← hW4]; exact (hmade _).1
  have hb4 : Below w3.heap.size w3 W4 := by rw [hq, ← hW4]; exact (hmade _).2
  have HB4 : Hid (Below w.heap.size w W4) := HB3.out.trans (hb4.mono HB3.out.size)
  have HG4 : Hid (G4 W4 g (.int .i64 (row.length : Int)) (.string S) (.int .i64 v) (.slice ga OL.length go)) := HG3.out.below hb4
  have HC4 : Hid (W4.cell? ⟨q, 0, none⟩ = some (.map (some bm))) := hc4
  have HK4 : Hid (Calls Try.prog 47 #[gv (row.length : Int) S v ga OL.length go, .func (.func 54) #[] #[ptr q]] W4 fun e w' => e = .returned (.bool r) ∧ Below W4.heap.size W4 w') := HWK.out _ _ _ _ _ _ (HO3.out.below hb4) HC4.out (HM3.out.below hb4)
  clear hmade hW4 hq hc4 hb4 HB3 HG3 HO3 HM3
  obtain ⟨d0, d1, d2, d3, _, _, _, _⟩ := HG4.out
  have hd := HG4.out.lt
  go_wp2_with fail
  clear d0 d1 d2 d3 hd
  refine Calls.mono HK4.out ?_
  rintro e w5 ⟨rfl, hb5⟩
  have HB5 : Hid (Below w.heap.size w w5) := HB4.out.trans (hb5.mono HB4.out.size)
  clear hb5
  go_wp2_with fail
  go_ret
  exact ⟨rfl, HB5.out⟩
end Go.Proofs.Ytlpbfbghgacjiaa.Wp22

/- The model's verdict. -/
namespace Go.Proofs.Ytlpbfbghgacjiaa.Dm1
open Go.RowKit
open Ta0 Ta1 Ta2 Ta3 Tc2 Tc5 Td1 Td2 Td4 De0 Dv0
open Nd0 (Kept set_other set_same lt_of_cell)
open Nd6 (Bools)
open Ss0 (bs bs_size)
open Ss1 (tl)
set_option linter.unusedVariables false

set_option maxRecDepth 100000 in
set_option maxHeartbeats 4000000 in
theorem sOkR0 {N : Int} {S : ByteArray} (ra : Option Addr) (L c : Nat) (w : World) (hS : S.size ≤ 1048576) (h : ¬ (tokB N (tl S) = true ∧ (L : Int) = N)) :
    Calls Try.prog 51 #[.slice ra L c, tv N S] w fun e w' => e = .returned (.bool false) ∧ Below w.heap.size w w' := by
  have HA : Hid (Below w.heap.size w (w.alloc (.cells #[.int .i64 N, .string S] 26))) := (Below.refl _ _).alloc (Nat.le_refl _) _
  have HX : Hid (Lay (w.alloc (.cells #[.int .i64 N, .string S] 26)) w.heap.size (.int .i64 N) (.string S)) := Lay.made _ _ _ _
  cases h1 : tokB N (tl S)
  · have HO : Hid (∀ W, Calls Try.prog 87 #[tv N S] W fun e w' => e = .returned (.bool false) ∧ Below W.heap.size W w') := fun W => sOk0 W hS h1
    clear h h1
    go_enter Try.func51, Try.ntmps51
    go_wp2_with fail
    refine (HO.out _).mono ?_
    rintro e w1 ⟨rfl, hb⟩
    have HA1 : Hid (Below w.heap.size w w1) := HA.out.trans (hb.mono HA.out.size)
    clear hb
    go_wp2
    go_ret
    exact ⟨rfl, HA1.out⟩
  · have HO : Hid (∀ W, Calls Try.prog 87 #[tv N S] W fun e w' => e = .returned (.bool true) ∧ Below W.heap.size W w') := fun W => by
      have := sTableOk N S W hS
      rwa [h1] at this
    have hne : ((L : Int) == N) = false := beq_eq_false_iff_ne.2 fun e => h ⟨h1, e⟩
    clear h h1
    go_enter Try.func51, Try.ntmps51
    go_wp2_with fail
    refine (HO.out _).mono ?_
    rintro e w1 ⟨rfl, hb⟩
    have HA1 : Hid (Below w.heap.size w w1) := HA.out.trans (hb.mono HA.out.size)
    obtain ⟨x0, x1, _, _⟩ := HX.out.below hb
    clear hb
    go_wp2
    go_ret
    exact ⟨rfl, HA1.out⟩

set_option maxRecDepth 100000 in
set_option maxHeartbeats 4000000 in
theorem sOkR (n : Nat) (F : Nat → Bool) (ra : Option Addr) (c : Nat) (w : World) (hn : n ≤ 12) :
    Calls Try.prog 51 #[.slice ra n c, tv (n : Int) (bs (tab n F))] w fun e w' => e = .returned (.bool true) ∧ Below w.heap.size w w' := by
  have HO : Hid (∀ W, Calls Try.prog 87 #[tv (n : Int) (bs (tab n F))] W fun e w' => e = .returned (.bool true) ∧ Below W.heap.size W w') := fun W => sOk1 n F W hn
  generalize bs (tab n F) = S at *
  have HA : Hid (Below w.heap.size w (w.alloc (.cells #[.int .i64 (n : Int), .string S] 26))) := (Below.refl _ _).alloc (Nat.le_refl _) _
  have HX : Hid (Lay (w.alloc (.cells #[.int .i64 (n : Int), .string S] 26)) w.heap.size (.int .i64 (n : Int)) (.string S)) := Lay.made _ _ _ _
  go_enter Try.func51, Try.ntmps51
  go_wp2_with fail
  refine (HO.out _).mono ?_
  rintro e w1 ⟨rfl, hb⟩
  have HA1 : Hid (Below w.heap.size w w1) := HA.out.trans (hb.mono HA.out.size)
  obtain ⟨x0, x1, _, _⟩ := HX.out.below hb
  clear hb
  go_wp2
  go_ret
  exact ⟨rfl, HA1.out⟩

/-- What the model's verdict is to do for a row. -/
def MD (row : List Bool) : Prop := ∀ (F : Nat → Bool) (W : World) (a : Option Addr) (c : Nat), Bools W a row → row.length ≤ c → Calls Try.prog 52 #[.slice a row.length c, tv (row.length : Int) (bs (tab row.length F))] W fun e w' => e = .returned (.int .i64 ((dc row F).toNat : Int)) ∧ Below W.heap.size W w'

set_option maxRecDepth 100000 in
set_option maxHeartbeats 2000000 in
theorem md_nil : MD [] := by
  intro F w a c hB hc
  have HG : Hid (Sg (bs (tab 0 F)) (2 ^ 0) F) := sg_tab 0 F
  show Calls Try.prog 52 #[.slice a 0 c, tv 0 (bs (tab 0 F))] w fun e w' => e = .returned (.int .i64 ((F 0).toNat : Int)) ∧ Below w.heap.size w w'
  generalize bs (tab 0 F) = S at *
  have hs : 0 < S.size := by rw [HG.out.size]; simp
  have h9 := HG.out.at_ 0 hs
  have HB0 : Hid (Below w.heap.size w (w.alloc (.cells #[.int .i64 0, .string S] 26))) := (Below.refl _ _).alloc (Nat.le_refl _) _
  clear hB hc
  have hsz : (0 : Int) < (S.size : Int) := by omega
  cases hF : F 0
  all_goals
    rw [hF] at h9
    clear hF
    simp only [Bool.toNat_false, Bool.toNat_true, Int.natCast_zero, Int.natCast_one] at h9
    go_enter Try.func52, Try.ntmps52
    go_wp2
    go_ret
    exact ⟨rfl, HB0.out⟩

/-- The flags behind the first. -/
theorem bools_tail {W : World} {a : Option Addr} {q : Bool} {r : List Bool} {c : Nat} (h : Bools W a (q :: r)) (hc : r.length + 1 ≤ c) : ∃ b o, a = some ⟨b, o, none⟩ ∧ W.cell? ⟨b, o, none⟩ = some (.bool q) ∧ ∃ t, t = (if c = 1 then o else o + 1) ∧ Bools W (some ⟨b, t, none⟩) r := by
  rcases h.2 with h0 | ⟨b, o, ha, hx⟩
  · simp at h0
  · refine ⟨b, o, ha, hx 0 (by simp), _, rfl, ?_⟩
    refine ⟨by have := h.1; simp at this; omega, ?_⟩
    by_cases e : r.length = 0
    · exact .inl e
    · rw [if_neg (by omega)]
      refine .inr ⟨b, o + 1, rfl, fun i hi => ?_⟩
      have := hx (i + 1) (by simpa using hi)
      rw [show o + 1 + i = o + (i + 1) by omega]
      simpa using this

end Go.Proofs.Ytlpbfbghgacjiaa.Dm1

/- The model's Checks, whole. -/
namespace Go.Proofs.Ytlpbfbghgacjiaa.Wp11
open Go.RowKit
open Nd0 (Kept Ints WInts IntsIn lt_of_cell)
open Nd6 (Bools)
open Op6 (Pk PkAt Pks)
open Ta1 (tab tokB)
open Ta2 (bitB)
open Tc2 (tv sInT sInF ret_bool)
open Tc5 (Lay)
open Ss0 (bs)
open Ss1 (tl)
open Dm1 (sOkR0 sOkR)
open Ap0 Wp7 Wp9 Wp10
set_option linter.unusedVariables false

set_option maxRecDepth 100000 in
set_option maxHeartbeats 4000000 in
/-- Of what is not so. -/
theorem sChecks0 (N : Int) (S : ByteArray) (v : Int) (ps : List Pk) (ra la : Option Addr) (L c lc : Nat) (w : World) (hS : S.size ≤ 1048576) (hm : ps.length ≤ maxLen) (h : ¬ ((tokB N (tl S) = true ∧ (L : Int) = N) ∧ bitB v = true ∧ ps.length ≤ 5000))
    (hok : (tokB N (tl S) = true ∧ (L : Int) = N) → ∀ W, Calls Try.prog 51 #[.slice ra L c, tv N S] W fun e w' => e = .returned (.bool true) ∧ Below W.heap.size W w') :
    Calls Try.prog 17 #[.slice ra L c, tv N S, .int .i64 v, .slice la ps.length lc] w fun e w' => e = .returned (.bool false) ∧ Below w.heap.size w w' := by
  unfold maxLen at hm
  obtain ⟨X0, hX0⟩ : ∃ X, X = w.alloc (.cells #[.int .i64 N, .string S] 26) := ⟨_, rfl⟩
  have HB0 : Hid (Below w.heap.size w X0) := by rw [hX0]; exact (Below.refl _ _).alloc (Nat.le_refl _) _
  have HL0 : Hid (Lay X0 w.heap.size (.int .i64 N) (.string S)) := by rw [hX0]; exact Lay.made _ _ _ _
  have hE : w.alloc (.cells #[.int .i64 N, .string S] 26) = X0 := hX0.symm
  clear hX0
  by_cases h1 : tokB N (tl S) = true ∧ (L : Int) = N
  · have HOK : Hid _ := hok h1
    by_cases h2 : bitB v = true
    · have hin := bit_in.1 h2
      have h5 : ¬ (ps.length : Int) ≤ 5000 := fun e => h ⟨h1, h2, by omega⟩
      clear h h1 h2 hok hS
      go_enter Try.func17, Try.ntmps17
      go_upto_region 1 with fail
      clear hE
      obtain ⟨d0, d1, _, _⟩ := HL0.out
      have hd := HL0.out.lt
      go_wp2_with (first | (go_at_call 51; refine (HOK.out _).mono ?_; rintro e w1 ⟨rfl, hb1⟩; have HB1 : Hid (Below w.heap.size w w1) := HB0.out.trans (hb1.mono HB0.out.size); clear hb1) | (go_at_call 62; refine (sInT _ hin).mono ?_; rintro e w2 ⟨rfl, hw2⟩; have hw2' := hw2.symm; clear hw2; subst hw2'))
      go_ret
      exact ⟨rfl, HB1.out⟩
    · have hno : ¬ (0 ≤ v ∧ v ≤ 1) := fun e => h2 (bit_in.2 e)
      clear h h1 h2 hok hS
      go_enter Try.func17, Try.ntmps17
      go_upto_region 1 with fail
      clear hE
      obtain ⟨d0, d1, _, _⟩ := HL0.out
      have hd := HL0.out.lt
      go_wp2_with (first | (go_at_call 51; refine (HOK.out _).mono ?_; rintro e w1 ⟨rfl, hb1⟩; have HB1 : Hid (Below w.heap.size w w1) := HB0.out.trans (hb1.mono HB0.out.size); clear hb1) | (go_at_call 62; refine (sInF _ hno).mono ?_; rintro e w2 ⟨rfl, hw2⟩; have hw2' := hw2.symm; clear hw2; subst hw2'))
      go_ret
      exact ⟨rfl, HB1.out⟩
  · have HOK : Hid (∀ W, Calls Try.prog 51 #[.slice ra L c, tv N S] W fun e w' => e = .returned (.bool false) ∧ Below W.heap.size W w') := fun W => sOkR0 ra L c W hS h1
    clear h h1 hok hS
    go_enter Try.func17, Try.ntmps17
    go_upto_region 1 with fail
    clear hE
    obtain ⟨d0, d1, _, _⟩ := HL0.out
    have hd := HL0.out.lt
    go_wp2_with (go_at_call 51; refine (HOK.out _).mono ?_; rintro e w1 ⟨rfl, hb1⟩; have HB1 : Hid (Below w.heap.size w w1) := HB0.out.trans (hb1.mono HB0.out.size); clear hb1)
    go_ret
    exact ⟨rfl, HB1.out⟩

set_option maxRecDepth 100000 in
set_option maxHeartbeats 4000000 in
/-- Of what is so. -/
theorem sChecks (row : List Bool) (F : Nat → Bool) (v : Int) (ps : List Pk) (ra la : Option Addr) (c lc : Nat) (w : World) (hn : row.length ≤ 12) (hB : Bools w ra row) (hc : row.length ≤ c) (hv : bitB v = true) (hl : ps.length ≤ 5000) (hP : Pks w la ps) :
    Calls Try.prog 17 #[.slice ra row.length c, tv (row.length : Int) (bs (tab row.length F)), .int .i64 v, .slice la ps.length lc] w fun e w' => e = .returned (.bool (chk ps v row F [])) ∧ Below w.heap.size w w' := by
  obtain ⟨X0, hX0⟩ : ∃ X, X = w.alloc (.cells #[.int .i64 (row.length : Int), .string (bs (tab row.length F))] 26) := ⟨_, rfl⟩
  have HB0 : Hid (Below w.heap.size w X0) := by rw [hX0]; exact (Below.refl _ _).alloc (Nat.le_refl _) _
  have HL0 : Hid (Lay X0 w.heap.size (.int .i64 (row.length : Int)) (.string (bs (tab row.length F)))) := by rw [hX0]; exact Lay.made _ _ _ _
  have hE : w.alloc (.cells #[.int .i64 (row.length : Int), .string (bs (tab row.length F))] 26) = X0 := hX0.symm
  have hin := bit_in.1 hv
  have h5 : (ps.length : Int) ≤ 5000 := by omega
  have HOK : Hid (∀ W, Calls Try.prog 51 #[.slice ra row.length c, tv (row.length : Int) (bs (tab row.length F))] W fun e w' => e = .returned (.bool true) ∧ Below W.heap.size W w') := fun W => sOkR row.length F ra c W hn
  have HCK : Hid (∀ W g, Below w.heap.size w W → Calls Try.prog 63 #[.slice ra row.length c, tv (row.length : Int) (bs (tab row.length F)), .int .i64 v, .slice la ps.length lc, .slice (some ⟨g, 0, none⟩) 0 0] W fun e w' => e = .returned (.bool (chk ps v row F [])) ∧ Below W.heap.size W w') := fun W g hb => mc_all ps v row hn F W ra la _ c lc 0 [] (hB.below hb) hc (pks_below hP hb) ⟨Nat.zero_le _, .inl rfl⟩ (by simp; omega)
  clear hX0 hn hB hc hv hl hP
  obtain ⟨R, hR⟩ : ∃ R, R = chk ps v row F [] := ⟨_, rfl⟩
  rw [← hR] at HCK ⊢
  clear hR
  generalize bs (tab row.length F) = S at *
  generalize row.length = n at *
  go_enter Try.func17, Try.ntmps17
  go_upto_region 1 with fail
  clear hE
  obtain ⟨d0, d1, _, _⟩ := HL0.out
  have hd := HL0.out.lt
  go_wp2_with fail
  clear d0 d1 hd
  refine (HOK.out _).mono ?_
  rintro e w1 ⟨rfl, hb1⟩
  have HB1 : Hid (Below w.heap.size w w1) := HB0.out.trans (hb1.mono HB0.out.size)
  have HL1 : Hid (Lay w1 w.heap.size (.int .i64 (n : Int)) (.string S)) := HL0.out.below hb1
  clear hb1
  obtain ⟨d0, d1, _, _⟩ := HL1.out
  have hd := HL1.out.lt
  go_wp2_with (first | (go_at_call 62; refine (sInT _ hin).mono ?_; rintro e w2 ⟨rfl, hw2⟩; have hw2' := hw2.symm; clear hw2; subst hw2') | (go_at_call 63; refine (HCK.out _ _ (HB1.out.alloc HB1.out.size _)).mono ?_; rintro e w3 ⟨rfl, hb3⟩; have HB3 : Hid (Below w.heap.size w w3) := (HB1.out.alloc HB1.out.size _).trans (hb3.mono (HB1.out.alloc HB1.out.size _).size); clear hb3))
  go_ret
  exact ⟨rfl, HB3.out⟩
end Go.Proofs.Ytlpbfbghgacjiaa.Wp11

/- The program's Checks of what is not so; one answer of both. -/
namespace Go.Proofs.Ytlpbfbghgacjiaa.Wp23
open Go.RowKit
open Nd0 (Kept Ints WInts lt_of_cell)
open Nd6 (Bools)
open Op6 (Pk PkAt Pks)
open Ta1 (tab tokB tok_tab)
open Ta2 (bitB)
open Tc2 (tv ret_bool)
open Tc5 (Lay)
open Ss0 (bs bs_size)
open Ss1 (tl bs_tl)
open Dq1 (ownL)
open Dp4 (iRuled0 iRuled)
open Dm1 (sOkR)
open Wp10 (chk)
open Wp11 (sChecks0 sChecks)
open Ap0 Wp7 Wp12 Wp15 Wp22
set_option linter.unusedVariables false

set_option maxRecDepth 100000 in
set_option maxHeartbeats 4000000 in
/-- Where there is no game. -/
theorem iChecksN (N : Int) (S : ByteArray) (v : Int) (ra la : Option Addr) (L c l lc : Nat) (w : World) (h : ¬ ((tokB N (tl S) = true ∧ (L : Int) = N) ∧ bitB v = true))
    (hR : ∀ W, ∃ rr : Bool, (rr = true → bitB v = false) ∧ Calls Try.prog 78 #[.slice ra L c, tv N S] W fun e w' => ∃ (a1 : Option Addr) (n1 m1 : Nat) (z1 : Int) (a2 : Option Addr) (n2 m2 : Nat), e = .returned (.tuple #[.agg #[.slice a1 n1 m1, .int .i64 z1, .slice a2 n2 m2], .bool rr]) ∧ Below W.heap.size W w') :
    Calls Try.prog 13 #[.slice ra L c, tv N S, .int .i64 v, .slice la l lc] w fun e w' => e = .returned (.bool false) ∧ Below w.heap.size w w' := by
  obtain ⟨X0, hX0⟩ : ∃ X, X = w.alloc (.cells #[.int .i64 N, .string S] 26) := ⟨_, rfl⟩
  have HB0 : Hid (Below w.heap.size w X0) := by rw [hX0]; exact (Below.refl _ _).alloc (Nat.le_refl _) _
  have HL0 : Hid (Lay X0 w.heap.size (.int .i64 N) (.string S)) := by rw [hX0]; exact Lay.made _ _ _ _
  have hE : w.alloc (.cells #[.int .i64 N, .string S] 26) = X0 := hX0.symm
  have HGA : Hid _ := iGame0 N S v ra L c X0 h hR
  clear hX0 h hR
  go_enter Try.func13, Try.ntmps13
  go_upto_region 1 with fail
  clear hE
  obtain ⟨d0, d1, _, _⟩ := HL0.out
  have hd := HL0.out.lt
  go_wp2_with fail
  clear d0 d1 hd
  refine Calls.mono HGA.out ?_
  rintro e w1 ⟨rfl, hb1⟩
  have HB1 : Hid (Below w.heap.size w w1) := HB0.out.trans (hb1.mono HB0.out.size)
  clear hb1 HB0 HL0 HGA
  go_wp2
  go_ret
  exact ⟨rfl, HB1.out.alloc HB1.out.size _⟩

set_option maxRecDepth 100000 in
set_option maxHeartbeats 4000000 in
/-- Where there are too many picks. -/
theorem iChecksM (row : List Bool) (F : Nat → Bool) (v : Int) (ra la : Option Addr) (c l lc : Nat) (w : World) (hn : row.length ≤ 12) (hB : Bools w ra row) (hv : bitB v = true) (hl : ¬ l ≤ 5000) :
    Calls Try.prog 13 #[.slice ra row.length c, tv (row.length : Int) (bs (tab row.length F)), .int .i64 v, .slice la l lc] w fun e w' => e = .returned (.bool false) ∧ Below w.heap.size w w' := by
  obtain ⟨X0, hX0⟩ : ∃ X, X = w.alloc (.cells #[.int .i64 (row.length : Int), .string (bs (tab row.length F))] 26) := ⟨_, rfl⟩
  have b0 : Below w.heap.size w X0 := by rw [hX0]; exact (Below.refl _ _).alloc (Nat.le_refl _) _
  have HB0 : Hid (Below w.heap.size w X0) := b0
  have HL0 : Hid (Lay X0 w.heap.size (.int .i64 (row.length : Int)) (.string (bs (tab row.length F)))) := by rw [hX0]; exact Lay.made _ _ _ _
  have hE : w.alloc (.cells #[.int .i64 (row.length : Int), .string (bs (tab row.length F))] 26) = X0 := hX0.symm
  have HGA : Hid _ := iGame row.length F v row ra c X0 hn rfl (hB.below b0) hv
  have hlz : (5000 : Int) < (l : Int) := by omega
  clear hX0 b0 hn hB hv hl
  generalize ownL v row = OL at *
  generalize bs (tab row.length F) = S at *
  go_enter Try.func13, Try.ntmps13
  go_upto_region 1 with fail
  clear hE
  obtain ⟨d0, d1, _, _⟩ := HL0.out
  have hd := HL0.out.lt
  go_wp2_with fail
  clear d0 d1 hd
  refine Calls.mono HGA.out ?_
  rintro e w1 ⟨⟨ga, go, rfl, hb1'⟩, hb1⟩
  have HB1 : Hid (Below w.heap.size w w1) := HB0.out.trans (hb1.mono HB0.out.size)
  clear hb1 hb1' HB0 HL0 HGA
  go_wp2
  go_ret
  exact ⟨rfl, HB1.out.alloc HB1.out.size _⟩

theorem tok_str {N : Int} {S : ByteArray} (h : tokB N (tl S) = true) : ∃ (n : Nat) (F : Nat → Bool), n ≤ 12 ∧ N = (n : Int) ∧ S = bs (tab n F) := by
  obtain ⟨n, F, h1, h2, h3⟩ := tok_tab h
  exact ⟨n, F, h1, h2, by rw [← bs_tl S, h3]⟩
/-- One answer of both. -/
theorem bChecks (row : List Bool) (N : Int) (S : ByteArray) (v : Int) (ps : List Pk) (hS : S.size ≤ 1048576) (hw : ∀ p ∈ ps, (Lit.int .i64 p.v).wf = true) : ∃ b : Bool,
    (∀ (W : World) (ra la : Option Addr) (c lc : Nat), Bools W ra row → row.length ≤ c → Pks W la ps → Calls Try.prog 17 #[.slice ra row.length c, tv N S, .int .i64 v, .slice la ps.length lc] W fun e w' => e = .returned (.bool b) ∧ Below W.heap.size W w') ∧
    (∀ (W : World) (ra la : Option Addr) (c lc : Nat), Bools W ra row → Pks W la ps → Calls Try.prog 13 #[.slice ra row.length c, tv N S, .int .i64 v, .slice la ps.length lc] W fun e w' => e = .returned (.bool b) ∧ Below W.heap.size W w') := by
  by_cases h : tokB N (tl S) = true ∧ (row.length : Int) = N
  · obtain ⟨h1, h2⟩ := h
    have h1' := h1
    obtain ⟨n, F, hn, rfl, rfl⟩ := tok_str h1
    obtain rfl : n = row.length := by omega
    by_cases hv : bitB v = true
    · by_cases hl : ps.length ≤ 5000
      · exact ⟨_, fun W ra la c lc hB hc hP => sChecks row F v ps ra la c lc W hn hB hc hv hl hP, fun W ra la c lc hB hP => iChecks row F v ps ra la c lc W hn hB hv hl hP hw⟩
      · exact ⟨false, fun W ra la c lc hB hc hP => sChecks0 _ _ v ps ra la _ c lc W hS hP.1 (fun e => hl e.2.2) (fun _ W' => sOkR row.length F ra c W' hn), fun W ra la c lc hB hP => iChecksM row F v ra la c _ lc W hn hB hv hl⟩
    · exact ⟨false, fun W ra la c lc hB hc hP => sChecks0 _ _ v ps ra la _ c lc W hS hP.1 (fun e => hv e.2.1) (fun _ W' => sOkR row.length F ra c W' hn), fun W ra la c lc hB hP => iChecksN _ _ v ra la _ c _ lc W (fun e => hv e.2) fun W' => ⟨true, (fun _ => by simpa using hv), (iRuled row.length F ra c W' hn).mono fun e w' hh => by
        obtain ⟨g, he, _, _, hb⟩ := hh
        exact ⟨_, _, _, _, _, _, _, he, hb⟩⟩⟩
  · exact ⟨false, fun W ra la c lc hB hc hP => sChecks0 _ _ v ps ra la _ c lc W hS hP.1 (fun e => h e.1) (fun e => absurd e h), fun W ra la c lc hB hP => iChecksN _ _ v ra la _ c _ lc W (fun e => h e.1) fun W' => ⟨false, (fun e => by cases e), (iRuled0 ra _ c W' hS h).mono fun e w' hh => by
        obtain ⟨he, hb⟩ := hh
        exact ⟨_, _, _, _, _, _, _, he, hb⟩⟩⟩
end Go.Proofs.Ytlpbfbghgacjiaa.Wp23
