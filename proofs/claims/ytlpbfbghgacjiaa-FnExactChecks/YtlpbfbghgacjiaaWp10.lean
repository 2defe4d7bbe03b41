/- The model's Checks. -/
import Derived.Deep.RegionHeld3
import Derived.Deep.CutBlock
import Derived.Lib.QuietBelow
import Derived.BigQuiet
import Derived.Test.YtlpbfbghgacjiaaPkR23
import Derived.Test.YtlpbfbghgacjiaaTd4
import Derived.Test.YtlpbfbghgacjiaaPkR14
namespace Go.Proofs.Ytlpbfbghgacjiaa.Wp10
open Go.RowKit
open Nd0 (Kept Ints WInts IntsIn lt_of_cell)
open Nd6 (Bools)
open Op6 (Pk PkAt Pks)
open Ta1 (tab)
open Ta2 (bitB)
open Ta3 (hb)
open Tc2 (tv sInT sInF ret_bool)
open Tc5 (Lay)
open Td1 (knw sKnown knw_same)
open Td4 (sHalf)
open Ss0 (bs)
open Ap0 Wp7 Wp9 Wq0
open Go.Sort (grow)
set_option linter.unusedVariables false

/-- Whether a list is a strategy for the verdict v, from some values on. -/
def chk (ps : List Pk) (v : Int) : List Bool → (Nat → Bool) → List Int → Bool
  | [], F, _ => decide (knw 0 F = v)
  | q :: r, F, vs => if 0 ≤ knw (r.length + 1) F then decide (knw (r.length + 1) F = v)
    else if (q == (v == 0)) = true then (if findP ps vs = 0 then chk ps v r (hb r.length 0 F) (vs ++ [0]) else if findP ps vs = 1 then chk ps v r (hb r.length 1 F) (vs ++ [1]) else false)
    else (chk ps v r (hb r.length 0 F) (vs ++ [0]) && chk ps v r (hb r.length 1 F) (vs ++ [1]))
def MC (ps : List Pk) (v : Int) (row : List Bool) : Prop := ∀ (F : Nat → Bool) (W : World) (ra la va : Option Addr) (c lc vc : Nat) (vs : List Int), Bools W ra row → row.length ≤ c → Pks W la ps → Ints W va vs → vs.length + row.length ≤ 100 →
  Calls Try.prog 63 #[.slice ra row.length c, tv (row.length : Int) (bs (tab row.length F)), .int .i64 v, .slice la ps.length lc, .slice va vs.length vc] W fun e w' => e = .returned (.bool (chk ps v row F vs)) ∧ Below W.heap.size W w'
theorem knw_zero (F : Nat → Bool) : 0 ≤ knw 0 F := by
  rw [knw_same (fun j hj => by have : j = 0 := (by simpa using hj); rw [this])]
  omega

set_option maxRecDepth 100000 in
set_option maxHeartbeats 4000000 in
/-- What is known. -/
theorem mc_known (ps : List Pk) (v : Int) (n : Nat) (F : Nat → Bool) (hn : n ≤ 12) (W : World) (ra la va : Option Addr) (k c lc vc m : Nat) (b : Bool) (hk : 0 ≤ knw n F) (hb : b = decide (knw n F = v)) :
    Calls Try.prog 63 #[.slice ra k c, tv (n : Int) (bs (tab n F)), .int .i64 v, .slice la ps.length lc, .slice va m vc] W fun e w' => e = .returned (.bool b) ∧ Below W.heap.size W w' := by
  obtain ⟨X0, hX0⟩ : ∃ X, X = W.alloc (.cells #[.int .i64 (n : Int), .string (bs (tab n F))] 26) := ⟨_, rfl⟩
  have HB0 : Hid (Below W.heap.size W X0) := by rw [hX0]; exact (Below.refl _ _).alloc (Nat.le_refl _) _
  have HL0 : Hid (Lay X0 W.heap.size (.int .i64 (n : Int)) (.string (bs (tab n F)))) := by rw [hX0]; exact Lay.made _ _ _ _
  have hE : W.alloc (.cells #[.int .i64 (n : Int), .string (bs (tab n F))] 26) = X0 := hX0.symm
  have HKN : Hid (∀ W, Calls Try.prog 97 #[tv (n : Int) (bs (tab n F))] W fun e w' => e = .returned (.int .i64 (knw n F)) ∧ Below W.heap.size W w') := fun W => sKnown n F W hn
  have HBQ : Hid (b = decide (knw n F = v)) := hb
  clear hX0 hb hn
  generalize knw n F = kn at *
  generalize bs (tab n F) = S at *
  go_enter Try.func63, Try.ntmps63
  go_upto_region 1 with fail
  clear hE
  obtain ⟨d0, d1, _, _⟩ := HL0.out
  have hd := HL0.out.lt
  go_wp2_with fail
  clear d0 d1 hd
  refine (HKN.out _).mono ?_
  rintro e w1 ⟨rfl, hb1⟩
  have HB1 : Hid (Below W.heap.size W w1) := HB0.out.trans (hb1.mono HB0.out.size)
  clear hb1
  have HQ : Hid ((kn == v) = b) := by show _ = _; rw [HBQ.out]; rfl
  cases hq : (kn == v)
  · have HR : Hid (b = false) := by show _ = _; rw [← HQ.out, hq]
    go_wp2
    go_ret
    exact ⟨ret_bool HR.out.symm, HB1.out⟩
  · have HR : Hid (b = true) := by show _ = _; rw [← HQ.out, hq]
    go_wp2
    go_ret
    exact ⟨ret_bool HR.out.symm, HB1.out⟩

set_option maxRecDepth 100000 in
set_option maxHeartbeats 8000000 in
/-- What is not known. -/
theorem mc_on (ps : List Pk) (v : Int) (n : Nat) (F : Nat → Bool) (hn : n ≤ 11) (q : Bool) (W : World) (b o t : Nat) (la va : Option Addr) (c c1 lc vc : Nat) (vs : List Int) (z0 z1 : Bool) (hk : ¬ 0 ≤ knw (n + 1) F)
    (p0 : W.cell? ⟨b, o, none⟩ = some (.bool q)) (hsl : ∀ w : World, (Instr.slice 24 (.slice (some ⟨b, o, none⟩) (n + 1) c) (some (.int .i64 1)) none none).run Try.prog w = .ok (.slice (some ⟨b, t, none⟩) n c1) w)
    (hP : Pks W la ps) (hI : Ints W va vs) (hlen : vs.length ≤ 100)
    (h0 : ∀ (W' : World) a c, Below W.heap.size W W' → Ints W' a (vs ++ [0]) → Calls Try.prog 63 #[.slice (some ⟨b, t, none⟩) n c1, tv (n : Int) (bs (tab n (hb n 0 F))), .int .i64 v, .slice la ps.length lc, .slice a (vs.length + 1) c] W' fun e w' => e = .returned (.bool z0) ∧ Below W'.heap.size W' w')
    (h1 : ∀ (W' : World) a c, Below W.heap.size W W' → Ints W' a (vs ++ [1]) → Calls Try.prog 63 #[.slice (some ⟨b, t, none⟩) n c1, tv (n : Int) (bs (tab n (hb n 1 F))), .int .i64 v, .slice la ps.length lc, .slice a (vs.length + 1) c] W' fun e w' => e = .returned (.bool z1) ∧ Below W'.heap.size W' w') :
    Calls Try.prog 63 #[.slice (some ⟨b, o, none⟩) (n + 1) c, tv ((n : Int) + 1) (bs (tab (n + 1) F)), .int .i64 v, .slice la ps.length lc, .slice va vs.length vc] W fun e w' => e = .returned (.bool (if (q == (v == 0)) = true then (if findP ps vs = 0 then z0 else if findP ps vs = 1 then z1 else false) else (z0 && z1))) ∧ Below W.heap.size W w' := by
  obtain ⟨R, hR⟩ : ∃ R, R = (if (q == (v == 0)) = true then (if findP ps vs = 0 then z0 else if findP ps vs = 1 then z1 else false) else (z0 && z1)) := ⟨_, rfl⟩
  have HR : Hid (R = (if (q == (v == 0)) = true then (if findP ps vs = 0 then z0 else if findP ps vs = 1 then z1 else false) else (z0 && z1))) := hR
  rw [← hR]
  obtain ⟨X0, hX0⟩ : ∃ X, X = W.alloc (.cells #[.int .i64 ((n : Int) + 1), .string (bs (tab (n + 1) F))] 26) := ⟨_, rfl⟩
  have HB0 : Hid (Below W.heap.size W X0) := by rw [hX0]; exact (Below.refl _ _).alloc (Nat.le_refl _) _
  have HL0 : Hid (Lay X0 W.heap.size (.int .i64 ((n : Int) + 1)) (.string (bs (tab (n + 1) F)))) := by rw [hX0]; exact Lay.made _ _ _ _
  have hE : W.alloc (.cells #[.int .i64 ((n : Int) + 1), .string (bs (tab (n + 1) F))] 26) = X0 := hX0.symm
  have HKN : Hid (∀ W, Calls Try.prog 97 #[tv ((n : Int) + 1) (bs (tab (n + 1) F))] W fun e w' => e = .returned (.int .i64 (knw (n + 1) F)) ∧ Below W.heap.size W w') := fun W => sKnown (n + 1) F W (by omega)
  have HH0 : Hid (∀ W, Calls Try.prog 88 #[tv ((n : Int) + 1) (bs (tab (n + 1) F)), .int .i64 0] W fun e w' => e = .returned (.tuple #[tv (n : Int) (bs (tab n (hb n 0 F))), .bool true]) ∧ Below W.heap.size W w') := fun W => sHalf n 0 F W (by omega) (by omega)
  have HH1 : Hid (∀ W, Calls Try.prog 88 #[tv ((n : Int) + 1) (bs (tab (n + 1) F)), .int .i64 1] W fun e w' => e = .returned (.tuple #[tv (n : Int) (bs (tab n (hb n 1 F))), .bool true]) ∧ Below W.heap.size W w') := fun W => sHalf n 1 F W (by omega) (by omega)
  have HF : Hid (∀ W', Below W.heap.size W W' → Calls Try.prog 67 #[.slice la ps.length lc, .slice va vs.length vc] W' fun e w' => e = .returned (.int .i64 (findP ps vs)) ∧ Below W'.heap.size W' w') := fun W' hb => sFind W' la va ps vs lc vc (pks_below hP hb) (hI.below hb)
  have HI0 : Hid _ := h0
  have HI1 : Hid _ := h1
  have HV : Hid (Ints W va vs) := hI
  have HLV : Hid (vs.length ≤ 1048576) := by show _ ≤ _; omega
  have P0 : Hid (W.cell? ⟨b, o, none⟩ = some (.bool q)) := p0
  clear hR hX0 h0 h1 hP hI p0 hn hlen
  generalize knw (n + 1) F = kn at *
  generalize bs (tab (n + 1) F) = S at *
  generalize bs (tab n (hb n 0 F)) = S0 at *
  generalize bs (tab n (hb n 1 F)) = S1 at *
  go_enter Try.func63, Try.ntmps63
  go_upto_region 1 with fail
  clear hE
  obtain ⟨d0, d1, _, _⟩ := HL0.out
  have hd := HL0.out.lt
  go_wp2_with fail
  clear d0 d1 hd
  refine (HKN.out _).mono ?_
  rintro e w1 ⟨rfl, hb1⟩
  have HB1 : Hid (Below W.heap.size W w1) := HB0.out.trans (hb1.mono HB0.out.size)
  have HL1 : Hid (Lay w1 W.heap.size (.int .i64 ((n : Int) + 1)) (.string S)) := HL0.out.below hb1
  clear hb1 HB0 HL0
  obtain ⟨d0, d1, _, _⟩ := HL1.out
  have hd := HL1.out.lt
  go_wp2_with fail
  clear d0 d1 hd
  refine (HH0.out _).mono ?_
  rintro e w2 ⟨rfl, hb2⟩
  go_upto_region 5 with fail
  obtain ⟨W2, hW2⟩ : ∃ X, X = w2.alloc (.cells #[.int .i64 (n : Int), .string S0] 26) := ⟨_, rfl⟩
  obtain ⟨ql, hql⟩ : ∃ q, q = w2.heap.size := ⟨_, rfl⟩
  have hb3 : Below w1.heap.size w1 W2 := by rw [hW2]; exact hb2.alloc hb2.size _
  have HB2 : Hid (Below W.heap.size W W2) := HB1.out.trans (hb3.mono HB1.out.size)
  have HL2 : Hid (Lay W2 W.heap.size (.int .i64 ((n : Int) + 1)) (.string S)) := HL1.out.below hb3
  have HA2 : Hid (Lay W2 ql (.int .i64 (n : Int)) (.string S0)) := by rw [hW2, hql]; exact Lay.made _ _ _ _
  rw [← hW2, ← hql]
  clear hW2 hql hb2 hb3 HB1 HL1
  obtain ⟨d0, d1, _, _⟩ := HL2.out
  have hd := HL2.out.lt
  go_wp2_with fail
  clear d0 d1 hd
  refine (HH1.out _).mono ?_
  rintro e w3 ⟨rfl, hb3⟩
  go_upto_region 6 with fail
  obtain ⟨W3, hW3⟩ : ∃ X, X = w3.alloc (.cells #[.int .i64 (n : Int), .string S1] 26) := ⟨_, rfl⟩
  obtain ⟨qh, hqh⟩ : ∃ q, q = w3.heap.size := ⟨_, rfl⟩
  have hb4 : Below W2.heap.size W2 W3 := by rw [hW3]; exact hb3.alloc hb3.size _
  have HB3 : Hid (Below W.heap.size W W3) := HB2.out.trans (hb4.mono HB2.out.size)
  have HA3 : Hid (Lay W3 ql (.int .i64 (n : Int)) (.string S0)) := HA2.out.below hb4
  have HC3 : Hid (Lay W3 qh (.int .i64 (n : Int)) (.string S1)) := by rw [hW3, hqh]; exact Lay.made _ _ _ _
  rw [← hW3, ← hqh]
  clear hW3 hqh hb3 hb4 HB2 HL2 HA2
  go_upto_region 7 with (at_builtin; go_must (first | (refine app_int _ rfl _ _ rfl w5.heap.size v6 vs 1 rfl rfl HO6.out HB6.out.size HLV.out ?_; intro g7 cp7 w7 ho7 hk7 hg7; have HO7 : Hid (Ows w7 w5.heap.size (.slice (some ⟨g7, 0, none⟩) (vs.length + 1) cp7) (vs ++ [1])) := ho7; have HB7 : Hid (Below w5.heap.size w5 w7) := HB6.out.trans (hk7.below (fun i hi => (HO6.out.lt i hi).1) HB6.out.size); clear ho7 hk7 hg7) | (refine allIs _ rfl _ _ rfl vs va vc _ rfl rfl rfl (HV.out.below (HB3.out.trans (HB5.out.mono HB3.out.size))) HLV.out ?_; intro v6 w6 ho6 hb6; have HO6 : Hid (Ows w6 w5.heap.size v6 vs) := ho6; have HB6 : Hid (Below w5.heap.size w5 w6) := hb6; clear ho6 hb6) | (refine app_int _ rfl _ _ rfl W3.heap.size v4 vs 0 rfl rfl HO4.out HB4.out.size HLV.out ?_; intro g5 cp5 w5 ho5 hk5 hg5; have HO5 : Hid (Ows w5 W3.heap.size (.slice (some ⟨g5, 0, none⟩) (vs.length + 1) cp5) (vs ++ [0])) := ho5; have HB5 : Hid (Below W3.heap.size W3 w5) := HB4.out.trans (hk5.below (fun i hi => (HO4.out.lt i hi).1) HB4.out.size); clear ho5 hk5 hg5) | (refine allIs _ rfl _ _ rfl vs va vc _ rfl rfl rfl (HV.out.below HB3.out) HLV.out ?_; intro v4 w4 ho4 hb4; have HO4 : Hid (Ows w4 W3.heap.size v4 vs) := ho4; have HB4 : Hid (Below W3.heap.size W3 w4) := hb4; clear ho4 hb4)))
  have HBW : Hid (Below W.heap.size W w7) := (HB3.out.trans (HB5.out.mono HB3.out.size)).trans (HB7.out.mono (Nat.le_trans HB3.out.size HB5.out.size))
  have h57 : Below W3.heap.size W3 w7 := HB5.out.trans (HB7.out.mono HB5.out.size)
  have HA7 : Hid (Lay w7 ql (.int .i64 (n : Int)) (.string S0)) := HA3.out.below h57
  have HC7 : Hid (Lay w7 qh (.int .i64 (n : Int)) (.string S1)) := HC3.out.below h57
  have HZ0 : Hid (Ints w7 (some ⟨g5, 0, none⟩) (vs ++ [0])) := by
    obtain ⟨a9, c9, e9, f9⟩ := HO5.out.form
    injection e9 with ea eb ec
    rw [← ea] at f9
    exact f9.ints.below HB7.out
  have HZ1 : Hid (Ints w7 (some ⟨g7, 0, none⟩) (vs ++ [1])) := by
    obtain ⟨a9, c9, e9, f9⟩ := HO7.out.form
    injection e9 with ea eb ec
    rw [← ea] at f9
    exact f9.ints
  have p0 : w7.cell? ⟨b, o, none⟩ = some (.bool q) := by rw [HBW.out.cell (p := ⟨b, o, none⟩) (lt_of_cell P0.out)]; exact P0.out
  have hpl := lt_of_cell p0
  clear h57 HB3 HB4 HB5 HB6 HB7 HO4 HO5 HO6 HO7 HA3 HC3 HKN HH0 HH1 HV P0
  obtain ⟨z, hz⟩ : ∃ z, z = findP ps vs := ⟨_, rfl⟩
  rw [← hz] at HF HR
  clear hz hk
  have hcn : (1 : Int) ≤ (n : Int) + 1 := by omega
  cases ht : (q == (v == 0))
  · have HRR : Hid (R = (z0 && z1)) := by show _ = _; rw [HR.out, ht]; rfl
    clear HR
    go_upto_region 14 with fail
    clear p0 hpl ht HF
    have HQ0 : Hid (∀ d os, Calls Try.prog 63 #[.slice (some ⟨b, t, none⟩) n c1, tv (n : Int) S0, .int .i64 v, .slice la ps.length lc, .slice (some ⟨g5, 0, none⟩) (vs.length + 1) cp5] (grow (redrawn w7 d) os) fun e w'' => e = .returned (.bool z0) ∧ ∃ p : Regrown, w'' = grow (redrawn w7 p.d) p.os) := fun d os => Calls.regrown_of (HI0.out _ _ _ (HBW.out.trans ((below_regrown w7 d os).mono HBW.out.size)) (HZ0.out.below (below_regrown w7 d os)))
    cases z0
    · have HR3 : Hid (R = false) := by show _ = _; rw [HRR.out]; rfl
      have a0 : ∀ d os, (grow (redrawn w7 d) os).cell? ⟨ql, 0, none⟩ = some (.int .i64 (n : Int)) := fun d os => cell_regrown HA7.out.c0 d os
      have a1 : ∀ d os, (grow (redrawn w7 d) os).cell? ⟨ql, 1, none⟩ = some (.string S0) := fun d os => cell_regrown HA7.out.c1 d os
      clear HZ0 HZ1 HI0 HI1 HA7 HC7 HRR HLV
      refine wp_region_quiet_below (by kernel_rfl) (by kernel_rfl) ?_
      iterate 17 (go_big_quiet_step ((go_at_call 63; exact HQ0.out _ _)))
      refine wpQuiet_nil ?_
      intro w9 hw9
      obtain ⟨pp, hw8⟩ := hw9
      subst hw8
      go_wp2
      go_ret
      exact ⟨ret_bool HR3.out.symm, HBW.out.trans ((below_regrown w7 pp.d pp.os).mono HBW.out.size)⟩
    · have HR3 : Hid (R = z1) := by show _ = _; rw [HRR.out]; rfl
      have dd : Below w7.heap.size w7 w7.drew := (Below.refl _ _).drew
      have HBD : Hid (Below W.heap.size W w7.drew) := HBW.out.drew
      have LAD := HA7.out.below dd
      have LCD := HC7.out.below dd
      have Z0D : Hid (Ints w7.drew (some ⟨g5, 0, none⟩) (vs ++ [0])) := HZ0.out.below dd
      have Z1D : Hid (Ints w7.drew (some ⟨g7, 0, none⟩) (vs ++ [1])) := HZ1.out.below dd
      clear dd HBW HA7 HC7 HZ0 HZ1 HQ0
      go_region_held3 (fun w' => w'.cell? ⟨ql, 0, none⟩ = some (.int .i64 (n : Int)) ∧ w'.cell? ⟨ql, 1, none⟩ = some (.string S0) ∧ w'.cell? ⟨qh, 0, none⟩ = some (.int .i64 (n : Int)) ∧ w'.cell? ⟨qh, 1, none⟩ = some (.string S1)) ((first | (with_reducible exact ⟨LAD.c0, LAD.c1, LCD.c0, LCD.c1⟩) | (with_reducible exact ⟨LAE.c0, LAE.c1, LCE.c0, LCE.c1⟩) | (with_reducible exact ⟨LAG.c0, LAG.c1, LCG.c0, LCG.c1⟩))) ((first | (go_at_call 63; (with_reducible refine (HI0.out _ _ _ HBD.out Z0D.out).mono ?_); rintro e w9 ⟨rfl, hb9⟩; have LAE := LAD.below hb9; have LCE := LCD.below hb9; have Z1E : Hid (Ints w9 (some ⟨g7, 0, none⟩) (vs ++ [1])) := Z1D.out.below hb9; have HB9 : Hid (Below W.heap.size W w9) := HBD.out.trans (hb9.mono HBD.out.size); clear hb9) | (go_at_call 63; (with_reducible refine (HI1.out _ _ _ HB9.out Z1E.out).mono ?_); rintro e w10 ⟨rfl, hb9⟩; have LAG := LAE.below hb9; have LCG := LCE.below hb9; have HB10 : Hid (Below W.heap.size W w10) := HB9.out.trans (hb9.mono HB9.out.size); clear hb9)))
      go_wp2
      go_ret
      exact ⟨ret_bool HR3.out.symm, HB10.out⟩
  · have HRR : Hid (R = (if z = 0 then z0 else if z = 1 then z1 else false)) := by show _ = _; rw [HR.out, ht]; rfl
    clear HR
    go_wp2_with fail
    clear p0 hpl ht
    refine (HF.out _ HBW.out).mono ?_
    rintro e w8 ⟨rfl, hb8⟩
    have HB8 : Hid (Below W.heap.size W w8) := HBW.out.trans (hb8.mono HBW.out.size)
    have HA8 : Hid (Lay w8 ql (.int .i64 (n : Int)) (.string S0)) := HA7.out.below hb8
    have HC8 : Hid (Lay w8 qh (.int .i64 (n : Int)) (.string S1)) := HC7.out.below hb8
    have HZ08 : Hid (Ints w8 (some ⟨g5, 0, none⟩) (vs ++ [0])) := HZ0.out.below hb8
    have HZ18 : Hid (Ints w8 (some ⟨g7, 0, none⟩) (vs ++ [1])) := HZ1.out.below hb8
    clear hb8 HBW HA7 HC7 HZ0 HZ1 HF
    have dd : Below w8.heap.size w8 w8.drew := (Below.refl _ _).drew
    have HBD : Hid (Below W.heap.size W w8.drew) := HB8.out.drew
    have LAD := HA8.out.below dd
    have LCD := HC8.out.below dd
    have Z0D : Hid (Ints w8.drew (some ⟨g5, 0, none⟩) (vs ++ [0])) := HZ08.out.below dd
    have Z1D : Hid (Ints w8.drew (some ⟨g7, 0, none⟩) (vs ++ [1])) := HZ18.out.below dd
    clear dd
    by_cases e0 : z = 0
    · have hz0 : (z == 0) = true := by rw [e0]; rfl
      have HR3 : Hid (R = z0) := by show _ = _; rw [HRR.out, if_pos e0]
      clear e0
      go_upto_region 10 with fail
      go_region_held3 (fun w' => w'.cell? ⟨ql, 0, none⟩ = some (.int .i64 (n : Int)) ∧ w'.cell? ⟨ql, 1, none⟩ = some (.string S0)) ((first | (with_reducible exact ⟨LAD.c0, LAD.c1⟩) | (with_reducible exact ⟨LAE.c0, LAE.c1⟩))) ((go_at_call 63; (with_reducible refine (HI0.out _ _ _ HBD.out Z0D.out).mono ?_); rintro e w9 ⟨rfl, hb9⟩; have LAE := LAD.below hb9; have HB9 : Hid (Below W.heap.size W w9) := HBD.out.trans (hb9.mono HBD.out.size); clear hb9))
      go_wp2
      go_ret
      exact ⟨ret_bool HR3.out.symm, HB9.out⟩
    · have hz0 : (z == 0) = false := beq_eq_false_iff_ne.2 e0
      by_cases e1 : z = 1
      · have hz1 : (z == 1) = true := by rw [e1]; rfl
        have HR3 : Hid (R = z1) := by show _ = _; rw [HRR.out, if_neg e0, if_pos e1]
        clear e0 e1
        go_upto_region 12 with fail
        go_region_held3 (fun w' => w'.cell? ⟨qh, 0, none⟩ = some (.int .i64 (n : Int)) ∧ w'.cell? ⟨qh, 1, none⟩ = some (.string S1)) ((first | (with_reducible exact ⟨LCD.c0, LCD.c1⟩) | (with_reducible exact ⟨LCE.c0, LCE.c1⟩))) ((go_at_call 63; (with_reducible refine (HI1.out _ _ _ HBD.out Z1D.out).mono ?_); rintro e w9 ⟨rfl, hb9⟩; have LCE := LCD.below hb9; have HB9 : Hid (Below W.heap.size W w9) := HBD.out.trans (hb9.mono HBD.out.size); clear hb9))
        go_wp2
        go_ret
        exact ⟨ret_bool HR3.out.symm, HB9.out⟩
      · have hz1 : (z == 1) = false := beq_eq_false_iff_ne.2 e1
        have HR3 : Hid (R = false) := by show _ = _; rw [HRR.out, if_neg e0, if_neg e1]
        clear e0 e1
        go_wp2
        go_ret
        exact ⟨ret_bool HR3.out.symm, HB8.out⟩
theorem mc_nil (ps : List Pk) (v : Int) : MC ps v [] := by
  intro F W ra la va c lc vc vs _ _ _ _ _
  exact mc_known ps v 0 F (by omega) W ra la va 0 c lc vc vs.length _ (knw_zero F) rfl
theorem mc_cons {ps : List Pk} {v : Int} {q : Bool} {r : List Bool} (hr : r.length ≤ 11) (ih : MC ps v r) : MC ps v (q :: r) := by
  intro F W ra la va c lc vc vs hB hc hP hI hlen
  rw [List.length_cons] at hc hlen ⊢
  by_cases hk : 0 ≤ knw (r.length + 1) F
  · exact mc_known ps v (r.length + 1) F (by omega) W ra la va (r.length + 1) c lc vc vs.length _ hk (by unfold chk; rw [if_pos hk])
  · obtain ⟨b, o, rfl, p0, t, ht, hT⟩ := Wq0.tail hB hc
    have h := mc_on ps v r.length F hr q W b o t la va c (c - 1) lc vc vs (chk ps v r (hb r.length 0 F) (vs ++ [0])) (chk ps v r (hb r.length 1 F) (vs ++ [1])) hk p0 (slc b o r.length c t (c - 1) hc ht rfl) hP hI (by omega)
      (fun W' a cc hbw hi => by
        have h := ih (hb r.length 0 F) W' (some ⟨b, t, none⟩) la a (c - 1) lc cc (vs ++ [0]) (hT.below hbw) (by omega) (pks_below hP hbw) hi (by rw [List.length_append, List.length_singleton]; omega)
        rw [List.length_append, List.length_singleton] at h
        exact h)
      (fun W' a cc hbw hi => by
        have h := ih (hb r.length 1 F) W' (some ⟨b, t, none⟩) la a (c - 1) lc cc (vs ++ [1]) (hT.below hbw) (by omega) (pks_below hP hbw) hi (by rw [List.length_append, List.length_singleton]; omega)
        rw [List.length_append, List.length_singleton] at h
        exact h)
    have e : chk ps v (q :: r) F vs = (if (q == (v == 0)) = true then (if findP ps vs = 0 then chk ps v r (hb r.length 0 F) (vs ++ [0]) else if findP ps vs = 1 then chk ps v r (hb r.length 1 F) (vs ++ [1]) else false) else (chk ps v r (hb r.length 0 F) (vs ++ [0]) && chk ps v r (hb r.length 1 F) (vs ++ [1]))) := by
      conv => lhs; unfold chk
      rw [if_neg hk]
    rw [e]
    exact h
theorem mc_all (ps : List Pk) (v : Int) : ∀ row : List Bool, row.length ≤ 12 → MC ps v row := by
  intro row
  induction row with
  | nil => exact fun _ => mc_nil ps v
  | cons q r ih => exact fun h => mc_cons (by rw [List.length_cons] at h; omega) (ih (by rw [List.length_cons] at h; omega))
end Go.Proofs.Ytlpbfbghgacjiaa.Wp10
