/- Small texts of mine, one behind the other. -/
import Derived.Test.YteplffphkakliaaPkKc
import Derived.Test.YteplffphkakliaaPkMb
import Derived.Test.YteplffphkakliaaDe1
import Derived.Test.YteplffphkakliaaPkKi
/- The program's forks over a bit anywhere: made. -/
namespace Go.Proofs.Yteplffphkakliaa.Dp7
open Go.RowKit
open Ta0 Ta1 Tc2 Tc4 Tc5 De0 De1 Dv0 Dp1 Dp2 Dp4
open Nd0 (Kept set_other set_same lt_of_cell)
open Nd6 (Bools)
set_option linter.unusedVariables false

theorem low_put (s p : Nat) : p + p / 2 ^ s * 2 ^ s = put1 s 0 p := by
  unfold put1
  have h := Nat.div_add_mod p (2 ^ s)
  rw [Nat.pow_succ, ← Nat.mul_assoc, Nat.zero_mul, Nat.add_zero]
  rw [Nat.mul_comm] at h
  omega

set_option maxRecDepth 100000 in
set_option maxHeartbeats 4000000 in
theorem halfA {G : Nat → Bool} {ra : Option Addr} {c n g s p b0 b1 b2 : Nat} (hn : n ≤ 12) (hs : s < n) (hp : p < 2 ^ (n - 1)) (w : World) (hR : Rb w b0 ra c n (nw n) g) (hK : Nb w b1 ((put1 s 0 p : Nat) : Int)) (hP : Nb w b2 ((2 ^ s : Nat) : Int)) (hW : Wds w g (nw n) G) :
    TellsA w b0 b1 b2 (fun b => G (put1 s b p)) := by
  intro W b hb hbe
  obtain ⟨x0, x1, x2⟩ : Rb W b0 ra c n (nw n) g := by
    have h1 := hR.lt
    exact ⟨by rw [hbe.cell (p := ⟨b0, 0, none⟩) h1]; exact hR.c0, by rw [hbe.cell (p := ⟨b0, 1, none⟩) h1]; exact hR.c1, by rw [hbe.cell (p := ⟨b0, 2, none⟩) h1]; exact hR.c2⟩
  have y0 : W.cell? ⟨b1, 0, none⟩ = some (.int .i64 ((put1 s 0 p : Nat) : Int)) := hK.below hbe
  have z0 : W.cell? ⟨b2, 0, none⟩ = some (.int .i64 ((2 ^ s : Nat) : Int)) := hP.below hbe
  have hpl : put1 s b p < 2 ^ n := by
    have := put_lt (s := s) (k := n - 1 - s) (c := b) (p := p) hb (by rw [show n - 1 - s + s = n - 1 by omega]; exact hp)
    rwa [show n - 1 - s + s + 1 = n by omega] at this
  have hp0 : put1 s 0 p < 2 ^ n := by
    have := put_lt (s := s) (k := n - 1 - s) (c := 0) (p := p) (by omega) (by rw [show n - 1 - s + s = n - 1 by omega]; exact hp)
    rwa [show n - 1 - s + s + 1 = n by omega] at this
  have hst := p12 (n := s) (by omega)
  have hnp := p12 hn
  have HC : Hid (Calls Try.prog 67 #[pv n (nw n) g, .int .i64 ((put1 s b p : Nat) : Int)] W fun e w' => e = .returned (.int .i64 ((G (put1 s b p)).toNat : Int)) ∧ Below W.heap.size W w') := at_ n g _ G W hn hpl (hW.below hbe)
  have he : put1 s b p = put1 s 0 p + b * 2 ^ s := by
    rcases (by omega : b = 0 ∨ b = 1) with rfl | rfl
    · omega
    · rw [put_high]; omega
  show Calls _ _ _ _ fun e w' => e = .returned (.int .i64 ((G (put1 s b p)).toNat : Int)) ∧ _
  generalize G (put1 s b p) = r at *
  have hz : ((put1 s b p : Nat) : Int) = ((put1 s 0 p : Nat) : Int) + (b : Int) * ((2 ^ s : Nat) : Int) := by rw [he]; push_cast; rfl
  rw [hz] at HC
  clear hz he hpl hW hP hK hR hp
  generalize put1 s 0 p = lo at *
  generalize 2 ^ s = st at *
  generalize nw n = m at *
  have hlo : lo < 4096 := by omega
  clear hnp hp0
  rcases (by omega : b = 0 ∨ b = 1) with rfl | rfl
  · have HC1 : Hid (Calls Try.prog 67 #[pv n m g, .int .i64 (lo : Int)] W fun e w' => e = .returned (.int .i64 (r.toNat : Int)) ∧ Below W.heap.size W w') := by
      have h := HC.out
      rw [show (lo : Int) + ((0 : Nat) : Int) * (st : Int) = (lo : Int) by simp] at h
      exact h
    clear HC
    show Calls Try.prog 68 #[.int .i64 0, .pointer (some ⟨b0, 0, none⟩), .pointer (some ⟨b1, 0, none⟩), .pointer (some ⟨b2, 0, none⟩)] W _
    go_enter Try.func68, Try.ntmps68
    go_wp2_with (go_at_call 67; refine HC1.out.mono ?_; rintro e w1 ⟨rfl, hb1⟩; have HB1 : Hid (Below W.heap.size W w1) := hb1; clear hb1)
    go_ret
    exact ⟨rfl, HB1.out⟩
  · have HC1 : Hid (Calls Try.prog 67 #[pv n m g, .int .i64 ((lo : Int) + (st : Int))] W fun e w' => e = .returned (.int .i64 (r.toNat : Int)) ∧ Below W.heap.size W w') := by
      have h := HC.out
      rw [show (lo : Int) + ((1 : Nat) : Int) * (st : Int) = (lo : Int) + (st : Int) by simp] at h
      exact h
    clear HC
    show Calls Try.prog 68 #[.int .i64 1, .pointer (some ⟨b0, 0, none⟩), .pointer (some ⟨b1, 0, none⟩), .pointer (some ⟨b2, 0, none⟩)] W _
    go_enter Try.func68, Try.ntmps68
    go_wp2_with (go_at_call 67; refine HC1.out.mono ?_; rintro e w1 ⟨rfl, hb1⟩; have HB1 : Hid (Below W.heap.size W w1) := hb1; clear hb1)
    go_ret
    exact ⟨rfl, HB1.out⟩

set_option maxRecDepth 100000 in
set_option maxHeartbeats 4000000 in
theorem iAcross (ra : Option Addr) (c n m g k p : Nat) (w : World) (hn : n ≤ 12) (hk : k < n) (hp : p < 4096) :
    Calls Try.prog 50 #[rv ra c n m g, .int .i64 (k : Int), .int .i64 (p : Int)] w fun e w' => ∃ b0 b1 b2, e = .returned (.agg #[fk 68 b0 b1 b2]) ∧ Rb w' b0 ra c n m g ∧ Nb w' b1 ((put1 (n - 1 - k) 0 p : Nat) : Int) ∧ Nb w' b2 ((2 ^ (n - 1 - k) : Nat) : Int) ∧ Below w.heap.size w w' := by
  have hst := p12 (n := n - 1 - k) (by omega)
  have hw := wsh (n := n - 1 - k) (by omega)
  have e1 : ((n : Int) - 1 - (k : Int)).toNat = n - 1 - k := by omega
  have h0n : (0 : Int) ≤ (n : Int) - 1 - (k : Int) := by omega
  have hlo := low_put (n - 1 - k) p
  obtain ⟨dq, hdq⟩ : ∃ dq : Nat, dq = p / 2 ^ (n - 1 - k) := ⟨_, rfl⟩
  have hmm : dq * 2 ^ (n - 1 - k) ≤ p := by rw [hdq]; exact Nat.div_mul_le_self _ _
  rw [← hdq] at hlo
  obtain ⟨mm, hm2⟩ : ∃ mm : Nat, mm = dq * 2 ^ (n - 1 - k) := ⟨_, rfl⟩
  rw [← hm2] at hlo hmm
  have hdl : dq ≤ p := by rw [hdq]; exact Nat.div_le_self _ _
  have hdv2 : (p : Int) / ((2 ^ (n - 1 - k) : Nat) : Int) = (dq : Int) := by rw [hdq]; exact (Int.natCast_ediv p (2 ^ (n - 1 - k))).symm
  have hdv : IntKind.i64.wrap ((p : Int) / ((2 ^ (n - 1 - k) : Nat) : Int)) = (dq : Int) := by rw [hdv2, IntKind.wrap_i64] <;> omega
  have hmv : (dq : Int) * ((2 ^ (n - 1 - k) : Nat) : Int) = (mm : Int) := by rw [hm2]; push_cast; rfl
  rw [← hlo]
  clear hdq hm2 hlo
  generalize 2 ^ (n - 1 - k) = st at *
  have hst0 : ((st : Int) == 0) = false := beq_eq_false_iff_ne.2 (by omega)
  have hst3 : ¬ st = 0 := by omega
  have hst4 : (1 : Int) ≤ (st : Int) := by omega
  have hp4 : (0 : Int) ≤ (p : Int) := by omega
  have hmv2 : IntKind.i64.wrap ((dq : Int) * (st : Int)) = (mm : Int) := by rw [hmv, IntKind.wrap_i64] <;> omega
  go_enter Try.func50, Try.ntmps50
  go_wp2_with fail
  go_region
  go_wp2
  refine bodyPost_ret (v := .agg #[fk 68 w.heap.size (w.heap.size + 1 + 1 + 1) (w.heap.size + 1 + 1)]) (by simp [results, Try.results50, go_sem]) rfl ⟨w.heap.size, w.heap.size + 1 + 1 + 1, w.heap.size + 1 + 1, rfl, ?_, ?_, ?_, ?_⟩
  · exact ((((Rb.made w ra c n m g _).alloc _).alloc _).alloc _).kept (S := fun _ => False) (Kept.refl _ _).drew (fun h => h)
  · have h := Nb.made (((w.alloc (.cells #[.slice ra n c, .int .i64 (n : Int), .slice (some ⟨g, 0, none⟩) m m] 62)).alloc (.cells #[fk 68 w.heap.size (w.heap.size + 1 + 1 + 1) (w.heap.size + 1 + 1)] 74)).alloc (.cells #[.int .i64 (st : Int)] 3)) ((p : Int) + (mm : Int)) 3
    have e : (((w.alloc (.cells #[.slice ra n c, .int .i64 (n : Int), .slice (some ⟨g, 0, none⟩) m m] 62)).alloc (.cells #[fk 68 w.heap.size (w.heap.size + 1 + 1 + 1) (w.heap.size + 1 + 1)] 74)).alloc (.cells #[.int .i64 (st : Int)] 3)).heap.size = w.heap.size + 1 + 1 + 1 := by simp
    rw [e] at h
    have e2 : ((p + mm : Nat) : Int) = (p : Int) + (mm : Int) := by push_cast; rfl
    rw [e2]
    exact h
  · have h := (Nb.made ((w.alloc (.cells #[.slice ra n c, .int .i64 (n : Int), .slice (some ⟨g, 0, none⟩) m m] 62)).alloc (.cells #[fk 68 w.heap.size (w.heap.size + 1 + 1 + 1) (w.heap.size + 1 + 1)] 74)) (st : Int) 3).alloc (.cells #[.int .i64 ((p : Int) + (mm : Int))] 3)
    have e : ((w.alloc (.cells #[.slice ra n c, .int .i64 (n : Int), .slice (some ⟨g, 0, none⟩) m m] 62)).alloc (.cells #[fk 68 w.heap.size (w.heap.size + 1 + 1 + 1) (w.heap.size + 1 + 1)] 74)).heap.size = w.heap.size + 1 + 1 := by simp
    rw [e] at h
    exact h
  · exact ((((((Below.refl w.heap.size w).alloc (by simp) _).alloc (by simp <;> omega) _).alloc (by simp <;> omega) _).alloc (by simp <;> omega) _)).drew

end Go.Proofs.Yteplffphkakliaa.Dp7

/- The program's Merge. Written by tools/mkdp8.py. -/
namespace Go.Proofs.Yteplffphkakliaa.Dp8
open Go.RowKit
open Ta0 Ta1 Ta2 Ta3 Tc2 Tc4 Tc5 Tc6 Tc7 Tc8 Td1 Td2 Te1 De0 De1 Dv0 Dp1 Dp2 Dp3 Dp4 Dp7
open Nd0 (Kept set_other set_same lt_of_cell)
open Nd6 (Bools)
open Ss0 (bs bs_size)
open Ss1 (tl)
set_option linter.unusedVariables false

set_option maxRecDepth 100000 in
set_option maxHeartbeats 8000000 in
theorem iMerge0 {N : Int} {S : ByteArray} (ra : Option Addr) (L c : Nat) (k : Int) (w : World) (hS : S.size ≤ 1048576) (h : ¬ (tokB N (tl S) = true ∧ (L : Int) = N)) :
    Calls Try.prog 16 #[.slice ra L c, tv N S, .int .i64 k] w fun e w' => e = .returned (.tuple #[tv 0 ByteArray.empty, .bool false]) ∧ Below w.heap.size w w' := by
  have HA : Hid (Below w.heap.size w ((w.alloc (.cells #[.int .i64 N, .string S] 26)).alloc (.cells #[.int .i64 0, .string ByteArray.empty] 26))) := ((Below.refl _ _).alloc (Nat.le_refl _) _).alloc (by simp) _
  have HX : Hid (Lay ((w.alloc (.cells #[.int .i64 N, .string S] 26)).alloc (.cells #[.int .i64 0, .string ByteArray.empty] 26)) w.heap.size (.int .i64 N) (.string S)) := (Lay.made _ _ _ _).alloc _
  have HR : Hid (Lay ((w.alloc (.cells #[.int .i64 N, .string S] 26)).alloc (.cells #[.int .i64 0, .string ByteArray.empty] 26)) (w.heap.size + 1) (.int .i64 0) (.string ByteArray.empty)) := by
    have := Lay.made (w.alloc (.cells #[.int .i64 N, .string S] 26)) (.int .i64 0) (.string ByteArray.empty) 26
    show Lay _ _ _ _
    simpa using this
  have HRU : Hid (∀ W, Calls Try.prog 43 #[.slice ra L c, tv N S] W fun e w' => e = .returned (.tuple #[rv0, .bool false]) ∧ Below W.heap.size W w') := fun W => iRuled0 ra L c W hS h
  clear h
  go_enter Try.func16, Try.ntmps16
  go_wp2_with fail
  refine (HRU.out _).mono ?_
  rintro e w1 ⟨rfl, hb⟩
  have HA1 : Hid (Below w.heap.size w w1) := HA.out.trans (hb.mono HA.out.size)
  have HR1 : Hid (Lay w1 (w.heap.size + 1) (.int .i64 0) (.string ByteArray.empty)) := HR.out.below hb
  clear hb
  obtain ⟨W2, hW2⟩ : ∃ W2, W2 = w1.alloc (.cells #[.slice none 0 0, .int .i64 0, .slice none 0 0] 62) := ⟨_, rfl⟩
  have HA2 : Hid (Below w.heap.size w W2) := by rw [hW2]; exact HA1.out.alloc HA1.out.size _
  have HR2 : Hid (Lay W2 (w.heap.size + 1) (.int .i64 0) (.string ByteArray.empty)) := by rw [hW2]; exact HR1.out.alloc _
  have HE2 : Hid (w1.alloc (.cells #[.slice none 0 0, .int .i64 0, .slice none 0 0] 62) = W2) := hW2.symm
  clear hW2
  go_upto_region 2 with fail
  rw [HE2.out]
  clear HE2
  obtain ⟨r0, r1, r2, r3⟩ := HR2.out
  have HFN : Hid _ := finT HR2.out HA2.out (by omega) (.int .i64 0) (.string ⟨#[]⟩)
  go_wp2
  obtain ⟨W, hW, hz, hbz⟩ := HFN.out
  rw [← hW]
  obtain ⟨z0, z1, _, _⟩ := hz
  exact bodyPost_ret (v := .tuple #[tv 0 ⟨#[]⟩, .bool false]) (by simp [results, Try.results16, go_sem, z0, z1]) rfl ⟨rfl, hbz⟩

set_option maxRecDepth 100000 in
set_option maxHeartbeats 8000000 in
theorem iMergeK (n : Nat) (F : Nat → Bool) (ra : Option Addr) (c : Nat) (k : Int) (w : World) (hn : n ≤ 12) (hk : ¬ (0 ≤ k ∧ k < (n : Int))) :
    Calls Try.prog 16 #[.slice ra n c, tv (n : Int) (bs (tab n F)), .int .i64 k] w fun e w' => e = .returned (.tuple #[tv 0 ByteArray.empty, .bool false]) ∧ Below w.heap.size w w' := by
  have HRU : Hid (∀ W, Calls Try.prog 43 #[.slice ra n c, tv (n : Int) (bs (tab n F))] W fun e w' => ∃ g, e = .returned (.tuple #[rv ra c n (nw n) g, .bool true]) ∧ W.heap.size ≤ g ∧ Wds w' g (nw n) (upto (2 ^ n) F) ∧ Below W.heap.size W w') := fun W => iRuled n F ra c W hn
  generalize bs (tab n F) = S at *
  generalize nw n = m at *
  have HA : Hid (Below w.heap.size w ((w.alloc (.cells #[.int .i64 (n : Int), .string S] 26)).alloc (.cells #[.int .i64 0, .string ByteArray.empty] 26))) := ((Below.refl _ _).alloc (Nat.le_refl _) _).alloc (by simp) _
  have HX : Hid (Lay ((w.alloc (.cells #[.int .i64 (n : Int), .string S] 26)).alloc (.cells #[.int .i64 0, .string ByteArray.empty] 26)) w.heap.size (.int .i64 (n : Int)) (.string S)) := (Lay.made _ _ _ _).alloc _
  have HR : Hid (Lay ((w.alloc (.cells #[.int .i64 (n : Int), .string S] 26)).alloc (.cells #[.int .i64 0, .string ByteArray.empty] 26)) (w.heap.size + 1) (.int .i64 0) (.string ByteArray.empty)) := by
    have := Lay.made (w.alloc (.cells #[.int .i64 (n : Int), .string S] 26)) (.int .i64 0) (.string ByteArray.empty) 26
    show Lay _ _ _ _
    simpa using this
  by_cases hk0 : k < 0
  all_goals
    (try have hk1 : (n : Int) ≤ k := by omega)
    clear hk
    go_enter Try.func16, Try.ntmps16
    go_wp2_with fail
    refine (HRU.out _).mono ?_
    rintro e w1 ⟨g, rfl, hg, hw, hb⟩
    have HA1 : Hid (Below w.heap.size w w1) := HA.out.trans (hb.mono HA.out.size)
    have HR1 : Hid (Lay w1 (w.heap.size + 1) (.int .i64 0) (.string ByteArray.empty)) := HR.out.below hb
    have HX1 : Hid (Lay w1 w.heap.size (.int .i64 (n : Int)) (.string S)) := HX.out.below hb
    clear hb hg hw
    obtain ⟨W2, hW2⟩ : ∃ W2, W2 = w1.alloc (.cells #[.slice ra n c, .int .i64 (n : Int), .slice (some ⟨g, 0, none⟩) m m] 62) := ⟨_, rfl⟩
    have HA2 : Hid (Below w.heap.size w W2) := by rw [hW2]; exact HA1.out.alloc HA1.out.size _
    have HR2 : Hid (Lay W2 (w.heap.size + 1) (.int .i64 0) (.string ByteArray.empty)) := by rw [hW2]; exact HR1.out.alloc _
    have HX2 : Hid (Lay W2 w.heap.size (.int .i64 (n : Int)) (.string S)) := by rw [hW2]; exact HX1.out.alloc _
    have HE2 : Hid (w1.alloc (.cells #[.slice ra n c, .int .i64 (n : Int), .slice (some ⟨g, 0, none⟩) m m] 62) = W2) := hW2.symm
    clear hW2
    go_upto_region 2 with fail
    rw [HE2.out]
    clear HE2
    obtain ⟨x0, x1, _, _⟩ := HX2.out
    obtain ⟨r0, r1, r2, r3⟩ := HR2.out
    have HFN : Hid _ := finT HR2.out HA2.out (by omega) (.int .i64 0) (.string ⟨#[]⟩)
    go_wp2
    obtain ⟨W, hW, hz, hbz⟩ := HFN.out
    rw [← hW]
    obtain ⟨z0, z1, _, _⟩ := hz
    exact bodyPost_ret (v := .tuple #[tv 0 ⟨#[]⟩, .bool false]) (by simp [results, Try.results16, go_sem, z0, z1]) rfl ⟨rfl, hbz⟩

/-- What stands while places are merged. -/
structure MS (w : World) (n m g q8 : Nat) (ra : Option Addr) (c : Nat) (F1 : Nat → Bool) (n1 m2 g2 q10 : Nat) (H : Nat → Bool) (W : World) : Prop where
  rb : Rb W q8 ra c n m g
  w1 : Wds W g m F1
  nb : Lay W q10 (.int .i64 (n1 : Int)) (.slice (some ⟨g2, 0, none⟩) m2 m2)
  w2 : Wds W g2 m2 H
  rs : Lay W (w.heap.size + 1) (.int .i64 0) (.string ByteArray.empty)
  bel : Below w.heap.size w W
theorem MS.below {w W W' : World} {n m g q8 c n1 m2 g2 q10 : Nat} {ra : Option Addr} {F1 H : Nat → Bool} (h : MS w n m g q8 ra c F1 n1 m2 g2 q10 H W) (k : Below W.heap.size W W') : MS w n m g q8 ra c F1 n1 m2 g2 q10 H W' :=
  ⟨h.rb.below k, h.w1.below k, h.nb.below k, h.w2.below k, h.rs.below k, h.bel.trans (k.mono h.bel.size)⟩
theorem MS.drew {w W : World} {n m g q8 c n1 m2 g2 q10 : Nat} {ra : Option Addr} {F1 H : Nat → Bool} (h : MS w n m g q8 ra c F1 n1 m2 g2 q10 H W) : MS w n m g q8 ra c F1 n1 m2 g2 q10 H W.drew := h.below (Below.refl _ _).drew
theorem MS.put {w W W' : World} {n m g q8 c n1 m2 g2 q10 : Nat} {ra : Option Addr} {F1 H H' : Nat → Bool} (h : MS w n m g q8 ra c F1 n1 m2 g2 q10 H W) (k : Kept (fun b => b = g2) W W') (hw : Wds W' g2 m2 H') (h1 : q8 ≠ g2) (h2 : g ≠ g2) (h3 : q10 ≠ g2) (h4 : w.heap.size + 1 < g2) : MS w n m g q8 ra c F1 n1 m2 g2 q10 H' W' :=
  ⟨h.rb.kept k h1, h.w1.kept k h2, h.nb.kept k h3, hw, h.rs.kept k (by omega), h.bel.trans (k.below (fun b hb => by omega) h.bel.size)⟩
theorem MS.congr {w W : World} {n m g q8 c n1 m2 g2 q10 : Nat} {ra : Option Addr} {F1 H H' : Nat → Bool} (h : MS w n m g q8 ra c F1 n1 m2 g2 q10 H W) (e : ∀ i, wd H i = wd H' i) : MS w n m g q8 ra c F1 n1 m2 g2 q10 H' W :=
  ⟨h.rb, h.w1, h.nb, h.w2.congr fun i _ => e i, h.rs, h.bel⟩

set_option maxRecDepth 100000 in
set_option maxHeartbeats 8000000 in
theorem iMerge_false (n n1 : Nat) (F1 : Nat → Bool) (F : Nat → Bool) (xb xo : Nat) (c k : Nat) (w : World) (hn : n ≤ 12) (hnn : n = n1 + 1) (hk : k < n) (hF1 : F1 = upto (2 ^ n) F) (p0 : w.cell? ⟨xb, xo + k, none⟩ = some (.bool false)) :
    Calls Try.prog 16 #[.slice (some ⟨xb, xo, none⟩) n c, tv (n : Int) (bs (tab n F)), .int .i64 (k : Int)] w fun e w' => e = .returned (.tuple #[tv (n1 : Int) (bs (tab n1 (mg (n - 1 - k) false F1))), .bool true]) ∧ Below w.heap.size w w' := by
  have HRU : Hid (∀ W, Calls Try.prog 43 #[.slice (some ⟨xb, xo, none⟩) n c, tv (n : Int) (bs (tab n F))] W fun e w' => ∃ g, e = .returned (.tuple #[rv (some ⟨xb, xo, none⟩) c n (nw n) g, .bool true]) ∧ W.heap.size ≤ g ∧ Wds w' g (nw n) F1 ∧ Below W.heap.size W w') := fun W => by rw [hF1]; exact iRuled n F (some ⟨xb, xo, none⟩) c W hn
  clear hF1
  have HNP : Hid (∀ W, Calls Try.prog 48 #[.int .i64 (n1 : Int)] W fun e w' => ∃ g, e = .returned (pv n1 (nw n1) g) ∧ W.heap.size ≤ g ∧ Wds w' g (nw n1) (fun _ => false) ∧ Below W.heap.size W w') := fun W => newPacked n1 W (by omega)
  have HSI : Hid (∀ W g, Calls Try.prog 49 #[pv n1 (nw n1) g] W fun e w' => e = .returned (.int .i64 ((2 ^ n1 : Nat) : Int)) ∧ Below W.heap.size W w') := fun W g => size n1 g W (by omega)
  obtain ⟨M, hM⟩ : ∃ M, M = mg (n - 1 - k) false F1 := ⟨_, rfl⟩
  have HPU : Hid (∀ W g p, p < 2 ^ n1 → M p = true → Wds W g (nw n1) (upto p M) → Calls Try.prog 52 #[pv n1 (nw n1) g, .int .i64 (p : Int)] W fun e w' => e = .returned (.tuple #[]) ∧ Wds w' g (nw n1) (upto (p + 1) M) ∧ Kept (fun b => b = g) W w') := fun W g p h1 h2 h3 => put n1 g p M W (by omega) h1 h2 h3
  have HTB : Hid (∀ W g, Wds W g (nw n1) (upto (2 ^ n1) M) → Calls Try.prog 53 #[pv n1 (nw n1) g] W fun e w' => e = .returned (tv (n1 : Int) (bs (tab n1 M))) ∧ Below W.heap.size W w') := fun W g h => by
    have := table n1 g _ W (by omega) h
    rwa [tab_upto] at this
  have HAC : Hid (∀ (W : World) (g p : Nat), p < 2 ^ n1 → Calls Try.prog 50 #[rv (some ⟨xb, xo, none⟩) c n (nw n) g, .int .i64 (k : Int), .int .i64 (p : Int)] W fun e w' => ∃ b0 b1 b2, e = .returned (.agg #[fk 68 b0 b1 b2]) ∧ Rb w' b0 (some ⟨xb, xo, none⟩) c n (nw n) g ∧ Nb w' b1 ((put1 (n - 1 - k) 0 p : Nat) : Int) ∧ Nb w' b2 ((2 ^ (n - 1 - k) : Nat) : Int) ∧ Below W.heap.size W w') := fun W g p hp => iAcross (some ⟨xb, xo, none⟩) c n (nw n) g k p W hn hk (by have := (p12 (n := n1) (by omega)).2; omega)
  have HFL : Hid (∀ (W : World) (b0 b1 b2 : Nat), Calls Try.prog 51 #[.agg #[fk 68 b0 b1 b2], .bool false] W fun e w' => e = .returned (.func (.func 70) #[.agg #[fk 68 b0 b1 b2]] #[]) ∧ Below W.heap.size W w') := fun W b0 b1 b2 => flagA b0 b1 b2 false W
  have HEV : Hid (∀ (W : World) (g p b0 b1 b2 : Nat), p < 2 ^ n1 → Rb W b0 (some ⟨xb, xo, none⟩) c n (nw n) g → Nb W b1 ((put1 (n - 1 - k) 0 p : Nat) : Int) → Nb W b2 ((2 ^ (n - 1 - k) : Nat) : Int) → Wds W g (nw n) F1 → Calls Try.prog 70 #[.agg #[fk 68 b0 b1 b2]] W fun e w' => e = .returned (.int .i64 ((M p).toNat : Int)) ∧ Below W.heap.size W w') := fun W g p b0 b1 b2 h0 h1 h2 h3 h4 => by
    have := someA b0 b1 b2 _ W (halfA (s := n - 1 - k) (p := p) hn (by omega) (by rw [hnn]; exact h0) W h1 h2 h3 h4)
    rw [hM]
    exact this
  have hq1 : (nw n1) ≤ 64 ∧ 1 ≤ nw n1 := ⟨(nw_le (by omega)).2, (nw_le (by omega)).1⟩
  have hmn : 1 ≤ nw n := (nw_le hn).1
  obtain ⟨hp1, hp2⟩ := p12 (n := n1) (by omega)
  have hnz : (n : Int) - 1 = (n1 : Int) := by omega
  have hkz : (k : Int) < (n : Int) := by omega
  have hk0 : ¬ (k : Int) < 0 := by omega
  have hkn : ¬ (n : Int) ≤ (k : Int) := by omega
  rw [← hM]
  clear hM hnn
  generalize put1 (n - 1 - k) 0 = PT at *
  generalize 2 ^ (n - 1 - k) = st at *
  generalize bs (tab n1 M) = RS at *
  generalize bs (tab n F) = S at *
  generalize nw n = m at *
  generalize nw n1 = m2 at *
  generalize 2 ^ n1 = P at *
  have HA : Hid (Below w.heap.size w ((w.alloc (.cells #[.int .i64 (n : Int), .string S] 26)).alloc (.cells #[.int .i64 0, .string ByteArray.empty] 26))) := ((Below.refl _ _).alloc (Nat.le_refl _) _).alloc (by simp) _
  have HX : Hid (Lay ((w.alloc (.cells #[.int .i64 (n : Int), .string S] 26)).alloc (.cells #[.int .i64 0, .string ByteArray.empty] 26)) w.heap.size (.int .i64 (n : Int)) (.string S)) := (Lay.made _ _ _ _).alloc _
  have HR : Hid (Lay ((w.alloc (.cells #[.int .i64 (n : Int), .string S] 26)).alloc (.cells #[.int .i64 0, .string ByteArray.empty] 26)) (w.heap.size + 1) (.int .i64 0) (.string ByteArray.empty)) := by
    have := Lay.made (w.alloc (.cells #[.int .i64 (n : Int), .string S] 26)) (.int .i64 0) (.string ByteArray.empty) 26
    show Lay _ _ _ _
    simpa using this
  go_enter Try.func16, Try.ntmps16
  go_wp2_with fail
  refine (HRU.out _).mono ?_
  rintro e w1 ⟨g, rfl, hg, hw, hb⟩
  have HA1 : Hid (Below w.heap.size w w1) := HA.out.trans (hb.mono HA.out.size)
  have HR1 : Hid (Lay w1 (w.heap.size + 1) (.int .i64 0) (.string ByteArray.empty)) := HR.out.below hb
  have HX1 : Hid (Lay w1 w.heap.size (.int .i64 (n : Int)) (.string S)) := HX.out.below hb
  have HW1 : Hid (Wds w1 g m F1) := hw
  have hgl : g < w1.heap.size := hw.lt hmn
  clear hb hg hw HX HR HA
  obtain ⟨W2, hW2⟩ : ∃ W2, W2 = w1.alloc (.cells #[.slice (some ⟨xb, xo, none⟩) n c, .int .i64 (n : Int), .slice (some ⟨g, 0, none⟩) m m] 62) := ⟨_, rfl⟩
  have HA2 : Hid (Below w.heap.size w W2) := by rw [hW2]; exact HA1.out.alloc HA1.out.size _
  have HR2 : Hid (Lay W2 (w.heap.size + 1) (.int .i64 0) (.string ByteArray.empty)) := by rw [hW2]; exact HR1.out.alloc _
  have HX2 : Hid (Lay W2 w.heap.size (.int .i64 (n : Int)) (.string S)) := by rw [hW2]; exact HX1.out.alloc _
  have HB2 : Hid (Rb W2 w1.heap.size (some ⟨xb, xo, none⟩) c n m g) := by rw [hW2]; exact Rb.made _ _ _ _ _ _ _
  have HW2 : Hid (Wds W2 g m F1) := by rw [hW2]; exact HW1.out.below ((Below.refl _ _).alloc (Nat.le_refl _) _)
  have HE2 : Hid (w1.alloc (.cells #[.slice (some ⟨xb, xo, none⟩) n c, .int .i64 (n : Int), .slice (some ⟨g, 0, none⟩) m m] 62) = W2) := hW2.symm
  clear hW2 HA1 HR1 HX1 HW1
  go_upto_region 2 with fail
  rw [HE2.out]
  generalize hq8 : w1.heap.size = q8 at *
  clear HE2 hq8
  obtain ⟨x0, x1, _, _⟩ := HX2.out
  go_wp2_with fail
  refine (HNP.out _).mono ?_
  rintro e w3 ⟨g2, rfl, hg2, hw2, hb⟩
  have hr3 := HR2.out.lt
  have hq3 := HB2.out.lt
  have hgg2 : w.heap.size + 1 < g2 := by omega
  have hqg2 : q8 ≠ g2 := by omega
  have hgg3 : g ≠ g2 := by omega
  have hg2l : g2 < w3.heap.size := hw2.lt hq1.2
  obtain ⟨W4, hW4⟩ : ∃ W4, W4 = w3.alloc (.cells #[.int .i64 (n1 : Int), .slice (some ⟨g2, 0, none⟩) m2 m2] 60) := ⟨_, rfl⟩
  have HS4 : Hid (MS w n m g q8 (some ⟨xb, xo, none⟩) c F1 n1 m2 g2 w3.heap.size (fun _ => false) W4) := by
    have hba : Below w3.heap.size w3 W4 := by rw [hW4]; exact (Below.refl _ _).alloc (Nat.le_refl _) _
    have hA3 := HA2.out.trans (hb.mono HA2.out.size)
    exact ⟨(HB2.out.below hb).below hba, (HW2.out.below hb).below hba, by rw [hW4]; exact Lay.made _ _ _ _, hw2.below hba, (HR2.out.below hb).below hba, hA3.trans (hba.mono hA3.size)⟩
  have HE4 : Hid (w3.alloc (.cells #[.int .i64 (n1 : Int), .slice (some ⟨g2, 0, none⟩) m2 m2] 60) = W4) := hW4.symm
  have hqg3 : w3.heap.size ≠ g2 := by omega
  clear hb hg2 hw2 hW4 x0 x1 HA2 HR2 HX2 HB2 HW2 hr3 hq3 hgl
  go_upto_region 5 with fail
  rw [HE4.out]
  generalize hq10 : w3.heap.size = q10 at *
  clear HE4 hq10 hg2l
  obtain ⟨y0, y1, _, _⟩ := HS4.out.nb
  go_wp2_with fail
  refine (HSI.out _ g2).mono ?_
  rintro e w5 ⟨rfl, hb⟩
  have HS5 : Hid (MS w n m g q8 (some ⟨xb, xo, none⟩) c F1 n1 m2 g2 q10 (upto 0 M) w5) := (HS4.out.below hb).congr fun i => by rw [upto_zero, wd_zero (by intro j _; rfl)]
  clear hb y0 y1 HS4
  go_wp2_with fail
  go_loopw [38] (fun i wr => ∃ p : Nat, p ≤ P ∧ i = .int .i64 p ∧ MS w n m g q8 (some ⟨xb, xo, none⟩) c F1 n1 m2 g2 q10 (upto p M) wr) (fun i _ => P - (intOf i).toNat)
  case atStart => exact ⟨0, Nat.zero_le _, rfl, HS5.out⟩
  case round =>
    obtain ⟨p, hp, rfl, hs⟩ := hrel
    have HS : Hid (MS w n m g q8 (some ⟨xb, xo, none⟩) c F1 n1 m2 g2 q10 (upto p M) wr) := hs
    clear hs
    by_cases hlt : p < P
    · have hpz : (p : Int) < (P : Int) := by omega
      have HACp : Hid (∀ W, Calls Try.prog 50 #[rv (some ⟨xb, xo, none⟩) c n m g, .int .i64 (k : Int), .int .i64 (p : Int)] W fun e w' => ∃ b0 b1 b2, e = .returned (.agg #[fk 68 b0 b1 b2]) ∧ Rb w' b0 (some ⟨xb, xo, none⟩) c n m g ∧ Nb w' b1 ((PT p : Nat) : Int) ∧ Nb w' b2 (st : Int) ∧ Below W.heap.size W w') := fun W => HAC.out W g p hlt
      have HEVp : Hid (∀ (W : World) (b0 b1 b2 : Nat), Rb W b0 (some ⟨xb, xo, none⟩) c n m g → Nb W b1 ((PT p : Nat) : Int) → Nb W b2 (st : Int) → Wds W g m F1 → Calls Try.prog 70 #[.agg #[fk 68 b0 b1 b2]] W fun e w' => e = .returned (.int .i64 ((M p).toNat : Int)) ∧ Below W.heap.size W w') := fun W b0 b1 b2 => HEV.out W g p b0 b1 b2 hlt
      have HPUp : Hid (M p = true → ∀ W, Wds W g2 m2 (upto p M) → Calls Try.prog 52 #[pv n1 m2 g2, .int .i64 (p : Int)] W fun e w' => e = .returned (.tuple #[]) ∧ Wds w' g2 m2 (upto (p + 1) M) ∧ Kept (fun b => b = g2) W w') := fun h W h2 => HPU.out W g2 p hlt h h2
      have HNO : Hid (M p = false → ∀ i, wd (upto p M) i = wd (upto (p + 1) M) i) := fun h i => (wd_next_no M p i h).symm
      have pr : wr.cell? ⟨xb, xo + k, none⟩ = some (.bool false) := by rw [HS.out.bel.cell (lt_of_cell p0)]; exact p0
      have hxb := lt_of_cell pr
      obtain ⟨x0, x1, x2⟩ := HS.out.rb
      go_wp2_with fail
      have DS : MS w n m g q8 (some ⟨xb, xo, none⟩) c F1 n1 m2 g2 q10 (upto p M) wr.drew := HS.out.drew
      have DP : wr.drew.cell? ⟨xb, xo + k, none⟩ = some (.bool false) := pr
      clear HS
      go_region_held3 (fun w' => w'.cell? ⟨q8, 0, none⟩ = some (.slice (some ⟨xb, xo, none⟩) n c) ∧ w'.cell? ⟨q8, 1, none⟩ = some (.int .i64 (n : Int)) ∧ w'.cell? ⟨q8, 2, none⟩ = some (.slice (some ⟨g, 0, none⟩) m m) ∧ w'.cell? ⟨xb, xo + k, none⟩ = some (.bool false)) ((first | exact ⟨ES.rb.c0, ES.rb.c1, ES.rb.c2, EP⟩ | exact ⟨DS.rb.c0, DS.rb.c1, DS.rb.c2, DP⟩)) ((first | (go_at_call 50; refine (HACp.out _).mono ?_; rintro e w6 ⟨b0, b1, b2, rfl, hR1, hK1, hP1, hb1⟩; have ES := DS.below hb1; have EP : w6.cell? ⟨xb, xo + k, none⟩ = some (.bool false) := (by rw [hb1.cell (lt_of_cell DP)]; exact DP); have HR1 : Hid (Rb w6 b0 (some ⟨xb, xo, none⟩) c n m g ∧ Nb w6 b1 ((PT p : Nat) : Int) ∧ Nb w6 b2 (st : Int)) := ⟨hR1, hK1, hP1⟩; clear hR1 hK1 hP1 hb1) | (go_at_call 51; refine (HFL.out _ _ _ _).mono ?_; rintro e w7 ⟨rfl, hb2⟩; have EP : w7.cell? ⟨xb, xo + k, none⟩ = some (.bool false) := (by rw [hb2.cell (lt_of_cell EP)]; exact EP); have ES := ES.below hb2; have HR1 : Hid (Rb w7 b0 (some ⟨xb, xo, none⟩) c n m g ∧ Nb w7 b1 ((PT p : Nat) : Int) ∧ Nb w7 b2 (st : Int)) := ⟨HR1.out.1.below hb2, HR1.out.2.1.below hb2, HR1.out.2.2.below hb2⟩; clear hb2)))
      all_goals
        have HS7 : Hid (MS w n m g q8 (some ⟨xb, xo, none⟩) c F1 n1 m2 g2 q10 (upto p M) w7) := ES
        clear x0 x1 x2 pr hxb DS DP ES EP
        go_wp2_with fail
        refine (HEVp.out _ b0 b1 b2 HR1.out.1 HR1.out.2.1 HR1.out.2.2 HS7.out.w1).mono ?_
        rintro e w8 ⟨rfl, hb3⟩
        have HS8 : Hid (MS w n m g q8 (some ⟨xb, xo, none⟩) c F1 n1 m2 g2 q10 (upto p M) w8) := HS7.out.below hb3
        clear hb3 HS7 HR1
        cases hMp : M p
        · have HMp : Hid (M p = false) := hMp
          clear hMp
          go_wp2
          go_roundw
          case rel => exact ⟨p + 1, by omega, by go_num, HS8.out.congr (HNO.out HMp.out)⟩
          case measure => simp [intOf]; omega
        · have HMp : Hid (M p = true) := hMp
          clear hMp
          obtain ⟨y0, y1, _, _⟩ := HS8.out.nb
          go_wp2_with (go_at_call 52; refine (HPUp.out HMp.out _ HS8.out.w2).mono ?_; rintro e w9 ⟨rfl, hw9, hk9⟩; have HS9 : Hid (MS w n m g q8 (some ⟨xb, xo, none⟩) c F1 n1 m2 g2 q10 (upto (p + 1) M) w9) := HS8.out.put hk9 hw9 hqg2 hgg3 hqg3 hgg2; clear hw9 hk9)
          go_roundw
          case rel => exact ⟨p + 1, by omega, by go_num, HS9.out⟩
          case measure => simp [intOf]; omega
    · have hpP : p = P := by omega
      have HSP : Hid (MS w n m g q8 (some ⟨xb, xo, none⟩) c F1 n1 m2 g2 q10 (upto P M) wr) := by rw [← hpP]; exact HS.out
      clear hpP HS
      obtain ⟨y0, y1, _, _⟩ := HSP.out.nb
      go_wp2_with fail
      refine (HTB.out _ g2 HSP.out.w2).mono ?_
      rintro e w9 ⟨rfl, hb⟩
      have HR9 : Hid (Lay w9 (w.heap.size + 1) (.int .i64 0) (.string ByteArray.empty)) := HSP.out.rs.below hb
      have HA9 : Hid (Below w.heap.size w w9) := HSP.out.bel.trans (hb.mono HSP.out.bel.size)
      clear hb y0 y1
      obtain ⟨r0, r1, r2, r3⟩ := HR9.out
      have HFN : Hid _ := finT HR9.out HA9.out (by omega) (.int .i64 (n1 : Int)) (.string RS)
      go_wp2
      obtain ⟨W, hW, hz, hbz⟩ := HFN.out
      rw [← hW]
      obtain ⟨z0, z1, _, _⟩ := hz
      exact bodyPost_ret (v := .tuple #[tv (n1 : Int) RS, .bool true]) (by simp [results, Try.results16, go_sem, z0, z1]) rfl ⟨rfl, hbz⟩

set_option maxRecDepth 100000 in
set_option maxHeartbeats 8000000 in
theorem iMerge_true (n n1 : Nat) (F1 : Nat → Bool) (F : Nat → Bool) (xb xo : Nat) (c k : Nat) (w : World) (hn : n ≤ 12) (hnn : n = n1 + 1) (hk : k < n) (hF1 : F1 = upto (2 ^ n) F) (p0 : w.cell? ⟨xb, xo + k, none⟩ = some (.bool true)) :
    Calls Try.prog 16 #[.slice (some ⟨xb, xo, none⟩) n c, tv (n : Int) (bs (tab n F)), .int .i64 (k : Int)] w fun e w' => e = .returned (.tuple #[tv (n1 : Int) (bs (tab n1 (mg (n - 1 - k) true F1))), .bool true]) ∧ Below w.heap.size w w' := by
  have HRU : Hid (∀ W, Calls Try.prog 43 #[.slice (some ⟨xb, xo, none⟩) n c, tv (n : Int) (bs (tab n F))] W fun e w' => ∃ g, e = .returned (.tuple #[rv (some ⟨xb, xo, none⟩) c n (nw n) g, .bool true]) ∧ W.heap.size ≤ g ∧ Wds w' g (nw n) F1 ∧ Below W.heap.size W w') := fun W => by rw [hF1]; exact iRuled n F (some ⟨xb, xo, none⟩) c W hn
  clear hF1
  have HNP : Hid (∀ W, Calls Try.prog 48 #[.int .i64 (n1 : Int)] W fun e w' => ∃ g, e = .returned (pv n1 (nw n1) g) ∧ W.heap.size ≤ g ∧ Wds w' g (nw n1) (fun _ => false) ∧ Below W.heap.size W w') := fun W => newPacked n1 W (by omega)
  have HSI : Hid (∀ W g, Calls Try.prog 49 #[pv n1 (nw n1) g] W fun e w' => e = .returned (.int .i64 ((2 ^ n1 : Nat) : Int)) ∧ Below W.heap.size W w') := fun W g => size n1 g W (by omega)
  obtain ⟨M, hM⟩ : ∃ M, M = mg (n - 1 - k) true F1 := ⟨_, rfl⟩
  have HPU : Hid (∀ W g p, p < 2 ^ n1 → M p = true → Wds W g (nw n1) (upto p M) → Calls Try.prog 52 #[pv n1 (nw n1) g, .int .i64 (p : Int)] W fun e w' => e = .returned (.tuple #[]) ∧ Wds w' g (nw n1) (upto (p + 1) M) ∧ Kept (fun b => b = g) W w') := fun W g p h1 h2 h3 => put n1 g p M W (by omega) h1 h2 h3
  have HTB : Hid (∀ W g, Wds W g (nw n1) (upto (2 ^ n1) M) → Calls Try.prog 53 #[pv n1 (nw n1) g] W fun e w' => e = .returned (tv (n1 : Int) (bs (tab n1 M))) ∧ Below W.heap.size W w') := fun W g h => by
    have := table n1 g _ W (by omega) h
    rwa [tab_upto] at this
  have HAC : Hid (∀ (W : World) (g p : Nat), p < 2 ^ n1 → Calls Try.prog 50 #[rv (some ⟨xb, xo, none⟩) c n (nw n) g, .int .i64 (k : Int), .int .i64 (p : Int)] W fun e w' => ∃ b0 b1 b2, e = .returned (.agg #[fk 68 b0 b1 b2]) ∧ Rb w' b0 (some ⟨xb, xo, none⟩) c n (nw n) g ∧ Nb w' b1 ((put1 (n - 1 - k) 0 p : Nat) : Int) ∧ Nb w' b2 ((2 ^ (n - 1 - k) : Nat) : Int) ∧ Below W.heap.size W w') := fun W g p hp => iAcross (some ⟨xb, xo, none⟩) c n (nw n) g k p W hn hk (by have := (p12 (n := n1) (by omega)).2; omega)
  have HFL : Hid (∀ (W : World) (b0 b1 b2 : Nat), Calls Try.prog 51 #[.agg #[fk 68 b0 b1 b2], .bool true] W fun e w' => e = .returned (.func (.func 69) #[.agg #[fk 68 b0 b1 b2]] #[]) ∧ Below W.heap.size W w') := fun W b0 b1 b2 => flagA b0 b1 b2 true W
  have HEV : Hid (∀ (W : World) (g p b0 b1 b2 : Nat), p < 2 ^ n1 → Rb W b0 (some ⟨xb, xo, none⟩) c n (nw n) g → Nb W b1 ((put1 (n - 1 - k) 0 p : Nat) : Int) → Nb W b2 ((2 ^ (n - 1 - k) : Nat) : Int) → Wds W g (nw n) F1 → Calls Try.prog 69 #[.agg #[fk 68 b0 b1 b2]] W fun e w' => e = .returned (.int .i64 ((M p).toNat : Int)) ∧ Below W.heap.size W w') := fun W g p b0 b1 b2 h0 h1 h2 h3 h4 => by
    have := everyA b0 b1 b2 _ W (halfA (s := n - 1 - k) (p := p) hn (by omega) (by rw [hnn]; exact h0) W h1 h2 h3 h4)
    rw [hM]
    exact this
  have hq1 : (nw n1) ≤ 64 ∧ 1 ≤ nw n1 := ⟨(nw_le (by omega)).2, (nw_le (by omega)).1⟩
  have hmn : 1 ≤ nw n := (nw_le hn).1
  obtain ⟨hp1, hp2⟩ := p12 (n := n1) (by omega)
  have hnz : (n : Int) - 1 = (n1 : Int) := by omega
  have hkz : (k : Int) < (n : Int) := by omega
  have hk0 : ¬ (k : Int) < 0 := by omega
  have hkn : ¬ (n : Int) ≤ (k : Int) := by omega
  rw [← hM]
  clear hM hnn
  generalize put1 (n - 1 - k) 0 = PT at *
  generalize 2 ^ (n - 1 - k) = st at *
  generalize bs (tab n1 M) = RS at *
  generalize bs (tab n F) = S at *
  generalize nw n = m at *
  generalize nw n1 = m2 at *
  generalize 2 ^ n1 = P at *
  have HA : Hid (Below w.heap.size w ((w.alloc (.cells #[.int .i64 (n : Int), .string S] 26)).alloc (.cells #[.int .i64 0, .string ByteArray.empty] 26))) := ((Below.refl _ _).alloc (Nat.le_refl _) _).alloc (by simp) _
  have HX : Hid (Lay ((w.alloc (.cells #[.int .i64 (n : Int), .string S] 26)).alloc (.cells #[.int .i64 0, .string ByteArray.empty] 26)) w.heap.size (.int .i64 (n : Int)) (.string S)) := (Lay.made _ _ _ _).alloc _
  have HR : Hid (Lay ((w.alloc (.cells #[.int .i64 (n : Int), .string S] 26)).alloc (.cells #[.int .i64 0, .string ByteArray.empty] 26)) (w.heap.size + 1) (.int .i64 0) (.string ByteArray.empty)) := by
    have := Lay.made (w.alloc (.cells #[.int .i64 (n : Int), .string S] 26)) (.int .i64 0) (.string ByteArray.empty) 26
    show Lay _ _ _ _
    simpa using this
  go_enter Try.func16, Try.ntmps16
  go_wp2_with fail
  refine (HRU.out _).mono ?_
  rintro e w1 ⟨g, rfl, hg, hw, hb⟩
  have HA1 : Hid (Below w.heap.size w w1) := HA.out.trans (hb.mono HA.out.size)
  have HR1 : Hid (Lay w1 (w.heap.size + 1) (.int .i64 0) (.string ByteArray.empty)) := HR.out.below hb
  have HX1 : Hid (Lay w1 w.heap.size (.int .i64 (n : Int)) (.string S)) := HX.out.below hb
  have HW1 : Hid (Wds w1 g m F1) := hw
  have hgl : g < w1.heap.size := hw.lt hmn
  clear hb hg hw HX HR HA
  obtain ⟨W2, hW2⟩ : ∃ W2, W2 = w1.alloc (.cells #[.slice (some ⟨xb, xo, none⟩) n c, .int .i64 (n : Int), .slice (some ⟨g, 0, none⟩) m m] 62) := ⟨_, rfl⟩
  have HA2 : Hid (Below w.heap.size w W2) := by rw [hW2]; exact HA1.out.alloc HA1.out.size _
  have HR2 : Hid (Lay W2 (w.heap.size + 1) (.int .i64 0) (.string ByteArray.empty)) := by rw [hW2]; exact HR1.out.alloc _
  have HX2 : Hid (Lay W2 w.heap.size (.int .i64 (n : Int)) (.string S)) := by rw [hW2]; exact HX1.out.alloc _
  have HB2 : Hid (Rb W2 w1.heap.size (some ⟨xb, xo, none⟩) c n m g) := by rw [hW2]; exact Rb.made _ _ _ _ _ _ _
  have HW2 : Hid (Wds W2 g m F1) := by rw [hW2]; exact HW1.out.below ((Below.refl _ _).alloc (Nat.le_refl _) _)
  have HE2 : Hid (w1.alloc (.cells #[.slice (some ⟨xb, xo, none⟩) n c, .int .i64 (n : Int), .slice (some ⟨g, 0, none⟩) m m] 62) = W2) := hW2.symm
  clear hW2 HA1 HR1 HX1 HW1
  go_upto_region 2 with fail
  rw [HE2.out]
  generalize hq8 : w1.heap.size = q8 at *
  clear HE2 hq8
  obtain ⟨x0, x1, _, _⟩ := HX2.out
  go_wp2_with fail
  refine (HNP.out _).mono ?_
  rintro e w3 ⟨g2, rfl, hg2, hw2, hb⟩
  have hr3 := HR2.out.lt
  have hq3 := HB2.out.lt
  have hgg2 : w.heap.size + 1 < g2 := by omega
  have hqg2 : q8 ≠ g2 := by omega
  have hgg3 : g ≠ g2 := by omega
  have hg2l : g2 < w3.heap.size := hw2.lt hq1.2
  obtain ⟨W4, hW4⟩ : ∃ W4, W4 = w3.alloc (.cells #[.int .i64 (n1 : Int), .slice (some ⟨g2, 0, none⟩) m2 m2] 60) := ⟨_, rfl⟩
  have HS4 : Hid (MS w n m g q8 (some ⟨xb, xo, none⟩) c F1 n1 m2 g2 w3.heap.size (fun _ => false) W4) := by
    have hba : Below w3.heap.size w3 W4 := by rw [hW4]; exact (Below.refl _ _).alloc (Nat.le_refl _) _
    have hA3 := HA2.out.trans (hb.mono HA2.out.size)
    exact ⟨(HB2.out.below hb).below hba, (HW2.out.below hb).below hba, by rw [hW4]; exact Lay.made _ _ _ _, hw2.below hba, (HR2.out.below hb).below hba, hA3.trans (hba.mono hA3.size)⟩
  have HE4 : Hid (w3.alloc (.cells #[.int .i64 (n1 : Int), .slice (some ⟨g2, 0, none⟩) m2 m2] 60) = W4) := hW4.symm
  have hqg3 : w3.heap.size ≠ g2 := by omega
  clear hb hg2 hw2 hW4 x0 x1 HA2 HR2 HX2 HB2 HW2 hr3 hq3 hgl
  go_upto_region 5 with fail
  rw [HE4.out]
  generalize hq10 : w3.heap.size = q10 at *
  clear HE4 hq10 hg2l
  obtain ⟨y0, y1, _, _⟩ := HS4.out.nb
  go_wp2_with fail
  refine (HSI.out _ g2).mono ?_
  rintro e w5 ⟨rfl, hb⟩
  have HS5 : Hid (MS w n m g q8 (some ⟨xb, xo, none⟩) c F1 n1 m2 g2 q10 (upto 0 M) w5) := (HS4.out.below hb).congr fun i => by rw [upto_zero, wd_zero (by intro j _; rfl)]
  clear hb y0 y1 HS4
  go_wp2_with fail
  go_loopw [38] (fun i wr => ∃ p : Nat, p ≤ P ∧ i = .int .i64 p ∧ MS w n m g q8 (some ⟨xb, xo, none⟩) c F1 n1 m2 g2 q10 (upto p M) wr) (fun i _ => P - (intOf i).toNat)
  case atStart => exact ⟨0, Nat.zero_le _, rfl, HS5.out⟩
  case round =>
    obtain ⟨p, hp, rfl, hs⟩ := hrel
    have HS : Hid (MS w n m g q8 (some ⟨xb, xo, none⟩) c F1 n1 m2 g2 q10 (upto p M) wr) := hs
    clear hs
    by_cases hlt : p < P
    · have hpz : (p : Int) < (P : Int) := by omega
      have HACp : Hid (∀ W, Calls Try.prog 50 #[rv (some ⟨xb, xo, none⟩) c n m g, .int .i64 (k : Int), .int .i64 (p : Int)] W fun e w' => ∃ b0 b1 b2, e = .returned (.agg #[fk 68 b0 b1 b2]) ∧ Rb w' b0 (some ⟨xb, xo, none⟩) c n m g ∧ Nb w' b1 ((PT p : Nat) : Int) ∧ Nb w' b2 (st : Int) ∧ Below W.heap.size W w') := fun W => HAC.out W g p hlt
      have HEVp : Hid (∀ (W : World) (b0 b1 b2 : Nat), Rb W b0 (some ⟨xb, xo, none⟩) c n m g → Nb W b1 ((PT p : Nat) : Int) → Nb W b2 (st : Int) → Wds W g m F1 → Calls Try.prog 69 #[.agg #[fk 68 b0 b1 b2]] W fun e w' => e = .returned (.int .i64 ((M p).toNat : Int)) ∧ Below W.heap.size W w') := fun W b0 b1 b2 => HEV.out W g p b0 b1 b2 hlt
      have HPUp : Hid (M p = true → ∀ W, Wds W g2 m2 (upto p M) → Calls Try.prog 52 #[pv n1 m2 g2, .int .i64 (p : Int)] W fun e w' => e = .returned (.tuple #[]) ∧ Wds w' g2 m2 (upto (p + 1) M) ∧ Kept (fun b => b = g2) W w') := fun h W h2 => HPU.out W g2 p hlt h h2
      have HNO : Hid (M p = false → ∀ i, wd (upto p M) i = wd (upto (p + 1) M) i) := fun h i => (wd_next_no M p i h).symm
      have pr : wr.cell? ⟨xb, xo + k, none⟩ = some (.bool true) := by rw [HS.out.bel.cell (lt_of_cell p0)]; exact p0
      have hxb := lt_of_cell pr
      obtain ⟨x0, x1, x2⟩ := HS.out.rb
      go_wp2_with fail
      have DS : MS w n m g q8 (some ⟨xb, xo, none⟩) c F1 n1 m2 g2 q10 (upto p M) wr.drew := HS.out.drew
      have DP : wr.drew.cell? ⟨xb, xo + k, none⟩ = some (.bool true) := pr
      clear HS
      go_region_held3 (fun w' => w'.cell? ⟨q8, 0, none⟩ = some (.slice (some ⟨xb, xo, none⟩) n c) ∧ w'.cell? ⟨q8, 1, none⟩ = some (.int .i64 (n : Int)) ∧ w'.cell? ⟨q8, 2, none⟩ = some (.slice (some ⟨g, 0, none⟩) m m) ∧ w'.cell? ⟨xb, xo + k, none⟩ = some (.bool true)) ((first | exact ⟨ES.rb.c0, ES.rb.c1, ES.rb.c2, EP⟩ | exact ⟨DS.rb.c0, DS.rb.c1, DS.rb.c2, DP⟩)) ((first | (go_at_call 50; refine (HACp.out _).mono ?_; rintro e w6 ⟨b0, b1, b2, rfl, hR1, hK1, hP1, hb1⟩; have ES := DS.below hb1; have EP : w6.cell? ⟨xb, xo + k, none⟩ = some (.bool true) := (by rw [hb1.cell (lt_of_cell DP)]; exact DP); have HR1 : Hid (Rb w6 b0 (some ⟨xb, xo, none⟩) c n m g ∧ Nb w6 b1 ((PT p : Nat) : Int) ∧ Nb w6 b2 (st : Int)) := ⟨hR1, hK1, hP1⟩; clear hR1 hK1 hP1 hb1) | (go_at_call 51; refine (HFL.out _ _ _ _).mono ?_; rintro e w7 ⟨rfl, hb2⟩; have EP : w7.cell? ⟨xb, xo + k, none⟩ = some (.bool true) := (by rw [hb2.cell (lt_of_cell EP)]; exact EP); have ES := ES.below hb2; have HR1 : Hid (Rb w7 b0 (some ⟨xb, xo, none⟩) c n m g ∧ Nb w7 b1 ((PT p : Nat) : Int) ∧ Nb w7 b2 (st : Int)) := ⟨HR1.out.1.below hb2, HR1.out.2.1.below hb2, HR1.out.2.2.below hb2⟩; clear hb2)))
      all_goals
        have HS7 : Hid (MS w n m g q8 (some ⟨xb, xo, none⟩) c F1 n1 m2 g2 q10 (upto p M) w7) := ES
        clear x0 x1 x2 pr hxb DS DP ES EP
        go_wp2_with fail
        refine (HEVp.out _ b0 b1 b2 HR1.out.1 HR1.out.2.1 HR1.out.2.2 HS7.out.w1).mono ?_
        rintro e w8 ⟨rfl, hb3⟩
        have HS8 : Hid (MS w n m g q8 (some ⟨xb, xo, none⟩) c F1 n1 m2 g2 q10 (upto p M) w8) := HS7.out.below hb3
        clear hb3 HS7 HR1
        cases hMp : M p
        · have HMp : Hid (M p = false) := hMp
          clear hMp
          go_wp2
          go_roundw
          case rel => exact ⟨p + 1, by omega, by go_num, HS8.out.congr (HNO.out HMp.out)⟩
          case measure => simp [intOf]; omega
        · have HMp : Hid (M p = true) := hMp
          clear hMp
          obtain ⟨y0, y1, _, _⟩ := HS8.out.nb
          go_wp2_with (go_at_call 52; refine (HPUp.out HMp.out _ HS8.out.w2).mono ?_; rintro e w9 ⟨rfl, hw9, hk9⟩; have HS9 : Hid (MS w n m g q8 (some ⟨xb, xo, none⟩) c F1 n1 m2 g2 q10 (upto (p + 1) M) w9) := HS8.out.put hk9 hw9 hqg2 hgg3 hqg3 hgg2; clear hw9 hk9)
          go_roundw
          case rel => exact ⟨p + 1, by omega, by go_num, HS9.out⟩
          case measure => simp [intOf]; omega
    · have hpP : p = P := by omega
      have HSP : Hid (MS w n m g q8 (some ⟨xb, xo, none⟩) c F1 n1 m2 g2 q10 (upto P M) wr) := by rw [← hpP]; exact HS.out
      clear hpP HS
      obtain ⟨y0, y1, _, _⟩ := HSP.out.nb
      go_wp2_with fail
      refine (HTB.out _ g2 HSP.out.w2).mono ?_
      rintro e w9 ⟨rfl, hb⟩
      have HR9 : Hid (Lay w9 (w.heap.size + 1) (.int .i64 0) (.string ByteArray.empty)) := HSP.out.rs.below hb
      have HA9 : Hid (Below w.heap.size w w9) := HSP.out.bel.trans (hb.mono HSP.out.bel.size)
      clear hb y0 y1
      obtain ⟨r0, r1, r2, r3⟩ := HR9.out
      have HFN : Hid _ := finT HR9.out HA9.out (by omega) (.int .i64 (n1 : Int)) (.string RS)
      go_wp2
      obtain ⟨W, hW, hz, hbz⟩ := HFN.out
      rw [← hW]
      obtain ⟨z0, z1, _, _⟩ := hz
      exact bodyPost_ret (v := .tuple #[tv (n1 : Int) RS, .bool true]) (by simp [results, Try.results16, go_sem, z0, z1]) rfl ⟨rfl, hbz⟩

theorem mg_upto {n s : Nat} (q : Bool) (F : Nat → Bool) (hs : s ≤ n) {p : Nat} (hp : p < 2 ^ n) : mg s q (upto (2 ^ (n + 1)) F) p = mg s q F p := by
  have h : ∀ c, c ≤ 1 → put1 s c p < 2 ^ (n + 1) := fun c hc => by
    have := put_lt (s := s) (k := n - s) (c := c) (p := p) hc (by rw [show n - s + s = n by omega]; exact hp)
    rwa [show n - s + s + 1 = n + 1 by omega] at this
  unfold mg
  simp [upto, h 0 (by omega), h 1 (by omega)]
theorem iMerge (n : Nat) (F : Nat → Bool) (ra : Option Addr) (row : List Bool) (c k : Nat) (w : World) (hn : n ≤ 11) (hrn : row.length = n + 1) (hk : k < row.length) (hB : Bools w ra row) :
    Calls Try.prog 16 #[.slice ra (n + 1) c, tv ((n : Int) + 1) (bs (tab (n + 1) F)), .int .i64 (k : Int)] w fun e w' => e = .returned (.tuple #[tv (n : Int) (bs (tab n (mg (n - k) row[k] F))), .bool true]) ∧ Below w.heap.size w w' := by
  rcases hB.2 with h0 | ⟨xb, xo, rfl, hc⟩
  · omega
  have p0 := hc k hk
  have e : tab n (mg (n - k) row[k] F) = tab n (mg (n + 1 - 1 - k) row[k] (upto (2 ^ (n + 1)) F)) := tab_ext fun p hp => by
    rw [show n + 1 - 1 - k = n - k by omega]
    exact (mg_upto _ F (by omega) hp).symm
  rw [e]
  have e2 : (n : Int) + 1 = ((n + 1 : Nat) : Int) := by push_cast; rfl
  rw [e2]
  cases hq : row[k]
  · rw [hq] at p0
    exact iMerge_false (n + 1) n _ F xb xo c k w (by omega) rfl (by omega) rfl p0
  · rw [hq] at p0
    exact iMerge_true (n + 1) n _ F xb xo c k w (by omega) rfl (by omega) rfl p0

end Go.Proofs.Yteplffphkakliaa.Dp8
