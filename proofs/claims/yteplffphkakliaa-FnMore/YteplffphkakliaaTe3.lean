/- The program's functions over tables: half, at. -/
import Derived.Test.YteplffphkakliaaTe1
import Derived.Test.YteplffphkakliaaTd4
namespace Go.Proofs.Yteplffphkakliaa.Te3
open Go.RowKit
open Ta0 Ta1 Ta2 Tc2 Tc4 Tc5 Tc6 Tc7 Tc8 Tc10 Td1 Td2 Te1
open Nd0 (Kept Ints set_other set_same lt_of_cell)
open Ss0 (bs bs_size ret_str bs_ext)
open Ss1 (tl tl_length tl_get tl_take bs_tl tl_bs tl_inj eqb)
set_option linter.unusedVariables false

set_option maxHeartbeats 2000000 in
theorem iHalf0 {N b : Int} {S : ByteArray} (w : World) (hS : S.size ≤ 1048576) (h : ¬ (tokB N (tl S) = true ∧ N ≠ 0 ∧ bitB b = true)) :
    Calls Try.prog 20 #[tv N S, .int .i64 b] w fun e w' => e = .returned (.tuple #[tv 0 ByteArray.empty, .bool false]) ∧ Below w.heap.size w w' := by
  have HA : Hid (Below w.heap.size w ((w.alloc (.cells #[.int .i64 N, .string S] 26)).alloc (.cells #[.int .i64 0, .string ByteArray.empty] 26))) := ((Below.refl _ _).alloc (Nat.le_refl _) _).alloc (by simp) _
  have HX : Hid (Lay ((w.alloc (.cells #[.int .i64 N, .string S] 26)).alloc (.cells #[.int .i64 0, .string ByteArray.empty] 26)) w.heap.size (.int .i64 N) (.string S)) := (Lay.made _ _ _ _).alloc _
  have HR : Hid (Lay ((w.alloc (.cells #[.int .i64 N, .string S] 26)).alloc (.cells #[.int .i64 0, .string ByteArray.empty] 26)) (w.heap.size + 1) (.int .i64 0) (.string ByteArray.empty)) := by
    have := Lay.made (w.alloc (.cells #[.int .i64 N, .string S] 26)) (.int .i64 0) (.string ByteArray.empty) 26
    show Lay _ _ _ _
    simpa using this
  cases h1 : tokB N (tl S)
  · have HO : Hid (∀ W, Calls Try.prog 46 #[tv N S] W fun e w' => e = .returned (.bool false) ∧ Below W.heap.size W w') := fun W => iOk0 W hS h1
    clear h h1
    go_enter Try.func20, Try.ntmps20
    go_wp2_with fail
    refine (HO.out _).mono ?_
    rintro e w1 ⟨rfl, hb⟩
    have HA1 : Hid (Below w.heap.size w w1) := HA.out.trans (hb.mono HA.out.size)
    have HR1 : Hid (Lay w1 (w.heap.size + 1) (.int .i64 0) (.string ByteArray.empty)) := HR.out.below hb
    clear hb
    obtain ⟨r0, r1, r2, r3⟩ := HR1.out
    have HFN : Hid _ := finT HR1.out HA1.out (by omega) (.int .i64 0) (.string ⟨#[]⟩)
    go_wp2
    obtain ⟨W, hW, hz, hbz⟩ := HFN.out
    rw [← hW]
    obtain ⟨z0, z1, _, _⟩ := hz
    exact bodyPost_ret (v := .tuple #[tv 0 ⟨#[]⟩, .bool false]) (by simp [results, Try.results20, go_sem, z0, z1]) rfl ⟨rfl, hbz⟩
  have HO : Hid (∀ W, Calls Try.prog 46 #[tv N S] W fun e w' => e = .returned (.bool true) ∧ Below W.heap.size W w') := fun W => by
    have := iTableOk N S W hS
    rwa [h1] at this
  by_cases hN : N = 0
  · have hNb : (N == 0) = true := by rw [hN]; rfl
    clear h h1 hN
    go_enter Try.func20, Try.ntmps20
    go_wp2_with fail
    refine (HO.out _).mono ?_
    rintro e w1 ⟨rfl, hb⟩
    have HA1 : Hid (Below w.heap.size w w1) := HA.out.trans (hb.mono HA.out.size)
    have HR1 : Hid (Lay w1 (w.heap.size + 1) (.int .i64 0) (.string ByteArray.empty)) := HR.out.below hb
    obtain ⟨x0, x1, _, _⟩ := HX.out.below hb
    clear hb
    obtain ⟨r0, r1, r2, r3⟩ := HR1.out
    have HFN : Hid _ := finT HR1.out HA1.out (by omega) (.int .i64 0) (.string ⟨#[]⟩)
    go_wp2
    obtain ⟨W, hW, hz, hbz⟩ := HFN.out
    rw [← hW]
    obtain ⟨z0, z1, _, _⟩ := hz
    exact bodyPost_ret (v := .tuple #[tv 0 ⟨#[]⟩, .bool false]) (by simp [results, Try.results20, go_sem, z0, z1]) rfl ⟨rfl, hbz⟩
  · have hNb : (N == 0) = false := beq_eq_false_iff_ne.2 hN
    have HI : Hid (∀ W, Calls Try.prog 57 #[.int .i64 b] W fun e w' => e = .returned (.bool false) ∧ w' = W) := fun W => by
      have hb0 : bitB b = false := by
        cases hB : bitB b
        · rfl
        · exact absurd ⟨h1, hN, hB⟩ h
      have := iBitOk b W
      rwa [hb0] at this
    clear h h1 hN
    go_enter Try.func20, Try.ntmps20
    go_wp2_with fail
    refine (HO.out _).mono ?_
    rintro e w1 ⟨rfl, hb⟩
    have HA1 : Hid (Below w.heap.size w w1) := HA.out.trans (hb.mono HA.out.size)
    have HR1 : Hid (Lay w1 (w.heap.size + 1) (.int .i64 0) (.string ByteArray.empty)) := HR.out.below hb
    obtain ⟨x0, x1, _, _⟩ := HX.out.below hb
    clear hb
    obtain ⟨r0, r1, r2, r3⟩ := HR1.out
    have HFN : Hid _ := finT HR1.out HA1.out (by omega) (.int .i64 0) (.string ⟨#[]⟩)
    go_wp2_with (go_at_call 57; refine (HI.out _).mono ?_; rintro e w' ⟨rfl, rfl⟩)
    obtain ⟨W, hW, hz, hbz⟩ := HFN.out
    rw [← hW]
    obtain ⟨z0, z1, _, _⟩ := hz
    exact bodyPost_ret (v := .tuple #[tv 0 ⟨#[]⟩, .bool false]) (by simp [results, Try.results20, go_sem, z0, z1]) rfl ⟨rfl, hbz⟩

set_option maxRecDepth 100000 in
set_option maxHeartbeats 2000000 in
theorem iHalf (n b : Nat) (F : Nat → Bool) (w : World) (hn : n ≤ 11) (hb : b ≤ 1) :
    Calls Try.prog 20 #[tv ((n + 1 : Nat) : Int) (bs (tab (n + 1) F)), .int .i64 (b : Int)] w fun e w' => e = .returned (.tuple #[tv (n : Int) (bs (tab n fun p => F (b * 2 ^ n + p))), .bool true]) ∧ Below w.heap.size w w' := by
  have HO : Hid (∀ W, Calls Try.prog 46 #[tv ((n + 1 : Nat) : Int) (bs (tab (n + 1) F))] W fun e w' => e = .returned (.bool true) ∧ Below W.heap.size W w') := fun W => iOk1 (n + 1) F W (by omega)
  have HI : Hid (∀ W, Calls Try.prog 57 #[.int .i64 (b : Int)] W fun e w' => e = .returned (.bool true) ∧ w' = W) := fun W => by
    have hb1 : bitB (b : Int) = true := decide_eq_true (by omega)
    have := iBitOk (b : Int) W
    rwa [hb1] at this
  have HPK : Hid (∀ W, Calls Try.prog 47 #[tv ((n + 1 : Nat) : Int) (bs (tab (n + 1) F))] W fun e w' => ∃ g, e = .returned (pv (n + 1) (nw (n + 1)) g) ∧ W.heap.size ≤ g ∧ Wds w' g (nw (n + 1)) (upto (2 ^ (n + 1)) F) ∧ Below W.heap.size W w') := fun W => pack (n + 1) F W (by omega)
  have HHF : Hid (∀ W g, Wds W g (nw (n + 1)) (upto (2 ^ (n + 1)) F) → Calls Try.prog 58 #[pv (n + 1) (nw (n + 1)) g, .int .i64 (b : Int)] W fun e w' => ∃ g2, e = .returned (pv n (nw n) g2) ∧ W.heap.size ≤ g2 ∧ Wds w' g2 (nw n) (upto (2 ^ n) fun p => F (b * 2 ^ n + p)) ∧ Below W.heap.size W w') := fun W g h => half n g b F W hn hb h
  have HTB : Hid (∀ W g, Wds W g (nw n) (upto (2 ^ n) fun p => F (b * 2 ^ n + p)) → Calls Try.prog 53 #[pv n (nw n) g] W fun e w' => e = .returned (tv (n : Int) (bs (tab n fun p => F (b * 2 ^ n + p)))) ∧ Below W.heap.size W w') := fun W g h => by
    have := table n g _ W (by omega) h
    rwa [tab_upto] at this
  have hNb : (((n + 1 : Nat) : Int) == 0) = false := beq_eq_false_iff_ne.2 (by omega)
  generalize bs (tab n fun p => F (b * 2 ^ n + p)) = RS at *
  generalize (upto (2 ^ n) fun p => F (b * 2 ^ n + p)) = H at *
  generalize bs (tab (n + 1) F) = S at *
  generalize upto (2 ^ (n + 1)) F = F1 at *
  generalize nw n = m at *
  generalize nw (n + 1) = m2 at *
  generalize n + 1 = N at *
  have HA : Hid (Below w.heap.size w ((w.alloc (.cells #[.int .i64 (N : Int), .string S] 26)).alloc (.cells #[.int .i64 0, .string ByteArray.empty] 26))) := ((Below.refl _ _).alloc (Nat.le_refl _) _).alloc (by simp) _
  have HX : Hid (Lay ((w.alloc (.cells #[.int .i64 (N : Int), .string S] 26)).alloc (.cells #[.int .i64 0, .string ByteArray.empty] 26)) w.heap.size (.int .i64 (N : Int)) (.string S)) := (Lay.made _ _ _ _).alloc _
  have HR : Hid (Lay ((w.alloc (.cells #[.int .i64 (N : Int), .string S] 26)).alloc (.cells #[.int .i64 0, .string ByteArray.empty] 26)) (w.heap.size + 1) (.int .i64 0) (.string ByteArray.empty)) := by
    have := Lay.made (w.alloc (.cells #[.int .i64 (N : Int), .string S] 26)) (.int .i64 0) (.string ByteArray.empty) 26
    show Lay _ _ _ _
    simpa using this
  go_enter Try.func20, Try.ntmps20
  go_wp2_with fail
  refine (HO.out _).mono ?_
  rintro e w1 ⟨rfl, hb⟩
  have HA1 : Hid (Below w.heap.size w w1) := HA.out.trans (hb.mono HA.out.size)
  have HR1 : Hid (Lay w1 (w.heap.size + 1) (.int .i64 0) (.string ByteArray.empty)) := HR.out.below hb
  obtain ⟨x0, x1, _, _⟩ := HX.out.below hb
  clear hb
  go_wp2_with (go_at_call 57; refine (HI.out _).mono ?_; rintro e w' ⟨rfl, hw'⟩; have hw2 := hw'.symm; clear hw'; subst hw2)
  refine (HPK.out _).mono ?_
  rintro e w2 ⟨g, rfl, hg, hw, hb⟩
  have HA2 : Hid (Below w.heap.size w w2) := HA1.out.trans (hb.mono HA1.out.size)
  have HR2 : Hid (Lay w2 (w.heap.size + 1) (.int .i64 0) (.string ByteArray.empty)) := HR1.out.below hb
  clear hb x0 x1
  go_wp2_with fail
  refine (HHF.out _ g hw).mono ?_
  rintro e w3 ⟨g2, rfl, hg2, hw2, hb⟩
  have HA3 : Hid (Below w.heap.size w w3) := HA2.out.trans (hb.mono HA2.out.size)
  have HR3 : Hid (Lay w3 (w.heap.size + 1) (.int .i64 0) (.string ByteArray.empty)) := HR2.out.below hb
  clear hb hw
  go_wp2_with fail
  refine (HTB.out _ g2 hw2).mono ?_
  rintro e w4 ⟨rfl, hb⟩
  have HA4 : Hid (Below w.heap.size w w4) := HA3.out.trans (hb.mono HA3.out.size)
  have HR4 : Hid (Lay w4 (w.heap.size + 1) (.int .i64 0) (.string ByteArray.empty)) := HR3.out.below hb
  clear hb hw2
  obtain ⟨r0, r1, r2, r3⟩ := HR4.out
  have HFN : Hid _ := finT HR4.out HA4.out (by omega) (.int .i64 (n : Int)) (.string RS)
  go_wp2
  obtain ⟨W, hW, hz, hbz⟩ := HFN.out
  rw [← hW]
  obtain ⟨z0, z1, _, _⟩ := hz
  exact bodyPost_ret (v := .tuple #[tv (n : Int) RS, .bool true]) (by simp [results, Try.results20, go_sem, z0, z1]) rfl ⟨rfl, hbz⟩

theorem or_bit {y x : Nat} (hy : y < 100000) (hx : x ≤ 1) : bits .or .i64 ((2 * y : Nat) : Int) (x : Int) = ((2 * y + x : Nat) : Int) := by
  rw [bor62 (by omega) (by omega)]
  have h := Nat.two_pow_add_eq_or_of_lt (i := 1) (b := x) (by omega) y
  rw [show (2 : Nat) ^ 1 * y = 2 * y by omega] at h
  rw [h]

end Go.Proofs.Yteplffphkakliaa.Te3
