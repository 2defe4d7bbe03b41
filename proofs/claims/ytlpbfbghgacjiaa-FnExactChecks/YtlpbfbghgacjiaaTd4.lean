/- The model's functions over tables: half, at. -/
import Derived.Test.YtlpbfbghgacjiaaPkR11
import Derived.Test.YtlpbfbghgacjiaaPkR10
namespace Go.Proofs.Ytlpbfbghgacjiaa.Td4
open Go.RowKit
open Ta0 Ta1 Ta2 Tc2 Tc5 Ap9 Td1 Td2
open Nd0 (Kept Ints set_other set_same lt_of_cell)
open Ss0 (bs bs_size ret_str bs_ext)
open Ss1 (tl tl_length tl_get tl_take bs_tl tl_bs tl_inj eqb)
set_option linter.unusedVariables false

set_option maxHeartbeats 2000000 in
theorem sHalf0 {N b : Int} {S : ByteArray} (w : World) (hS : S.size ≤ 1048576) (h : ¬ (tokB N (tl S) = true ∧ N ≠ 0 ∧ bitB b = true)) :
    Calls Try.prog 88 #[tv N S, .int .i64 b] w fun e w' => e = .returned (.tuple #[tv 0 ByteArray.empty, .bool false]) ∧ Below w.heap.size w w' := by
  have HA : Hid (Below w.heap.size w ((w.alloc (.cells #[.int .i64 N, .string S] 26)).alloc (.cells #[.int .i64 0, .string ByteArray.empty] 26))) := ((Below.refl _ _).alloc (Nat.le_refl _) _).alloc (by simp) _
  have HX : Hid (Lay ((w.alloc (.cells #[.int .i64 N, .string S] 26)).alloc (.cells #[.int .i64 0, .string ByteArray.empty] 26)) w.heap.size (.int .i64 N) (.string S)) := (Lay.made _ _ _ _).alloc _
  have HR : Hid (Lay ((w.alloc (.cells #[.int .i64 N, .string S] 26)).alloc (.cells #[.int .i64 0, .string ByteArray.empty] 26)) (w.heap.size + 1) (.int .i64 0) (.string ByteArray.empty)) := by
    have := Lay.made (w.alloc (.cells #[.int .i64 N, .string S] 26)) (.int .i64 0) (.string ByteArray.empty) 26
    show Lay _ _ _ _
    simpa using this
  cases h1 : tokB N (tl S)
  · have HO : Hid (∀ W, Calls Try.prog 87 #[tv N S] W fun e w' => e = .returned (.bool false) ∧ Below W.heap.size W w') := fun W => sOk0 W hS h1
    clear h h1
    go_enter Try.func88, Try.ntmps88
    go_wp2_with fail
    refine (HO.out _).mono ?_
    rintro e w1 ⟨rfl, hb⟩
    have HA1 : Hid (Below w.heap.size w w1) := HA.out.trans (hb.mono HA.out.size)
    have HR1 : Hid (Lay w1 (w.heap.size + 1) (.int .i64 0) (.string ByteArray.empty)) := HR.out.below hb
    clear hb
    obtain ⟨r0, r1, r2, r3⟩ := HR1.out
    have HFN : Hid _ := finT HR1.out HA1.out (by omega) (.int .i64 0) (.string ⟨#[]⟩)
    go_wp2
    obtain ⟨W, hW, hz, hbz⟩ := HFN.out
    rw [← hW]
    obtain ⟨z0, z1, _, _⟩ := hz
    exact bodyPost_ret (v := .tuple #[tv 0 ⟨#[]⟩, .bool false]) (by simp [results, Try.results88, go_sem, z0, z1]) rfl ⟨rfl, hbz⟩
  have HO : Hid (∀ W, Calls Try.prog 87 #[tv N S] W fun e w' => e = .returned (.bool true) ∧ Below W.heap.size W w') := fun W => by
    have := sTableOk N S W hS
    rwa [h1] at this
  by_cases hN : N = 0
  · have hNb : (N == 0) = true := by rw [hN]; rfl
    clear h h1 hN
    go_enter Try.func88, Try.ntmps88
    go_wp2_with fail
    refine (HO.out _).mono ?_
    rintro e w1 ⟨rfl, hb⟩
    have HA1 : Hid (Below w.heap.size w w1) := HA.out.trans (hb.mono HA.out.size)
    have HR1 : Hid (Lay w1 (w.heap.size + 1) (.int .i64 0) (.string ByteArray.empty)) := HR.out.below hb
    obtain ⟨x0, x1, _, _⟩ := HX.out.below hb
    clear hb
    obtain ⟨r0, r1, r2, r3⟩ := HR1.out
    have HFN : Hid _ := finT HR1.out HA1.out (by omega) (.int .i64 0) (.string ⟨#[]⟩)
    go_wp2
    obtain ⟨W, hW, hz, hbz⟩ := HFN.out
    rw [← hW]
    obtain ⟨z0, z1, _, _⟩ := hz
    exact bodyPost_ret (v := .tuple #[tv 0 ⟨#[]⟩, .bool false]) (by simp [results, Try.results88, go_sem, z0, z1]) rfl ⟨rfl, hbz⟩
  · have hNb : (N == 0) = false := beq_eq_false_iff_ne.2 hN
    have HI : Hid (∀ W, Calls Try.prog 62 #[.int .i64 b, .int .i64 0, .int .i64 1] W fun e w' => e = .returned (.bool false) ∧ w' = W) := fun W => sInF W (fun k => h ⟨h1, hN, decide_eq_true (by omega)⟩)
    clear h h1 hN
    go_enter Try.func88, Try.ntmps88
    go_wp2_with fail
    refine (HO.out _).mono ?_
    rintro e w1 ⟨rfl, hb⟩
    have HA1 : Hid (Below w.heap.size w w1) := HA.out.trans (hb.mono HA.out.size)
    have HR1 : Hid (Lay w1 (w.heap.size + 1) (.int .i64 0) (.string ByteArray.empty)) := HR.out.below hb
    obtain ⟨x0, x1, _, _⟩ := HX.out.below hb
    clear hb
    obtain ⟨r0, r1, r2, r3⟩ := HR1.out
    have HFN : Hid _ := finT HR1.out HA1.out (by omega) (.int .i64 0) (.string ⟨#[]⟩)
    go_wp2_with (go_at_call 62; refine (HI.out _).mono ?_; rintro e w' ⟨rfl, rfl⟩)
    obtain ⟨W, hW, hz, hbz⟩ := HFN.out
    rw [← hW]
    obtain ⟨z0, z1, _, _⟩ := hz
    exact bodyPost_ret (v := .tuple #[tv 0 ⟨#[]⟩, .bool false]) (by simp [results, Try.results88, go_sem, z0, z1]) rfl ⟨rfl, hbz⟩

set_option maxRecDepth 100000 in
set_option maxHeartbeats 4000000 in
theorem sHalf (n b : Nat) (F : Nat → Bool) (w : World) (hn : n ≤ 11) (hb : b ≤ 1) :
    Calls Try.prog 88 #[tv ((n + 1 : Nat) : Int) (bs (tab (n + 1) F)), .int .i64 (b : Int)] w fun e w' => e = .returned (.tuple #[tv (n : Int) (bs (tab n fun p => F (b * 2 ^ n + p))), .bool true]) ∧ Below w.heap.size w w' := by
  have HO : Hid (∀ W, Calls Try.prog 87 #[tv ((n + 1 : Nat) : Int) (bs (tab (n + 1) F))] W fun e w' => e = .returned (.bool true) ∧ Below W.heap.size W w') := fun W => sOk1 (n + 1) F W (by omega)
  have HI : Hid (∀ W, Calls Try.prog 62 #[.int .i64 (b : Int), .int .i64 0, .int .i64 1] W fun e w' => e = .returned (.bool true) ∧ w' = W) := fun W => sInT W ⟨by omega, by omega⟩
  obtain ⟨hp, hl⟩ := p12 (n := n) (by omega)
  have hp1 : 2 ^ (n + 1) = 2 * 2 ^ n := by rw [Nat.pow_succ]; omega
  have hSz : (bs (tab (n + 1) F)).size = 2 * 2 ^ n := by rw [bs_size, tab_length, hp1]
  have HT : Hid ((bs (tab (n + 1) F)).extract (b * 2 ^ n) (b * 2 ^ n + 2 ^ n) = bs (tab n fun p => F (b * 2 ^ n + p))) := half_text n b F hb
  have e1 : ((n + 1 : Nat) : Int) - 1 = (n : Int) := by omega
  have hNb : (((n + 1 : Nat) : Int) == 0) = false := beq_eq_false_iff_ne.2 (by omega)
  clear hp1
  generalize bs (tab n fun p => F (b * 2 ^ n + p)) = RS at *
  generalize bs (tab (n + 1) F) = S at *
  generalize 2 ^ n = P at *
  have hSP : (S.size : Int) / 2 = (P : Int) := by omega
  have HSz : Hid (S.size = 2 * P) := hSz
  have hSl : S.size ≤ 8192 := by omega
  clear hSz
  generalize n + 1 = N at *
  have HA : Hid (Below w.heap.size w ((w.alloc (.cells #[.int .i64 (N : Int), .string S] 26)).alloc (.cells #[.int .i64 0, .string ByteArray.empty] 26))) := ((Below.refl _ _).alloc (Nat.le_refl _) _).alloc (by simp) _
  have HX : Hid (Lay ((w.alloc (.cells #[.int .i64 (N : Int), .string S] 26)).alloc (.cells #[.int .i64 0, .string ByteArray.empty] 26)) w.heap.size (.int .i64 (N : Int)) (.string S)) := (Lay.made _ _ _ _).alloc _
  have HR : Hid (Lay ((w.alloc (.cells #[.int .i64 (N : Int), .string S] 26)).alloc (.cells #[.int .i64 0, .string ByteArray.empty] 26)) (w.heap.size + 1) (.int .i64 0) (.string ByteArray.empty)) := by
    have := Lay.made (w.alloc (.cells #[.int .i64 (N : Int), .string S] 26)) (.int .i64 0) (.string ByteArray.empty) 26
    show Lay _ _ _ _
    simpa using this
  rcases (by omega : b = 0 ∨ b = 1) with rfl | rfl
  all_goals
    go_enter Try.func88, Try.ntmps88
    go_wp2_with fail
    refine (HO.out _).mono ?_
    rintro e w1 ⟨rfl, hb⟩
    have HA1 : Hid (Below w.heap.size w w1) := HA.out.trans (hb.mono HA.out.size)
    have HR1 : Hid (Lay w1 (w.heap.size + 1) (.int .i64 0) (.string ByteArray.empty)) := HR.out.below hb
    obtain ⟨x0, x1, _, _⟩ := HX.out.below hb
    clear hb
    obtain ⟨r0, r1, r2, r3⟩ := HR1.out
    have hext := HT.out
    go_wp2_with (go_at_call 62; refine (HI.out _).mono ?_; rintro e w' ⟨rfl, rfl⟩)
  · simp only [Nat.zero_mul, Nat.zero_add] at hext
    have hPS : (P : Int) ≤ (S.size : Int) := by have := HSz.out; omega
    go_region
    go_wp2
    obtain ⟨W, hW, hz, hbz⟩ := finT HR1.out HA1.out (by omega) (.int .i64 (n : Int)) (.string RS)
    rw [← hW]
    obtain ⟨z0, z1, _, _⟩ := hz
    exact bodyPost_ret (v := .tuple #[tv (n : Int) RS, .bool true]) (by simp [results, Try.results88, go_sem, z0, z1]) rfl ⟨rfl, below_drewN hbz 1⟩
  · simp only [Nat.one_mul] at hext
    have hPS : (P : Int) + (P : Int) ≤ (S.size : Int) := by have := HSz.out; omega
    go_region
    go_wp2
    obtain ⟨W, hW, hz, hbz⟩ := finT HR1.out HA1.out (by omega) (.int .i64 (n : Int)) (.string RS)
    rw [← hW]
    obtain ⟨z0, z1, _, _⟩ := hz
    exact bodyPost_ret (v := .tuple #[tv (n : Int) RS, .bool true]) (by simp [results, Try.results88, go_sem, z0, z1]) rfl ⟨rfl, below_drewN hbz 1⟩

set_option maxHeartbeats 2000000 in
theorem sTableAt0 {N : Int} {S : ByteArray} (a : Option Addr) (l : List Int) (c : Nat) (w : World) (hS : S.size ≤ 1048576) (h : tokB N (tl S) = false) :
    Calls Try.prog 69 #[tv N S, .slice a l.length c] w fun e w' => e = .returned (.int .i64 (-1)) ∧ Below w.heap.size w w' := by
  have HO : Hid (∀ W, Calls Try.prog 87 #[tv N S] W fun e w' => e = .returned (.bool false) ∧ Below W.heap.size W w') := fun W => sOk0 W hS h
  have HA : Hid (Below w.heap.size w (w.alloc (.cells #[.int .i64 N, .string S] 26))) := (Below.refl _ _).alloc (Nat.le_refl _) _
  clear h
  go_enter Try.func69, Try.ntmps69
  go_wp2_with fail
  refine (HO.out _).mono ?_
  rintro e w1 ⟨rfl, hb⟩
  have HB : Hid (Below w.heap.size w w1) := HA.out.trans (hb.mono HA.out.size)
  clear hb
  go_wp2
  go_ret
  exact ⟨rfl, HB.out⟩

set_option maxHeartbeats 2000000 in
theorem sTableAt (n : Nat) (F : Nat → Bool) (a : Option Addr) (l : List Int) (c : Nat) (w : World) (hn : n ≤ 12) (hI : Ints w a l) :
    Calls Try.prog 69 #[tv (n : Int) (bs (tab n F)), .slice a l.length c] w fun e w' => e = .returned (.int .i64 (atB n F l)) ∧ Below w.heap.size w w' := by
  have HO : Hid (∀ W, Calls Try.prog 87 #[tv (n : Int) (bs (tab n F))] W fun e w' => e = .returned (.bool true) ∧ Below W.heap.size W w') := fun W => sOk1 n F W hn
  have HIn : Hid (Ints w a l) := hI
  have hm := hI.1
  unfold maxLen at hm
  clear hI
  obtain ⟨hp, hl⟩ := p12 hn
  have HG : Hid (Sg (bs (tab n F)) (2 ^ n) F) := sg_tab n F
  generalize bs (tab n F) = S at *
  have hSP : S.size ≤ 4096 := by rw [HG.out.size]; exact hl
  have HL0 : Hid (Lay (w.alloc (.cells #[.int .i64 (n : Int), .string S] 26)) w.heap.size (.int .i64 (n : Int)) (.string S)) := Lay.made _ _ _ _
  have HA : Hid (Below w.heap.size w (w.alloc (.cells #[.int .i64 (n : Int), .string S] 26))) := (Below.refl _ _).alloc (Nat.le_refl _) _
  by_cases hln : l.length = n
  · have hlz : ((l.length : Int) != (n : Int)) = false := by rw [hln]; simp
    have HLN : Hid (l.length = n) := hln
    have hl12 : l.length ≤ 12 := by omega
    clear hln
    go_enter Try.func69, Try.ntmps69
    go_wp2_with fail
    refine (HO.out _).mono ?_
    rintro e w1 ⟨rfl, hb⟩
    have HB : Hid (Below w.heap.size w w1) := HA.out.trans (hb.mono HA.out.size)
    obtain ⟨x0, x1, _, _⟩ := HL0.out.below hb
    clear hb
    have HI1 : Hid (Ints w1 a l) := HIn.out.below HB.out
    go_wp2
    go_loop [5, 6] (fun p i => ∃ k : Nat, k ≤ l.length ∧ i = .int .i64 k ∧ p = .int .i64 ((plc l k : Nat) : Int) ∧ ∀ j, j < k → bitB (l.getD j 0) = true) (fun _ i => l.length - (intOf i).toNat)
    case atStart => exact ⟨0, Nat.zero_le _, rfl, rfl, fun j hj => by omega⟩
    case round =>
      obtain ⟨k, hk, rfl, rfl, hbt⟩ := hrel
      have hpl : plc l k < 4096 + 1 := by
        have h1 := plc_lt hbt
        have h2 := (p12 (n := k) (by omega)).2
        omega
      have HBT : Hid (∀ j, j < k → bitB (l.getD j 0) = true) := hbt
      clear hbt
      by_cases hlt : k < l.length
      · have hkz : (k : Int) < (l.length : Int) := by omega
        rcases HI1.out.2 with h0 | ⟨xb, xo, rfl, hc⟩
        · omega
        have p0 := hc k hlt
        clear hc
        have hgd : l.getD k 0 = l[k] := by simp [List.getD, hlt]
        have HPS : Hid (plc l (k + 1) = 2 * plc l k + (l.getD k 0).toNat) := rfl
        generalize plc l k = y at *
        rw [← hgd] at p0
        clear hgd
        obtain ⟨x, hx⟩ : ∃ x, x = l.getD k 0 := ⟨_, rfl⟩
        rw [← hx] at p0 HPS
        have HX : Hid (x = l.getD k 0) := hx
        clear hx
        cases hB : bitB x
        · have HBd : Hid (atB n F l = -1) := at_bad hlt (by rw [← HX.out]; exact hB)
          have HIC : Hid (∀ W, Calls Try.prog 62 #[.int .i64 x, .int .i64 0, .int .i64 1] W fun e w' => e = .returned (.bool false) ∧ w' = W) := fun W => sInF W (fun q => by have := of_decide_eq_false hB; omega)
          clear hB
          go_wp2_with (go_at_call 62; refine (HIC.out _).mono ?_; rintro e w' ⟨rfl, rfl⟩)
          go_ret
          exact ⟨ret_int HBd.out.symm, HB.out⟩
        · have hx2 := of_decide_eq_true hB
          have HIC : Hid (∀ W, Calls Try.prog 62 #[.int .i64 x, .int .i64 0, .int .i64 1] W fun e w' => e = .returned (.bool true) ∧ w' = W) := fun W => sInT W (by omega)
          have HBx : Hid (bitB x = true) := hB
          clear hB
          have hx0 : 0 ≤ x := by omega
          have hx1 : x ≤ 1 := by omega
          clear hx2
          go_wp2_with (go_at_call 62; refine (HIC.out _).mono ?_; rintro e w' ⟨rfl, rfl⟩)
          go_round
          case rel => exact ⟨k + 1, by omega, by go_num, by rw [HPS.out]; go_num, fun j hj => by
            by_cases e : j = k
            · rw [e, ← HX.out]; exact HBx.out
            · exact HBT.out j (by omega)⟩
          case measure => simp [intOf]; omega
      · have hkl : k = l.length := by omega
        have HGd : Hid (atB n F l = ((F (plc l k)).toNat : Int)) := by
          show _ = _
          rw [hkl]
          exact at_good HLN.out fun i hi => HBT.out i (by omega)
        have hpS : plc l k < S.size := by
          have h1 := plc_lt HBT.out
          rw [HG.out.size]
          rw [hkl, HLN.out] at h1
          rw [hkl, HLN.out]
          exact h1
        have h9 := HG.out.at_ _ hpS
        have hpz : ((plc l k : Nat) : Int) < (S.size : Int) := by omega
        clear hkl
        generalize plc l k = y at *
        cases hF : F y
        all_goals
          rw [hF] at h9 HGd
          clear hF
          simp only [Bool.toNat_false, Bool.toNat_true, Int.natCast_zero, Int.natCast_one] at h9
          go_wp2
          go_ret
          exact ⟨ret_int (by rw [HGd.out]; rfl), HB.out⟩
  · have hlz : ((l.length : Int) != (n : Int)) = true := bne_iff_ne.2 (by omega)
    have HLn : Hid (atB n F l = -1) := at_len hln
    clear hln
    go_enter Try.func69, Try.ntmps69
    go_wp2_with fail
    refine (HO.out _).mono ?_
    rintro e w1 ⟨rfl, hb⟩
    have HB : Hid (Below w.heap.size w w1) := HA.out.trans (hb.mono HA.out.size)
    obtain ⟨x0, x1, _, _⟩ := HL0.out.below hb
    clear hb
    go_wp2
    go_ret
    exact ⟨ret_int HLn.out.symm, HB.out⟩

end Go.Proofs.Ytlpbfbghgacjiaa.Td4
