/- Packed tables: how many bits are set; the bits in use; whether it needs a bit. -/
import Derived.Test.YteplffphkakliaaTc6
namespace Go.Proofs.Yteplffphkakliaa.Tc7
open Go.RowKit
open Ta0 Ta1 Tc2 Tc4 Tc5
open Nd0 (Kept set_other set_same lt_of_cell)
open Tc1 (ones)
set_option linter.unusedVariables false

set_option maxRecDepth 100000 in
set_option maxHeartbeats 2000000 in
theorem count (n g : Nat) (G : Nat → Bool) (w : World) (hn : n ≤ 12) (hW : Wds w g (nw n) G) :
    Calls Try.prog 54 #[pv n (nw n) g] w fun e w' => e = .returned (.int .i64 ((cnt G (64 * nw n) : Nat) : Int)) ∧ Below w.heap.size w w' := by
  have hnw := nw_le hn
  have hgl := hW.lt (by omega)
  have HW : Hid (∀ i, i < nw n → w.cell? ⟨g, i, none⟩ = some (.int .u64 (wd G i : Int))) := fun i hi => (hW i hi).1
  have HB : Hid (Below w.heap.size w (w.alloc (.cells #[.int .i64 (n : Int), .slice (some ⟨g, 0, none⟩) (nw n) (nw n)] 60))) := (Below.refl _ _).alloc (Nat.le_refl _) _
  clear hW
  generalize nw n = m at *
  go_enter Try.func54, Try.ntmps54
  go_wp2
  go_loop [3, 9] (fun c i => ∃ k : Nat, k ≤ m ∧ i = .int .i64 k ∧ c = .int .i64 ((cnt G (64 * k) : Nat) : Int)) (fun _ i => m - (intOf i).toNat)
  case atStart => exact ⟨0, Nat.zero_le _, rfl, rfl⟩
  case round =>
    obtain ⟨k, hk, rfl, rfl⟩ := hrel
    have hc := cnt_le G (64 * k)
    by_cases hlt : k < m
    · have hkz : (k : Int) < (m : Int) := by omega
      have c0 := HW.out k hlt
      have hwl := wd_lt G k
      have HC : Hid (cnt G (64 * (k + 1)) = cnt G (64 * k) + cnt (wd G k).testBit 64) := cnt_wd G k
      have hc2 := cnt_le (wd G k).testBit 64
      have HO : Hid (∀ W, Calls Try.prog 71 #[.int .u64 (wd G k : Int)] W fun e w' => e = .returned (.int .i64 (cnt (wd G k).testBit 64 : Nat)) ∧ w' = W) := fun W => ones _ hwl W
      generalize cnt (wd G k).testBit 64 = d at *
      generalize wd G k = x at *
      generalize cnt G (64 * k) = y at *
      go_wp2_with (go_at_call 71; refine (HO.out _).mono ?_; rintro e w' ⟨rfl, rfl⟩)
      go_round
      case rel => exact ⟨k + 1, by omega, by go_num, by rw [HC.out]; go_num⟩
      case measure => simp [intOf]; omega
    · have HE : Hid (k = m) := by show _ = _; omega
      go_wp2
      go_ret
      exact ⟨ret_int (by rw [HE.out]), HB.out⟩

theorem ret_uint {a b : Int} (h : a = b) : Ending.returned (.int .u64 a) = .returned (.int .u64 b) := by rw [h]
theorem use_wrap (P : Nat) : IntKind.u64.wrap (IntKind.u64.wrap ((2 : Int) ^ (min P 64)) - 1) = ((use P : Nat) : Int) := by
  unfold use
  by_cases h : P < 64
  · have h1 : 2 ^ P < 18446744073709551616 := Nat.lt_of_lt_of_le (Nat.pow_lt_pow_right (by omega) h) (by decide)
    have h2 := Nat.one_le_two_pow (n := P)
    rw [if_pos h, Nat.min_eq_left (by omega), pcast, wrapu h1, show ((2 ^ P : Nat) : Int) - 1 = ((2 ^ P - 1 : Nat) : Int) by omega, wrapu (by omega)]
  · rw [if_neg h, Nat.min_eq_right (by omega)]
    decide

set_option maxHeartbeats 1000000 in
theorem inUse (n m g : Nat) (w : World) (hn : n ≤ 12) (hm : m = nw n) :
    Calls Try.prog 73 #[pv n m g] w fun e w' => e = .returned (.int .u64 ((use (2 ^ n) : Nat) : Int)) ∧ Below w.heap.size w w' := by
  subst hm
  obtain ⟨hp, hl⟩ := p12 hn
  have HSI : Hid (∀ W, Calls Try.prog 49 #[pv n (nw n) g] W fun e w' => e = .returned (.int .i64 ((2 ^ n : Nat) : Int)) ∧ Below W.heap.size W w') := fun W => size n g W hn
  have HAL : Hid (Below w.heap.size w (w.alloc (.cells #[.int .i64 (n : Int), .slice (some ⟨g, 0, none⟩) (nw n) (nw n)] 60))) := (Below.refl _ _).alloc (Nat.le_refl _) _
  generalize nw n = m at *
  generalize 2 ^ n = P at *
  go_enter Try.func73, Try.ntmps73
  go_wp2_with (go_at_call 49; refine (HSI.out _).mono ?_; rintro e w1 ⟨rfl, hb⟩; have HB : Hid (Below w.heap.size w w1) := HAL.out.trans (hb.mono HAL.out.size); clear hb)
  go_ret
  exact ⟨ret_uint (use_wrap P), HB.out⟩

/-- What stands while a bit is looked for. -/
structure SN (w : World) (n m g : Nat) (G : Nat → Bool) (W : World) : Prop where
  lay : Lay W w.heap.size (.int .i64 (n : Int)) (.slice (some ⟨g, 0, none⟩) m m)
  wds : Wds W g m G
  bel : Below w.heap.size w W
theorem SN.below {w : World} {n m g : Nat} {G : Nat → Bool} {W W' : World} (h : SN w n m g G W) (k : Below W.heap.size W W') : SN w n m g G W' :=
  ⟨h.lay.below k, h.wds.below k, h.bel.trans (k.mono h.bel.size)⟩
theorem SN.drew {w : World} {n m g : Nat} {G : Nat → Bool} {W : World} (h : SN w n m g G W) : SN w n m g G W.drew :=
  ⟨h.lay.kept (S := fun _ => False) (Kept.refl _ _).drew (fun h => h), h.wds.kept (S := fun _ => False) (Kept.refl _ _).drew (fun h => h), below_drewN h.bel 1⟩

set_option maxRecDepth 100000 in
set_option maxHeartbeats 2000000 in
theorem needs (n g b : Nat) (G : Nat → Bool) (w : World) (hn : n ≤ 12) (hb : b < n) (hW : Wds w g (nw n) G) :
    Calls Try.prog 45 #[pv n (nw n) g, .int .i64 (b : Int)] w fun e w' => e = .returned (.bool ((List.range (2 ^ n)).any fun p => G p != G (p ^^^ 2 ^ (n - 1 - b)))) ∧ Below w.heap.size w w' := by
  obtain ⟨hp, hl⟩ := p12 hn
  have hnw := nw_le hn
  have hgl := hW.lt (by omega)
  have hw1 := wsh (n := n - 1 - b) (by omega)
  have e1 : ((n : Int) - 1 - (b : Int)).toNat = n - 1 - b := by omega
  have hs1 : 2 ^ (n - 1 - b) < 2 ^ n := Nat.pow_lt_pow_right (by omega) (by omega)
  have h0n : (0 : Int) ≤ (n : Int) - 1 - (b : Int) := by omega
  have HX0 : Hid (∀ k : Nat, k < 2 ^ n → k ^^^ 2 ^ (n - 1 - b) < 2 ^ n) := fun k hk => Nat.xor_lt_two_pow hk hs1
  have HXX : Hid (∀ k : Nat, k < 2 ^ n → bits .xor .i64 (k : Int) ((2 ^ (n - 1 - b) : Nat) : Int) = ((k ^^^ 2 ^ (n - 1 - b) : Nat) : Int)) := fun k hk => bxor62 (by omega) (by omega)
  have HSI : Hid (∀ W, Calls Try.prog 49 #[pv n (nw n) g] W fun e w' => e = .returned (.int .i64 ((2 ^ n : Nat) : Int)) ∧ Below W.heap.size W w') := fun W => size n g W hn
  have HAT : Hid (∀ (W : World) (k : Nat), SN w n (nw n) g G W → k < 2 ^ n → Calls Try.prog 67 #[pv n (nw n) g, .int .i64 (k : Int)] W fun e w' => e = .returned (.int .i64 ((G k).toNat : Int)) ∧ SN w n (nw n) g G w') := fun W k h1 h2 => (at_ n g k G W hn h2 h1.wds).mono fun e w' h => ⟨h.1, h1.below h.2⟩
  have HS0 : Hid (SN w n (nw n) g G (w.alloc (.cells #[.int .i64 (n : Int), .slice (some ⟨g, 0, none⟩) (nw n) (nw n)] 60))) := ⟨Lay.made _ _ _ _, hW.kept (S := fun _ => False) ((Kept.refl _ _).alloc _) (fun h => h), (Below.refl _ _).alloc (Nat.le_refl _) _⟩
  clear hW
  generalize 2 ^ (n - 1 - b) = st at *
  generalize nw n = m at *
  generalize 2 ^ n = P at *
  go_enter Try.func45, Try.ntmps45
  go_wp2_with fail
  refine (HSI.out _).mono ?_
  rintro e w1 ⟨rfl, hb1⟩
  have HS1 : Hid (SN w n m g G w1) := HS0.out.below hb1
  clear hb1
  go_wp2_with fail
  go_loopw [15] (fun i wr => ∃ k : Nat, k ≤ P ∧ i = .int .i64 k ∧ SN w n m g G wr ∧ ∀ p, p < k → G p = G (p ^^^ st)) (fun i _ => P - (intOf i).toNat)
  case atStart => exact ⟨0, Nat.zero_le _, rfl, HS1.out, fun p hp => by omega⟩
  case round =>
    obtain ⟨k, hk, rfl, hS, hE⟩ := hrel
    have HS : Hid (SN w n m g G wr) := hS
    have HE : Hid (∀ p, p < k → G p = G (p ^^^ st)) := hE
    obtain ⟨x0, x1, _, _⟩ := hS.lay
    clear hS hE
    by_cases hlt : k < P
    · have hkz : (k : Int) < (P : Int) := by omega
      have hxr := HXX.out k hlt
      have hq := HX0.out k hlt
      generalize hK : k ^^^ st = q at *
      have HQ : Hid (k ^^^ st = q) := hK
      clear hK
      have HAK : Hid (∀ (W : World) (j : Nat), (j = k ∨ j = q) → SN w n m g G W → Calls Try.prog 67 #[pv n m g, .int .i64 (j : Int)] W fun e w' => e = .returned (.int .i64 ((G j).toNat : Int)) ∧ SN w n m g G w') := fun W j hj h => HAT.out W j h (by rcases hj with h | h <;> omega)
      by_cases hGe : G k = G q
      · have hne : (((G k).toNat : Int) != ((G q).toNat : Int)) = false := by rw [hGe]; simp
        have HGE : Hid (G k = G q) := hGe
        clear hGe
        go_wp2_with fail
        go_region_held3 (fun w' => w'.cell? ⟨w.heap.size, 0, none⟩ = some (.int .i64 (n : Int)) ∧ w'.cell? ⟨w.heap.size, 1, none⟩ = some (.slice (some ⟨g, 0, none⟩) m m)) ((first | exact ⟨x0, x1⟩ | exact ⟨hS3.lay.c0, hS3.lay.c1⟩)) ((go_at_call 67; refine (HAK.out _ _ (by first | exact Or.inl rfl | exact Or.inr rfl) ?_).mono ?_; (first | exact hS3 | exact HS.out.drew); rintro e w3 ⟨rfl, hS3⟩))
        all_goals
          go_wp2
          go_roundw
          case rel => exact ⟨k + 1, by omega, by go_num, hS3, fun p hp => by
            by_cases e : p = k
            · subst e; rw [HQ.out]; exact HGE.out
            · exact HE.out p (by omega)⟩
          case measure => simp [intOf]; omega
      · have hne : (((G k).toNat : Int) != ((G q).toNat : Int)) = true := by
          cases h1 : G k <;> cases h2 : G q <;> simp_all
        have HF : Hid (((List.range P).any fun p => G p != G (p ^^^ st)) = true) := by
          show _ = _
          rw [List.any_eq_true]
          exact ⟨k, List.mem_range.2 hlt, by rw [HQ.out]; simpa using hGe⟩
        clear hGe
        go_wp2_with fail
        go_region_held3 (fun w' => w'.cell? ⟨w.heap.size, 0, none⟩ = some (.int .i64 (n : Int)) ∧ w'.cell? ⟨w.heap.size, 1, none⟩ = some (.slice (some ⟨g, 0, none⟩) m m)) ((first | exact ⟨x0, x1⟩ | exact ⟨hS3.lay.c0, hS3.lay.c1⟩)) ((go_at_call 67; refine (HAK.out _ _ (by first | exact Or.inl rfl | exact Or.inr rfl) ?_).mono ?_; (first | exact hS3 | exact HS.out.drew); rintro e w3 ⟨rfl, hS3⟩))
        all_goals
          go_wp2
          go_ret
          exact ⟨ret_bool HF.out.symm, hS3.bel⟩
    · have HF : Hid (((List.range P).any fun p => G p != G (p ^^^ st)) = false) := by
        show _ = _
        rw [List.any_eq_false]
        intro p hp
        rw [HE.out p (by have := List.mem_range.1 hp; omega)]
        simp
      have HBX : Hid (Below w.heap.size w wr) := HS.out.bel
      clear x0 x1
      go_wp2
      go_ret
      exact ⟨ret_bool HF.out.symm, HBX.out⟩

end Go.Proofs.Yteplffphkakliaa.Tc7
