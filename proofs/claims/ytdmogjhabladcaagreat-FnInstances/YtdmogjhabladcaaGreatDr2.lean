/- Walks of the draws of chapter 1: a cursor made, widths and values drawn. -/
import Derived.Test.YtdmogjhabladcaaGreatPkD
import Derived.Test.YtdmogjhabladcaaGreatPkI
namespace Go.Proofs.YtdmogjhabladcaaGreat.Dr2
open Go.RowKit
open Dr0 Dr1 Pl1 Wd1
set_option linter.unusedVariables false

set_option maxHeartbeats 1000000 in
theorem belowBig (w : World) (b : Nat) (a : Option Addr) (len cap : Nat) (n : Int) (h0 : 257 ≤ n) (hc : Cur w b a len cap) :
    Calls Tryz.prog 84 #[.pointer (some ⟨b, 0, none⟩), .int .i64 n] w fun e w' => (∃ x : Int, e = .returned (.int .i64 x) ∧ 0 ≤ x ∧ x < n) ∧ Cur w' b a len cap ∧ Only b w w' := by
  have HC : Hid (Cur w b a len cap) := hc
  clear hc
  go_enter Tryz.func84, Tryz.ntmps84
  go_wp2_with fail
  refine (byte _ b a len cap HC.out).mono ?_
  rintro e w1 ⟨⟨x, rfl, hx0, hx1⟩, hc', ho'⟩
  have HC1 : Hid (Cur w1 b a len cap) := hc'
  have HO1 : Hid (Only b w w1) := ho'
  clear hc' ho'
  go_wp2_with fail
  refine (byte _ b a len cap HC1.out).mono ?_
  rintro e w2 ⟨⟨y, rfl, hy0, hy1⟩, hc', ho'⟩
  have HC2 : Hid (Cur w2 b a len cap) := hc'
  have HO2 : Hid (Only b w w2) := HO1.out.trans ho'
  clear hc' ho'
  go_wp2_with fail
  refine (byte _ b a len cap HC2.out).mono ?_
  rintro e w3 ⟨⟨z, rfl, hz0, hz1⟩, hc', ho'⟩
  have HC3 : Hid (Cur w3 b a len cap) := hc'
  have HO3 : Hid (Only b w w3) := HO2.out.trans ho'
  clear hc' ho'
  go_wp2_with fail
  refine (byte _ b a len cap HC3.out).mono ?_
  rintro e w4 ⟨⟨u, rfl, hu0, hu1⟩, hc', ho'⟩
  have HC4 : Hid (Cur w4 b a len cap) := hc'
  have HO4 : Hid (Only b w w4) := HO3.out.trans ho'
  clear hc' ho'
  go_wp2
  go_ret
  exact ⟨⟨_, rfl, Int.emod_nonneg _ (by omega), Int.emod_lt_of_pos _ (by omega)⟩, HC4.out, HO4.out⟩

theorem pickNew (w : World) (b : Nat) (a : Option Addr) (len cap : Nat) (c : Array Value) (T n : Nat) (h0 : 1 ≤ n) (h1 : n ≤ 256) (hC : ∀ i, i < n → ∃ v : Int, c[i]? = some (.int .i64 v)) (hc : Cur w b a len cap) :
    Calls Tryz.prog 109 #[.pointer (some ⟨b, 0, none⟩), .slice (some ⟨w.heap.size, 0, none⟩) n n] (w.alloc (.cells c T)) fun e w' => (∃ x : Int, e = .returned (.int .i64 x)) ∧ Cur w' b a len cap ∧ Only b w w' := by
  have hb := hc.lt
  refine (pickInt _ b a len cap w.heap.size n n h0 h1 (by omega) ?_ (hc.alloc _)).mono ?_
  · intro i hi
    obtain ⟨v, hv⟩ := hC i hi
    exact ⟨v, by rw [World.cell?_alloc_new]; exact hv⟩
  · rintro e w' ⟨h1, h2, h3⟩
    exact ⟨h1, h2, ((Only.refl b w).alloc _).trans h3⟩

set_option maxRecDepth 100000 in
set_option maxHeartbeats 1000000 in
theorem new (w : World) (a : Option Addr) (len cap : Nat) (hb : Bytes w a len) :
    Calls Tryz.prog 41 #[.slice a len cap] w fun e w' => e = .returned (.pointer (some ⟨w.heap.size, 0, none⟩)) ∧ Cur w' w.heap.size a len cap ∧ Below w.heap.size w w' := by
  have hm := hb.1
  unfold maxLen at hm
  have HB : Hid (Bytes w a len) := hb
  clear hb
  go_enter Tryz.func41, Tryz.ntmps41
  go_wp2
  go_loop [3, 4] (fun h i => ∃ (k : Nat) (x : Int), k ≤ len ∧ i = .int .i64 k ∧ h = .int .i64 x) (fun _ i => len - (intOf i).toNat)
  case atStart => exact ⟨0, _, Nat.zero_le _, rfl, rfl⟩
  case round =>
    obtain ⟨k, x, hk, rfl, rfl⟩ := hrel
    by_cases hlt : k < len ∧ k < 4000
    · obtain ⟨hlt, hl4⟩ := hlt
      rcases HB.out.2 with h0 | ⟨xb, xo, rfl, hcell⟩
      · omega
      obtain ⟨v, hv0, hv1, hv⟩ := hcell k hlt
      clear hcell
      go_wp2
      go_round
      case rel => exact ⟨k + 1, _, by omega, by go_num, rfl⟩
      case measure => simp [intOf]; omega
    · have hd : (decide ((k : Int) < (len : Int)) && decide ((k : Int) < 4000)) = false := by simp; omega
      by_cases hlt : k < len
      · have hl4 : ¬ (k : Int) < 4000 := by omega
        clear hd
        go_wp2
        go_ret
        exact ⟨rfl, Cur.made HB.out x _, (Below.refl _ w).alloc (Nat.le_refl _) _⟩
      · have hl4 : ¬ (k : Int) < (len : Int) := by omega
        clear hd
        go_wp2
        go_ret
        exact ⟨rfl, Cur.made HB.out x _, (Below.refl _ w).alloc (Nat.le_refl _) _⟩

end Go.Proofs.YtdmogjhabladcaaGreat.Dr2
