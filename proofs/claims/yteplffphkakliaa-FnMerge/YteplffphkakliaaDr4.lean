/- Walks of the draws: a cursor made, one of a new list picked. -/
import Derived.Test.YteplffphkakliaaDr1
namespace Go.Proofs.Yteplffphkakliaa.Dr4
open Go.RowKit
open Dr0 Dr1
set_option linter.unusedVariables false

set_option maxRecDepth 100000 in
set_option maxHeartbeats 1000000 in
theorem new (w : World) (a : Option Addr) (len cap : Nat) (hb : Bytes w a len) :
    Calls Try.prog 39 #[.slice a len cap] w fun e w' => e = .returned (.pointer (some ⟨w.heap.size, 0, none⟩)) ∧ Cur w' w.heap.size a len cap ∧ Below w.heap.size w w' := by
  have hm := hb.1
  unfold maxLen at hm
  have HB : Hid (Bytes w a len) := hb
  clear hb
  go_enter Try.func39, Try.ntmps39
  go_wp2
  go_loop [3, 4] (fun h i => ∃ (k : Nat) (x : Int), k ≤ len ∧ i = .int .i64 k ∧ h = .int .i64 x) (fun _ i => len - (intOf i).toNat)
  case atStart => exact ⟨0, _, Nat.zero_le _, rfl, rfl⟩
  case round =>
    obtain ⟨k, x, hk, rfl, rfl⟩ := hrel
    by_cases hlt : k < len ∧ k < 4000
    · obtain ⟨hlt, hl4⟩ := hlt
      rcases HB.out.2 with h0 | ⟨xb, xo, rfl, hcell⟩
      · omega
      obtain ⟨v, hv0, hv1, hv⟩ := hcell k hlt
      clear hcell
      go_wp2
      go_round
      case rel => exact ⟨k + 1, _, by omega, by go_num, rfl⟩
      case measure => simp [intOf]; omega
    · have hd : (decide ((k : Int) < (len : Int)) && decide ((k : Int) < 4000)) = false := by simp; omega
      by_cases hlt : k < len
      · have hl4 : ¬ (k : Int) < 4000 := by omega
        clear hd
        go_wp2
        go_ret
        exact ⟨rfl, Cur.made HB.out x _, (Below.refl _ w).alloc (Nat.le_refl _) _⟩
      · have hl4 : ¬ (k : Int) < (len : Int) := by omega
        clear hd
        go_wp2
        go_ret
        exact ⟨rfl, Cur.made HB.out x _, (Below.refl _ w).alloc (Nat.le_refl _) _⟩

end Go.Proofs.Yteplffphkakliaa.Dr4
