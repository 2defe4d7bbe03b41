/- Walks of the draws: a cursor made, one of a new list picked. -/
import Derived.Test.YtkcbonocbdfbcaaDoorDr1
namespace Go.Proofs.YtkcbonocbdfbcaaDoor.Dr4
open Go.RowKit
open Dr0 Dr1
set_option linter.unusedVariables false

theorem pickNew (w : World) (b : Nat) (a : Option Addr) (len cap : Nat) (c : Array Value) (T n : Nat) (h0 : 1 ≤ n) (h1 : n ≤ 256) (hC : ∀ i, i < n → ∃ v : Int, c[i]? = some (.int .i64 v)) (hc : Cur w b a len cap) :
    Calls Tryd.prog 44 #[.pointer (some ⟨b, 0, none⟩), .slice (some ⟨w.heap.size, 0, none⟩) n n] (w.alloc (.cells c T)) fun e w' => (∃ x : Int, e = .returned (.int .i64 x)) ∧ Cur w' b a len cap ∧ Only b w w' := by
  have hb := hc.lt
  refine (pickInt _ b a len cap w.heap.size n n h0 h1 (by omega) ?_ (hc.alloc _)).mono ?_
  · intro i hi
    obtain ⟨v, hv⟩ := hC i hi
    exact ⟨v, by rw [World.cell?_alloc_new]; exact hv⟩
  · rintro e w' ⟨h1, h2, h3⟩
    exact ⟨h1, h2, ((Only.refl b w).alloc _).trans h3⟩

set_option maxRecDepth 100000 in
set_option maxHeartbeats 1000000 in
theorem new (w : World) (a : Option Addr) (len cap : Nat) (hb : Bytes w a len) :
    Calls Tryd.prog 23 #[.slice a len cap] w fun e w' => e = .returned (.pointer (some ⟨w.heap.size, 0, none⟩)) ∧ Cur w' w.heap.size a len cap ∧ Below w.heap.size w w' := by
  have hm := hb.1
  unfold maxLen at hm
  have HB : Hid (Bytes w a len) := hb
  clear hb
  go_enter Tryd.func23, Tryd.ntmps23
  go_wp2
  go_loop [3, 4] (fun h i => ∃ (k : Nat) (x : Int), k ≤ len ∧ i = .int .i64 k ∧ h = .int .i64 x) (fun _ i => len - (intOf i).toNat)
  case atStart => exact ⟨0, _, Nat.zero_le _, rfl, rfl⟩
  case round =>
    obtain ⟨k, x, hk, rfl, rfl⟩ := hrel
    by_cases hlt : k < len ∧ k < 4000
    · obtain ⟨hlt, hl4⟩ := hlt
      rcases HB.out.2 with h0 | ⟨xb, xo, rfl, hcell⟩
      · omega
      obtain ⟨v, hv0, hv1, hv⟩ := hcell k hlt
      clear hcell
      go_wp2
      go_round
      case rel => exact ⟨k + 1, _, by omega, by go_num, rfl⟩
      case measure => simp [intOf]; omega
    · have hd : (decide ((k : Int) < (len : Int)) && decide ((k : Int) < 4000)) = false := by simp; omega
      by_cases hlt : k < len
      · have hl4 : ¬ (k : Int) < 4000 := by omega
        clear hd
        go_wp2
        go_ret
        exact ⟨rfl, Cur.made HB.out x _, (Below.refl _ w).alloc (Nat.le_refl _) _⟩
      · have hl4 : ¬ (k : Int) < (len : Int) := by omega
        clear hd
        go_wp2
        go_ret
        exact ⟨rfl, Cur.made HB.out x _, (Below.refl _ w).alloc (Nat.le_refl _) _⟩

end Go.Proofs.YtkcbonocbdfbcaaDoor.Dr4
