/- Small texts of mine, one behind the other. -/
import Derived.Test.YtficonkpbohpeaaDoorDr1
import Derived.Test.YtficonkpbohpeaaDoorPkT25
/- Draws below greater numbers, and of a text out of a list. -/
namespace Go.Proofs.YtficonkpbohpeaaDoor.Dr5
open Go.RowKit
open Nd0 Ss0 Ss2
open Dr0 (Cur Only)
open Dr1 (byte below)
set_option linter.unusedVariables false

set_option maxHeartbeats 1000000 in
theorem belowBig (w : World) (b : Nat) (a : Option Addr) (len cap : Nat) (n : Int) (h0 : 256 < n) (h1 : n ≤ 1048576) (hc : Cur w b a len cap) :
    Calls Tryd.prog 33 #[.pointer (some ⟨b, 0, none⟩), .int .i64 n] w fun e w' => (∃ x : Int, e = .returned (.int .i64 x) ∧ 0 ≤ x ∧ x < n) ∧ Cur w' b a len cap ∧ Only b w w' := by
  have HC : Hid (Cur w b a len cap) := hc
  clear hc
  go_enter Tryd.func33, Tryd.ntmps33
  go_wp2_with fail
  refine (byte _ b a len cap HC.out).mono ?_
  rintro e w1 ⟨⟨x1, rfl, hx10, hx11⟩, hc1, ho1⟩
  have HC1 : Hid (Cur w1 b a len cap) := hc1
  have HO1 : Hid (Only b w w1) := ho1
  clear hc1 ho1
  go_wp2_with fail
  refine (byte _ b a len cap HC1.out).mono ?_
  rintro e w2 ⟨⟨x2, rfl, hx20, hx21⟩, hc2, ho2⟩
  have HC2 : Hid (Cur w2 b a len cap) := hc2
  have HO2 : Hid (Only b w w2) := HO1.out.trans ho2
  clear hc2 ho2
  go_wp2_with fail
  refine (byte _ b a len cap HC2.out).mono ?_
  rintro e w3 ⟨⟨x3, rfl, hx30, hx31⟩, hc3, ho3⟩
  have HC3 : Hid (Cur w3 b a len cap) := hc3
  have HO3 : Hid (Only b w w3) := HO2.out.trans ho3
  clear hc3 ho3
  go_wp2_with fail
  refine (byte _ b a len cap HC3.out).mono ?_
  rintro e w4 ⟨⟨x4, rfl, hx40, hx41⟩, hc4, ho4⟩
  have HC4 : Hid (Cur w4 b a len cap) := hc4
  have HO4 : Hid (Only b w w4) := HO3.out.trans ho4
  clear hc4 ho4
  go_wp2
  go_ret
  exact ⟨⟨_, rfl, Int.emod_nonneg _ (by omega), Int.emod_lt_of_pos _ (by omega)⟩, HC4.out, HO4.out⟩
theorem belowAny (w : World) (b : Nat) (a : Option Addr) (len cap : Nat) (n : Int) (h0 : 1 ≤ n) (h1 : n ≤ 1048576) (hc : Cur w b a len cap) :
    Calls Tryd.prog 33 #[.pointer (some ⟨b, 0, none⟩), .int .i64 n] w fun e w' => (∃ x : Int, e = .returned (.int .i64 x) ∧ 0 ≤ x ∧ x < n) ∧ Cur w' b a len cap ∧ Only b w w' := by
  by_cases h : n ≤ 256
  · exact below w b a len cap n h0 h hc
  · exact belowBig w b a len cap n (by omega) h1 hc

set_option maxHeartbeats 1000000 in
theorem pickStr (w : World) (b : Nat) (a : Option Addr) (len cap : Nat) (g : Nat) (l : List (List UInt8)) (c : Nat) (h0 : 1 ≤ l.length) (h1 : l.length ≤ 256) (hg : g ≠ b) (hi : Strs w (some ⟨g, 0, none⟩) l) (hc : Cur w b a len cap) :
    Calls Tryd.prog 38 #[.pointer (some ⟨b, 0, none⟩), .slice (some ⟨g, 0, none⟩) l.length c] w fun e w' => (∃ x ∈ l, e = .returned (.string (bs x))) ∧ Cur w' b a len cap ∧ Only b w w' := by
  have HC : Hid (Cur w b a len cap) := hc
  have HI : Hid (Strs w (some ⟨g, 0, none⟩) l) := hi
  clear hc hi
  go_enter Tryd.func38, Tryd.ntmps38
  go_wp2_with fail
  refine (below _ b a len cap _ (by omega) (by omega) HC.out).mono ?_
  rintro e w' ⟨⟨x, rfl, hx0, hx1⟩, hc', ho'⟩
  have HC' : Hid (Cur w' b a len cap) := hc'
  have HO' : Hid (Only b w w') := ho'
  obtain ⟨k, rfl⟩ := Int.eq_ofNat_of_zero_le hx0
  have hkl : k < l.length := by omega
  rcases HI.out.2 with h | ⟨b', o', he, hcl⟩
  · omega
  cases he
  have q0 : w'.cell? ⟨g, k, none⟩ = some (.string (bs l[k])) := by
    have := hcl k hkl
    rw [Nat.zero_add] at this
    rw [ho'.cell (p := ⟨g, k, none⟩) (lt_of_cell this) hg]; exact this
  clear hc' ho' hcl
  have HM : Hid (l[k] ∈ l) := List.getElem_mem hkl
  generalize l[k] = y at q0 HM
  go_wp2
  go_ret
  exact ⟨⟨y, HM.out, rfl⟩, HC'.out, HO'.out⟩

end Go.Proofs.YtficonkpbohpeaaDoor.Dr5

/- Walks of the draws: a cursor made, one of a new list picked. -/
namespace Go.Proofs.YtficonkpbohpeaaDoor.Dr4
open Go.RowKit
open Dr0 Dr1
set_option linter.unusedVariables false

theorem pickNew (w : World) (b : Nat) (a : Option Addr) (len cap : Nat) (c : Array Value) (T n : Nat) (h0 : 1 ≤ n) (h1 : n ≤ 256) (hC : ∀ i, i < n → ∃ v : Int, c[i]? = some (.int .i64 v)) (hc : Cur w b a len cap) :
    Calls Tryd.prog 35 #[.pointer (some ⟨b, 0, none⟩), .slice (some ⟨w.heap.size, 0, none⟩) n n] (w.alloc (.cells c T)) fun e w' => (∃ x : Int, e = .returned (.int .i64 x)) ∧ Cur w' b a len cap ∧ Only b w w' := by
  have hb := hc.lt
  refine (pickInt _ b a len cap w.heap.size n n h0 h1 (by omega) ?_ (hc.alloc _)).mono ?_
  · intro i hi
    obtain ⟨v, hv⟩ := hC i hi
    exact ⟨v, by rw [World.cell?_alloc_new]; exact hv⟩
  · rintro e w' ⟨h1, h2, h3⟩
    exact ⟨h1, h2, ((Only.refl b w).alloc _).trans h3⟩

set_option maxRecDepth 100000 in
set_option maxHeartbeats 1000000 in
theorem new (w : World) (a : Option Addr) (len cap : Nat) (hb : Bytes w a len) :
    Calls Tryd.prog 28 #[.slice a len cap] w fun e w' => e = .returned (.pointer (some ⟨w.heap.size, 0, none⟩)) ∧ Cur w' w.heap.size a len cap ∧ Below w.heap.size w w' := by
  have hm := hb.1
  unfold maxLen at hm
  have HB : Hid (Bytes w a len) := hb
  clear hb
  go_enter Tryd.func28, Tryd.ntmps28
  go_wp2
  go_loop [3, 4] (fun h i => ∃ (k : Nat) (x : Int), k ≤ len ∧ i = .int .i64 k ∧ h = .int .i64 x) (fun _ i => len - (intOf i).toNat)
  case atStart => exact ⟨0, _, Nat.zero_le _, rfl, rfl⟩
  case round =>
    obtain ⟨k, x, hk, rfl, rfl⟩ := hrel
    by_cases hlt : k < len ∧ k < 4000
    · obtain ⟨hlt, hl4⟩ := hlt
      rcases HB.out.2 with h0 | ⟨xb, xo, rfl, hcell⟩
      · omega
      obtain ⟨v, hv0, hv1, hv⟩ := hcell k hlt
      clear hcell
      go_wp2
      go_round
      case rel => exact ⟨k + 1, _, by omega, by go_num, rfl⟩
      case measure => simp [intOf]; omega
    · have hd : (decide ((k : Int) < (len : Int)) && decide ((k : Int) < 4000)) = false := by simp; omega
      by_cases hlt : k < len
      · have hl4 : ¬ (k : Int) < 4000 := by omega
        clear hd
        go_wp2
        go_ret
        exact ⟨rfl, Cur.made HB.out x _, (Below.refl _ w).alloc (Nat.le_refl _) _⟩
      · have hl4 : ¬ (k : Int) < (len : Int) := by omega
        clear hd
        go_wp2
        go_ret
        exact ⟨rfl, Cur.made HB.out x _, (Below.refl _ w).alloc (Nat.le_refl _) _⟩

end Go.Proofs.YtficonkpbohpeaaDoor.Dr4
