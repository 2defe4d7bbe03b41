/- Walks of the draws' cursor: one byte, a number below n, a pick out of a short list. -/
import Derived.Test.YtficonkpbohpeaaDoorRows
import Derived.WalkSpells
import Derived.WalkLawsBesides
import Derived.Test.YtficonkpbohpeaaDoorDr0
namespace Go.Proofs.YtficonkpbohpeaaDoor.Dr1
open Go.RowKit
open Dr0
set_option linter.unusedVariables false

set_option maxHeartbeats 1000000 in
theorem byte (w : World) (b : Nat) (a : Option Addr) (len cap : Nat) (hc : Cur w b a len cap) :
    Calls Tryd.prog 43 #[.pointer (some ⟨b, 0, none⟩)] w fun e w' => (∃ x : Int, e = .returned (.int .i64 x) ∧ 0 ≤ x ∧ x ≤ 255) ∧ Cur w' b a len cap ∧ Only b w w' := by
  have HC : Hid (Cur w b a len cap) := hc
  obtain ⟨c0, ⟨i, hi, c1⟩, ⟨h, c2⟩, f1, f2, hb, ho⟩ := hc
  by_cases hlt : i < len
  · rcases hb.2 with h0 | ⟨xb, xo, rfl, hcell⟩
    · omega
    have hne : xb ≠ b := by
      rcases ho with h0 | ho
      · omega
      · exact ho ⟨xb, xo, none⟩ rfl
    obtain ⟨v, hv0, hv1, hv⟩ := hcell i hlt
    have hlz : (i : Int) < (len : Int) := by omega
    have hm := hb.1
    unfold maxLen at hm
    go_enter Tryd.func43, Tryd.ntmps43
    go_wp2
    generalize wrap64 (wrap64 (h * 6364136223846793005) + 1442695040888963407) = h1
    go_quiet (fail)
    go_wp2
    generalize bits BinOp.xor IntKind.i64 (h1 / 8589934592) (h1 / 35184372088832) = h2
    have hx := and255 h2
    generalize bits BinOp.and IntKind.i64 h2 255 = x at hx ⊢
    go_quiet (fail)
    go_wp2
    go_quiet (fail)
    go_wp2
    go_ret
    exact ⟨⟨_, rfl, (and255 _).1, (and255 _).2⟩, ((HC.out.setH h1).drewN _).setI i hlt, (((Only.refl b w).setCell rfl _).drewN _).setCell rfl _⟩
  · have hlz : ¬ (i : Int) < (len : Int) := by omega
    go_enter Tryd.func43, Tryd.ntmps43
    go_wp2
    generalize wrap64 (wrap64 (h * 6364136223846793005) + 1442695040888963407) = h1
    go_quiet (fail)
    go_wp2
    generalize bits BinOp.xor IntKind.i64 (h1 / 8589934592) (h1 / 35184372088832) = h2
    go_quiet (fail)
    go_wp2
    go_ret
    exact ⟨⟨_, rfl, (and255 _).1, (and255 _).2⟩, ((HC.out.setH h1).drewN _).drewN _, (((Only.refl b w).setCell rfl _).drewN _).drewN _⟩

set_option maxHeartbeats 1000000 in
theorem below (w : World) (b : Nat) (a : Option Addr) (len cap : Nat) (n : Int) (h0 : 1 ≤ n) (h1 : n ≤ 256) (hc : Cur w b a len cap) :
    Calls Tryd.prog 33 #[.pointer (some ⟨b, 0, none⟩), .int .i64 n] w fun e w' => (∃ x : Int, e = .returned (.int .i64 x) ∧ 0 ≤ x ∧ x < n) ∧ Cur w' b a len cap ∧ Only b w w' := by
  have HC : Hid (Cur w b a len cap) := hc
  clear hc
  go_enter Tryd.func33, Tryd.ntmps33
  go_wp2_with fail
  refine (byte _ b a len cap HC.out).mono ?_
  rintro e w' ⟨⟨x, rfl, hx0, hx1⟩, hc', ho'⟩
  have HC' : Hid (Cur w' b a len cap) := hc'
  have HO' : Hid (Only b w w') := ho'
  clear hc' ho'
  go_wp2
  go_ret
  exact ⟨⟨_, rfl, Int.emod_nonneg _ (by omega), Int.emod_lt_of_pos _ (by omega)⟩, HC'.out, HO'.out⟩

set_option maxHeartbeats 1000000 in
theorem once (w : World) (b : Nat) (a : Option Addr) (len cap : Nat) (n : Int) (h0 : 1 ≤ n) (h1 : n ≤ 256) (hc : Cur w b a len cap) :
    Calls Tryd.prog 34 #[.pointer (some ⟨b, 0, none⟩), .int .i64 n] w fun e w' => (∃ x : Bool, e = .returned (.bool x)) ∧ Cur w' b a len cap ∧ Only b w w' := by
  have HC : Hid (Cur w b a len cap) := hc
  clear hc
  go_enter Tryd.func34, Tryd.ntmps34
  go_wp2_with fail
  refine (below _ b a len cap n h0 h1 HC.out).mono ?_
  rintro e w' ⟨⟨x, rfl, hx0, hx1⟩, hc', ho'⟩
  have HC' : Hid (Cur w' b a len cap) := hc'
  have HO' : Hid (Only b w w') := ho'
  clear hc' ho'
  go_wp2
  go_ret
  exact ⟨⟨_, rfl⟩, HC'.out, HO'.out⟩

/-- A list of whole numbers in a block of its own. -/
def Ints (w : World) (g : Nat) (n : Nat) : Prop := ∀ i, i < n → ∃ v : Int, w.cell? ⟨g, i, none⟩ = some (.int .i64 v)

set_option maxHeartbeats 1000000 in
theorem pickInt (w : World) (b : Nat) (a : Option Addr) (len cap : Nat) (g n c : Nat) (h0 : 1 ≤ n) (h1 : n ≤ 256) (hg : g ≠ b) (hi : Ints w g n) (hc : Cur w b a len cap) :
    Calls Tryd.prog 35 #[.pointer (some ⟨b, 0, none⟩), .slice (some ⟨g, 0, none⟩) n c] w fun e w' => (∃ x : Int, e = .returned (.int .i64 x)) ∧ Cur w' b a len cap ∧ Only b w w' := by
  have HC : Hid (Cur w b a len cap) := hc
  have HI : Hid (Ints w g n) := hi
  clear hc hi
  go_enter Tryd.func35, Tryd.ntmps35
  go_wp2_with fail
  refine (below _ b a len cap _ (by omega) (by omega) HC.out).mono ?_
  rintro e w' ⟨⟨x, rfl, hx0, hx1⟩, hc', ho'⟩
  have HC' : Hid (Cur w' b a len cap) := hc'
  have HO' : Hid (Only b w w') := ho'
  clear hc' ho'
  obtain ⟨v, hv⟩ := HI.out x.toNat (by omega)
  have hv' : w'.cell? ⟨g, x.toNat, none⟩ = some (.int .i64 v) := by rw [HO'.out.cell (lt_of_cell hv) hg]; exact hv
  clear hv
  go_wp2
  go_ret
  exact ⟨⟨_, rfl⟩, HC'.out, HO'.out⟩

end Go.Proofs.YtficonkpbohpeaaDoor.Dr1
