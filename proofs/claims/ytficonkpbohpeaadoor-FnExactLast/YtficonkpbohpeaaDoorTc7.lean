/- Packed tables: how many bits are set; the bits in use; whether it needs a bit. -/
import Derived.Test.YtficonkpbohpeaaDoorTc6
namespace Go.Proofs.YtficonkpbohpeaaDoor.Tc7
open Go.RowKit
open Ta0 Ta1 Tc2 Tc4 Tc5
open Nd0 (Kept set_other set_same lt_of_cell)
set_option linter.unusedVariables false

theorem ret_uint {a b : Int} (h : a = b) : Ending.returned (.int .u64 a) = .returned (.int .u64 b) := by rw [h]
theorem use_wrap (P : Nat) : IntKind.u64.wrap (IntKind.u64.wrap ((2 : Int) ^ (min P 64)) - 1) = ((use P : Nat) : Int) := by
  unfold use
  by_cases h : P < 64
  · have h1 : 2 ^ P < 18446744073709551616 := Nat.lt_of_lt_of_le (Nat.pow_lt_pow_right (by omega) h) (by decide)
    have h2 := Nat.one_le_two_pow (n := P)
    rw [if_pos h, Nat.min_eq_left (by omega), pcast, wrapu h1, show ((2 ^ P : Nat) : Int) - 1 = ((2 ^ P - 1 : Nat) : Int) by omega, wrapu (by omega)]
  · rw [if_neg h, Nat.min_eq_right (by omega)]
    decide

/-- What stands while a bit is looked for. -/
structure SN (w : World) (n m g : Nat) (G : Nat → Bool) (W : World) : Prop where
  lay : Lay W w.heap.size (.int .i64 (n : Int)) (.slice (some ⟨g, 0, none⟩) m m)
  wds : Wds W g m G
  bel : Below w.heap.size w W
theorem SN.below {w : World} {n m g : Nat} {G : Nat → Bool} {W W' : World} (h : SN w n m g G W) (k : Below W.heap.size W W') : SN w n m g G W' :=
  ⟨h.lay.below k, h.wds.below k, h.bel.trans (k.mono h.bel.size)⟩
theorem SN.drew {w : World} {n m g : Nat} {G : Nat → Bool} {W : World} (h : SN w n m g G W) : SN w n m g G W.drew :=
  ⟨h.lay.kept (S := fun _ => False) (Kept.refl _ _).drew (fun h => h), h.wds.kept (S := fun _ => False) (Kept.refl _ _).drew (fun h => h), below_drewN h.bel 1⟩

end Go.Proofs.YtficonkpbohpeaaDoor.Tc7
