/- The program's functions over tables: half, at. -/
import Derived.Test.YtmhambifbimndaaPkJ37
import Derived.Test.YtmhambifbimndaaPkJ32
namespace Go.Proofs.Ytmhambifbimndaa.Te3
open Go.RowKit
open Ta0 Ta1 Ta2 Tc2 Tc4 Tc5 Tc6 Tc7 Tc8 Tc10 Td1 Td2 Te1
open Nd0 (Kept Ints set_other set_same lt_of_cell)
open Ss0 (bs bs_size ret_str bs_ext)
open Ss1 (tl tl_length tl_get tl_take bs_tl tl_bs tl_inj eqb)
set_option linter.unusedVariables false

theorem or_bit {y x : Nat} (hy : y < 100000) (hx : x ≤ 1) : bits .or .i64 ((2 * y : Nat) : Int) (x : Int) = ((2 * y + x : Nat) : Int) := by
  rw [bor62 (by omega) (by omega)]
  have h := Nat.two_pow_add_eq_or_of_lt (i := 1) (b := x) (by omega) y
  rw [show (2 : Nat) ^ 1 * y = 2 * y by omega] at h
  rw [h]

set_option maxHeartbeats 2000000 in
theorem iPlaceOf (a : Option Addr) (l : List Int) (c : Nat) (w : World) (hl : l.length ≤ 12) (hI : Ints w a l) :
    Calls Try.prog 46 #[.slice a l.length c] w fun e w' => (((∀ i, i < l.length → bitB (l.getD i 0) = true) ∧ e = .returned (.tuple #[.int .i64 ((plc l l.length : Nat) : Int), .bool true])) ∨ ((∃ i, i < l.length ∧ bitB (l.getD i 0) = false) ∧ e = .returned (.tuple #[.int .i64 0, .bool false]))) ∧ w' = w := by
  have HI1 : Hid (Ints w a l) := hI
  clear hI
  go_enter Try.func46, Try.ntmps46
  go_wp2
  go_loop [4, 9] (fun p i => ∃ k : Nat, k ≤ l.length ∧ i = .int .i64 k ∧ p = .int .i64 ((plc l k : Nat) : Int) ∧ ∀ j, j < k → bitB (l.getD j 0) = true) (fun _ i => l.length - (intOf i).toNat)
  case atStart => exact ⟨0, Nat.zero_le _, rfl, rfl, fun j hj => by omega⟩
  case round =>
    obtain ⟨k, hk, rfl, rfl, hbt⟩ := hrel
    have hpl : plc l k < 4096 + 1 := by
      have h1 := plc_lt hbt
      have h2 := (p12 (n := k) (by omega)).2
      omega
    have HBT : Hid (∀ j, j < k → bitB (l.getD j 0) = true) := hbt
    clear hbt
    by_cases hlt : k < l.length
    · have hkz : (k : Int) < (l.length : Int) := by omega
      rcases HI1.out.2 with h0 | ⟨xb, xo, rfl, hc⟩
      · omega
      have p0 := hc k hlt
      clear hc
      have hgd : l.getD k 0 = l[k] := by simp [List.getD, hlt]
      have HPS : Hid (plc l (k + 1) = 2 * plc l k + (l.getD k 0).toNat) := rfl
      generalize plc l k = y at *
      rw [← hgd] at p0
      clear hgd
      obtain ⟨x, hx⟩ : ∃ x, x = l.getD k 0 := ⟨_, rfl⟩
      rw [← hx] at p0 HPS
      have HX : Hid (x = l.getD k 0) := hx
      clear hx
      have HIC : Hid (∀ W, Calls Try.prog 44 #[.int .i64 x] W fun e w' => e = .returned (.bool (bitB x)) ∧ w' = W) := fun W => iBitOk x W
      cases hB : bitB x
      · have HBd : Hid (∃ i, i < l.length ∧ bitB (l.getD i 0) = false) := ⟨k, hlt, by rw [← HX.out]; exact hB⟩
        rw [hB] at HIC
        clear hB
        go_wp2_with (go_at_call 44; refine (HIC.out _).mono ?_; rintro e w' ⟨rfl, rfl⟩)
        go_ret2
        exact ⟨.inr ⟨HBd.out, rfl⟩, rfl⟩
      · have hx2 := of_decide_eq_true hB
        rw [hB] at HIC
        have HBx : Hid (bitB x = true) := hB
        clear hB
        obtain ⟨b, rfl, hb⟩ : ∃ b : Nat, x = (b : Int) ∧ b ≤ 1 := ⟨x.toNat, by omega, by omega⟩
        clear hx2
        obtain ⟨z, hz⟩ : ∃ z : Nat, z = 2 * y + b := ⟨_, rfl⟩
        have ho := or_bit (y := y) (x := b) (by omega) hb
        rw [← hz] at ho
        have ho2 : bits .or .i64 (2 * (y : Int)) (b : Int) = (z : Int) := by rw [← ho]; push_cast; rfl
        have ho3 : bits .or .i64 ((y : Int) * 2) (b : Int) = (z : Int) := by rw [Int.mul_comm]; exact ho2
        have HZ : Hid (z = 2 * y + b) := hz
        clear hz ho
        go_wp2_with (go_at_call 44; refine (HIC.out _).mono ?_; rintro e w' ⟨rfl, rfl⟩)
        go_round
        case rel => exact ⟨k + 1, by omega, by go_num, by rw [HPS.out, Int.toNat_natCast, ← HZ.out], fun j hj => by
          by_cases e : j = k
          · rw [e, ← HX.out]; exact HBx.out
          · exact HBT.out j (by omega)⟩
        case measure => simp [intOf]; omega
    · have HK : Hid (k = l.length) := by show _ = _; omega
      go_wp2
      go_ret2
      exact ⟨.inl ⟨fun i hi => HBT.out i (by omega), by rw [HK.out]; rfl⟩, rfl⟩

end Go.Proofs.Ytmhambifbimndaa.Te3
