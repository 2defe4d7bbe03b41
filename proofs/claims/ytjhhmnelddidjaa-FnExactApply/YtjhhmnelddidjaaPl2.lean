/- Plain laws of words: what the laws of chapter 1 ask of the numbers. -/
import Derived.Test.YtjhhmnelddidjaaPkA
namespace Go.Proofs.Ytjhhmnelddidjaa.Pl2
open Go.RowKit
open Pl1

theorem wok_mod {m : Int} (x : Int) (h1 : 1 ≤ m) (h2 : m ≤ 8) : wok m (x % p2 m.toNat) = true :=
  wok_iff.2 ⟨h1, h2, emod_le _⟩
theorem add_eq {m a b : Int} (ha : wok m a = true) (hb : wok m b = true) : vAdd m a b = (a + b) % p2 m.toNat := by simp [vAdd, ha, hb]
theorem sub_eq {m a b : Int} (ha : wok m a = true) (hb : wok m b = true) : vSub m a b = (a - b) % p2 m.toNat := by simp [vSub, ha, hb]
theorem mul_eq {m a b : Int} (ha : wok m a = true) (hb : wok m b = true) : vMul m a b = a * b % p2 m.toNat := by simp [vMul, ha, hb]
theorem flip_eq {m a : Int} (ha : wok m a = true) : vFlip m a = p2 m.toNat - 1 - a := by simp [vFlip, ha]
theorem wok_add {m a b : Int} (ha : wok m a = true) (hb : wok m b = true) : wok m (vAdd m a b) = true := by
  obtain ⟨h1, h2, _⟩ := wok_iff.1 ha
  rw [add_eq ha hb]; exact wok_mod _ h1 h2
theorem wok_sub {m a b : Int} (ha : wok m a = true) (hb : wok m b = true) : wok m (vSub m a b) = true := by
  obtain ⟨h1, h2, _⟩ := wok_iff.1 ha
  rw [sub_eq ha hb]; exact wok_mod _ h1 h2
theorem wok_mul {m a b : Int} (ha : wok m a = true) (hb : wok m b = true) : wok m (vMul m a b) = true := by
  obtain ⟨h1, h2, _⟩ := wok_iff.1 ha
  rw [mul_eq ha hb]; exact wok_mod _ h1 h2
theorem wok_flip {m a : Int} (ha : wok m a = true) : wok m (vFlip m a) = true := by
  obtain ⟨h1, h2, h3, h4⟩ := wok_iff.1 ha
  rw [flip_eq ha]; exact wok_iff.2 ⟨h1, h2, by omega, by omega⟩

theorem sub_add {m a b : Int} (ha : wok m a = true) (hb : wok m b = true) : vSub m (vAdd m a b) b = a := by
  obtain ⟨h1, h2, h3, h4⟩ := wok_iff.1 ha
  rw [sub_eq (wok_add ha hb) hb, add_eq ha hb, Int.emod_sub_emod, show a + b - b = a by omega, Int.emod_eq_of_lt h3 h4]
theorem mul_add {m a b c : Int} (ha : wok m a = true) (hb : wok m b = true) (hc : wok m c = true) : vMul m a (vAdd m b c) = vAdd m (vMul m a b) (vMul m a c) := by
  rw [mul_eq ha (wok_add hb hc), add_eq hb hc, add_eq (wok_mul ha hb) (wok_mul ha hc), mul_eq ha hb, mul_eq ha hc, ← Int.add_emod, Int.mul_emod, Int.emod_emod, ← Int.mul_emod, Int.mul_add]
theorem add_comm {m a b : Int} : vAdd m a b = vAdd m b a := by
  unfold vAdd; rw [Bool.and_comm, Int.add_comm]
theorem wok_zero {m : Int} (h1 : 1 ≤ m) (h2 : m ≤ 8) : wok m 0 = true := wok_iff.2 ⟨h1, h2, by omega, by have := p2_pos m.toNat; omega⟩
theorem p2_two {m : Int} (h1 : 1 ≤ m) : 2 ≤ p2 m.toNat := by
  have := p2_mono (show 1 ≤ m.toNat by omega); have e : p2 1 = 2 := rfl; omega
theorem wok_one {m : Int} (h1 : 1 ≤ m) (h2 : m ≤ 8) : wok m 1 = true := wok_iff.2 ⟨h1, h2, by omega, by have := p2_two h1; omega⟩
theorem flip_sub {m a : Int} (ha : wok m a = true) : vFlip m a = vSub m (vSub m 0 a) 1 := by
  obtain ⟨h1, h2, h3, h4⟩ := wok_iff.1 ha
  have h0 := wok_zero h1 h2
  rw [flip_eq ha, sub_eq (wok_sub h0 ha) (wok_one h1 h2), sub_eq h0 ha, Int.emod_sub_emod, ← Int.add_emod_right, Int.emod_eq_of_lt (by omega) (by omega)]
  omega
theorem flip_flip {m a : Int} (ha : wok m a = true) : vFlip m (vFlip m a) = a := by
  rw [flip_eq (wok_flip ha), flip_eq ha]; omega
theorem div_zero {m a b : Int} (ha : wok m a = true) (hb : wok m b = true) (hz : b = 0) : vDiv m a b = p2 m.toNat - 1 ∧ vRem m a b = a := by
  subst hz; simp [vDiv, vRem, ha, hb]
theorem div_rem {m a b : Int} (ha : wok m a = true) (hb : wok m b = true) (hz : b ≠ 0) : vDiv m a b * b + vRem m a b = a ∧ vRem m a b < b ∧ 0 ≤ vDiv m a b ∧ vDiv m a b ≤ 255 ∧ 0 ≤ vRem m a b := by
  obtain ⟨h1, h2, h3, h4⟩ := wok_iff.1 ha
  obtain ⟨_, _, h5, h6⟩ := wok_iff.1 hb
  have e1 : vDiv m a b = a / b := by simp [vDiv, ha, hb, hz]
  have e2 : vRem m a b = a % b := by simp [vRem, ha, hb, hz]
  have hl := p2_le m.toNat (by omega)
  rw [e1, e2]
  refine ⟨by rw [Int.mul_comm]; exact Int.mul_ediv_add_emod a b, Int.emod_lt_of_pos _ (by omega), Int.ediv_nonneg h3 h5, ?_, Int.emod_nonneg _ hz⟩
  have := Int.ediv_le_self b h3
  omega
theorem none_two {m a b : Int} (h : (wok m a && wok m b) = false) : vAdd m a b = 0 ∧ vSub m a b = 0 ∧ vMul m a b = 0 ∧ vDiv m a b = 0 ∧ vLess m a b = 0 ∧ vLessSigned m a b = 0 := by
  simp [vAdd, vSub, vMul, vDiv, vLess, vLessSigned, h]

end Go.Proofs.Ytjhhmnelddidjaa.Pl2
