/- The program's forks over a bit anywhere: made. -/
import Derived.Test.YteplffphkakliaaDp2
import Derived.Test.YteplffphkakliaaDp4
import Derived.Test.YteplffphkakliaaDe1
namespace Go.Proofs.Yteplffphkakliaa.Dp7
open Go.RowKit
open Ta0 Ta1 Tc2 Tc4 Tc5 De0 De1 Dv0 Dp1 Dp2 Dp4
open Nd0 (Kept set_other set_same lt_of_cell)
open Nd6 (Bools)
set_option linter.unusedVariables false

theorem low_put (s p : Nat) : p + p / 2 ^ s * 2 ^ s = put1 s 0 p := by
  unfold put1
  have h := Nat.div_add_mod p (2 ^ s)
  rw [Nat.pow_succ, ← Nat.mul_assoc, Nat.zero_mul, Nat.add_zero]
  rw [Nat.mul_comm] at h
  omega

set_option maxRecDepth 100000 in
set_option maxHeartbeats 4000000 in
theorem halfA {G : Nat → Bool} {ra : Option Addr} {c n g s p b0 b1 b2 : Nat} (hn : n ≤ 12) (hs : s < n) (hp : p < 2 ^ (n - 1)) (w : World) (hR : Rb w b0 ra c n (nw n) g) (hK : Nb w b1 ((put1 s 0 p : Nat) : Int)) (hP : Nb w b2 ((2 ^ s : Nat) : Int)) (hW : Wds w g (nw n) G) :
    TellsA w b0 b1 b2 (fun b => G (put1 s b p)) := by
  intro W b hb hbe
  obtain ⟨x0, x1, x2⟩ : Rb W b0 ra c n (nw n) g := by
    have h1 := hR.lt
    exact ⟨by rw [hbe.cell (p := ⟨b0, 0, none⟩) h1]; exact hR.c0, by rw [hbe.cell (p := ⟨b0, 1, none⟩) h1]; exact hR.c1, by rw [hbe.cell (p := ⟨b0, 2, none⟩) h1]; exact hR.c2⟩
  have y0 : W.cell? ⟨b1, 0, none⟩ = some (.int .i64 ((put1 s 0 p : Nat) : Int)) := hK.below hbe
  have z0 : W.cell? ⟨b2, 0, none⟩ = some (.int .i64 ((2 ^ s : Nat) : Int)) := hP.below hbe
  have hpl : put1 s b p < 2 ^ n := by
    have := put_lt (s := s) (k := n - 1 - s) (c := b) (p := p) hb (by rw [show n - 1 - s + s = n - 1 by omega]; exact hp)
    rwa [show n - 1 - s + s + 1 = n by omega] at this
  have hp0 : put1 s 0 p < 2 ^ n := by
    have := put_lt (s := s) (k := n - 1 - s) (c := 0) (p := p) (by omega) (by rw [show n - 1 - s + s = n - 1 by omega]; exact hp)
    rwa [show n - 1 - s + s + 1 = n by omega] at this
  have hst := p12 (n := s) (by omega)
  have hnp := p12 hn
  have HC : Hid (Calls Try.prog 67 #[pv n (nw n) g, .int .i64 ((put1 s b p : Nat) : Int)] W fun e w' => e = .returned (.int .i64 ((G (put1 s b p)).toNat : Int)) ∧ Below W.heap.size W w') := at_ n g _ G W hn hpl (hW.below hbe)
  have he : put1 s b p = put1 s 0 p + b * 2 ^ s := by
    rcases (by omega : b = 0 ∨ b = 1) with rfl | rfl
    · omega
    · rw [put_high]; omega
  show Calls _ _ _ _ fun e w' => e = .returned (.int .i64 ((G (put1 s b p)).toNat : Int)) ∧ _
  generalize G (put1 s b p) = r at *
  have hz : ((put1 s b p : Nat) : Int) = ((put1 s 0 p : Nat) : Int) + (b : Int) * ((2 ^ s : Nat) : Int) := by rw [he]; push_cast; rfl
  rw [hz] at HC
  clear hz he hpl hW hP hK hR hp
  generalize put1 s 0 p = lo at *
  generalize 2 ^ s = st at *
  generalize nw n = m at *
  have hlo : lo < 4096 := by omega
  clear hnp hp0
  rcases (by omega : b = 0 ∨ b = 1) with rfl | rfl
  · have HC1 : Hid (Calls Try.prog 67 #[pv n m g, .int .i64 (lo : Int)] W fun e w' => e = .returned (.int .i64 (r.toNat : Int)) ∧ Below W.heap.size W w') := by
      have h := HC.out
      rw [show (lo : Int) + ((0 : Nat) : Int) * (st : Int) = (lo : Int) by simp] at h
      exact h
    clear HC
    show Calls Try.prog 68 #[.int .i64 0, .pointer (some ⟨b0, 0, none⟩), .pointer (some ⟨b1, 0, none⟩), .pointer (some ⟨b2, 0, none⟩)] W _
    go_enter Try.func68, Try.ntmps68
    go_wp2_with (go_at_call 67; refine HC1.out.mono ?_; rintro e w1 ⟨rfl, hb1⟩; have HB1 : Hid (Below W.heap.size W w1) := hb1; clear hb1)
    go_ret
    exact ⟨rfl, HB1.out⟩
  · have HC1 : Hid (Calls Try.prog 67 #[pv n m g, .int .i64 ((lo : Int) + (st : Int))] W fun e w' => e = .returned (.int .i64 (r.toNat : Int)) ∧ Below W.heap.size W w') := by
      have h := HC.out
      rw [show (lo : Int) + ((1 : Nat) : Int) * (st : Int) = (lo : Int) + (st : Int) by simp] at h
      exact h
    clear HC
    show Calls Try.prog 68 #[.int .i64 1, .pointer (some ⟨b0, 0, none⟩), .pointer (some ⟨b1, 0, none⟩), .pointer (some ⟨b2, 0, none⟩)] W _
    go_enter Try.func68, Try.ntmps68
    go_wp2_with (go_at_call 67; refine HC1.out.mono ?_; rintro e w1 ⟨rfl, hb1⟩; have HB1 : Hid (Below W.heap.size W w1) := hb1; clear hb1)
    go_ret
    exact ⟨rfl, HB1.out⟩

set_option maxRecDepth 100000 in
set_option maxHeartbeats 4000000 in
theorem iAcross (ra : Option Addr) (c n m g k p : Nat) (w : World) (hn : n ≤ 12) (hk : k < n) (hp : p < 4096) :
    Calls Try.prog 50 #[rv ra c n m g, .int .i64 (k : Int), .int .i64 (p : Int)] w fun e w' => ∃ b0 b1 b2, e = .returned (.agg #[fk 68 b0 b1 b2]) ∧ Rb w' b0 ra c n m g ∧ Nb w' b1 ((put1 (n - 1 - k) 0 p : Nat) : Int) ∧ Nb w' b2 ((2 ^ (n - 1 - k) : Nat) : Int) ∧ Below w.heap.size w w' := by
  have hst := p12 (n := n - 1 - k) (by omega)
  have hw := wsh (n := n - 1 - k) (by omega)
  have e1 : ((n : Int) - 1 - (k : Int)).toNat = n - 1 - k := by omega
  have h0n : (0 : Int) ≤ (n : Int) - 1 - (k : Int) := by omega
  have hlo := low_put (n - 1 - k) p
  obtain ⟨dq, hdq⟩ : ∃ dq : Nat, dq = p / 2 ^ (n - 1 - k) := ⟨_, rfl⟩
  have hmm : dq * 2 ^ (n - 1 - k) ≤ p := by rw [hdq]; exact Nat.div_mul_le_self _ _
  rw [← hdq] at hlo
  obtain ⟨mm, hm2⟩ : ∃ mm : Nat, mm = dq * 2 ^ (n - 1 - k) := ⟨_, rfl⟩
  rw [← hm2] at hlo hmm
  have hdl : dq ≤ p := by rw [hdq]; exact Nat.div_le_self _ _
  have hdv2 : (p : Int) / ((2 ^ (n - 1 - k) : Nat) : Int) = (dq : Int) := by rw [hdq]; exact (Int.natCast_ediv p (2 ^ (n - 1 - k))).symm
  have hdv : IntKind.i64.wrap ((p : Int) / ((2 ^ (n - 1 - k) : Nat) : Int)) = (dq : Int) := by rw [hdv2, IntKind.wrap_i64] <;> omega
  have hmv : (dq : Int) * ((2 ^ (n - 1 - k) : Nat) : Int) = (mm : Int) := by rw [hm2]; push_cast; rfl
  rw [← hlo]
  clear hdq hm2 hlo
  generalize 2 ^ (n - 1 - k) = st at *
  have hst0 : ((st : Int) == 0) = false := beq_eq_false_iff_ne.2 (by omega)
  have hst3 : ¬ st = 0 := by omega
  have hst4 : (1 : Int) ≤ (st : Int) := by omega
  have hp4 : (0 : Int) ≤ (p : Int) := by omega
  have hmv2 : IntKind.i64.wrap ((dq : Int) * (st : Int)) = (mm : Int) := by rw [hmv, IntKind.wrap_i64] <;> omega
  go_enter Try.func50, Try.ntmps50
  go_wp2_with fail
  go_region
  go_wp2
  refine bodyPost_ret (v := .agg #[fk 68 w.heap.size (w.heap.size + 1 + 1 + 1) (w.heap.size + 1 + 1)]) (by simp [results, Try.results50, go_sem]) rfl ⟨w.heap.size, w.heap.size + 1 + 1 + 1, w.heap.size + 1 + 1, rfl, ?_, ?_, ?_, ?_⟩
  · exact ((((Rb.made w ra c n m g _).alloc _).alloc _).alloc _).kept (S := fun _ => False) (Kept.refl _ _).drew (fun h => h)
  · have h := Nb.made (((w.alloc (.cells #[.slice ra n c, .int .i64 (n : Int), .slice (some ⟨g, 0, none⟩) m m] 62)).alloc (.cells #[fk 68 w.heap.size (w.heap.size + 1 + 1 + 1) (w.heap.size + 1 + 1)] 74)).alloc (.cells #[.int .i64 (st : Int)] 3)) ((p : Int) + (mm : Int)) 3
    have e : (((w.alloc (.cells #[.slice ra n c, .int .i64 (n : Int), .slice (some ⟨g, 0, none⟩) m m] 62)).alloc (.cells #[fk 68 w.heap.size (w.heap.size + 1 + 1 + 1) (w.heap.size + 1 + 1)] 74)).alloc (.cells #[.int .i64 (st : Int)] 3)).heap.size = w.heap.size + 1 + 1 + 1 := by simp
    rw [e] at h
    have e2 : ((p + mm : Nat) : Int) = (p : Int) + (mm : Int) := by push_cast; rfl
    rw [e2]
    exact h
  · have h := (Nb.made ((w.alloc (.cells #[.slice ra n c, .int .i64 (n : Int), .slice (some ⟨g, 0, none⟩) m m] 62)).alloc (.cells #[fk 68 w.heap.size (w.heap.size + 1 + 1 + 1) (w.heap.size + 1 + 1)] 74)) (st : Int) 3).alloc (.cells #[.int .i64 ((p : Int) + (mm : Int))] 3)
    have e : ((w.alloc (.cells #[.slice ra n c, .int .i64 (n : Int), .slice (some ⟨g, 0, none⟩) m m] 62)).alloc (.cells #[fk 68 w.heap.size (w.heap.size + 1 + 1 + 1) (w.heap.size + 1 + 1)] 74)).heap.size = w.heap.size + 1 + 1 := by simp
    rw [e] at h
    exact h
  · exact ((((((Below.refl w.heap.size w).alloc (by simp) _).alloc (by simp <;> omega) _).alloc (by simp <;> omega) _).alloc (by simp <;> omega) _)).drew

end Go.Proofs.Yteplffphkakliaa.Dp7
