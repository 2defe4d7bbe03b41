/- The walk of the model's Bits. -/
import Derived.Test.YtlicobjkjikjoaaSp11
import Derived.Test.YtlicobjkjikjoaaPkC
namespace Go.Proofs.Ytlicobjkjikjoaa.Sp12
open Go.RowKit
open Nd0 Tm0 Tm1 Tm2 Tm4 Tm5 Tm6 Tm11 Ap0 Ap1 Rw0 Rw1
open Sp5 (sReach)
open Sp10 (sQuant)
open Sp11 (sSentence)
open Ws1 (ret_int ret_bool)
set_option linter.unusedVariables false

set_option maxRecDepth 100000 in
set_option maxHeartbeats 4000000 in
theorem sBits (w : World) (a : Option Addr) (l : List Nd) (c : Nat) (hN : Nodes w a l) :
    Calls Try.prog 24 #[.slice a l.length c] w fun e w' => e = .returned (.int .i64 (bitsL l)) ∧ Below w.heap.size w w' := by
  have HN : Hid (Nodes w a l) := hN
  clear hN
  go_enter Try.func24, Try.ntmps24
  go_wp2_with fail
  refine (sSentence _ a l c HN.out).mono ?_
  rintro e w1 ⟨rfl, hb1⟩
  have HB1 : Hid (Below w.heap.size w w1) := hb1
  clear hb1
  cases hS : sentB l
  · have HE : Hid (bitsL l = 0) := by
      show _ = _
      unfold bitsL; rw [hS]; rfl
    go_wp2
    go_ret
    exact ⟨ret_int HE.out.symm, HB1.out⟩
  · have HE : Hid (bitsL l = bitsTo l l.length) := by
      show _ = _
      unfold bitsL; rw [hS]; rfl
    have HT : Hid (termOk l = true) := sent_ok hS
    obtain ⟨hl1, hl2⟩ := term_len (sent_ok hS)
    clear hS
    go_wp2_with fail
    refine (sReach _ _ l c (HN.out.below HB1.out) HT.out).mono ?_
    rintro e w3 ⟨⟨v3, rfl, ho3⟩, hb3⟩
    obtain ⟨g3, c3, rfl, hg3, hl3, hr3⟩ := row_bools ho3 (by rw [reachL_length]; exact hl1)
    rw [reachL_length] at hr3 ⊢
    have HR3 : Hid (Row w3 g3 l.length (fun i => .bool (flag (reachL l) i))) := hr3
    have HB3 : Hid (Below w.heap.size w w3) := HB1.out.trans (hb3.mono HB1.out.size)
    clear ho3 hb3 hr3 hg3 hl3
    go_wp2_with fail
    go_loop [4, 5] (fun v q => ∃ k : Nat, k ≤ l.length ∧ q = .int .i64 k ∧ v = .int .i64 (bitsTo l k)) (fun _ q => l.length - (intOf q).toNat)
    case atStart => exact ⟨0, Nat.zero_le _, rfl, rfl⟩
    case round =>
      obtain ⟨k, hk, rfl, rfl⟩ := hrel
      by_cases hlt : k < l.length
      · have hlz : (k : Int) < (l.length : Int) := by omega
        have f3 := (HR3.out k hlt).1
        try dsimp only at f3
        rcases (HN.out.below HB3.out).2 with h0 | ⟨xb, xo, rfl, hc⟩
        · omega
        have p0 := (hc k hlt).c0
        have p4 := (hc k hlt).c4
        rw [nth_get hlt] at p0 p4
        clear hc
        have HBN : Hid (bitsTo l (k + 1) = if flag (reachL l) k && quant (nth l k).op then bitsTo l k + (nth l k).b else bitsTo l k) := rfl
        have hbb := bits_bound HT.out k hk
        have HQB : Hid (quant (nth l k).op = true → 1 ≤ (nth l k).b ∧ (nth l k).b ≤ 8) := fun h => quant_b (term_node HT.out hlt) h
        generalize bitsTo l k = z at HBN hbb ⊢
        generalize nth l k = n at p0 p4 HBN HQB
        obtain ⟨hb0, hb9⟩ := hbb
        cases hf : flag (reachL l) k
        · rw [hf] at f3
          have HB2' : Hid (bitsTo l (k + 1) = z) := by
            show _ = _
            rw [HBN.out, hf]; rfl
          go_wp2
          go_round
          case rel => exact ⟨k + 1, by omega, by go_num, by rw [HB2'.out]⟩
          case measure => simp [intOf]; omega
        · rw [hf] at f3
          cases hqu : quant n.op
          · have HB2' : Hid (bitsTo l (k + 1) = z) := by
              show _ = _
              rw [HBN.out, hf, hqu]; rfl
            go_wp2_with (go_at_call 43; refine (sQuant _ _).mono ?_; rintro e w' ⟨rfl, rfl⟩; rw [hqu])
            go_round
            case rel => exact ⟨k + 1, by omega, by go_num, by rw [HB2'.out]⟩
            case measure => simp [intOf]; omega
          · have HB2' : Hid (bitsTo l (k + 1) = z + n.b) := by
              show _ = _
              rw [HBN.out, hf, hqu]; rfl
            obtain ⟨hq1, hq2⟩ := HQB.out hqu
            go_wp2_with (go_at_call 43; refine (sQuant _ _).mono ?_; rintro e w' ⟨rfl, rfl⟩; rw [hqu])
            go_round
            case rel => exact ⟨k + 1, by omega, by go_num, by rw [HB2'.out]⟩
            case measure => simp [intOf]; omega
      · have hlz : ¬ (k : Int) < (l.length : Int) := by omega
        have HKE : Hid (k = l.length) := by show _ = _; omega
        go_wp2
        go_ret
        exact ⟨ret_int (by rw [HE.out, HKE.out]), HB3.out⟩

end Go.Proofs.Ytlicobjkjikjoaa.Sp12
