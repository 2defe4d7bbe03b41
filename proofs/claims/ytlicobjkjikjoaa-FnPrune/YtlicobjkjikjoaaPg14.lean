/- The walks of the program's Sentence and Bits. -/
import Derived.Test.YtlicobjkjikjoaaPg13
import Derived.Test.YtlicobjkjikjoaaPg9
import Derived.Test.YtlicobjkjikjoaaPkC
namespace Go.Proofs.Ytlicobjkjikjoaa.Pg14
open Go.RowKit
open Nd0 Pl1 Tm0 Tm1 Tm2 Tm4 Tm5 Tm6 Tm7 Tm8 Tm9 Tm10 Tm11 Ap0 Pg1 Rw0 Pg12 Pg13
open Lx1 (ITermOk)
open Lx2 (IReached)
open Pg9 (iFreeSet)
open Ws1 (ret_int ret_bool)
set_option linter.unusedVariables false

set_option maxRecDepth 100000 in
set_option maxHeartbeats 4000000 in
theorem iSentence (hTO : ITermOk) (hRE : IReached) (w : World) (a : Option Addr) (l : List Nd) (c : Nat) (hN : Nodes w a l) (hcap : l.length ≤ c) (hlen : l.length ≤ 1048576) :
    Calls Try.prog 12 #[.slice a l.length c] w fun e w' => e = .returned (.bool (sentB l)) ∧ Below w.heap.size w w' := by
  have HN : Hid (Nodes w a l) := hN
  have HTO : Hid ITermOk := hTO
  have HRE : Hid IReached := hRE
  have HCAP : Hid (l.length ≤ c) := hcap
  clear hcap hN hTO hRE
  go_enter Try.func12, Try.ntmps12
  go_wp2_with fail
  refine (HTO.out _ a l c HN.out HCAP.out hlen).mono ?_
  rintro e w1 ⟨rfl, hb1⟩
  have HB1 : Hid (Below w.heap.size w w1) := hb1
  clear hb1
  cases hT : termOk l
  · have HF : Hid (sentB l = false) := sent_term hT
    go_wp2
    go_ret
    exact ⟨ret_bool HF.out.symm, HB1.out⟩
  · have HT : Hid (termOk l = true) := hT
    obtain ⟨hl1, hl2⟩ := term_len hT
    clear hT
    rcases (HN.out.below HB1.out).2 with h0 | ⟨xb, xo, rfl, hc⟩
    · omega
    have p1 := (hc (l.length - 1) (by omega)).c1
    rw [nth_get (by omega : l.length - 1 < l.length)] at p1
    clear hc
    have g1 : (0 : Int) ≤ (l.length : Int) - 1 := by omega
    have g2 : (l.length : Int) - 1 < (l.length : Int) := by omega
    cases hw1 : ((nth l (l.length - 1)).w != 1)
    · have hw1' : (nth l (l.length - 1)).w = 1 := by simpa using hw1
      have HW1 : Hid ((nth l (l.length - 1)).w = 1) := hw1'
      clear hw1'
      generalize (nth l (l.length - 1)).w = rw at p1 hw1
      go_wp2_with fail
      refine (iFreeSet _ _ l c (HN.out.below HB1.out) HT.out).mono ?_
      rintro e w2 ⟨⟨s, rfl, hs⟩, hb2⟩
      have HB2 : Hid (Below w.heap.size w w2) := HB1.out.trans (hb2.mono HB1.out.size)
      have HZ : Hid (s = 0 ↔ (freeL l).length = 0) := set_zero HT.out hs
      clear hs hb2 p1 g1 g2
      by_cases hf : s = 0
      · have HF0 : Hid ((freeL l).length = 0) := HZ.out.1 hf
        have hz : ((s : Int) != 0) = false := by simp; omega
        clear hf HZ
        go_wp2_with fail
        refine (HRE.out _ _ l c (HN.out.below HB2.out) HCAP.out hlen).mono ?_
        rintro e w3 ⟨⟨a3, c3, rfl, hi3⟩, hb3⟩
        have HRE2 : Hid (reachedL l = reachTo l l.length) := by
          show _ = _
          unfold reachedL; rw [HT.out]; rfl
        rw [HRE2.out] at hi3 ⊢
        have HI3 : Hid (Ints w3 a3 (reachTo l l.length)) := hi3.ints
        have HB3 : Hid (Below w.heap.size w w3) := HB2.out.trans (hb3.mono HB2.out.size)
        clear hi3 hb3
        go_wp2_with fail
        refine (iBound _ _ a3 l c c3 (HN.out.below HB3.out) HT.out HI3.out).mono ?_
        rintro e w4 ⟨⟨b4, rfl, hy4, hn4⟩, hb4⟩
        have HB4 : Hid (Below w.heap.size w w4) := HB3.out.trans (hb4.mono HB3.out.size)
        have HI4 : Hid (Ints w4 a3 (reachTo l l.length)) := HI3.out.below hb4
        have HY4 : Hid (b4 = true → ∃ ws, quantsTo l l.length = some ws ∧ Wid l ws) := hy4
        have HN4 : Hid (b4 = false → sentB l = false) := hn4
        clear hy4 hn4 hb4
        cases b4
        · have HF : Hid (sentB l = false) := HN4.out rfl
          clear HY4 HN4
          go_wp2
          go_ret
          exact ⟨ret_bool HF.out.symm, HB4.out⟩
        · obtain ⟨ws, hq, hw⟩ := HY4.out rfl
          have HQ : Hid (quantsTo l l.length = some ws) := hq
          have HWI : Hid (Wid l ws) := hw
          clear HY4 HN4 hq hw
          go_wp2_with fail
          refine (iMovable _ _ a3 l c c3 (HN.out.below HB4.out) HT.out HI4.out).mono ?_
          rintro e w5 ⟨⟨b5, rfl, hy5, hn5⟩, hb5⟩
          have HB5 : Hid (Below w.heap.size w w5) := HB4.out.trans (hb5.mono HB4.out.size)
          have HS : Hid (sentB l = b5) := by
            show _ = _
            cases b5
            · exact hn5 rfl
            · exact sent_all HT.out HW1.out HF0.out HQ.out HWI.out (hy5 rfl)
          clear hy5 hn5 hb5
          go_wp2
          go_ret
          exact ⟨ret_bool HS.out.symm, HB5.out⟩
      · have HF : Hid (sentB l = false) := sent_free (fun h => hf (HZ.out.2 h))
        have hz : ((s : Int) != 0) = true := by simp; omega
        clear hf HZ
        go_wp2
        go_ret
        exact ⟨ret_bool HF.out.symm, HB2.out⟩
    · have HF : Hid (sentB l = false) := sent_root (by simpa using hw1)
      generalize (nth l (l.length - 1)).w = rw at p1 hw1
      go_wp2
      go_ret
      exact ⟨ret_bool HF.out.symm, HB1.out⟩

set_option maxRecDepth 100000 in
set_option maxHeartbeats 4000000 in
theorem iQBits (hRE : IReached) (w : World) (a : Option Addr) (l : List Nd) (c : Nat) (hN : Nodes w a l) (hcap : l.length ≤ c) (hlen : l.length ≤ 1048576) (hT : termOk l = true) :
    Calls Try.prog 40 #[.slice a l.length c] w fun e w' => e = .returned (.int .i64 (bitsTo l l.length)) ∧ Below w.heap.size w w' := by
  have HN : Hid (Nodes w a l) := hN
  have HRE : Hid IReached := hRE
  have HCAP : Hid (l.length ≤ c) := hcap
  have HT : Hid (termOk l = true) := hT
  obtain ⟨hl1, hl2⟩ := term_len hT
  clear hcap hN hRE hT
  go_enter Try.func40, Try.ntmps40
  go_wp2_with fail
  refine (HRE.out _ _ l c HN.out HCAP.out hlen).mono ?_
  rintro e w2 ⟨⟨a2, c2, rfl, hi2⟩, hb2⟩
  have HRE2 : Hid (reachedL l = reachTo l l.length) := by
    show _ = _
    unfold reachedL; rw [HT.out]; rfl
  rw [HRE2.out] at hi2 ⊢
  have HI2 : Hid (Ints w2 a2 (reachTo l l.length)) := hi2.ints
  have HB2 : Hid (Below w.heap.size w w2) := hb2
  have hRl := reachTo_length l l.length
  clear hi2 hb2
  go_wp2_with fail
  go_loop [3, 9] (fun v q => ∃ (j : Nat) (x : Nat), j ≤ (reachTo l l.length).length ∧ q = .int .i64 j ∧ x ≤ l.length ∧ (reachTo l x).length = j ∧ v = .int .i64 (bitsTo l x)) (fun _ q => (reachTo l l.length).length - (intOf q).toNat)
  case atStart => exact ⟨0, 0, Nat.zero_le _, rfl, Nat.zero_le _, rfl, rfl⟩
  case round =>
    obtain ⟨j, x, hj, rfl, hxl, hxj, rfl⟩ := hrel
    have HXJ : Hid ((reachTo l x).length = j) := hxj
    clear hxj
    by_cases hlt : j < (reachTo l l.length).length
    · have hjz : (j : Int) < ((reachTo l l.length).length : Int) := by omega
      obtain ⟨y, hy, hyl, hyf, hyj⟩ := reach_at l l.length j hlt
      rcases HI2.out.2 with h0 | ⟨pb, po, rfl, hpc⟩
      · omega
      have q0 := hpc j hlt
      rw [hy] at q0
      clear hpc hy
      rcases (HN.out.below HB2.out).2 with h0 | ⟨xb, xo, rfl, hc⟩
      · omega
      have hyz : (y : Int) < (l.length : Int) := by omega
      have p0 := (hc y hyl).c0
      have p4 := (hc y hyl).c4
      rw [nth_get hyl] at p0 p4
      clear hc
      have HBY : Hid (bitsTo l y = bitsTo l x) := bits_same l (by rw [HXJ.out, hyj])
      have HRS : Hid ((reachTo l (y + 1)).length = j + 1) := reach_step hyf hyj
      have HBN : Hid (bitsTo l (y + 1) = if quant (nth l y).op then bitsTo l x + (nth l y).b else bitsTo l x) := by
        show (if _ then _ else _) = _
        rw [hyf, Bool.true_and, HBY.out]
      have hbb := bits_bound HT.out x hxl
      have HQB : Hid (quant (nth l y).op = true → 1 ≤ (nth l y).b ∧ (nth l y).b ≤ 8) := fun h => quant_b (term_node HT.out hyl) h
      clear hyf hyj
      generalize bitsTo l x = z at HBY HBN hbb ⊢
      generalize nth l y = n at p0 p4 HBN HQB
      obtain ⟨hb0, hb9⟩ := hbb
      cases hqu : quant n.op
      · have HB2' : Hid (bitsTo l (y + 1) = z) := by
          show _ = _
          rw [HBN.out, hqu]; rfl
        go_wp2_with (go_at_call 61; refine (iQuant _ _).mono ?_; rintro e w' ⟨rfl, rfl⟩; rw [hqu])
        go_round
        case rel => exact ⟨j + 1, y + 1, by omega, by go_num, by omega, HRS.out, by rw [HB2'.out]⟩
        case measure => simp [intOf]; omega
      · have HB2' : Hid (bitsTo l (y + 1) = z + n.b) := by
          show _ = _
          rw [HBN.out, hqu]; rfl
        obtain ⟨hq1, hq2⟩ := HQB.out hqu
        go_wp2_with (go_at_call 61; refine (iQuant _ _).mono ?_; rintro e w' ⟨rfl, rfl⟩; rw [hqu])
        go_round
        case rel => exact ⟨j + 1, y + 1, by omega, by go_num, by omega, HRS.out, by rw [HB2'.out]⟩
        case measure => simp [intOf]; omega
    · have hjz : ¬ (j : Int) < ((reachTo l l.length).length : Int) := by omega
      have HBE : Hid (bitsTo l l.length = bitsTo l x) := bits_same l (by rw [HXJ.out]; omega)
      go_wp2
      go_ret
      exact ⟨ret_int (by rw [HBE.out]), HB2.out⟩

set_option maxRecDepth 100000 in
set_option maxHeartbeats 4000000 in
theorem iBits (hTO : ITermOk) (hRE : IReached) (w : World) (a : Option Addr) (l : List Nd) (c : Nat) (hN : Nodes w a l) (hcap : l.length ≤ c) (hlen : l.length ≤ 1048576) :
    Calls Try.prog 16 #[.slice a l.length c] w fun e w' => e = .returned (.int .i64 (bitsL l)) ∧ Below w.heap.size w w' := by
  have HN : Hid (Nodes w a l) := hN
  have HRE : Hid IReached := hRE
  have HSE := iSentence hTO hRE w a l c hN hcap hlen
  have HCAP : Hid (l.length ≤ c) := hcap
  clear hcap hN hTO hRE
  go_enter Try.func16, Try.ntmps16
  go_wp2_with fail
  refine HSE.mono ?_
  rintro e w1 ⟨rfl, hb1⟩
  have HB1 : Hid (Below w.heap.size w w1) := hb1
  clear hb1 HSE
  cases hS : sentB l
  · have HE : Hid (bitsL l = 0) := by
      show _ = _
      unfold bitsL; rw [hS]; rfl
    go_wp2
    go_ret
    exact ⟨ret_int HE.out.symm, HB1.out⟩
  · have HE : Hid (bitsL l = bitsTo l l.length) := by
      show _ = _
      unfold bitsL; rw [hS]; rfl
    have HT : Hid (termOk l = true) := sent_ok hS
    clear hS
    go_wp2_with fail
    refine (iQBits HRE.out _ _ l c (HN.out.below HB1.out) HCAP.out hlen HT.out).mono ?_
    rintro e w2 ⟨rfl, hb2⟩
    have HB2 : Hid (Below w.heap.size w w2) := HB1.out.trans (hb2.mono HB1.out.size)
    clear hb2
    go_wp2
    go_ret
    exact ⟨ret_int HE.out.symm, HB2.out⟩

end Go.Proofs.Ytlicobjkjikjoaa.Pg14
