/- The walks of the program's Sentence and Bits. -/
import Derived.Test.YtebejleeadofcaaPg13
import Derived.Test.YtebejleeadofcaaPkXF52
import Derived.Test.YtebejleeadofcaaPkXF13
namespace Go.Proofs.Ytebejleeadofcaa.Pg14
open Go.RowKit
open Nd0 Pl1 Tm0 Tm1 Tm2 Tm4 Tm5 Tm6 Tm7 Tm8 Tm9 Tm10 Tm11 Ap0 Pg1 Rw0 Pg12 Pg13
open Lx1 (ITermOk)
open Lx2 (IReached)
open Pg9 (iFreeSet)
open Ws1 (ret_int ret_bool)
set_option linter.unusedVariables false

set_option maxRecDepth 100000 in
set_option maxHeartbeats 4000000 in
theorem iSentence (hTO : ITermOk) (hRE : IReached) (w : World) (a : Option Addr) (l : List Nd) (c : Nat) (hN : Nodes w a l) (hcap : l.length ≤ c) (hlen : l.length ≤ 1048576) :
    Calls Try.prog 21 #[.slice a l.length c] w fun e w' => e = .returned (.bool (sentB l)) ∧ Below w.heap.size w w' := by
  have HN : Hid (Nodes w a l) := hN
  have HTO : Hid ITermOk := hTO
  have HRE : Hid IReached := hRE
  have HCAP : Hid (l.length ≤ c) := hcap
  clear hcap hN hTO hRE
  go_enter Try.func21, Try.ntmps21
  go_wp2_with fail
  refine (HTO.out _ a l c HN.out HCAP.out hlen).mono ?_
  rintro e w1 ⟨rfl, hb1⟩
  have HB1 : Hid (Below w.heap.size w w1) := hb1
  clear hb1
  cases hT : termOk l
  · have HF : Hid (sentB l = false) := sent_term hT
    go_wp2
    go_ret
    exact ⟨ret_bool HF.out.symm, HB1.out⟩
  · have HT : Hid (termOk l = true) := hT
    obtain ⟨hl1, hl2⟩ := term_len hT
    clear hT
    rcases (HN.out.below HB1.out).2 with h0 | ⟨xb, xo, rfl, hc⟩
    · omega
    have p1 := (hc (l.length - 1) (by omega)).c1
    rw [nth_get (by omega : l.length - 1 < l.length)] at p1
    clear hc
    have g1 : (0 : Int) ≤ (l.length : Int) - 1 := by omega
    have g2 : (l.length : Int) - 1 < (l.length : Int) := by omega
    cases hw1 : ((nth l (l.length - 1)).w != 1)
    · have hw1' : (nth l (l.length - 1)).w = 1 := by simpa using hw1
      have HW1 : Hid ((nth l (l.length - 1)).w = 1) := hw1'
      clear hw1'
      generalize (nth l (l.length - 1)).w = rw at p1 hw1
      go_wp2_with fail
      refine (iFreeSet _ _ l c (HN.out.below HB1.out) HT.out).mono ?_
      rintro e w2 ⟨⟨s, rfl, hs⟩, hb2⟩
      have HB2 : Hid (Below w.heap.size w w2) := HB1.out.trans (hb2.mono HB1.out.size)
      have HZ : Hid (s = 0 ↔ (freeL l).length = 0) := set_zero HT.out hs
      clear hs hb2 p1 g1 g2
      by_cases hf : s = 0
      · have HF0 : Hid ((freeL l).length = 0) := HZ.out.1 hf
        have hz : ((s : Int) != 0) = false := by simp; omega
        clear hf HZ
        go_wp2_with fail
        refine (HRE.out _ _ l c (HN.out.below HB2.out) HCAP.out hlen).mono ?_
        rintro e w3 ⟨⟨a3, c3, rfl, hi3⟩, hb3⟩
        have HRE2 : Hid (reachedL l = reachTo l l.length) := by
          show _ = _
          unfold reachedL; rw [HT.out]; rfl
        rw [HRE2.out] at hi3 ⊢
        have HI3 : Hid (Ints w3 a3 (reachTo l l.length)) := hi3.ints
        have HB3 : Hid (Below w.heap.size w w3) := HB2.out.trans (hb3.mono HB2.out.size)
        clear hi3 hb3
        go_wp2_with fail
        refine (iBound _ _ a3 l c c3 (HN.out.below HB3.out) HT.out HI3.out).mono ?_
        rintro e w4 ⟨⟨b4, rfl, hy4, hn4⟩, hb4⟩
        have HB4 : Hid (Below w.heap.size w w4) := HB3.out.trans (hb4.mono HB3.out.size)
        have HI4 : Hid (Ints w4 a3 (reachTo l l.length)) := HI3.out.below hb4
        have HY4 : Hid (b4 = true → ∃ ws, quantsTo l l.length = some ws ∧ Wid l ws) := hy4
        have HN4 : Hid (b4 = false → sentB l = false) := hn4
        clear hy4 hn4 hb4
        cases b4
        · have HF : Hid (sentB l = false) := HN4.out rfl
          clear HY4 HN4
          go_wp2
          go_ret
          exact ⟨ret_bool HF.out.symm, HB4.out⟩
        · obtain ⟨ws, hq, hw⟩ := HY4.out rfl
          have HQ : Hid (quantsTo l l.length = some ws) := hq
          have HWI : Hid (Wid l ws) := hw
          clear HY4 HN4 hq hw
          go_wp2_with fail
          refine (iMovable _ _ a3 l c c3 (HN.out.below HB4.out) HT.out HI4.out).mono ?_
          rintro e w5 ⟨⟨b5, rfl, hy5, hn5⟩, hb5⟩
          have HB5 : Hid (Below w.heap.size w w5) := HB4.out.trans (hb5.mono HB4.out.size)
          have HS : Hid (sentB l = b5) := by
            show _ = _
            cases b5
            · exact hn5 rfl
            · exact sent_all HT.out HW1.out HF0.out HQ.out HWI.out (hy5 rfl)
          clear hy5 hn5 hb5
          go_wp2
          go_ret
          exact ⟨ret_bool HS.out.symm, HB5.out⟩
      · have HF : Hid (sentB l = false) := sent_free (fun h => hf (HZ.out.2 h))
        have hz : ((s : Int) != 0) = true := by simp; omega
        clear hf HZ
        go_wp2
        go_ret
        exact ⟨ret_bool HF.out.symm, HB2.out⟩
    · have HF : Hid (sentB l = false) := sent_root (by simpa using hw1)
      generalize (nth l (l.length - 1)).w = rw at p1 hw1
      go_wp2
      go_ret
      exact ⟨ret_bool HF.out.symm, HB1.out⟩

end Go.Proofs.Ytebejleeadofcaa.Pg14
