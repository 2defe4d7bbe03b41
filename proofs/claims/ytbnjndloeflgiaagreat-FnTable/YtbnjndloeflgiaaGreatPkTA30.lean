/- Small texts of mine, one behind the other. -/
import Derived.Deep.QuietTactic
import Derived.BigQuiet
import Derived.Test.YtbnjndloeflgiaaGreatPkTA18
import Derived.Test.YtbnjndloeflgiaaGreatPkTA7
import Derived.Test.YtbnjndloeflgiaaGreatPkTA8
import Derived.Test.YtbnjndloeflgiaaGreatPkTA10
import Derived.Test.YtbnjndloeflgiaaGreatPkTA2
import Derived.Test.YtbnjndloeflgiaaGreatPkTA17
/- The walk of the model's FrontOk. -/
namespace Go.Proofs.YtbnjndloeflgiaaGreat.Fm2
open Go.RowKit
open Nd0 Qa0 Tm0 Tm1 Tm5 Tm6 Ap0 Ap1 Rw0 Rw1 Fr0
open Fm1 (quAt)
open Sp2 (sIn)
open Sp4 (sTermOk)
open Sp5 (sReach)
open Sp10 (sQuant)
open Ws1 (ret_int ret_bool)
set_option linter.unusedVariables false

set_option maxHeartbeats 1000000 in
theorem sZerosW (w : World) :
    Calls Tryz.prog 33 #[] w fun x w' => (∃ g c, x = .returned (.slice (some ⟨g, 0, none⟩) 8 c) ∧ w.heap.size ≤ g ∧ g < w'.heap.size ∧ Row w' g 8 (fun i => .int .i64 (wd (List.replicate 8 0) (i : Int)))) ∧ Below w.heap.size w w' := by
  go_enter Tryz.func33, Tryz.ntmps33
  go_wp2_with fail
  go_loopw [1, 2] (fun v q wr => ∃ i : Nat, i ≤ 8 ∧ q = .int .i64 (i : Int) ∧ Ows wr w.heap.size v (List.replicate i 0) ∧ Below w.heap.size w wr) (fun _ q _ => 8 - (intOf q).toNat)
  case atStart => exact ⟨0, Nat.zero_le _, rfl, Ows.lit w _ (Nat.le_refl _), (Below.refl _ _).alloc (Nat.le_refl _) _⟩
  case round =>
    obtain ⟨i, hi, rfl, ho, hb⟩ := hrel
    have HO : Hid (Ows wr w.heap.size u1 (List.replicate i 0)) := ho
    have HB : Hid (Below w.heap.size w wr) := hb
    have hbs : w.heap.size ≤ wr.heap.size := hb.size
    have HL : Hid ((List.replicate i (0 : Int)).length = i) := List.length_replicate
    have HS : Hid (List.replicate (i + 1) (0 : Int) = List.replicate i 0 ++ [0]) := by
      show _ = _
      rw [List.replicate_succ']
    clear ho hb
    by_cases hlt : i < 8
    · have hz : (i : Int) < 8 := by omega
      generalize List.replicate i (0 : Int) = L at HO HL HS
      go_wp2_with (at_builtin; go_must (refine app_int _ rfl _ _ rfl w.heap.size u1 L 0 rfl rfl HO.out hbs (by rw [HL.out]; omega) ?_; intro g5 cp5 w5 ho5 hk5 hg5; have HO5 : Hid (Ows w5 w.heap.size (.slice (some ⟨g5, 0, none⟩) (L.length + 1) cp5) (L ++ [0])) := ho5; have HB5 : Hid (Below w.heap.size w w5) := HB.out.trans (hk5.below (fun b hb => (HO.out.lt b hb).1) hbs); clear ho5 hk5 hg5))
      go_roundw
      case rel => exact ⟨i + 1, by omega, by go_num, by rw [HS.out]; exact HO5.out, HB5.out⟩
      case measure => simp [intOf]; omega
    · have hz : ¬ (i : Int) < 8 := by omega
      have e8 : i = 8 := by omega
      subst e8
      obtain ⟨g, c, hv, h1, h2, h3⟩ := row_ints HO.out (by simp)
      rw [List.length_replicate] at hv h3
      subst hv
      have HI : Hid (w.heap.size ≤ g ∧ g < wr.heap.size ∧ Row wr g 8 (fun i => .int .i64 (wd (List.replicate 8 0) (i : Int)))) := ⟨h1, h2, h3⟩
      clear h1 h2 h3 HO
      go_wp2
      go_ret
      first
        | exact ⟨HI.out, HB.out⟩
        | exact ⟨⟨g, c, rfl, HI.out⟩, HB.out⟩
        | exact ⟨⟨g, ⟨c, rfl⟩, HI.out⟩, HB.out⟩
        | exact ⟨⟨⟨c, rfl⟩, HI.out⟩, HB.out⟩
        | (trace_state; fail)

set_option maxRecDepth 100000 in
set_option maxHeartbeats 8000000 in
theorem sFrontOk (w : World) (aq a : Option Addr) (q : List Qu) (l : List Nd) (cq c : Nat) (hQ : Qus w aq q) (hN : Nodes w a l) (hl : q.length ≤ 1048576) :
    Calls Tryz.prog 32 #[.slice aq q.length cq, .slice a l.length c] w fun e w' => e = .returned (.bool (frontOkB q l)) ∧ Below w.heap.size w w' := by
  have HN : Hid (Nodes w a l) := hN
  have HQS : Hid (Qus w aq q) := hQ
  clear hN hQ
  go_enter Tryz.func32, Tryz.ntmps32
  go_wp2_with fail
  refine (sTermOk _ a l c HN.out).mono ?_
  rintro e w1 ⟨rfl, hb1⟩
  have HB1 : Hid (Below w.heap.size w w1) := hb1
  clear hb1
  cases hT : termOk l
  · have HF : Hid (frontOkB q l = false) := fo_term hT
    go_wp2
    go_ret
    exact ⟨ret_bool HF.out.symm, HB1.out⟩
  · have HT : Hid (termOk l = true) := hT
    obtain ⟨hl1, hl2⟩ := term_len hT
    clear hT
    rcases (HN.out.below HB1.out).2 with h0 | ⟨xb, xo, rfl, hc⟩
    · omega
    have p1 := (hc (l.length - 1) (by omega)).c1
    rw [nth_get (by omega : l.length - 1 < l.length)] at p1
    clear hc
    have g1 : (0 : Int) ≤ (l.length : Int) - 1 := by omega
    have g2 : (l.length : Int) - 1 < (l.length : Int) := by omega
    cases hw1 : ((nth l (l.length - 1)).w != 1)
    rotate_left
    · have HF : Hid (frontOkB q l = false) := fo_root (by simpa using hw1)
      generalize (nth l (l.length - 1)).w = rw at p1 hw1
      go_wp2
      go_ret
      exact ⟨ret_bool HF.out.symm, HB1.out⟩
    · have hw1' : (nth l (l.length - 1)).w = 1 := by simpa using hw1
      have HW1 : Hid ((nth l (l.length - 1)).w = 1) := hw1'
      clear hw1'
      generalize (nth l (l.length - 1)).w = rw at p1 hw1
      go_wp2_with fail
      refine (sZerosW _).mono ?_
      rintro e w2 ⟨⟨g, cg, rfl, hg1, hg2, hr⟩, hb2⟩
      have HR : Hid (Row w2 g 8 (fun i => .int .i64 (wd (List.replicate 8 0) (i : Int)))) := hr
      have HB2 : Hid (Below w.heap.size w w2) := HB1.out.trans (hb2.mono HB1.out.size)
      have hg0 : w.heap.size ≤ g := Nat.le_trans HB1.out.size hg1
      clear hr hb2 p1 g1 g2 hg1
      go_wp2
      go_loopw [6] (fun x wr => ∃ k : Nat, k ≤ q.length ∧ x = .int .i64 k ∧ ∃ ws, wqTo q k = some ws ∧ Row wr g 8 (fun i => .int .i64 (wd ws (i : Int))) ∧ Kept (fun b => b = g) w2 wr) (fun x _ => q.length - (intOf x).toNat)
      case atStart => exact ⟨0, Nat.zero_le _, rfl, _, rfl, HR.out, Kept.refl _ _⟩
      case round =>
        clear HR
        obtain ⟨k, hk, rfl, ws, hq, hr, hkk⟩ := hrel
        have HWL : Hid (ws.length = 8) := wq_len ws hq
        have HQ : Hid (wqTo q k = some ws) := hq
        have HR : Hid (Row wr g 8 (fun i => .int .i64 (wd ws (i : Int)))) := hr
        have HK : Hid (Kept (fun b => b = g) w2 wr) := hkk
        have HBW : Hid (Below w.heap.size w wr) := HB2.out.trans (hkk.below (fun b (hb : b = g) => by omega) HB2.out.size)
        clear hq hr hkk
        by_cases hlt : k < q.length
        · have hlz : (k : Int) < (q.length : Int) := by omega
          obtain ⟨b, o, rfl, hc⟩ := quAt (HQS.out.below HBW.out) hlt
          obtain ⟨_, p1, p2⟩ := hc k hlt
          clear hc
          have HST : Hid (wqTo q (k + 1) = wqStep ws (qth q k)) := wq_succ HQ.out
          have HBAD : Hid (wqTo q (k + 1) = none → frontOkB q l = false) := fun h => fo_wid (k := k + 1) (by omega) h
          unfold wqStep at HST
          generalize (qth q k).vr = v at HST p1
          generalize (qth q k).bits = bt at HST p2
          by_cases hv : 0 ≤ v ∧ v ≤ 7
          · have hd : decide (0 ≤ v ∧ v ≤ 7) = true := decide_eq_true hv
            obtain ⟨kk, rfl⟩ := Int.eq_ofNat_of_zero_le hv.1
            have hz8 : (kk : Int) < 8 := by omega
            by_cases hb : 1 ≤ bt ∧ bt ≤ 8
            · have hd2 : decide (1 ≤ bt ∧ bt ≤ 8) = true := decide_eq_true hb
              obtain ⟨c1, c2'⟩ := HR.out kk (by omega)
              dsimp only at c1
              by_cases hz : wd ws (kk : Int) = 0
              · have HQ2 : Hid (wqTo q (k + 1) = some (ws.set kk bt)) := by
                  show _ = _
                  rw [HST.out, if_pos ⟨hv.1, hv.2, hb.1, hb.2, hz⟩, Int.toNat_natCast]
                rw [hz] at c1
                clear hv hb
                go_wp2_with (go_at_call 44; refine (sIn _ _ _ _).mono ?_; rintro e w' ⟨rfl, rfl⟩; first | rw [hd] | rw [hd2])
                go_region
                all_goals
                  go_wp2
                  go_roundw
                  case rel => exact ⟨k + 1, by omega, by go_num, ws.set kk bt, HQ2.out, Row.drew (row_set_int HR.out HWL.out (by omega) _), (HK.out.setCell (p := ⟨g, kk, none⟩) rfl _).drew⟩
                  case measure => simp [intOf]; omega
              · have HF : Hid (frontOkB q l = false) := HBAD.out (by rw [HST.out, if_neg (fun h => hz h.2.2.2.2)])
                have hzb : (wd ws (kk : Int) != 0) = true := by simpa using hz
                generalize wd ws (kk : Int) = z at c1 hz hzb
                clear hv hb
                go_wp2_with (go_at_call 44; refine (sIn _ _ _ _).mono ?_; rintro e w' ⟨rfl, rfl⟩; first | rw [hd] | rw [hd2])
                go_ret
                exact ⟨ret_bool HF.out.symm, HBW.out⟩
            · have hd2 : decide (1 ≤ bt ∧ bt ≤ 8) = false := decide_eq_false hb
              have HF : Hid (frontOkB q l = false) := HBAD.out (by rw [HST.out, if_neg (fun h => hb ⟨h.2.2.1, h.2.2.2.1⟩)])
              clear hv hb
              go_wp2_with (go_at_call 44; refine (sIn _ _ _ _).mono ?_; rintro e w' ⟨rfl, rfl⟩; first | rw [hd] | rw [hd2])
              go_ret
              exact ⟨ret_bool HF.out.symm, HBW.out⟩
          · have hd : decide (0 ≤ v ∧ v ≤ 7) = false := decide_eq_false hv
            have HF : Hid (frontOkB q l = false) := HBAD.out (by rw [HST.out, if_neg (fun h => hv ⟨h.1, h.2.1⟩)])
            clear hv
            go_wp2_with (go_at_call 44; refine (sIn _ _ _ _).mono ?_; rintro e w' ⟨rfl, rfl⟩; rw [hd])
            go_ret
            exact ⟨ret_bool HF.out.symm, HBW.out⟩
        · have e2 : k = q.length := by omega
          subst e2
          have hgw : g < wr.heap.size := HR.out.lt (by omega)
          go_wp2_with fail
          refine (sReach _ _ l c (HN.out.below HBW.out) HT.out).mono ?_
          rintro e w3 ⟨⟨v3, rfl, ho3⟩, hb3⟩
          obtain ⟨g3, c3, rfl, hg3, hl3, hr3⟩ := row_bools ho3 (by rw [reachL_length]; exact hl1)
          rw [reachL_length] at hr3 ⊢
          have HR3 : Hid (Row w3 g3 l.length (fun i => .bool (flag (reachL l) i))) := hr3
          have HRW : Hid (Row w3 g 8 (fun i => .int .i64 (wd ws (i : Int)))) := HR.out.below hb3
          have HB3 : Hid (Below w.heap.size w w3) := HBW.out.trans (hb3.mono HBW.out.size)
          clear ho3 hb3 hr3 hg3 hl3 HR HK
          go_wp2
          go_loopw [8] (fun x wr => ∃ k : Nat, k ≤ l.length ∧ x = .int .i64 k ∧ (∀ i, i < k → badF l ws i = false) ∧ Below w3.heap.size w3 wr) (fun x _ => l.length - (intOf x).toNat)
          case atStart => exact ⟨0, Nat.zero_le _, rfl, fun i hi => by omega, Below.refl _ _⟩
          case round =>
            obtain ⟨k, hk, rfl, hgood, hbr⟩ := hrel
            have HG : Hid (∀ i, i < k → badF l ws i = false) := hgood
            have HBR : Hid (Below w3.heap.size w3 wr) := hbr
            have HBT : Hid (Below w.heap.size w wr) := HB3.out.trans (hbr.mono HB3.out.size)
            clear hgood hbr
            by_cases hlt : k < l.length
            · have hlz : (k : Int) < (l.length : Int) := by omega
              have HYES : Hid (badF l ws k = true → frontOkB q l = false) := fun h => fo_bad HQ.out hlt h
              have HNO : Hid (badF l ws k = false → ∀ i, i < k + 1 → badF l ws i = false) := fun h i hi => by
                by_cases e : i = k
                · subst e; exact h
                · exact HG.out i (by omega)
              have HBD : Hid (badF l ws k = (quant (nth l k).op || (flag (reachL l) k && (nth l k).op == 1 && wd ws (nth l k).k != (nth l k).w))) := rfl
              have HSV : Hid ((nth l k).op = 1 ∨ quant (nth l k).op = true → 0 ≤ (nth l k).k ∧ (nth l k).k ≤ 7) := shape_var (term_node HT.out hlt)
              rcases (HN.out.below HBT.out).2 with h0 | ⟨xb', xo', he, hc⟩
              · omega
              cases he
              obtain ⟨p0, p1, p2, _, _, _⟩ := hc k hlt
              rw [nth_get hlt] at p0 p1 p2
              have f3 := ((HR3.out.below HBR.out) k hlt).1
              try dsimp only at f3
              clear hc HG
              generalize nth l k = n at p0 p1 p2 HBD HSV
              generalize flag (reachL l) k = fl at f3 HBD
              cases hqu : quant n.op
              · rw [hqu] at HBD
                have HQC : Hid (∀ W, Calls Tryz.prog 37 #[.int .i64 n.op] W fun e w' => e = .returned (.bool false) ∧ w' = W) := fun W => (sQuant n.op W).mono (fun e w' h => ⟨by rw [h.1, hqu], h.2⟩)
                cases fl
                · have HB : Hid (badF l ws k = false) := HBD.out
                  go_wp2_with fail
                  go_quiet ((go_at_call 37; exact Calls.quiet_of_same (HQC.out _)))
                  go_wp2
                  go_roundw
                  case rel => exact ⟨k + 1, by omega, by go_num, HNO.out HB.out, below_drewN HBR.out _⟩
                  case measure => simp [intOf]; omega
                · cases ho : (n.op == 1)
                  · rw [ho] at HBD
                    have HB : Hid (badF l ws k = false) := HBD.out
                    go_wp2_with fail
                    go_quiet ((go_at_call 37; exact Calls.quiet_of_same (HQC.out _)))
                    go_wp2
                    go_roundw
                    case rel => exact ⟨k + 1, by omega, by go_num, HNO.out HB.out, below_drewN HBR.out _⟩
                    case measure => simp [intOf]; omega
                  · rw [ho] at HBD
                    obtain ⟨hv0, hv7⟩ := HSV.out (.inl (by simpa using ho))
                    clear HSV
                    obtain ⟨kk, hkk⟩ := Int.eq_ofNat_of_zero_le hv0
                    rw [hkk] at p2 HBD hv7
                    have hz8 : (kk : Int) < 8 := by omega
                    obtain ⟨c1, _⟩ := (HRW.out.below HBR.out) kk (by omega)
                    dsimp only at c1
                    clear hkk hv0
                    cases hne : (wd ws (kk : Int) != n.w)
                    · have HB : Hid (badF l ws k = false) := by
                        show _ = _
                        rw [HBD.out, hne]; rfl
                      generalize wd ws (kk : Int) = z at c1 hne
                      go_wp2_with fail
                      go_quiet ((go_at_call 37; exact Calls.quiet_of_same (HQC.out _)))
                      go_wp2
                      go_roundw
                      case rel => exact ⟨k + 1, by omega, by go_num, HNO.out HB.out, below_drewN HBR.out _⟩
                      case measure => simp [intOf]; omega
                    · have HF : Hid (frontOkB q l = false) := HYES.out (by rw [HBD.out, hne]; rfl)
                      generalize wd ws (kk : Int) = z at c1 hne
                      go_wp2_with fail
                      go_quiet ((go_at_call 37; exact Calls.quiet_of_same (HQC.out _)))
                      go_wp2
                      go_ret
                      exact ⟨ret_bool HF.out.symm, below_drewN HBT.out _⟩
              · have HF : Hid (frontOkB q l = false) := HYES.out (by rw [HBD.out, hqu]; rfl)
                have HQC : Hid (∀ W, Calls Tryz.prog 37 #[.int .i64 n.op] W fun e w' => e = .returned (.bool true) ∧ w' = W) := fun W => (sQuant n.op W).mono (fun e w' h => ⟨by rw [h.1, hqu], h.2⟩)
                clear hqu
                go_wp2_with fail
                go_quiet ((go_at_call 37; exact Calls.quiet_of_same (HQC.out _)))
                go_wp2
                go_ret
                exact ⟨ret_bool HF.out.symm, below_drewN HBT.out _⟩
            · have HF : Hid (frontOkB q l = true) := fo_yes HT.out HW1.out HQ.out (fun i hi => HG.out i (by omega))
              go_wp2
              go_ret
              exact ⟨ret_bool HF.out.symm, HBT.out⟩

end Go.Proofs.YtbnjndloeflgiaaGreat.Fm2

/- Walks of chapter 1, fourth part: orders, joins and slices of words, in the program and in its model. -/
namespace Go.Proofs.YtbnjndloeflgiaaGreat.Wd5
open Go.RowKit
open Pl1 Wd1 Wd2 Wd3 Wd4
set_option linter.unusedVariables false

set_option maxHeartbeats 400000 in
theorem iLess (m a b : Int) (w : World) :
    Calls Tryz.prog 118 #[.int .i64 m, .int .i64 a, .int .i64 b] w fun e w' => e = .returned (.int .i64 (vLess m a b)) ∧ w' = w := by
  cases h : (wok m a && wok m b)
  · have HV : Hid (vLess m a b = 0) := by show vLess m a b = 0; simp only [vLess, h]; rfl
    go_enter Tryz.func118, Tryz.ntmps118
    go_wp2_with (first | (go_at_call 128; refine (iTwo _ _ _ _).mono ?_; rintro e w' ⟨rfl, rfl⟩) | (go_at_call 69; refine (iOne _ _).mono ?_; rintro e w' ⟨rfl, rfl⟩))
    go_ret
    exact ⟨ret_int HV.out.symm, rfl⟩
  · by_cases hl : a < b
    · have HV : Hid (vLess m a b = 1) := by show vLess m a b = 1; simp only [vLess, h, hl]; rfl
      go_enter Tryz.func118, Tryz.ntmps118
      go_wp2_with (first | (go_at_call 128; refine (iTwo _ _ _ _).mono ?_; rintro e w' ⟨rfl, rfl⟩) | (go_at_call 69; refine (iOne _ _).mono ?_; rintro e w' ⟨rfl, rfl⟩))
      go_ret
      exact ⟨ret_int HV.out.symm, rfl⟩
    · have HV : Hid (vLess m a b = 0) := by show vLess m a b = 0; simp only [vLess, h, hl]; rfl
      go_enter Tryz.func118, Tryz.ntmps118
      go_wp2_with (first | (go_at_call 128; refine (iTwo _ _ _ _).mono ?_; rintro e w' ⟨rfl, rfl⟩) | (go_at_call 69; refine (iOne _ _).mono ?_; rintro e w' ⟨rfl, rfl⟩))
      go_ret
      exact ⟨ret_int HV.out.symm, rfl⟩

set_option maxHeartbeats 400000 in
theorem iLessSigned (m a b : Int) (w : World) :
    Calls Tryz.prog 120 #[.int .i64 m, .int .i64 a, .int .i64 b] w fun e w' => e = .returned (.int .i64 (vLessSigned m a b)) ∧ w' = w := by
  cases h : (wok m a && wok m b)
  · have HV : Hid (vLessSigned m a b = 0) := by show vLessSigned m a b = 0; simp only [vLessSigned, h]; rfl
    go_enter Tryz.func120, Tryz.ntmps120
    go_wp2_with (first | (go_at_call 128; refine (iTwo _ _ _ _).mono ?_; rintro e w' ⟨rfl, rfl⟩) | (go_at_call 69; refine (iOne _ _).mono ?_; rintro e w' ⟨rfl, rfl⟩))
    go_ret
    exact ⟨ret_int HV.out.symm, rfl⟩
  · obtain ⟨h1, h2, h3, h4, h5, h6, h7⟩ := two_iff h
    have ea : vSigned m a = sgn m a := by rw [Bool.and_eq_true] at h; simp [vSigned, h.1]
    have eb : vSigned m b = sgn m b := by rw [Bool.and_eq_true] at h; simp [vSigned, h.2]
    by_cases hl : sgn m a < sgn m b
    · have HV : Hid (vLessSigned m a b = 1) := by show vLessSigned m a b = 1; simp only [vLessSigned, ea, eb, h, hl]; rfl
      clear ea eb
      go_enter Tryz.func120, Tryz.ntmps120
      go_wp2_with (first | (go_at_call 128; refine (iTwo _ _ _ _).mono ?_; rintro e w' ⟨rfl, rfl⟩) | (go_at_call 69; refine (iOne _ _).mono ?_; rintro e w' ⟨rfl, rfl⟩) | (go_at_call 136; refine (signed _ m _ (by omega) (by omega) h1 h2).mono ?_; rintro e w' ⟨rfl, rfl⟩))
      go_ret
      exact ⟨ret_int HV.out.symm, rfl⟩
    · have HV : Hid (vLessSigned m a b = 0) := by show vLessSigned m a b = 0; simp only [vLessSigned, ea, eb, h, hl]; rfl
      clear ea eb
      go_enter Tryz.func120, Tryz.ntmps120
      go_wp2_with (first | (go_at_call 128; refine (iTwo _ _ _ _).mono ?_; rintro e w' ⟨rfl, rfl⟩) | (go_at_call 69; refine (iOne _ _).mono ?_; rintro e w' ⟨rfl, rfl⟩) | (go_at_call 136; refine (signed _ m _ (by omega) (by omega) h1 h2).mono ?_; rintro e w' ⟨rfl, rfl⟩))
      go_ret
      exact ⟨ret_int HV.out.symm, rfl⟩

set_option maxHeartbeats 400000 in
theorem sLess (m a b : Int) (w : World) :
    Calls Tryz.prog 90 #[.int .i64 m, .int .i64 a, .int .i64 b] w fun e w' => e = .returned (.int .i64 (vLess m a b)) ∧ w' = w := by
  cases h : (wok m a && wok m b)
  · have HV : Hid (vLess m a b = 0) := by show vLess m a b = 0; simp only [vLess, h]; rfl
    go_enter Tryz.func90, Tryz.ntmps90
    go_wp2_with (first | (go_at_call 125; refine (sTwo _ _ _ _).mono ?_; rintro e w' ⟨rfl, rfl⟩) | (go_at_call 89; refine (sOne _ _).mono ?_; rintro e w' ⟨rfl, rfl⟩))
    go_ret
    exact ⟨ret_int HV.out.symm, rfl⟩
  · by_cases hl : a < b
    · have HV : Hid (vLess m a b = 1) := by show vLess m a b = 1; simp only [vLess, h, hl]; rfl
      go_enter Tryz.func90, Tryz.ntmps90
      go_wp2_with (first | (go_at_call 125; refine (sTwo _ _ _ _).mono ?_; rintro e w' ⟨rfl, rfl⟩) | (go_at_call 89; refine (sOne _ _).mono ?_; rintro e w' ⟨rfl, rfl⟩))
      go_ret
      exact ⟨ret_int HV.out.symm, rfl⟩
    · have HV : Hid (vLess m a b = 0) := by show vLess m a b = 0; simp only [vLess, h, hl]; rfl
      go_enter Tryz.func90, Tryz.ntmps90
      go_wp2_with (first | (go_at_call 125; refine (sTwo _ _ _ _).mono ?_; rintro e w' ⟨rfl, rfl⟩) | (go_at_call 89; refine (sOne _ _).mono ?_; rintro e w' ⟨rfl, rfl⟩))
      go_ret
      exact ⟨ret_int HV.out.symm, rfl⟩

set_option maxHeartbeats 400000 in
theorem sLessSigned (m a b : Int) (w : World) :
    Calls Tryz.prog 91 #[.int .i64 m, .int .i64 a, .int .i64 b] w fun e w' => e = .returned (.int .i64 (vLessSigned m a b)) ∧ w' = w := by
  cases h : (wok m a && wok m b)
  · have HV : Hid (vLessSigned m a b = 0) := by show vLessSigned m a b = 0; simp only [vLessSigned, h]; rfl
    go_enter Tryz.func91, Tryz.ntmps91
    go_wp2_with (first | (go_at_call 125; refine (sTwo _ _ _ _).mono ?_; rintro e w' ⟨rfl, rfl⟩) | (go_at_call 89; refine (sOne _ _).mono ?_; rintro e w' ⟨rfl, rfl⟩))
    go_ret
    exact ⟨ret_int HV.out.symm, rfl⟩
  · obtain ⟨h1, h2, h3, h4, h5, h6, h7⟩ := two_iff h
    by_cases hl : vSigned m a < vSigned m b
    · have HV : Hid (vLessSigned m a b = 1) := by show vLessSigned m a b = 1; simp only [vLessSigned, h, hl]; rfl
      skip
      go_enter Tryz.func91, Tryz.ntmps91
      go_wp2_with (first | (go_at_call 125; refine (sTwo _ _ _ _).mono ?_; rintro e w' ⟨rfl, rfl⟩) | (go_at_call 89; refine (sOne _ _).mono ?_; rintro e w' ⟨rfl, rfl⟩) | (go_at_call 126; refine (sSigned _ _ _).mono ?_; rintro e w' ⟨rfl, rfl⟩))
      go_ret
      exact ⟨ret_int HV.out.symm, rfl⟩
    · have HV : Hid (vLessSigned m a b = 0) := by show vLessSigned m a b = 0; simp only [vLessSigned, h, hl]; rfl
      skip
      go_enter Tryz.func91, Tryz.ntmps91
      go_wp2_with (first | (go_at_call 125; refine (sTwo _ _ _ _).mono ?_; rintro e w' ⟨rfl, rfl⟩) | (go_at_call 89; refine (sOne _ _).mono ?_; rintro e w' ⟨rfl, rfl⟩) | (go_at_call 126; refine (sSigned _ _ _).mono ?_; rintro e w' ⟨rfl, rfl⟩))
      go_ret
      exact ⟨ret_int HV.out.symm, rfl⟩

theorem wrap_sub {m n : Int} (h1 : 1 ≤ m) (h2 : m ≤ 8) (hn : 0 ≤ n) (hw : (Lit.int .i64 n).wf = true) : wrap64 (m - n) = m - n := by
  have : n ≤ 9223372036854775807 := by
    simp [Lit.wf, IntKind.min, IntKind.max, IntKind.signed, IntKind.bits] at hw; omega
  unfold wrap64; omega

set_option maxHeartbeats 400000 in
theorem iSlice (m a l n : Int) (w : World) (hwn : (Lit.int .i64 n).wf = true) :
    Calls Tryz.prog 123 #[.int .i64 m, .int .i64 a, .int .i64 l, .int .i64 n] w fun e w' => e = .returned (.int .i64 (vSlice m a l n)) ∧ w' = w := by
  cases h : wok m a
  · clear hwn
    have HV : Hid (vSlice m a l n = 0) := by show vSlice m a l n = 0; simp [vSlice, h]
    go_enter Tryz.func123, Tryz.ntmps123
    go_wp2_with (go_at_call 94; refine (iWordOk _ _ _).mono ?_; rintro e w' ⟨rfl, rfl⟩)
    go_ret
    exact ⟨ret_int HV.out.symm, rfl⟩
  · obtain ⟨h1, h2, h3, h4, h7⟩ := one_iff h
    by_cases hn : n < 1
    · clear hwn
      have HV : Hid (vSlice m a l n = 0) := by show vSlice m a l n = 0; unfold vSlice; rw [if_neg]; simp; omega
      go_enter Tryz.func123, Tryz.ntmps123
      go_wp2_with (go_at_call 94; refine (iWordOk _ _ _).mono ?_; rintro e w' ⟨rfl, rfl⟩)
      go_ret
      exact ⟨ret_int HV.out.symm, rfl⟩
    · have hw := wrap_sub h1 h2 (show 0 ≤ n by omega) hwn
      clear hwn
      by_cases hl : l < 0
      · have HV : Hid (vSlice m a l n = 0) := by show vSlice m a l n = 0; unfold vSlice; rw [if_neg]; simp; omega
        go_enter Tryz.func123, Tryz.ntmps123
        go_wp2_with (go_at_call 94; refine (iWordOk _ _ _).mono ?_; rintro e w' ⟨rfl, rfl⟩)
        go_ret
        exact ⟨ret_int HV.out.symm, rfl⟩
      · by_cases hs : m - n < l
        · have HV : Hid (vSlice m a l n = 0) := by show vSlice m a l n = 0; unfold vSlice; rw [if_neg]; simp; omega
          go_enter Tryz.func123, Tryz.ntmps123
          go_wp2_with (go_at_call 94; refine (iWordOk _ _ _).mono ?_; rintro e w' ⟨rfl, rfl⟩)
          go_ret
          exact ⟨ret_int HV.out.symm, rfl⟩
        · have HV : Hid (vSlice m a l n = a / p2 l.toNat % p2 n.toNat) := by
            show vSlice m a l n = _
            unfold vSlice; rw [if_pos]; simp [h]; omega
          clear hw
          obtain ⟨hd1, hd2⟩ := div_bd h3 (show 0 ≤ p2 l.toNat by have := p2_pos l.toNat; omega)
          have hm := emod_le (a := a / p2 l.toNat) n.toNat
          have hk := p2_le n.toNat (by omega)
          go_enter Tryz.func123, Tryz.ntmps123
          go_wp2_with (first | (go_at_call 94; refine (iWordOk _ _ _).mono ?_; rintro e w' ⟨rfl, rfl⟩) | (go_at_call 135; refine (down a _ _ h3 (by omega) (by omega) (by omega)).mono ?_; rintro e w' ⟨rfl, rfl⟩) | (go_at_call 53; refine (cut _ n _ (by omega) (by omega) (by omega) (by omega)).mono ?_; rintro e w' ⟨rfl, rfl⟩))
          go_ret
          exact ⟨ret_int HV.out.symm, rfl⟩

set_option maxHeartbeats 400000 in
theorem sSlice (m a l n : Int) (w : World) (hwl : (Lit.int .i64 l).wf = true) :
    Calls Tryz.prog 92 #[.int .i64 m, .int .i64 a, .int .i64 l, .int .i64 n] w fun e w' => e = .returned (.int .i64 (vSlice m a l n)) ∧ ∃ k, w' = w.drewN k := by
  cases h : wok m a
  · clear hwl
    have HV : Hid (vSlice m a l n = 0) := by show vSlice m a l n = 0; simp [vSlice, h]
    go_enter Tryz.func92, Tryz.ntmps92
    go_wp2_with (go_at_call 57; refine (sWordOk _ _ _).mono ?_; rintro e w' ⟨rfl, rfl⟩)
    go_ret
    exact ⟨ret_int HV.out.symm, 0, rfl⟩
  · obtain ⟨h1, h2, h3, h4, h7⟩ := one_iff h
    by_cases hl : l < 0
    · clear hwl
      have HV : Hid (vSlice m a l n = 0) := by show vSlice m a l n = 0; unfold vSlice; rw [if_neg]; simp; omega
      go_enter Tryz.func92, Tryz.ntmps92
      go_wp2_with (go_at_call 57; refine (sWordOk _ _ _).mono ?_; rintro e w' ⟨rfl, rfl⟩)
      go_ret
      exact ⟨ret_int HV.out.symm, 0, rfl⟩
    · have hw := wrap_sub h1 h2 (show 0 ≤ l by omega) hwl
      clear hwl
      by_cases hs : 1 ≤ n ∧ n ≤ m - l
      · have hd : decide (1 ≤ n ∧ n ≤ m - l) = true := by simpa using hs
        have HV : Hid (vSlice m a l n = a / p2 l.toNat % p2 n.toNat) := by
          show vSlice m a l n = _
          unfold vSlice; rw [if_pos]; simp [h]; omega
        obtain ⟨hs1, hs2⟩ := hs
        clear hw
        have hq := p2_pos l.toNat
        have hr := p2_pos n.toNat
        obtain ⟨hd1, hd2⟩ := div_bd h3 (show 0 ≤ p2 l.toNat by omega)
        go_enter Tryz.func92, Tryz.ntmps92
        go_wp2_with (first | (go_at_call 57; refine (sWordOk _ _ _).mono ?_; rintro e w' ⟨rfl, rfl⟩) | (go_at_call 44; refine (sIn _ _ _ _).mono ?_; rintro e w' ⟨rfl, rfl⟩) | (go_at_call 34; refine (spow _ _ (by omega) (by omega)).mono ?_; rintro e w' ⟨rfl, rfl⟩))
        go_quiet ((go_at_call 34; exact Calls.quiet_of_same (spow _ _ (by omega) (by omega))))
        go_wp2
        go_ret
        exact ⟨ret_int HV.out.symm, _, rfl⟩
      · have hd : decide (1 ≤ n ∧ n ≤ m - l) = false := by simpa using hs
        have HV : Hid (vSlice m a l n = 0) := by show vSlice m a l n = 0; unfold vSlice; rw [if_neg]; simp; omega
        go_enter Tryz.func92, Tryz.ntmps92
        go_wp2_with (first | (go_at_call 57; refine (sWordOk _ _ _).mono ?_; rintro e w' ⟨rfl, rfl⟩) | (go_at_call 44; refine (sIn _ _ _ _).mono ?_; rintro e w' ⟨rfl, rfl⟩))
        go_ret
        exact ⟨ret_int HV.out.symm, 0, rfl⟩

end Go.Proofs.YtbnjndloeflgiaaGreat.Wd5
