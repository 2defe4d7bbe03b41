/- Small texts of mine, one behind the other. -/
import Derived.Test.YtejoeahehljhnaaGreatPkIQ21
import Derived.Test.YtejoeahehljhnaaGreatPkIQ10
import Derived.Test.YtejoeahehljhnaaGreatPkIQ12
import Derived.Test.YtejoeahehljhnaaGreatPkIQ2
import Derived.Test.YtejoeahehljhnaaGreatPkIQ0
import Derived.Test.YtejoeahehljhnaaGreatPkIQ4
/- The walk of the model's FrontOk. -/
namespace Go.Proofs.YtejoeahehljhnaaGreat.Fm2
open Go.RowKit
open Nd0 Qa0 Tm0 Tm1 Tm5 Tm6 Ap0 Ap1 Rw0 Rw1 Fr0
open Fm1 (quAt)
open Sp2 (sIn)
open Sp4 (sTermOk)
open Sp5 (sReach)
open Sp10 (sQuant)
open Ws1 (ret_int ret_bool)
set_option linter.unusedVariables false

set_option maxHeartbeats 1000000 in
theorem sZerosW (w : World) :
    Calls Tryz.prog 26 #[] w fun x w' => (∃ g c, x = .returned (.slice (some ⟨g, 0, none⟩) 8 c) ∧ w.heap.size ≤ g ∧ g < w'.heap.size ∧ Row w' g 8 (fun i => .int .i64 (wd (List.replicate 8 0) (i : Int)))) ∧ Below w.heap.size w w' := by
  go_enter Tryz.func26, Tryz.ntmps26
  go_wp2_with fail
  go_loopw [1, 2] (fun v q wr => ∃ i : Nat, i ≤ 8 ∧ q = .int .i64 (i : Int) ∧ Ows wr w.heap.size v (List.replicate i 0) ∧ Below w.heap.size w wr) (fun _ q _ => 8 - (intOf q).toNat)
  case atStart => exact ⟨0, Nat.zero_le _, rfl, Ows.lit w _ (Nat.le_refl _), (Below.refl _ _).alloc (Nat.le_refl _) _⟩
  case round =>
    obtain ⟨i, hi, rfl, ho, hb⟩ := hrel
    have HO : Hid (Ows wr w.heap.size u1 (List.replicate i 0)) := ho
    have HB : Hid (Below w.heap.size w wr) := hb
    have hbs : w.heap.size ≤ wr.heap.size := hb.size
    have HL : Hid ((List.replicate i (0 : Int)).length = i) := List.length_replicate
    have HS : Hid (List.replicate (i + 1) (0 : Int) = List.replicate i 0 ++ [0]) := by
      show _ = _
      rw [List.replicate_succ']
    clear ho hb
    by_cases hlt : i < 8
    · have hz : (i : Int) < 8 := by omega
      generalize List.replicate i (0 : Int) = L at HO HL HS
      go_wp2_with (at_builtin; go_must (refine app_int _ rfl _ _ rfl w.heap.size u1 L 0 rfl rfl HO.out hbs (by rw [HL.out]; omega) ?_; intro g5 cp5 w5 ho5 hk5 hg5; have HO5 : Hid (Ows w5 w.heap.size (.slice (some ⟨g5, 0, none⟩) (L.length + 1) cp5) (L ++ [0])) := ho5; have HB5 : Hid (Below w.heap.size w w5) := HB.out.trans (hk5.below (fun b hb => (HO.out.lt b hb).1) hbs); clear ho5 hk5 hg5))
      go_roundw
      case rel => exact ⟨i + 1, by omega, by go_num, by rw [HS.out]; exact HO5.out, HB5.out⟩
      case measure => simp [intOf]; omega
    · have hz : ¬ (i : Int) < 8 := by omega
      have e8 : i = 8 := by omega
      subst e8
      obtain ⟨g, c, hv, h1, h2, h3⟩ := row_ints HO.out (by simp)
      rw [List.length_replicate] at hv h3
      subst hv
      have HI : Hid (w.heap.size ≤ g ∧ g < wr.heap.size ∧ Row wr g 8 (fun i => .int .i64 (wd (List.replicate 8 0) (i : Int)))) := ⟨h1, h2, h3⟩
      clear h1 h2 h3 HO
      go_wp2
      go_ret
      first
        | exact ⟨HI.out, HB.out⟩
        | exact ⟨⟨g, c, rfl, HI.out⟩, HB.out⟩
        | exact ⟨⟨g, ⟨c, rfl⟩, HI.out⟩, HB.out⟩
        | exact ⟨⟨⟨c, rfl⟩, HI.out⟩, HB.out⟩
        | (trace_state; fail)

set_option maxRecDepth 100000 in
set_option maxHeartbeats 8000000 in
theorem sFrontOk (w : World) (aq a : Option Addr) (q : List Qu) (l : List Nd) (cq c : Nat) (hQ : Qus w aq q) (hN : Nodes w a l) (hl : q.length ≤ 1048576) :
    Calls Tryz.prog 23 #[.slice aq q.length cq, .slice a l.length c] w fun e w' => e = .returned (.bool (frontOkB q l)) ∧ Below w.heap.size w w' := by
  have HN : Hid (Nodes w a l) := hN
  have HQS : Hid (Qus w aq q) := hQ
  clear hN hQ
  go_enter Tryz.func23, Tryz.ntmps23
  go_wp2_with fail
  refine (sTermOk _ a l c HN.out).mono ?_
  rintro e w1 ⟨rfl, hb1⟩
  have HB1 : Hid (Below w.heap.size w w1) := hb1
  clear hb1
  cases hT : termOk l
  · have HF : Hid (frontOkB q l = false) := fo_term hT
    go_wp2
    go_ret
    exact ⟨ret_bool HF.out.symm, HB1.out⟩
  · have HT : Hid (termOk l = true) := hT
    obtain ⟨hl1, hl2⟩ := term_len hT
    clear hT
    rcases (HN.out.below HB1.out).2 with h0 | ⟨xb, xo, rfl, hc⟩
    · omega
    have p1 := (hc (l.length - 1) (by omega)).c1
    rw [nth_get (by omega : l.length - 1 < l.length)] at p1
    clear hc
    have g1 : (0 : Int) ≤ (l.length : Int) - 1 := by omega
    have g2 : (l.length : Int) - 1 < (l.length : Int) := by omega
    cases hw1 : ((nth l (l.length - 1)).w != 1)
    rotate_left
    · have HF : Hid (frontOkB q l = false) := fo_root (by simpa using hw1)
      generalize (nth l (l.length - 1)).w = rw at p1 hw1
      go_wp2
      go_ret
      exact ⟨ret_bool HF.out.symm, HB1.out⟩
    · have hw1' : (nth l (l.length - 1)).w = 1 := by simpa using hw1
      have HW1 : Hid ((nth l (l.length - 1)).w = 1) := hw1'
      clear hw1'
      generalize (nth l (l.length - 1)).w = rw at p1 hw1
      go_wp2_with fail
      refine (sZerosW _).mono ?_
      rintro e w2 ⟨⟨g, cg, rfl, hg1, hg2, hr⟩, hb2⟩
      have HR : Hid (Row w2 g 8 (fun i => .int .i64 (wd (List.replicate 8 0) (i : Int)))) := hr
      have HB2 : Hid (Below w.heap.size w w2) := HB1.out.trans (hb2.mono HB1.out.size)
      have hg0 : w.heap.size ≤ g := Nat.le_trans HB1.out.size hg1
      clear hr hb2 p1 g1 g2 hg1
      go_wp2
      go_loopw [6] (fun x wr => ∃ k : Nat, k ≤ q.length ∧ x = .int .i64 k ∧ ∃ ws, wqTo q k = some ws ∧ Row wr g 8 (fun i => .int .i64 (wd ws (i : Int))) ∧ Kept (fun b => b = g) w2 wr) (fun x _ => q.length - (intOf x).toNat)
      case atStart => exact ⟨0, Nat.zero_le _, rfl, _, rfl, HR.out, Kept.refl _ _⟩
      case round =>
        clear HR
        obtain ⟨k, hk, rfl, ws, hq, hr, hkk⟩ := hrel
        have HWL : Hid (ws.length = 8) := wq_len ws hq
        have HQ : Hid (wqTo q k = some ws) := hq
        have HR : Hid (Row wr g 8 (fun i => .int .i64 (wd ws (i : Int)))) := hr
        have HK : Hid (Kept (fun b => b = g) w2 wr) := hkk
        have HBW : Hid (Below w.heap.size w wr) := HB2.out.trans (hkk.below (fun b (hb : b = g) => by omega) HB2.out.size)
        clear hq hr hkk
        by_cases hlt : k < q.length
        · have hlz : (k : Int) < (q.length : Int) := by omega
          obtain ⟨b, o, rfl, hc⟩ := quAt (HQS.out.below HBW.out) hlt
          obtain ⟨_, p1, p2⟩ := hc k hlt
          clear hc
          have HST : Hid (wqTo q (k + 1) = wqStep ws (qth q k)) := wq_succ HQ.out
          have HBAD : Hid (wqTo q (k + 1) = none → frontOkB q l = false) := fun h => fo_wid (k := k + 1) (by omega) h
          unfold wqStep at HST
          generalize (qth q k).vr = v at HST p1
          generalize (qth q k).bits = bt at HST p2
          by_cases hv : 0 ≤ v ∧ v ≤ 7
          · have hd : decide (0 ≤ v ∧ v ≤ 7) = true := decide_eq_true hv
            obtain ⟨kk, rfl⟩ := Int.eq_ofNat_of_zero_le hv.1
            have hz8 : (kk : Int) < 8 := by omega
            by_cases hb : 1 ≤ bt ∧ bt ≤ 8
            · have hd2 : decide (1 ≤ bt ∧ bt ≤ 8) = true := decide_eq_true hb
              obtain ⟨c1, c2'⟩ := HR.out kk (by omega)
              dsimp only at c1
              by_cases hz : wd ws (kk : Int) = 0
              · have HQ2 : Hid (wqTo q (k + 1) = some (ws.set kk bt)) := by
                  show _ = _
                  rw [HST.out, if_pos ⟨hv.1, hv.2, hb.1, hb.2, hz⟩, Int.toNat_natCast]
                rw [hz] at c1
                clear hv hb
                go_wp2_with (go_at_call 33; refine (sIn _ _ _ _).mono ?_; rintro e w' ⟨rfl, rfl⟩; first | rw [hd] | rw [hd2])
                go_region
                all_goals
                  go_wp2
                  go_roundw
                  case rel => exact ⟨k + 1, by omega, by go_num, ws.set kk bt, HQ2.out, Row.drew (row_set_int HR.out HWL.out (by omega) _), (HK.out.setCell (p := ⟨g, kk, none⟩) rfl _).drew⟩
                  case measure => simp [intOf]; omega
              · have HF : Hid (frontOkB q l = false) := HBAD.out (by rw [HST.out, if_neg (fun h => hz h.2.2.2.2)])
                have hzb : (wd ws (kk : Int) != 0) = true := by simpa using hz
                generalize wd ws (kk : Int) = z at c1 hz hzb
                clear hv hb
                go_wp2_with (go_at_call 33; refine (sIn _ _ _ _).mono ?_; rintro e w' ⟨rfl, rfl⟩; first | rw [hd] | rw [hd2])
                go_ret
                exact ⟨ret_bool HF.out.symm, HBW.out⟩
            · have hd2 : decide (1 ≤ bt ∧ bt ≤ 8) = false := decide_eq_false hb
              have HF : Hid (frontOkB q l = false) := HBAD.out (by rw [HST.out, if_neg (fun h => hb ⟨h.2.2.1, h.2.2.2.1⟩)])
              clear hv hb
              go_wp2_with (go_at_call 33; refine (sIn _ _ _ _).mono ?_; rintro e w' ⟨rfl, rfl⟩; first | rw [hd] | rw [hd2])
              go_ret
              exact ⟨ret_bool HF.out.symm, HBW.out⟩
          · have hd : decide (0 ≤ v ∧ v ≤ 7) = false := decide_eq_false hv
            have HF : Hid (frontOkB q l = false) := HBAD.out (by rw [HST.out, if_neg (fun h => hv ⟨h.1, h.2.1⟩)])
            clear hv
            go_wp2_with (go_at_call 33; refine (sIn _ _ _ _).mono ?_; rintro e w' ⟨rfl, rfl⟩; rw [hd])
            go_ret
            exact ⟨ret_bool HF.out.symm, HBW.out⟩
        · have e2 : k = q.length := by omega
          subst e2
          have hgw : g < wr.heap.size := HR.out.lt (by omega)
          go_wp2_with fail
          refine (sReach _ _ l c (HN.out.below HBW.out) HT.out).mono ?_
          rintro e w3 ⟨⟨v3, rfl, ho3⟩, hb3⟩
          obtain ⟨g3, c3, rfl, hg3, hl3, hr3⟩ := row_bools ho3 (by rw [reachL_length]; exact hl1)
          rw [reachL_length] at hr3 ⊢
          have HR3 : Hid (Row w3 g3 l.length (fun i => .bool (flag (reachL l) i))) := hr3
          have HRW : Hid (Row w3 g 8 (fun i => .int .i64 (wd ws (i : Int)))) := HR.out.below hb3
          have HB3 : Hid (Below w.heap.size w w3) := HBW.out.trans (hb3.mono HBW.out.size)
          clear ho3 hb3 hr3 hg3 hl3 HR HK
          go_wp2
          go_loopw [8] (fun x wr => ∃ k : Nat, k ≤ l.length ∧ x = .int .i64 k ∧ (∀ i, i < k → badF l ws i = false) ∧ Below w3.heap.size w3 wr) (fun x _ => l.length - (intOf x).toNat)
          case atStart => exact ⟨0, Nat.zero_le _, rfl, fun i hi => by omega, Below.refl _ _⟩
          case round =>
            obtain ⟨k, hk, rfl, hgood, hbr⟩ := hrel
            have HG : Hid (∀ i, i < k → badF l ws i = false) := hgood
            have HBR : Hid (Below w3.heap.size w3 wr) := hbr
            have HBT : Hid (Below w.heap.size w wr) := HB3.out.trans (hbr.mono HB3.out.size)
            clear hgood hbr
            by_cases hlt : k < l.length
            · have hlz : (k : Int) < (l.length : Int) := by omega
              have HYES : Hid (badF l ws k = true → frontOkB q l = false) := fun h => fo_bad HQ.out hlt h
              have HNO : Hid (badF l ws k = false → ∀ i, i < k + 1 → badF l ws i = false) := fun h i hi => by
                by_cases e : i = k
                · subst e; exact h
                · exact HG.out i (by omega)
              have HBD : Hid (badF l ws k = (quant (nth l k).op || (flag (reachL l) k && (nth l k).op == 1 && wd ws (nth l k).k != (nth l k).w))) := rfl
              have HSV : Hid ((nth l k).op = 1 ∨ quant (nth l k).op = true → 0 ≤ (nth l k).k ∧ (nth l k).k ≤ 7) := shape_var (term_node HT.out hlt)
              rcases (HN.out.below HBT.out).2 with h0 | ⟨xb', xo', he, hc⟩
              · omega
              cases he
              obtain ⟨p0, p1, p2, _, _, _⟩ := hc k hlt
              rw [nth_get hlt] at p0 p1 p2
              have f3 := ((HR3.out.below HBR.out) k hlt).1
              try dsimp only at f3
              clear hc HG
              generalize nth l k = n at p0 p1 p2 HBD HSV
              generalize flag (reachL l) k = fl at f3 HBD
              cases hqu : quant n.op
              · rw [hqu] at HBD
                have HQC : Hid (∀ W, Calls Tryz.prog 31 #[.int .i64 n.op] W fun e w' => e = .returned (.bool false) ∧ w' = W) := fun W => (sQuant n.op W).mono (fun e w' h => ⟨by rw [h.1, hqu], h.2⟩)
                cases fl
                · have HB : Hid (badF l ws k = false) := HBD.out
                  go_wp2_with fail
                  go_quiet ((go_at_call 31; exact Calls.quiet_of_same (HQC.out _)))
                  go_wp2
                  go_roundw
                  case rel => exact ⟨k + 1, by omega, by go_num, HNO.out HB.out, below_drewN HBR.out _⟩
                  case measure => simp [intOf]; omega
                · cases ho : (n.op == 1)
                  · rw [ho] at HBD
                    have HB : Hid (badF l ws k = false) := HBD.out
                    go_wp2_with fail
                    go_quiet ((go_at_call 31; exact Calls.quiet_of_same (HQC.out _)))
                    go_wp2
                    go_roundw
                    case rel => exact ⟨k + 1, by omega, by go_num, HNO.out HB.out, below_drewN HBR.out _⟩
                    case measure => simp [intOf]; omega
                  · rw [ho] at HBD
                    obtain ⟨hv0, hv7⟩ := HSV.out (.inl (by simpa using ho))
                    clear HSV
                    obtain ⟨kk, hkk⟩ := Int.eq_ofNat_of_zero_le hv0
                    rw [hkk] at p2 HBD hv7
                    have hz8 : (kk : Int) < 8 := by omega
                    obtain ⟨c1, _⟩ := (HRW.out.below HBR.out) kk (by omega)
                    dsimp only at c1
                    clear hkk hv0
                    cases hne : (wd ws (kk : Int) != n.w)
                    · have HB : Hid (badF l ws k = false) := by
                        show _ = _
                        rw [HBD.out, hne]; rfl
                      generalize wd ws (kk : Int) = z at c1 hne
                      go_wp2_with fail
                      go_quiet ((go_at_call 31; exact Calls.quiet_of_same (HQC.out _)))
                      go_wp2
                      go_roundw
                      case rel => exact ⟨k + 1, by omega, by go_num, HNO.out HB.out, below_drewN HBR.out _⟩
                      case measure => simp [intOf]; omega
                    · have HF : Hid (frontOkB q l = false) := HYES.out (by rw [HBD.out, hne]; rfl)
                      generalize wd ws (kk : Int) = z at c1 hne
                      go_wp2_with fail
                      go_quiet ((go_at_call 31; exact Calls.quiet_of_same (HQC.out _)))
                      go_wp2
                      go_ret
                      exact ⟨ret_bool HF.out.symm, below_drewN HBT.out _⟩
              · have HF : Hid (frontOkB q l = false) := HYES.out (by rw [HBD.out, hqu]; rfl)
                have HQC : Hid (∀ W, Calls Tryz.prog 31 #[.int .i64 n.op] W fun e w' => e = .returned (.bool true) ∧ w' = W) := fun W => (sQuant n.op W).mono (fun e w' h => ⟨by rw [h.1, hqu], h.2⟩)
                clear hqu
                go_wp2_with fail
                go_quiet ((go_at_call 31; exact Calls.quiet_of_same (HQC.out _)))
                go_wp2
                go_ret
                exact ⟨ret_bool HF.out.symm, below_drewN HBT.out _⟩
            · have HF : Hid (frontOkB q l = true) := fo_yes HT.out HW1.out HQ.out (fun i hi => HG.out i (by omega))
              go_wp2
              go_ret
              exact ⟨ret_bool HF.out.symm, HBT.out⟩

end Go.Proofs.YtejoeahehljhnaaGreat.Fm2

/- What is kept, past blocks that were made since. -/
namespace Go.Proofs.YtejoeahehljhnaaGreat.Kp1
open Go.RowKit
open Nd0 Rw0 Rw1 Tm6
theorem Kept.past {S T : Nat → Prop} {u v w : World} (h : Kept S u v) (k : Kept T v w) (hT : ∀ b, T b → S b ∨ u.heap.size ≤ b) : Kept S u w :=
  ⟨k.os.trans h.os, k.tape.trans h.tape, k.output.trans h.output, Nat.le_trans h.size k.size, fun i hi hb => (k.block i (Nat.lt_of_lt_of_le hi h.size) (fun t => by
    rcases hT i t with e | e
    · exact hb e
    · omega)).trans (h.block i hi hb)⟩
def Env (w : World) (g : Nat) (e : List Int) : Prop := Row w g 8 (fun i => .int .i64 (wd e (i : Int)))
theorem Env.kept {w w' : World} {g : Nat} {e : List Int} (h : Env w g e) {S : Nat → Prop} (k : Kept S w w') (hs : ¬ S g) : Env w' g e := Row.kept h k hs
theorem Env.lt {w : World} {g : Nat} {e : List Int} (h : Env w g e) : g < w.heap.size := Row.lt h (by omega)
theorem Env.set {w : World} {g : Nat} {e : List Int} (h : Env w g e) (he : e.length = 8) {p : Nat} (hp : p < 8) (x : Int) : Env (w.setCell ⟨g, p, none⟩ (.int .i64 x)) g (e.set p x) := row_set_int h he hp x
theorem Env.at {w : World} {g : Nat} {e : List Int} (h : Env w g e) {k : Int} (h0 : 0 ≤ k) (h7 : k ≤ 7) : w.cell? ⟨g, k.toNat, none⟩ = some (.int .i64 (wd e k)) ∧ w.frozen? ⟨g, k.toNat, none⟩ = false := by
  have := h k.toNat (by omega)
  dsimp only at this
  rw [Int.toNat_of_nonneg h0] at this
  exact this
end Go.Proofs.YtejoeahehljhnaaGreat.Kp1

/- Bits of small numbers. -/
namespace Go.Proofs.YtejoeahehljhnaaGreat.Bt0
open Go.RowKit
open Pl1 Vl1 Vl2
set_option linter.unusedVariables false

theorem nat8 {a : Int} (h : 0 ≤ a ∧ a ≤ 255) : ∃ m : Nat, a = (m : Int) ∧ m < 2 ^ 8 := ⟨a.toNat, by omega, by omega⟩
theorem wrap8 {m : Nat} (h : m < 2 ^ 8) : IntKind.i64.wrap (m : Int) = (m : Int) := by rw [IntKind.wrap_i64]; omega
theorem mod64 {m : Nat} (h : m < 2 ^ 8) : m % 2 ^ 64 = m := Nat.mod_eq_of_lt (by omega)
theorem band {a b : Int} (ha : 0 ≤ a ∧ a ≤ 255) (hb : 0 ≤ b ∧ b ≤ 255) : bits .and .i64 a b = nAnd a b := by
  obtain ⟨m, rfl, hm⟩ := nat8 ha
  obtain ⟨n, rfl, hn⟩ := nat8 hb
  have e : bits .and .i64 (m : Int) (n : Int) = IntKind.i64.wrap ((BitVec.ofInt 64 (m : Int) &&& BitVec.ofInt 64 (n : Int)).toNat : Int) := rfl
  rw [e, BitVec.toNat_and, BitVec.ofInt_natCast, BitVec.ofInt_natCast, BitVec.toNat_ofNat, BitVec.toNat_ofNat, mod64 hm, mod64 hn, wrap8 (Nat.and_lt_two_pow _ hn)]
  rfl
theorem bor {a b : Int} (ha : 0 ≤ a ∧ a ≤ 255) (hb : 0 ≤ b ∧ b ≤ 255) : bits .or .i64 a b = nOr a b := by
  obtain ⟨m, rfl, hm⟩ := nat8 ha
  obtain ⟨n, rfl, hn⟩ := nat8 hb
  have e : bits .or .i64 (m : Int) (n : Int) = IntKind.i64.wrap ((BitVec.ofInt 64 (m : Int) ||| BitVec.ofInt 64 (n : Int)).toNat : Int) := rfl
  rw [e, BitVec.toNat_or, BitVec.ofInt_natCast, BitVec.ofInt_natCast, BitVec.toNat_ofNat, BitVec.toNat_ofNat, mod64 hm, mod64 hn, wrap8 (Nat.or_lt_two_pow hm hn)]
  rfl
theorem bxor {a b : Int} (ha : 0 ≤ a ∧ a ≤ 255) (hb : 0 ≤ b ∧ b ≤ 255) : bits .xor .i64 a b = nXor a b := by
  obtain ⟨m, rfl, hm⟩ := nat8 ha
  obtain ⟨n, rfl, hn⟩ := nat8 hb
  have e : bits .xor .i64 (m : Int) (n : Int) = IntKind.i64.wrap ((BitVec.ofInt 64 (m : Int) ^^^ BitVec.ofInt 64 (n : Int)).toNat : Int) := rfl
  rw [e, BitVec.toNat_xor, BitVec.ofInt_natCast, BitVec.ofInt_natCast, BitVec.toNat_ofNat, BitVec.toNat_ofNat, mod64 hm, mod64 hn, wrap8 (Nat.xor_lt_two_pow hm hn)]
  rfl
end Go.Proofs.YtejoeahehljhnaaGreat.Bt0
