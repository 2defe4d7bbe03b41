/- Small texts of mine, one behind the other. -/
import Derived.Test.YtiojfommmmggoaaPkDE22
import Derived.Test.YtiojfommmmggoaaPkDE1
import Derived.Test.YtiojfommmmggoaaPkDE14
import Derived.Test.YtiojfommmmggoaaPkDE3
import Derived.Test.YtiojfommmmggoaaPkDE10
/- Walks of chapter 1, third part: shifts, flips and orders of words, in the program and in its model. -/
namespace Go.Proofs.Ytiojfommmmggoaa.Wd4
open Go.RowKit
open Pl1 Wd1 Wd2 Wd3
set_option linter.unusedVariables false

set_option maxHeartbeats 400000 in
theorem sShl (m a b : Int) (w : World) :
    Calls Try.prog 75 #[.int .i64 m, .int .i64 a, .int .i64 b] w fun e w' => e = .returned (.int .i64 (vShl m a b)) ∧ w' = w := by
  cases h : (wok m a && wok m b)
  · have HV : Hid (vShl m a b = 0) := by show vShl m a b = 0; simp [vShl, h]
    go_enter Try.func75, Try.ntmps75
    go_wp2_with (go_at_call 83; refine (sTwo _ _ _ _).mono ?_; rintro e w' ⟨rfl, rfl⟩)
    go_ret
    exact ⟨ret_int HV.out.symm, rfl⟩
  · obtain ⟨h1, h2, h3, h4, h5, h6, h7⟩ := two_iff h
    have hp := p2_pos m.toNat
    by_cases hc : m ≤ b
    · have HV : Hid (vShl m a b = 0) := by
        show vShl m a b = _
        unfold vShl; rw [h, if_pos rfl, if_pos hc]
      go_enter Try.func75, Try.ntmps75
      go_wp2_with (go_at_call 83; refine (sTwo _ _ _ _).mono ?_; rintro e w' ⟨rfl, rfl⟩)
      go_ret
      exact ⟨ret_int HV.out.symm, rfl⟩
    · have HV : Hid (vShl m a b = a * p2 b.toNat % p2 m.toNat) := by
        show vShl m a b = _
        unfold vShl; rw [h, if_pos rfl, if_neg hc]
      have hq := p2_pos b.toNat
      have hr := p2_mono (show b.toNat ≤ 7 by omega)
      have hr7 : p2 7 = 128 := rfl
      obtain ⟨hb1, hb2⟩ := mul_bd h3 (show a ≤ 255 by omega) (show 0 ≤ p2 b.toNat by omega) (by omega)
      go_enter Try.func75, Try.ntmps75
      go_wp2_with (first | (go_at_call 83; refine (sTwo _ _ _ _).mono ?_; rintro e w' ⟨rfl, rfl⟩) | (go_at_call 26; refine (spow _ _ (by omega) (by omega)).mono ?_; rintro e w' ⟨rfl, rfl⟩))
      go_ret
      exact ⟨ret_int HV.out.symm, rfl⟩

set_option maxHeartbeats 400000 in
theorem sShr (m a b : Int) (w : World) :
    Calls Try.prog 76 #[.int .i64 m, .int .i64 a, .int .i64 b] w fun e w' => e = .returned (.int .i64 (vShr m a b)) ∧ w' = w := by
  cases h : (wok m a && wok m b)
  · have HV : Hid (vShr m a b = 0) := by show vShr m a b = 0; simp [vShr, h]
    go_enter Try.func76, Try.ntmps76
    go_wp2_with (go_at_call 83; refine (sTwo _ _ _ _).mono ?_; rintro e w' ⟨rfl, rfl⟩)
    go_ret
    exact ⟨ret_int HV.out.symm, rfl⟩
  · obtain ⟨h1, h2, h3, h4, h5, h6, h7⟩ := two_iff h
    have hp := p2_pos m.toNat
    by_cases hc : m ≤ b
    · have HV : Hid (vShr m a b = 0) := by
        show vShr m a b = _
        unfold vShr; rw [h, if_pos rfl, if_pos hc]
      go_enter Try.func76, Try.ntmps76
      go_wp2_with (go_at_call 83; refine (sTwo _ _ _ _).mono ?_; rintro e w' ⟨rfl, rfl⟩)
      go_ret
      exact ⟨ret_int HV.out.symm, rfl⟩
    · have HV : Hid (vShr m a b = a / p2 b.toNat) := by
        show vShr m a b = _
        unfold vShr; rw [h, if_pos rfl, if_neg hc]
      have hq := p2_pos b.toNat
      obtain ⟨hd1, hd2⟩ := div_bd h3 (show 0 ≤ p2 b.toNat by omega)
      go_enter Try.func76, Try.ntmps76
      go_wp2_with (first | (go_at_call 83; refine (sTwo _ _ _ _).mono ?_; rintro e w' ⟨rfl, rfl⟩) | (go_at_call 26; refine (spow _ _ (by omega) (by omega)).mono ?_; rintro e w' ⟨rfl, rfl⟩))
      go_ret
      exact ⟨ret_int HV.out.symm, rfl⟩

set_option maxHeartbeats 400000 in
theorem sFlip (m a : Int) (w : World) :
    Calls Try.prog 69 #[.int .i64 m, .int .i64 a] w fun e w' => e = .returned (.int .i64 (vFlip m a)) ∧ w' = w := by
  cases h : wok m a
  · have HV : Hid (vFlip m a = 0) := by show vFlip m a = 0; simp [vFlip, h]
    go_enter Try.func69, Try.ntmps69
    go_wp2_with (go_at_call 65; refine (sWordOk _ _ _).mono ?_; rintro e w' ⟨rfl, rfl⟩)
    go_ret
    exact ⟨ret_int HV.out.symm, rfl⟩
  · obtain ⟨h1, h2, h3, h4, h7⟩ := one_iff h
    have HV : Hid (vFlip m a = p2 m.toNat - 1 - a) := by show vFlip m a = _; simp [vFlip, h]
    go_enter Try.func69, Try.ntmps69
    go_wp2_with (first | (go_at_call 65; refine (sWordOk _ _ _).mono ?_; rintro e w' ⟨rfl, rfl⟩) | (go_at_call 26; refine (spow _ _ (by omega) (by omega)).mono ?_; rintro e w' ⟨rfl, rfl⟩))
    go_ret
    exact ⟨ret_int HV.out.symm, rfl⟩

set_option maxHeartbeats 400000 in
theorem sSigned (m a : Int) (w : World) :
    Calls Try.prog 84 #[.int .i64 m, .int .i64 a] w fun e w' => e = .returned (.int .i64 (vSigned m a)) ∧ w' = w := by
  cases h : wok m a
  · have HV : Hid (vSigned m a = 0) := by show vSigned m a = 0; simp [vSigned, h]
    go_enter Try.func84, Try.ntmps84
    go_wp2_with (go_at_call 65; refine (sWordOk _ _ _).mono ?_; rintro e w' ⟨rfl, rfl⟩)
    go_ret
    exact ⟨ret_int HV.out.symm, rfl⟩
  · obtain ⟨h1, h2, h3, h4, h7⟩ := one_iff h
    have hq := p2_pos m.toNat
    by_cases hs : p2 (m - 1).toNat ≤ a
    · have HV : Hid (vSigned m a = a - p2 m.toNat) := by show vSigned m a = _; simp only [vSigned, h, if_pos]; exact sgn_pos hs
      have hs2 : p2 (m.toNat - 1) ≤ a := by rw [show m.toNat - 1 = (m - 1).toNat by omega]; exact hs
      have hr := p2_pos (m - 1).toNat
      go_enter Try.func84, Try.ntmps84
      go_wp2_with (first | (go_at_call 65; refine (sWordOk _ _ _).mono ?_; rintro e w' ⟨rfl, rfl⟩) | (go_at_call 26; refine (spow _ _ (by omega) (by omega)).mono ?_; rintro e w' ⟨rfl, rfl⟩))
      go_ret
      exact ⟨ret_int HV.out.symm, rfl⟩
    · have HV : Hid (vSigned m a = a) := by show vSigned m a = _; simp only [vSigned, h, if_pos]; exact sgn_neg hs
      have hs2 : ¬ p2 (m.toNat - 1) ≤ a := by rw [show m.toNat - 1 = (m - 1).toNat by omega]; exact hs
      have hr := p2_pos (m - 1).toNat
      go_enter Try.func84, Try.ntmps84
      go_wp2_with (first | (go_at_call 65; refine (sWordOk _ _ _).mono ?_; rintro e w' ⟨rfl, rfl⟩) | (go_at_call 26; refine (spow _ _ (by omega) (by omega)).mono ?_; rintro e w' ⟨rfl, rfl⟩))
      go_ret
      exact ⟨ret_int HV.out.symm, rfl⟩

set_option maxHeartbeats 400000 in
theorem sOne (b : Bool) (w : World) :
    Calls Try.prog 77 #[.bool b] w fun e w' => e = .returned (.int .i64 (if b then 1 else 0)) ∧ w' = w := by
  cases b
  all_goals
    go_enter Try.func77, Try.ntmps77
    go_wp2
    go_ret
    exact ⟨rfl, rfl⟩

end Go.Proofs.Ytiojfommmmggoaa.Wd4

/- The walks of Swaps and Rows, of the model and of the program. -/
namespace Go.Proofs.Ytiojfommmmggoaa.Fm1
open Go.RowKit
open Nd0 Qa0 Fr0 Ap1
open Ws1 (ret_int ret_bool)


open Sp2 (sIn)
set_option linter.unusedVariables false

theorem quAt {w : World} {a : Option Addr} {q : List Qu} (h : Qus w a q) {k : Nat} (hk : k < q.length) : ∃ b o, a = some ⟨b, o, none⟩ ∧ ∀ j, j < q.length → QuAt w b (o + j * 3) (qth q j) := by
  rcases h.2 with h0 | ⟨b, o, ha, hc⟩
  · omega
  · exact ⟨b, o, ha, fun j hj => by rw [← qth_get hj]; exact hc j hj⟩

def bitsQ (q : List Qu) : Int := match bqTo q q.length with
  | none => 13
  | some n => (n : Int)
theorem bitsQ_few (q : List Qu) : fewB q = decide (bitsQ q ≤ 12) := by
  unfold fewB bitsQ
  cases bqTo q q.length with
  | none => rfl
  | some n => by_cases h : n ≤ 12
              · simp only [decide_eq_true h]; rw [decide_eq_true (by omega)]
              · simp only [decide_eq_false h]; rw [decide_eq_false (by omega)]

set_option maxHeartbeats 1000000 in
theorem sBitsQ (w : World) (a : Option Addr) (q : List Qu) (c : Nat) (hN : Qus w a q) (hl : q.length ≤ 1048576) :
    Calls Try.prog 23 #[.slice a q.length c] w fun e w' => e = .returned (.int .i64 (bitsQ q)) ∧ w' = w := by
  have HN : Hid (Qus w a q) := hN
  clear hN
  go_enter Try.func23, Try.ntmps23
  go_wp2
  go_loop [3, 4] (fun n i => ∃ k m : Nat, k ≤ q.length ∧ i = .int .i64 k ∧ bqTo q k = some m ∧ n = .int .i64 (m : Int)) (fun _ i => q.length - (intOf i).toNat)
  case atStart => exact ⟨0, 0, Nat.zero_le _, rfl, rfl, rfl⟩
  case round =>
    obtain ⟨k, m, hk, rfl, hm, rfl⟩ := hrel
    have HM : Hid (bqTo q k = some m) := hm
    have hmb := bq_le m hm
    clear hm
    by_cases hlt : k < q.length
    · have hlz : (k : Int) < (q.length : Int) := by omega
      obtain ⟨b, o, rfl, hc⟩ := quAt HN.out hlt
      have p2 := (hc k hlt).c2
      clear hc
      obtain ⟨x, hx⟩ : ∃ x, x = (qth q k).bits := ⟨_, rfl⟩
      rw [← hx] at p2
      have HX : Hid (x = (qth q k).bits) := hx
      clear hx
      by_cases hb : 1 ≤ x ∧ x ≤ 8
      · have hd : decide (1 ≤ x ∧ x ≤ 8) = true := decide_eq_true hb
        obtain ⟨hb1, hb2⟩ := hb
        go_wp2_with (go_at_call 46; refine (sIn _ _ _ _).mono ?_; rintro e w' ⟨rfl, rfl⟩; rw [hd])
        go_round
        case rel => exact ⟨k + 1, m + x.toNat, by omega, by go_num, by rw [bq_succ HM.out (by rw [← HX.out]; exact ⟨hb1, hb2⟩), HX.out], by go_num⟩
        case measure => simp [intOf]; omega
      · have hd : decide (1 ≤ x ∧ x ≤ 8) = false := decide_eq_false hb
        have HE : Hid (bitsQ q = 13) := by
          show _ = _
          unfold bitsQ
          rw [bq_none (bq_bad (by rw [← HX.out]; exact hb)) q.length (by omega)]
        clear hb
        go_wp2_with (go_at_call 46; refine (sIn _ _ _ _).mono ?_; rintro e w' ⟨rfl, rfl⟩; rw [hd])
        go_ret
        exact ⟨ret_int HE.out.symm, rfl⟩
    · have HE : Hid (bitsQ q = (m : Int)) := by
        show _ = _
        unfold bitsQ
        rw [← show k = q.length by omega, HM.out]
      go_wp2
      go_ret
      exact ⟨ret_int HE.out.symm, rfl⟩

set_option maxHeartbeats 2000000 in
theorem sRows (w : World) (a : Option Addr) (q : List Qu) (c : Nat) (hN : Qus w a q) (hl : q.length ≤ 1048576) :
    Calls Try.prog 10 #[.slice a q.length c] w fun e w' => (∃ a' c', e = .returned (.slice a' (rowsL q).length c') ∧ WBools w' w.heap.size a' (rowsL q)) ∧ Below w.heap.size w w' := by
  have HN : Hid (Qus w a q) := hN
  clear hN
  have hal : Below w.heap.size w (w.alloc (.cells #[] 4)) := (Below.refl _ _).alloc (Nat.le_refl _) _
  have HAL : Hid (Below w.heap.size w (w.alloc (.cells #[] 4))) := hal
  have HO0 : Hid (Owb (w.alloc (.cells #[] 4)) w.heap.size (.slice (some ⟨w.heap.size, 0, none⟩) 0 0) []) := Owb.lit w _ (Nat.le_refl _)
  have HC : Hid (∀ w1, Below w.heap.size w w1 → Calls Try.prog 23 #[.slice a q.length c] w1 fun e w' => e = .returned (.int .i64 (bitsQ q)) ∧ w' = w1) := fun w1 h1 => sBitsQ w1 a q c (HN.out.below h1) hl
  clear hal
  have hfw := bitsQ_few q
  cases hf : fewB q
  · have hgt : 12 < bitsQ q := by
      rw [hf] at hfw
      have := of_decide_eq_false hfw.symm
      omega
    have HE : Hid (rowsL q = []) := by
      show _ = _
      unfold rowsL; rw [hf]; rfl
    clear hfw hf
    generalize bitsQ q = z at hgt HC
    go_enter Try.func10, Try.ntmps10
    go_wp2_with (go_at_call 23; refine (HC.out _ HAL.out).mono ?_; rintro e w' ⟨rfl, rfl⟩)
    go_ret
    rw [HE.out]
    exact ⟨⟨_, _, rfl, Nat.zero_le _, .inl rfl⟩, HAL.out⟩
  · have hgt : ¬ 12 < bitsQ q := by
      rw [hf] at hfw
      have := of_decide_eq_true hfw.symm
      omega
    obtain ⟨N, hN1, hN2⟩ := few_of hf
    have HBQ : Hid (bqTo q q.length = some N) := hN1
    have HE : Hid (rowsL q = rowTo q q.length) := by
      show _ = _
      unfold rowsL; rw [hf]; rfl
    clear hfw hf hN1
    generalize bitsQ q = z at hgt HC
    go_enter Try.func10, Try.ntmps10
    go_wp2_with (go_at_call 23; refine (HC.out _ HAL.out).mono ?_; rintro e w' ⟨rfl, rfl⟩)
    go_loopw [3, 4] (fun v i wr => ∃ k : Nat, k ≤ q.length ∧ i = .int .i64 k ∧ Owb wr w.heap.size v (rowTo q k) ∧ Below w.heap.size w wr) (fun _ i _ => q.length - (intOf i).toNat)
    case atStart => exact ⟨0, Nat.zero_le _, rfl, HO0.out, HAL.out⟩
    case round =>
      obtain ⟨k, hk, rfl, ho, hb⟩ := hrel
      have HO : Hid (Owb wr w.heap.size u3 (rowTo q k)) := ho
      have HB : Hid (Below w.heap.size w wr) := hb
      clear ho hb
      by_cases hlt : k < q.length
      · have hlz : (k : Int) < (q.length : Int) := by omega
        obtain ⟨m, hm, hmN, hb1, hb2⟩ : ∃ m, bqTo q k = some m ∧ m + (qth q k).bits.toNat ≤ N ∧ 1 ≤ (qth q k).bits ∧ (qth q k).bits ≤ 8 := by
          cases hm : bqTo q k with
          | none => have := bq_none hm q.length (by omega); rw [HBQ.out] at this; cases this
          | some m =>
            by_cases hb : 1 ≤ (qth q k).bits ∧ (qth q k).bits ≤ 8
            · exact ⟨m, rfl, bq_mono (bq_succ hm hb) q.length N (by omega) HBQ.out, hb⟩
            · have := bq_none (bq_bad hb) q.length (by omega); rw [HBQ.out] at this; cases this
        have hrl := rowTo_length m hm
        have HR1 : Hid (rowTo q (k + 1) = rowTo q k ++ List.replicate (qth q k).bits.toNat (qth q k).all) := rfl
        have HRP : Hid (∀ j, rowTo q k ++ List.replicate (j + 1) (qth q k).all = (rowTo q k ++ List.replicate j (qth q k).all) ++ [(qth q k).all]) := rowTo_part q k
        clear hm
        have HNK : Hid (∀ W, Below w.heap.size w W → ∃ b o, a = some ⟨b, o, none⟩ ∧ W.cell? ⟨b, o + k * 3, none⟩ = some (.bool (qth q k).all) ∧ W.cell? ⟨b, o + k * 3 + 2, none⟩ = some (.int .i64 (qth q k).bits)) := fun W hW => by
          obtain ⟨b, o, ha, hc⟩ := quAt (HN.out.below hW) hlt
          exact ⟨b, o, ha, (hc k hlt).c0, (hc k hlt).c2⟩
        generalize rowTo q k = R at HO HR1 HRP hrl
        generalize (qth q k).all = al at HR1 HRP HNK
        generalize (qth q k).bits = bt at HR1 HNK hmN hb1 hb2
        go_wp2
        go_loopw [3, 5] (fun v i wi => ∃ j : Nat, (j : Int) ≤ bt ∧ i = .int .i64 j ∧ Owb wi w.heap.size v (R ++ List.replicate j al) ∧ Below w.heap.size w wi) (fun _ i _ => bt.toNat - (intOf i).toNat)
        case atStart => exact ⟨0, by omega, rfl, by rw [List.replicate_zero, List.append_nil]; exact HO.out, HB.out⟩
        case round =>
          obtain ⟨j, hj, rfl, ho, hb⟩ := hrel
          have HOI : Hid (Owb wr w.heap.size u3 (R ++ List.replicate j al)) := ho
          have HBI : Hid (Below w.heap.size w wr) := hb
          have hbs : w.heap.size ≤ wr.heap.size := hb.size
          obtain ⟨b, o, rfl, p0, p2⟩ := HNK.out _ hb
          clear ho hb
          have HLN : Hid ((R ++ List.replicate j al).length = m + j) := by
            show _ = _
            rw [List.length_append, List.length_replicate, hrl]
          have HRJ : Hid (R ++ List.replicate (j + 1) al = (R ++ List.replicate j al) ++ [al]) := HRP.out j
          by_cases hjl : (j : Int) < bt
          · generalize R ++ List.replicate j al = L at HOI HLN HRJ
            go_wp2_with (at_builtin; go_must (refine app_bool _ rfl _ _ rfl w.heap.size u3 L al rfl rfl HOI.out hbs (by rw [HLN.out]; omega) ?_; intro g5 cp5 w5 ho5 hk5 hg5; have HO5 : Hid (Owb w5 w.heap.size (.slice (some ⟨g5, 0, none⟩) (L.length + 1) cp5) (L ++ [al])) := ho5; have HB5 : Hid (Below w.heap.size w w5) := HBI.out.trans (hk5.below (fun b hb => (HOI.out.lt b hb).1) hbs); clear ho5 hk5 hg5))
            go_roundw
            case rel => exact ⟨j + 1, by omega, by go_num, by rw [HRJ.out]; exact HO5.out, HB5.out⟩
            case measure => simp [intOf]; omega
          · have HJ : Hid (rowTo q (k + 1) = R ++ List.replicate j al) := by
              show _ = _
              rw [HR1.out, show bt.toNat = j by omega]
            go_wp2
            go_roundw
            case rel => exact ⟨k + 1, by omega, by go_num, by rw [HJ.out]; exact HOI.out, HBI.out⟩
            case measure => simp [intOf]; omega
      · have HK : Hid (k = q.length) := by show _ = _; omega
        obtain ⟨av, cv, hv, hwi⟩ := HO.out.form
        rw [HK.out, ← HE.out] at hv hwi
        subst hv
        have HI : Hid (WBools wr w.heap.size av (rowsL q)) := hwi
        clear hwi HO
        go_wp2
        go_ret
        exact ⟨⟨_, _, rfl, HI.out⟩, HB.out⟩

end Go.Proofs.Ytiojfommmmggoaa.Fm1
