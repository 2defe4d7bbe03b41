/- The walks of the model's reading of a node and of a whole text. -/
import Derived.Test.YtmghkeahlhlclaaDoorSs6
namespace Go.Proofs.YtmghkeahlhlclaaDoor.Ss7
open Go.RowKit
open Nd0 Nd3 Tm0 Tx0 Tx1 Ss0 Ss1 Ss2 Ss3 Ss4 Ss5 Ss5b Ss6
open Ws1 (ret_int ret_bool)
set_option linter.unusedVariables false

theorem leaf_one {st : Rd} {a b : Nat} (h : twoL 35 st.word = some (a, b)) : leafL st = match putL st.past.t ⟨0, a, b, 0, 0, 0⟩ st.p with | .error e => .error e | .ok (t, i) => .ok (⟨st.past.p, st.past.r, t⟩, i) := by
  unfold leafL; rw [h]; rfl
theorem leaf_two {st : Rd} {a b : Nat} (h0 : twoL 35 st.word = none) (h : twoL 118 st.word = some (a, b)) : leafL st = match putL st.past.t ⟨1, b, a, 0, 0, 0⟩ st.p with | .error e => .error e | .ok (t, i) => .ok (⟨st.past.p, st.past.r, t⟩, i) := by
  unfold leafL; rw [h0]; simp only; rw [h]; rfl
theorem leaf_none {st : Rd} (h0 : twoL 35 st.word = none) (h : twoL 118 st.word = none) : leafL st = .error (2, st.p) := by
  unfold leafL; rw [h0]; simp only; rw [h]
theorem two_some {h : UInt8} {s : List UInt8} {a b : Nat} (e : twoL h s = some (a, b)) : twoA h s = (a : Int) ∧ twoB h s = (b : Int) := by
  unfold twoA twoB; rw [e]; exact ⟨rfl, rfl⟩
theorem rs_drewN {w : World} {b : Nat} {S : ByteArray} {F : Nat → Prop} {st : Rd} {bad : Int} (h : RS w b S F st bad) (m : Nat) : RS (w.drewN m) b S F st bad :=
  h.kept (D := fun _ => False) (Kept.ofBelow ⟨rfl, rfl, rfl, Nat.le_refl _, fun _ _ => rfl⟩) (fun _ _ h => h)
theorem fb_kept {w w' : World} {b : Nat} {F : Nat → Prop} (h : Fb w b F) (k : w.heap.size ≤ w'.heap.size) : Fb w' b F := ⟨h.1, fun i hi => Nat.lt_of_lt_of_le (h.2 i hi) k⟩

set_option maxRecDepth 100000 in
set_option maxHeartbeats 4000000 in
theorem readR (f : Nat) (hRD : RdC f) : RdC (f + 1) := by
  intro w b S F st bad hF h hs hl
  have HRD : Hid (RdC f) := hRD
  have HFB : Hid (Fb w b F) := hF
  have HR : Hid (RS w b S F st bad) := h
  obtain ⟨a0, t0, hrc, _, _⟩ := h.rl
  have c0 := hrc.c0
  have c1 := hrc.c1
  have hr := h.r
  have hpp := h.p
  clear hRD hF hrc
  by_cases ho : opens st.r = true
  · obtain ⟨hlt, hc⟩ : ∃ hlt : st.p < S.size, S[st.p] = 40 := by
      rw [hr] at ho
      by_cases hlt : st.p < S.size
      · rw [left_cons hlt] at ho
        exact ⟨hlt, by simpa [opens] using ho⟩
      · rw [left_nil (by omega)] at ho; cases ho
    have hpz : (st.p : Int) < (S.size : Int) := by omega
    have hcq : ((S[st.p].toNat : Int) == 40) = true := by rw [hc]; rfl
    have HE : Hid (rdL (f + 1) st = innerL (rdL f) st.p ⟨st.p + 1, left S (st.p + 1), st.t⟩) := by
      show _ = _
      simp only [rdL]
      rw [if_pos ho, hr, left_cons hlt]
      rfl
    have HL : Hid ((left S (st.p + 1)).length < f) := by
      show _ < _
      rw [left_len]
      rw [hr, left_len] at hl
      omega
    have HR2 : Hid (RS w b S F ⟨st.p, left S st.p, st.t⟩ bad) := by
      show RS _ _ _ _ _ _
      rw [← hr]; exact HR.out
    clear ho hc hr h
    go_enter Tryd.func24, Tryd.ntmps24
    go_wp2_with fail
    refine (innerR f HRD.out w b S F HFB.out st.p st.t bad HR2.out hlt hs HL.out).mono ?_
    rintro e w2 hrp
    have HRP : Hid (RP w b S F bad (rdL (f + 1) st) e w2) := by
      show RP _ _ _ _ _ _ _ _
      rw [HE.out]; exact hrp
    obtain ⟨v, rfl⟩ := rp_ret HRP.out
    clear hrp
    go_wp2
    go_ret
    exact HRP.out
  · have hof : opens st.r = false := by simpa using ho
    have HE : Hid (rdL (f + 1) st = leafL st) := by
      show _ = _
      simp only [rdL]
      rw [hof]; simp
    have hp4 : st.p ≤ 4000 := by omega
    by_cases hlt : st.p < S.size
    · have hpz : (st.p : Int) < (S.size : Int) := by omega
      have hcq : ((S[st.p].toNat : Int) == 40) = false := by
        have hc : S[st.p] ≠ 40 := by
          intro e
          rw [hr, left_cons hlt, e] at hof
          cases hof
        have : S[st.p].toNat ≠ 40 := fun e => hc (UInt8.toNat_inj.1 e)
        simp; omega
      clear ho hof hr h
      go_enter Tryd.func24, Tryd.ntmps24
      go_wp2_with fail
      refine (wordR _ b S F HFB.out st bad HR.out hs).mono ?_
      rintro e w2 ⟨X, rfl, hx, hxs, hr2, hk2⟩
      have HX : Hid (tl X = st.word) := hx
      have HR2 : Hid (RS w2 b S F st.past bad) := hr2
      have HK2 : Hid (Kb b w w2) := hk2
      clear hx hr2 hk2 c0 c1
      go_wp2_with fail
      refine (sTwo X 35 _ (by omega)).mono ?_
      rintro e w3 ⟨rfl, m3, rfl⟩
      have HR3 : Hid (RS (w2.drewN m3) b S F st.past bad) := rs_drewN HR2.out m3
      have HK3 : Hid (Kb b w (w2.drewN m3)) := HK2.out.drewN m3
      rw [HX.out]
      clear HR2 HK2
      generalize w2.drewN m3 = w3 at HR3 HK3 ⊢
      cases hn : twoL 35 st.word with
      | some x =>
        obtain ⟨a, b2⟩ := x
        rw [(two_some hn).1, (two_some hn).2]
        have HL : Hid (leafL st = match putL st.past.t ⟨0, a, b2, 0, 0, 0⟩ st.p with | .error e => .error e | .ok (t, i) => .ok (⟨st.past.p, st.past.r, t⟩, i)) := leaf_one hn
        have haz : (0 : Int) ≤ (a : Int) := by omega
        clear hn
        go_wp2_with fail
        refine (putR _ b S F (fb_kept HFB.out HK3.out.size) st.past bad HR3.out ⟨0, a, b2, 0, 0, 0⟩ st.p _ rfl (by omega)).mono ?_
        rintro e w4 hrp
        have HRP : Hid (RP w b S F bad (rdL (f + 1) st) e w4) := by
          show RP _ _ _ _ _ _ _ _
          rw [HE.out, HL.out]; exact rp_trans HK3.out (fun _ h => h) hrp
        obtain ⟨v, rfl⟩ := rp_ret HRP.out
        clear hrp
        go_wp2
        go_ret
        exact HRP.out
      | none =>
        rw [(two_none hn).1, (two_none hn).2]
        have HN : Hid (twoL 35 st.word = none) := hn
        clear hn
        go_wp2_with fail
        refine (sTwo X 118 _ (by omega)).mono ?_
        rintro e w4 ⟨rfl, m4, rfl⟩
        have HR4 : Hid (RS (w3.drewN m4) b S F st.past bad) := rs_drewN HR3.out m4
        have HK4 : Hid (Kb b w (w3.drewN m4)) := HK3.out.drewN m4
        rw [HX.out]
        clear HR3 HK3
        generalize w3.drewN m4 = w4 at HR4 HK4 ⊢
        cases hn : twoL 118 st.word with
        | some x =>
          obtain ⟨a, b2⟩ := x
          rw [(two_some hn).1, (two_some hn).2]
          have HL : Hid (leafL st = match putL st.past.t ⟨1, b2, a, 0, 0, 0⟩ st.p with | .error e => .error e | .ok (t, i) => .ok (⟨st.past.p, st.past.r, t⟩, i)) := leaf_two HN.out hn
          have haz : (0 : Int) ≤ (a : Int) := by omega
          clear hn
          go_wp2_with fail
          refine (putR _ b S F (fb_kept HFB.out HK4.out.size) st.past bad HR4.out ⟨1, b2, a, 0, 0, 0⟩ st.p _ rfl (by omega)).mono ?_
          rintro e w5 hrp
          have HRP : Hid (RP w b S F bad (rdL (f + 1) st) e w5) := by
            show RP _ _ _ _ _ _ _ _
            rw [HE.out, HL.out]; exact rp_trans HK4.out (fun _ h => h) hrp
          obtain ⟨v, rfl⟩ := rp_ret HRP.out
          clear hrp
          go_wp2
          go_ret
          exact HRP.out
        | none =>
          rw [(two_none hn).1, (two_none hn).2]
          have HL : Hid (leafL st = .error (2, st.p)) := leaf_none HN.out hn
          clear hn
          go_wp2_with fail
          refine (failR _ b S F (fb_kept HFB.out HK4.out.size) _ bad HR4.out 2 st.p _ rfl).mono ?_
          rintro e w5 ⟨rfl, hb5, hk5⟩
          have HB5 : Hid (Bad w5 b S (2, st.p)) := hb5
          have HK5 : Hid (Kb b w w5) := HK4.out.trans hk5
          clear hb5 hk5
          go_wp2
          go_ret
          exact rp_err (HE.out.trans HL.out) HK5.out rfl HB5.out
    · have hpz : ¬ (st.p : Int) < (S.size : Int) := by omega
      have hd : decide ((st.p : Int) < (S.size : Int)) = false := by simpa using hpz
      clear ho hof hr h
      go_enter Tryd.func24, Tryd.ntmps24
      go_wp2_with fail
      refine (wordR _ b S F HFB.out st bad HR.out hs).mono ?_
      rintro e w2 ⟨X, rfl, hx, hxs, hr2, hk2⟩
      have HX : Hid (tl X = st.word) := hx
      have HR2 : Hid (RS w2 b S F st.past bad) := hr2
      have HK2 : Hid (Kb b w w2) := hk2
      clear hx hr2 hk2 c0 c1
      go_wp2_with fail
      refine (sTwo X 35 _ (by omega)).mono ?_
      rintro e w3 ⟨rfl, m3, rfl⟩
      have HR3 : Hid (RS (w2.drewN m3) b S F st.past bad) := rs_drewN HR2.out m3
      have HK3 : Hid (Kb b w (w2.drewN m3)) := HK2.out.drewN m3
      rw [HX.out]
      clear HR2 HK2
      generalize w2.drewN m3 = w3 at HR3 HK3 ⊢
      cases hn : twoL 35 st.word with
      | some x =>
        obtain ⟨a, b2⟩ := x
        rw [(two_some hn).1, (two_some hn).2]
        have HL : Hid (leafL st = match putL st.past.t ⟨0, a, b2, 0, 0, 0⟩ st.p with | .error e => .error e | .ok (t, i) => .ok (⟨st.past.p, st.past.r, t⟩, i)) := leaf_one hn
        have haz : (0 : Int) ≤ (a : Int) := by omega
        clear hn
        go_wp2_with fail
        refine (putR _ b S F (fb_kept HFB.out HK3.out.size) st.past bad HR3.out ⟨0, a, b2, 0, 0, 0⟩ st.p _ rfl (by omega)).mono ?_
        rintro e w4 hrp
        have HRP : Hid (RP w b S F bad (rdL (f + 1) st) e w4) := by
          show RP _ _ _ _ _ _ _ _
          rw [HE.out, HL.out]; exact rp_trans HK3.out (fun _ h => h) hrp
        obtain ⟨v, rfl⟩ := rp_ret HRP.out
        clear hrp
        go_wp2
        go_ret
        exact HRP.out
      | none =>
        rw [(two_none hn).1, (two_none hn).2]
        have HN : Hid (twoL 35 st.word = none) := hn
        clear hn
        go_wp2_with fail
        refine (sTwo X 118 _ (by omega)).mono ?_
        rintro e w4 ⟨rfl, m4, rfl⟩
        have HR4 : Hid (RS (w3.drewN m4) b S F st.past bad) := rs_drewN HR3.out m4
        have HK4 : Hid (Kb b w (w3.drewN m4)) := HK3.out.drewN m4
        rw [HX.out]
        clear HR3 HK3
        generalize w3.drewN m4 = w4 at HR4 HK4 ⊢
        cases hn : twoL 118 st.word with
        | some x =>
          obtain ⟨a, b2⟩ := x
          rw [(two_some hn).1, (two_some hn).2]
          have HL : Hid (leafL st = match putL st.past.t ⟨1, b2, a, 0, 0, 0⟩ st.p with | .error e => .error e | .ok (t, i) => .ok (⟨st.past.p, st.past.r, t⟩, i)) := leaf_two HN.out hn
          have haz : (0 : Int) ≤ (a : Int) := by omega
          clear hn
          go_wp2_with fail
          refine (putR _ b S F (fb_kept HFB.out HK4.out.size) st.past bad HR4.out ⟨1, b2, a, 0, 0, 0⟩ st.p _ rfl (by omega)).mono ?_
          rintro e w5 hrp
          have HRP : Hid (RP w b S F bad (rdL (f + 1) st) e w5) := by
            show RP _ _ _ _ _ _ _ _
            rw [HE.out, HL.out]; exact rp_trans HK4.out (fun _ h => h) hrp
          obtain ⟨v, rfl⟩ := rp_ret HRP.out
          clear hrp
          go_wp2
          go_ret
          exact HRP.out
        | none =>
          rw [(two_none hn).1, (two_none hn).2]
          have HL : Hid (leafL st = .error (2, st.p)) := leaf_none HN.out hn
          clear hn
          go_wp2_with fail
          refine (failR _ b S F (fb_kept HFB.out HK4.out.size) _ bad HR4.out 2 st.p _ rfl).mono ?_
          rintro e w5 ⟨rfl, hb5, hk5⟩
          have HB5 : Hid (Bad w5 b S (2, st.p)) := hb5
          have HK5 : Hid (Kb b w w5) := HK4.out.trans hk5
          clear hb5 hk5
          go_wp2
          go_ret
          exact rp_err (HE.out.trans HL.out) HK5.out rfl HB5.out

theorem rdC : ∀ f, RdC f := by
  intro f
  induction f with
  | zero => intro w b S F st bad _ _ _ h; omega
  | succ f ih => exact readR f ih

end Go.Proofs.YtmghkeahlhlclaaDoor.Ss7
