/- Small texts of mine, one behind the other. -/
import Derived.Test.YtmghkeahlhlclaaGreatDoorSs6
import Derived.Test.YtmghkeahlhlclaaGreatDoorSs9
import Derived.Test.YtmghkeahlhlclaaGreatDoorPkF
import Derived.Test.YtmghkeahlhlclaaGreatDoorSp4
import Derived.Test.YtmghkeahlhlclaaGreatDoorPkE
/- The walks of the model's reading of a node and of a whole text. -/
namespace Go.Proofs.YtmghkeahlhlclaaGreatDoor.Ss7
open Go.RowKit
open Nd0 Nd3 Tm0 Tx0 Tx1 Ss0 Ss1 Ss2 Ss3 Ss4 Ss5 Ss5b Ss6
open Ws1 (ret_int ret_bool)
set_option linter.unusedVariables false

theorem leaf_one {st : Rd} {a b : Nat} (h : twoL 35 st.word = some (a, b)) : leafL st = match putL st.past.t ⟨0, a, b, 0, 0, 0⟩ st.p with | .error e => .error e | .ok (t, i) => .ok (⟨st.past.p, st.past.r, t⟩, i) := by
  unfold leafL; rw [h]; rfl
theorem leaf_two {st : Rd} {a b : Nat} (h0 : twoL 35 st.word = none) (h : twoL 118 st.word = some (a, b)) : leafL st = match putL st.past.t ⟨1, b, a, 0, 0, 0⟩ st.p with | .error e => .error e | .ok (t, i) => .ok (⟨st.past.p, st.past.r, t⟩, i) := by
  unfold leafL; rw [h0]; simp only; rw [h]; rfl
theorem leaf_none {st : Rd} (h0 : twoL 35 st.word = none) (h : twoL 118 st.word = none) : leafL st = .error (2, st.p) := by
  unfold leafL; rw [h0]; simp only; rw [h]
theorem two_some {h : UInt8} {s : List UInt8} {a b : Nat} (e : twoL h s = some (a, b)) : twoA h s = (a : Int) ∧ twoB h s = (b : Int) := by
  unfold twoA twoB; rw [e]; exact ⟨rfl, rfl⟩
theorem rs_drewN {w : World} {b : Nat} {S : ByteArray} {F : Nat → Prop} {st : Rd} {bad : Int} (h : RS w b S F st bad) (m : Nat) : RS (w.drewN m) b S F st bad :=
  h.kept (D := fun _ => False) (Kept.ofBelow ⟨rfl, rfl, rfl, Nat.le_refl _, fun _ _ => rfl⟩) (fun _ _ h => h)
theorem fb_kept {w w' : World} {b : Nat} {F : Nat → Prop} (h : Fb w b F) (k : w.heap.size ≤ w'.heap.size) : Fb w' b F := ⟨h.1, fun i hi => Nat.lt_of_lt_of_le (h.2 i hi) k⟩

set_option maxRecDepth 100000 in
set_option maxHeartbeats 4000000 in
theorem readR (f : Nat) (hRD : RdC f) : RdC (f + 1) := by
  intro w b S F st bad hF h hs hl
  have HRD : Hid (RdC f) := hRD
  have HFB : Hid (Fb w b F) := hF
  have HR : Hid (RS w b S F st bad) := h
  obtain ⟨a0, t0, hrc, _, _⟩ := h.rl
  have c0 := hrc.c0
  have c1 := hrc.c1
  have hr := h.r
  have hpp := h.p
  clear hRD hF hrc
  by_cases ho : opens st.r = true
  · obtain ⟨hlt, hc⟩ : ∃ hlt : st.p < S.size, S[st.p] = 40 := by
      rw [hr] at ho
      by_cases hlt : st.p < S.size
      · rw [left_cons hlt] at ho
        exact ⟨hlt, by simpa [opens] using ho⟩
      · rw [left_nil (by omega)] at ho; cases ho
    have hpz : (st.p : Int) < (S.size : Int) := by omega
    have hcq : ((S[st.p].toNat : Int) == 40) = true := by rw [hc]; rfl
    have HE : Hid (rdL (f + 1) st = innerL (rdL f) st.p ⟨st.p + 1, left S (st.p + 1), st.t⟩) := by
      show _ = _
      simp only [rdL]
      rw [if_pos ho, hr, left_cons hlt]
      rfl
    have HL : Hid ((left S (st.p + 1)).length < f) := by
      show _ < _
      rw [left_len]
      rw [hr, left_len] at hl
      omega
    have HR2 : Hid (RS w b S F ⟨st.p, left S st.p, st.t⟩ bad) := by
      show RS _ _ _ _ _ _
      rw [← hr]; exact HR.out
    clear ho hc hr h
    go_enter Tryz.func33, Tryz.ntmps33
    go_wp2_with fail
    refine (innerR f HRD.out w b S F HFB.out st.p st.t bad HR2.out hlt hs HL.out).mono ?_
    rintro e w2 hrp
    have HRP : Hid (RP w b S F bad (rdL (f + 1) st) e w2) := by
      show RP _ _ _ _ _ _ _ _
      rw [HE.out]; exact hrp
    obtain ⟨v, rfl⟩ := rp_ret HRP.out
    clear hrp
    go_wp2
    go_ret
    exact HRP.out
  · have hof : opens st.r = false := by simpa using ho
    have HE : Hid (rdL (f + 1) st = leafL st) := by
      show _ = _
      simp only [rdL]
      rw [hof]; simp
    have hp4 : st.p ≤ 4000 := by omega
    by_cases hlt : st.p < S.size
    · have hpz : (st.p : Int) < (S.size : Int) := by omega
      have hcq : ((S[st.p].toNat : Int) == 40) = false := by
        have hc : S[st.p] ≠ 40 := by
          intro e
          rw [hr, left_cons hlt, e] at hof
          cases hof
        have : S[st.p].toNat ≠ 40 := fun e => hc (UInt8.toNat_inj.1 e)
        simp; omega
      clear ho hof hr h
      go_enter Tryz.func33, Tryz.ntmps33
      go_wp2_with fail
      refine (wordR _ b S F HFB.out st bad HR.out hs).mono ?_
      rintro e w2 ⟨X, rfl, hx, hxs, hr2, hk2⟩
      have HX : Hid (tl X = st.word) := hx
      have HR2 : Hid (RS w2 b S F st.past bad) := hr2
      have HK2 : Hid (Kb b w w2) := hk2
      clear hx hr2 hk2 c0 c1
      go_wp2_with fail
      refine (sTwo X 35 _ (by omega)).mono ?_
      rintro e w3 ⟨rfl, m3, rfl⟩
      have HR3 : Hid (RS (w2.drewN m3) b S F st.past bad) := rs_drewN HR2.out m3
      have HK3 : Hid (Kb b w (w2.drewN m3)) := HK2.out.drewN m3
      rw [HX.out]
      clear HR2 HK2
      generalize w2.drewN m3 = w3 at HR3 HK3 ⊢
      cases hn : twoL 35 st.word with
      | some x =>
        obtain ⟨a, b2⟩ := x
        rw [(two_some hn).1, (two_some hn).2]
        have HL : Hid (leafL st = match putL st.past.t ⟨0, a, b2, 0, 0, 0⟩ st.p with | .error e => .error e | .ok (t, i) => .ok (⟨st.past.p, st.past.r, t⟩, i)) := leaf_one hn
        have haz : (0 : Int) ≤ (a : Int) := by omega
        clear hn
        go_wp2_with fail
        refine (putR _ b S F (fb_kept HFB.out HK3.out.size) st.past bad HR3.out ⟨0, a, b2, 0, 0, 0⟩ st.p _ rfl (by omega)).mono ?_
        rintro e w4 hrp
        have HRP : Hid (RP w b S F bad (rdL (f + 1) st) e w4) := by
          show RP _ _ _ _ _ _ _ _
          rw [HE.out, HL.out]; exact rp_trans HK3.out (fun _ h => h) hrp
        obtain ⟨v, rfl⟩ := rp_ret HRP.out
        clear hrp
        go_wp2
        go_ret
        exact HRP.out
      | none =>
        rw [(two_none hn).1, (two_none hn).2]
        have HN : Hid (twoL 35 st.word = none) := hn
        clear hn
        go_wp2_with fail
        refine (sTwo X 118 _ (by omega)).mono ?_
        rintro e w4 ⟨rfl, m4, rfl⟩
        have HR4 : Hid (RS (w3.drewN m4) b S F st.past bad) := rs_drewN HR3.out m4
        have HK4 : Hid (Kb b w (w3.drewN m4)) := HK3.out.drewN m4
        rw [HX.out]
        clear HR3 HK3
        generalize w3.drewN m4 = w4 at HR4 HK4 ⊢
        cases hn : twoL 118 st.word with
        | some x =>
          obtain ⟨a, b2⟩ := x
          rw [(two_some hn).1, (two_some hn).2]
          have HL : Hid (leafL st = match putL st.past.t ⟨1, b2, a, 0, 0, 0⟩ st.p with | .error e => .error e | .ok (t, i) => .ok (⟨st.past.p, st.past.r, t⟩, i)) := leaf_two HN.out hn
          have haz : (0 : Int) ≤ (a : Int) := by omega
          clear hn
          go_wp2_with fail
          refine (putR _ b S F (fb_kept HFB.out HK4.out.size) st.past bad HR4.out ⟨1, b2, a, 0, 0, 0⟩ st.p _ rfl (by omega)).mono ?_
          rintro e w5 hrp
          have HRP : Hid (RP w b S F bad (rdL (f + 1) st) e w5) := by
            show RP _ _ _ _ _ _ _ _
            rw [HE.out, HL.out]; exact rp_trans HK4.out (fun _ h => h) hrp
          obtain ⟨v, rfl⟩ := rp_ret HRP.out
          clear hrp
          go_wp2
          go_ret
          exact HRP.out
        | none =>
          rw [(two_none hn).1, (two_none hn).2]
          have HL : Hid (leafL st = .error (2, st.p)) := leaf_none HN.out hn
          clear hn
          go_wp2_with fail
          refine (failR _ b S F (fb_kept HFB.out HK4.out.size) _ bad HR4.out 2 st.p _ rfl).mono ?_
          rintro e w5 ⟨rfl, hb5, hk5⟩
          have HB5 : Hid (Bad w5 b S (2, st.p)) := hb5
          have HK5 : Hid (Kb b w w5) := HK4.out.trans hk5
          clear hb5 hk5
          go_wp2
          go_ret
          exact rp_err (HE.out.trans HL.out) HK5.out rfl HB5.out
    · have hpz : ¬ (st.p : Int) < (S.size : Int) := by omega
      have hd : decide ((st.p : Int) < (S.size : Int)) = false := by simpa using hpz
      clear ho hof hr h
      go_enter Tryz.func33, Tryz.ntmps33
      go_wp2_with fail
      refine (wordR _ b S F HFB.out st bad HR.out hs).mono ?_
      rintro e w2 ⟨X, rfl, hx, hxs, hr2, hk2⟩
      have HX : Hid (tl X = st.word) := hx
      have HR2 : Hid (RS w2 b S F st.past bad) := hr2
      have HK2 : Hid (Kb b w w2) := hk2
      clear hx hr2 hk2 c0 c1
      go_wp2_with fail
      refine (sTwo X 35 _ (by omega)).mono ?_
      rintro e w3 ⟨rfl, m3, rfl⟩
      have HR3 : Hid (RS (w2.drewN m3) b S F st.past bad) := rs_drewN HR2.out m3
      have HK3 : Hid (Kb b w (w2.drewN m3)) := HK2.out.drewN m3
      rw [HX.out]
      clear HR2 HK2
      generalize w2.drewN m3 = w3 at HR3 HK3 ⊢
      cases hn : twoL 35 st.word with
      | some x =>
        obtain ⟨a, b2⟩ := x
        rw [(two_some hn).1, (two_some hn).2]
        have HL : Hid (leafL st = match putL st.past.t ⟨0, a, b2, 0, 0, 0⟩ st.p with | .error e => .error e | .ok (t, i) => .ok (⟨st.past.p, st.past.r, t⟩, i)) := leaf_one hn
        have haz : (0 : Int) ≤ (a : Int) := by omega
        clear hn
        go_wp2_with fail
        refine (putR _ b S F (fb_kept HFB.out HK3.out.size) st.past bad HR3.out ⟨0, a, b2, 0, 0, 0⟩ st.p _ rfl (by omega)).mono ?_
        rintro e w4 hrp
        have HRP : Hid (RP w b S F bad (rdL (f + 1) st) e w4) := by
          show RP _ _ _ _ _ _ _ _
          rw [HE.out, HL.out]; exact rp_trans HK3.out (fun _ h => h) hrp
        obtain ⟨v, rfl⟩ := rp_ret HRP.out
        clear hrp
        go_wp2
        go_ret
        exact HRP.out
      | none =>
        rw [(two_none hn).1, (two_none hn).2]
        have HN : Hid (twoL 35 st.word = none) := hn
        clear hn
        go_wp2_with fail
        refine (sTwo X 118 _ (by omega)).mono ?_
        rintro e w4 ⟨rfl, m4, rfl⟩
        have HR4 : Hid (RS (w3.drewN m4) b S F st.past bad) := rs_drewN HR3.out m4
        have HK4 : Hid (Kb b w (w3.drewN m4)) := HK3.out.drewN m4
        rw [HX.out]
        clear HR3 HK3
        generalize w3.drewN m4 = w4 at HR4 HK4 ⊢
        cases hn : twoL 118 st.word with
        | some x =>
          obtain ⟨a, b2⟩ := x
          rw [(two_some hn).1, (two_some hn).2]
          have HL : Hid (leafL st = match putL st.past.t ⟨1, b2, a, 0, 0, 0⟩ st.p with | .error e => .error e | .ok (t, i) => .ok (⟨st.past.p, st.past.r, t⟩, i)) := leaf_two HN.out hn
          have haz : (0 : Int) ≤ (a : Int) := by omega
          clear hn
          go_wp2_with fail
          refine (putR _ b S F (fb_kept HFB.out HK4.out.size) st.past bad HR4.out ⟨1, b2, a, 0, 0, 0⟩ st.p _ rfl (by omega)).mono ?_
          rintro e w5 hrp
          have HRP : Hid (RP w b S F bad (rdL (f + 1) st) e w5) := by
            show RP _ _ _ _ _ _ _ _
            rw [HE.out, HL.out]; exact rp_trans HK4.out (fun _ h => h) hrp
          obtain ⟨v, rfl⟩ := rp_ret HRP.out
          clear hrp
          go_wp2
          go_ret
          exact HRP.out
        | none =>
          rw [(two_none hn).1, (two_none hn).2]
          have HL : Hid (leafL st = .error (2, st.p)) := leaf_none HN.out hn
          clear hn
          go_wp2_with fail
          refine (failR _ b S F (fb_kept HFB.out HK4.out.size) _ bad HR4.out 2 st.p _ rfl).mono ?_
          rintro e w5 ⟨rfl, hb5, hk5⟩
          have HB5 : Hid (Bad w5 b S (2, st.p)) := hb5
          have HK5 : Hid (Kb b w w5) := HK4.out.trans hk5
          clear hb5 hk5
          go_wp2
          go_ret
          exact rp_err (HE.out.trans HL.out) HK5.out rfl HB5.out

theorem rdC : ∀ f, RdC f := by
  intro f
  induction f with
  | zero => intro w b S F st bad _ _ _ h; omega
  | succ f ih => exact readR f ih

end Go.Proofs.YtmghkeahlhlclaaGreatDoor.Ss7

/- The walk of the model's reading of a text. -/
namespace Go.Proofs.YtmghkeahlhlclaaGreatDoor.Ss8
open Go.RowKit
open Nd0 Nd3 Tm0 Tx0 Tx1 Ss0 Ss1 Ss2 Ss3 Ss4 Ss5 Ss5b Ss6 Ss7
open Ws1 (ret_int ret_bool)
set_option linter.unusedVariables false

/-- What reading a whole text does. -/
def TPost (w : World) (s : List UInt8) (e : Ending) (w' : World) : Prop :=
  ∃ (a : Option Addr) (c : Nat), e = .returned (.tuple #[.slice a (readL s).1.length c, .int .i64 (readL s).2.1, .int .i64 (readL s).2.2]) ∧ Nodes w' a (readL s).1 ∧ Below w.heap.size w w'
theorem tpost {w : World} {s : List UInt8} {e : Ending} {w' : World} {l : List Nd} {x y : Int} (h : readL s = (l, x, y)) (a : Option Addr) (c : Nat) (he : e = .returned (.tuple #[.slice a l.length c, .int .i64 x, .int .i64 y])) (hn : Nodes w' a l) (hb : Below w.heap.size w w') : TPost w s e w' := by
  unfold TPost; rw [h]; exact ⟨a, c, he, hn, hb⟩
theorem read_long {s : List UInt8} (h : 4000 < s.length) : readL s = ([], 1, 0) := by unfold readL; rw [if_pos h]
theorem read_err {s : List UInt8} (h : ¬ 4000 < s.length) {x : Int × Nat} (e : rdL (s.length + 1) ⟨0, s, []⟩ = .error x) : readL s = ([], x.1, (x.2 : Int)) := by
  unfold readL; rw [if_neg h, e]
theorem read_left {s : List UInt8} (h : ¬ 4000 < s.length) {st : Rd} {i : Nat} (e : rdL (s.length + 1) ⟨0, s, []⟩ = .ok (st, i)) (hr : ¬ st.r.length = 0) : readL s = ([], 5, (st.p : Int)) := by
  unfold readL; rw [if_neg h, e]; simp only; rw [if_neg hr]
theorem read_ok {s : List UInt8} (h : ¬ 4000 < s.length) {st : Rd} {i : Nat} (e : rdL (s.length + 1) ⟨0, s, []⟩ = .ok (st, i)) (hr : st.r.length = 0) : readL s = (st.t.take (i + 1), 0, 0) := by
  unfold readL; rw [if_neg h, e]; simp only; rw [if_pos hr]
theorem nodes_nil (w : World) (a : Option Addr) : Nodes w a [] := ⟨Nat.zero_le _, .inl rfl⟩
theorem nodes_take' {w : World} {a : Option Addr} {L : List Nd} (h : Nodes w a L) {m : Nat} (hm : m ≤ L.length) : Nodes w a (L.take m) := by
  refine ⟨by rw [List.length_take]; have := h.1; omega, ?_⟩
  by_cases h0 : m = 0
  · exact .inl (by subst h0; simp)
  · rcases h.2 with e | ⟨b, o, he, hc⟩
    · omega
    · refine .inr ⟨b, o, he, fun i hi => ?_⟩
      have hi' : i < L.length := by rw [List.length_take] at hi; omega
      rw [List.getElem_take]; exact hc i hi'

set_option maxRecDepth 100000 in
set_option maxHeartbeats 2000000 in
theorem sReadTerm (w : World) (S : ByteArray) (hsz : S.size ≤ 2097152) :
    Calls Tryz.prog 13 #[.string S] w (TPost w (tl S)) := by
  have hsl := tl_length S
  by_cases hl : 4000 < S.size
  · have HE : Hid (readL (tl S) = ([], 1, 0)) := read_long (by omega)
    have hlz : (4000 : Int) < (S.size : Int) := by omega
    clear hsl hl
    go_enter Tryz.func13, Tryz.ntmps13
    go_wp2
    refine bodyPost_ret (v := .tuple #[.slice (some ⟨w.heap.size, 0, none⟩) 0 0, .int .i64 1, .int .i64 0]) (by simp [results, Tryz.results13, go_sem]) rfl ?_
    exact tpost HE.out _ _ rfl (nodes_nil _ _) ((Below.refl _ _).alloc (Nat.le_refl _) _)
  · have hlz : ¬ (4000 : Int) < (S.size : Int) := by omega
    have HNL : Hid (¬ 4000 < (tl S).length) := by show ¬ _; omega
    have hs4 : S.size ≤ 4000 := by omega
    obtain ⟨w1, hw1⟩ : ∃ w1 : World, w1 = w.alloc (.cells #[] 48) := ⟨_, rfl⟩
    obtain ⟨w2, hw2⟩ : ∃ w2 : World, w2 = w1.alloc (.cells #[.string S, .int .i64 0, .slice none 0 0, .int .i64 0, .int .i64 0] 60) := ⟨_, rfl⟩
    obtain ⟨b, hb⟩ : ∃ b : Nat, b = w1.heap.size := ⟨_, rfl⟩
    have hb1 : Below w.heap.size w w1 := by rw [hw1]; exact (Below.refl _ _).alloc (Nat.le_refl _) _
    have hb2 : Below w1.heap.size w1 w2 := by rw [hw2]; exact (Below.refl _ _).alloc (Nat.le_refl _) _
    have HB2 : Hid (Below w.heap.size w w2) := hb1.trans (hb2.mono hb1.size)
    have hbw : w.heap.size ≤ b := by rw [hb]; exact hb1.size
    have hbs : b < w2.heap.size := by rw [hw2, hb]; simp
    have HR2 : Hid (RS w2 b S (fun k => k = b) ⟨0, tl S, []⟩ 0) := by
      refine ⟨⟨none, 0, ?_, nodes_nil _ _, fun x h0 _ => by simp at h0, Nat.zero_le _⟩, rfl, Nat.zero_le _, ⟨by simp, fun k hk => by simp at hk⟩⟩
      rw [hw2, hb]
      refine ⟨?_, ?_, ?_, ?_, ?_, by simp, by simp, by simp, by simp⟩
      all_goals
        rw [World.cell?_alloc_new]
        rfl
    have HFB : Hid (Fb w2 b (fun k => k = b)) := ⟨rfl, fun k hk => by have e : k = b := hk; omega⟩
    have HW : Hid (w2 = (w.alloc (.cells #[] 48)).alloc (.cells #[.string S, .int .i64 0, .slice none 0 0, .int .i64 0, .int .i64 0] 60) ∧ b = w.heap.size + 1) := by
      constructor
      · rw [hw2, hw1]
      · rw [hb, hw1]; simp
    clear hw1 hw2 hb hb1 hb2 hl
    go_enter Tryz.func13, Tryz.ntmps13
    go_wp2_with fail
    rw [← HW.out.1, ← HW.out.2]
    clear HW
    refine (rdC ((tl S).length + 1) w2 b S _ ⟨0, tl S, []⟩ 0 HFB.out HR2.out hs4 (by simp)).mono ?_
    rintro e w3 ⟨hk3, her, hok⟩
    have HB3 : Hid (Below w.heap.size w w3) := ⟨hk3.os.trans HB2.out.os, hk3.tape.trans HB2.out.tape, hk3.output.trans HB2.out.output, Nat.le_trans HB2.out.size hk3.size, fun k hk => (hk3.block k (Nat.lt_of_lt_of_le hk HB2.out.size) (fun e => by have e' : k = b := e; omega)).trans (HB2.out.block k hk)⟩
    cases hrd : rdL ((tl S).length + 1) ⟨0, tl S, []⟩ with
    | error x =>
      obtain ⟨rfl, pp, tv, hrc⟩ := her x hrd
      have hx := (rd_fail _ _ x hrd).1
      have HE : Hid (readL (tl S) = ([], x.1, (x.2 : Int))) := read_err HNL.out hrd
      obtain ⟨x1, x2⟩ := x
      have q3 := hrc.c3
      have q4 := hrc.c4
      simp only at q3 q4 hx HE
      have hx0 : (x1 == 0) = false := by rcases hx with e | e | e <;> rw [e] <;> rfl
      have hx1 : (x1 != 0) = true := by rcases hx with e | e | e <;> rw [e] <;> rfl
      clear hrd her hok hk3 hrc HR2 hx
      go_wp2
      go_quiet (fail)
      go_wp2
      refine bodyPost_ret (v := .tuple #[.slice (some ⟨w.heap.size, 0, none⟩) 0 0, .int .i64 x1, .int .i64 x2]) (by simp [results, Tryz.results13, go_sem]) rfl ?_
      exact tpost HE.out _ _ rfl (nodes_nil _ _) ⟨HB3.out.os, HB3.out.tape, HB3.out.output, HB3.out.size, HB3.out.block⟩
    | ok x =>
      obtain ⟨st, i⟩ := x
      obtain ⟨rfl, hr3⟩ := hok st i hrd
      have HR3 : Hid (RS w3 b S (fun k => k = b) st 0) := hr3
      have HFB3 : Hid (Fb w3 b (fun k => k = b)) := fb_kept HFB.out hk3.size
      have hpl := rd_place hrd
      obtain ⟨ta, tc, hrc, htn, haw, htc⟩ := hr3.rl
      have q1 := hrc.c1
      have q2 := hrc.c2
      have q3 := hrc.c3
      have hrr := hr3.r
      have hpp := hr3.p
      have hlen := left_len S st.p
      rw [← hrr] at hlen
      by_cases h0 : st.r.length = 0
      · have HE : Hid (readL (tl S) = (st.t.take (i + 1), 0, 0)) := read_ok HNL.out hrd h0
        have hz : ¬ (st.p : Int) < (S.size : Int) := by omega
        have hfit := hr3.fit.1
        have HTN : Hid (Nodes w3 ta (st.t.take (i + 1))) := nodes_take' htn (by omega)
        have hcz : (i : Int) + 1 ≤ (tc : Int) := by omega
        have HTL : Hid ((st.t.take (i + 1)).length = i + 1) := by show _ = _; rw [List.length_take]; omega
        clear hrd her hok hk3 hrc HR2 htn haw hr3 hrr h0 hlen
        go_wp2
        refine bodyPost_ret (v := .tuple #[.slice ta (i + 1) tc, .int .i64 0, .int .i64 0]) (by simp [results, Tryz.results13, go_sem]) rfl ?_
        exact tpost HE.out ta tc (by rw [HTL.out]) HTN.out HB3.out
      · have HE : Hid (readL (tl S) = ([], 5, (st.p : Int))) := read_left HNL.out hrd h0
        have hz : (st.p : Int) < (S.size : Int) := by omega
        clear hrd her hok hk3 hrc HR2 htn haw hr3 hrr h0 hlen
        go_wp2_with fail
        refine (failR _ b S _ HFB3.out _ 0 HR3.out 5 st.p _ rfl).mono ?_
        rintro e w4 ⟨rfl, ⟨pp, tv, hrc4⟩, hk4⟩
        have q3' := hrc4.c3
        have q4' := hrc4.c4
        simp only at q3' q4'
        have HB4 : Hid (Below w.heap.size w w4) := ⟨hk4.os.trans HB3.out.os, hk4.tape.trans HB3.out.tape, hk4.output.trans HB3.out.output, Nat.le_trans HB3.out.size hk4.size, fun k hk => (hk4.block k (Nat.lt_of_lt_of_le hk HB3.out.size) (fun e => by have e' : k = b := e; omega)).trans (HB3.out.block k hk)⟩
        clear hrc4 hk4 q1 q2 q3
        go_wp2
        go_quiet (fail)
        go_wp2
        refine bodyPost_ret (v := .tuple #[.slice (some ⟨w.heap.size, 0, none⟩) 0 0, .int .i64 5, .int .i64 st.p]) (by simp [results, Tryz.results13, go_sem]) rfl ?_
        exact tpost HE.out _ _ rfl (nodes_nil _ _) ⟨HB4.out.os, HB4.out.tape, HB4.out.output, HB4.out.size, HB4.out.block⟩

end Go.Proofs.YtmghkeahlhlclaaGreatDoor.Ss8

/- The walks of the model's ShowTerm, Canon and Same. -/
namespace Go.Proofs.YtmghkeahlhlclaaGreatDoor.Ss10
open Go.RowKit
open Nd0 Nd3 Tm0 Tx0 Tx2 Tx3 Tx4 Ss0 Ss1 Ss2 Ss8 Ss9 Ap4
open Tm8 (down_of)
open Sp4 (sTermOk)
open Ws1 (ret_bool)
set_option linter.unusedVariables false

theorem showTo_get (l : List Nd) {k i : Nat} (hi : i < (showTo l k).length) (hk : k ≤ l.length) : (showTo l k)[i] = X l i := by
  have hi' : i < k := by rw [showTo_length] at hi; exact hi
  unfold X
  rw [show_prefix l (k := k) (n := l.length) hi' hk, txt_nat, List.getD_eq_getElem?_getD, List.getElem?_eq_getElem hi]; rfl
theorem showTo_short {l : List Nd} (hT : termOk l = true) {k : Nat} (hk : k ≤ l.length) : ∀ t ∈ showTo l k, t.length ≤ 4000 := by
  intro t ht
  obtain ⟨i, hi, rfl⟩ := List.getElem_of_mem ht
  have hi' : i < k := by rw [showTo_length] at hi; exact hi
  rw [showTo_get l hi hk]
  exact X_len (term_all hT) (down_of hT) (by omega)
theorem ret_sb {a c : ByteArray} {b d : Bool} (h : a = c) (h2 : b = d) : Ending.returned (.tuple #[.string a, .bool b]) = .returned (.tuple #[.string c, .bool d]) := by rw [h, h2]
/-- Whether a term has a text. -/
def hasB (l : List Nd) : Bool := decide (¬ (showL l).length = 0)
theorem show_no {l : List Nd} (h : termOk l = false) : showL l = [] := by unfold showL; rw [h]; rfl

set_option maxRecDepth 100000 in
set_option maxHeartbeats 2000000 in
theorem sShowTerm (w : World) (a : Option Addr) (l : List Nd) (c : Nat) (hN : Nodes w a l) :
    Calls Tryz.prog 9 #[.slice a l.length c] w fun e w' => e = .returned (.tuple #[.string (bs (showL l)), .bool (hasB l)]) ∧ Below w.heap.size w w' := by
  have HN : Hid (Nodes w a l) := hN
  clear hN
  go_enter Tryz.func9, Tryz.ntmps9
  go_wp2_with fail
  refine (sTermOk _ a l c HN.out).mono ?_
  rintro e w1 ⟨rfl, hb1⟩
  have HB1 : Hid (Below w.heap.size w w1) := hb1
  have HN1 : Hid (Nodes w1 a l) := HN.out.below hb1
  clear hb1
  cases hT : termOk l
  · have HE : Hid (showL l = []) := show_no hT
    clear hT
    go_wp2
    go_ret2
    exact ⟨ret_sb (by rw [HE.out]; rfl) (by unfold hasB; rw [HE.out]; rfl), HB1.out⟩
  · have HT : Hid (termOk l = true) := hT
    obtain ⟨hl1, hl2⟩ := term_len hT
    have hbel : Below w1.heap.size w1 (w1.alloc (.cells #[] 9)) := (Below.refl _ _).alloc (Nat.le_refl _) _
    have HO : Hid (Ost (w1.alloc (.cells #[] 9)) w1.heap.size (.slice (some ⟨w1.heap.size, 0, none⟩) 0 0) []) := Ost.lit w1 _ (Nat.le_refl _)
    have HB2 : Hid (Below w1.heap.size w1 (w1.alloc (.cells #[] 9))) := hbel
    clear hT hbel
    go_wp2_with fail
    go_loopw [4, 5] (fun v q wr => ∃ k : Nat, k ≤ l.length ∧ q = .int .i64 k ∧ Ost wr w1.heap.size v (showTo l k) ∧ Below w1.heap.size w1 wr) (fun _ q _ => l.length - (intOf q).toNat)
    case atStart => exact ⟨0, Nat.zero_le _, rfl, HO.out, HB2.out⟩
    case round =>
      clear HO HB2
      obtain ⟨k, hk, rfl, ho, hb⟩ := hrel
      have HO : Hid (Ost wr w1.heap.size u4 (showTo l k)) := ho
      have HBR : Hid (Below w1.heap.size w1 wr) := hb
      have hBs : w1.heap.size ≤ wr.heap.size := hb.size
      by_cases hlt : k < l.length
      · have hkz : (k : Int) < (l.length : Int) := by omega
        have HNR : Hid (Nodes wr a l) := HN1.out.below hb
        rcases HNR.out.2 with h0 | ⟨xb, xo, rfl, hc⟩
        · omega
        obtain ⟨p0, p1, p2, p3, p4, p5⟩ := hc k hlt
        rw [nth_get hlt] at p0 p1 p2 p3 p4 p5
        clear hc
        obtain ⟨ua, uc, hu, hst⟩ := ho.form
        rw [showTo_length] at hu
        have HST : Hid (Strs wr ua (showTo l k)) := hst
        have HWR : Hid (Wr (nth l k) k) := wr_of (fun j hj => (node_width (term_node HT.out (by omega))).2) (term_node HT.out hlt)
        have hsl : (showTo l k).length = k := showTo_length l k
        have HSL : Hid ((showTo l k).length = k) := hsl
        have HSN : Hid (showTo l (k + 1) = showTo l k ++ [showN (nth l k) (showTo l k)]) := rfl
        subst hu
        clear ho hb hst hsl
        generalize nth l k = n at p0 p1 p2 p3 p4 p5 HWR HSN
        go_wp2_with fail
        have hcall := sShow n wr ua (showTo l k) uc HST.out (by rw [HSL.out]; exact HWR.out) (showTo_short HT.out hk)
        rw [HSL.out] at hcall
        refine hcall.mono ?_
        clear hcall
        rintro e w3 ⟨rfl, hb3⟩
        have HO3 : Hid (Ost w3 w1.heap.size (.slice ua k uc) (showTo l k)) := HO.out.kept (S := fun _ => False) (Kept.ofBelow hb3) (fun _ _ h => h)
        have HB3 : Hid (Below w1.heap.size w1 w3) := HBR.out.trans (hb3.mono hBs)
        have hB3 : w1.heap.size ≤ w3.heap.size := HB3.out.size
        clear hb3 p0 p1 p2 p3 p4 p5
        go_wp2_with (at_builtin; go_must (refine app_str w3 rfl _ _ rfl w1.heap.size (.slice ua k uc) (showTo l k) (showN n (showTo l k)) rfl rfl HO3.out hB3 (by rw [HSL.out]; omega) ?_; intro g9 cp9 w9 ho9 hk9 hg9))
        have HO9 : Hid (Ost w9 w1.heap.size (.slice (some ⟨g9, 0, none⟩) ((showTo l k).length + 1) cp9) (showTo l (k + 1))) := by
          show Ost _ _ _ _
          rw [HSN.out]; exact ho9
        have HB9 : Hid (Below w1.heap.size w1 w9) := HB3.out.trans (hk9.below (fun j hj => (HO3.out.lt j hj).1) hB3)
        clear ho9 hk9 hg9
        go_roundw
        case rel => exact ⟨k + 1, by omega, by go_num, HO9.out, HB9.out⟩
        case measure => simp [intOf]; omega
      · have hkz : ¬ (k : Int) < (l.length : Int) := by omega
        obtain rfl : k = l.length := by omega
        obtain ⟨ua, uc, hu, hst⟩ := ho.form
        rw [showTo_length] at hu
        subst hu
        have HBE : Hid (Below w.heap.size w wr) := HB1.out.trans (hb.mono HB1.out.size)
        rcases hst.2 with h0 | ⟨tb, tq, rfl, htc⟩
        · rw [showTo_length] at h0; omega
        have hq := htc (l.length - 1) (by rw [showTo_length]; omega)
        rw [showTo_get l _ (Nat.le_refl _), ← show_X HT.out] at hq
        clear htc hst ho hb HO HBR
        have g1 : (0 : Int) ≤ (l.length : Int) - 1 := by omega
        have g2 : (l.length : Int) - 1 < (l.length : Int) := by omega
        by_cases he : showL l = []
        · have hqe : ((bs (showL l)).toList == []) = true := eql_true (by rw [tl_bs]; exact he)
          have HH : Hid (hasB l = false) := by show _ = _; unfold hasB; rw [he]; rfl
          clear he
          go_wp2
          go_ret2
          exact ⟨ret_sb rfl HH.out.symm, HBE.out⟩
        · have hqe : ((bs (showL l)).toList == []) = false := eql_false (by rw [tl_bs]; exact he)
          have HH : Hid (hasB l = true) := by
            show _ = _
            unfold hasB
            exact decide_eq_true (fun e => he (List.eq_nil_of_length_eq_zero e))
          clear he
          go_wp2
          go_ret2
          exact ⟨ret_sb rfl HH.out.symm, HBE.out⟩

set_option maxHeartbeats 1000000 in
theorem sCanon (w : World) (a : Option Addr) (l : List Nd) (c : Nat) (hN : Nodes w a l) :
    Calls Tryz.prog 18 #[.slice a l.length c] w fun e w' => (∃ a' c', e = .returned (.slice a' (canonL l).length c') ∧ Nodes w' a' (canonL l)) ∧ Below w.heap.size w w' := by
  have HN : Hid (Nodes w a l) := hN
  clear hN
  go_enter Tryz.func18, Tryz.ntmps18
  go_wp2_with fail
  refine (sShowTerm _ a l c HN.out).mono ?_
  rintro e w1 ⟨rfl, hb1⟩
  have HB1 : Hid (Below w.heap.size w w1) := hb1
  clear hb1
  by_cases he : (showL l).length = 0
  · have HC : Hid (canonL l = []) := by show _ = _; unfold canonL; rw [if_pos he]
    have hh : hasB l = false := by unfold hasB; exact decide_eq_false (fun h => h he)
    rw [hh]
    clear he hh
    go_wp2
    go_ret
    exact ⟨⟨_, _, by rw [HC.out]; rfl, by rw [HC.out]; exact nodes_nil _ _⟩, HB1.out.alloc HB1.out.size _⟩
  · have HC : Hid (canonL l = (readL (showL l)).1) := by show _ = _; unfold canonL; rw [if_neg he]
    have hh : hasB l = true := by unfold hasB; exact decide_eq_true he
    rw [hh]
    have hsz : (bs (showL l)).size ≤ 2097152 := by
      rw [bs_size]
      cases hT : termOk l
      · rw [show_no hT]; simp
      · have := show_len hT; omega
    clear he hh
    go_wp2_with fail
    refine (sReadTerm _ _ hsz).mono ?_
    rw [tl_bs]
    rintro e w2 ⟨a2, c2, rfl, hn2, hb2⟩
    have HN2 : Hid (Nodes w2 a2 (readL (showL l)).1) := hn2
    have HB2 : Hid (Below w.heap.size w w2) := HB1.out.trans (hb2.mono HB1.out.size)
    clear hn2 hb2
    go_wp2
    go_ret
    exact ⟨⟨a2, c2, by rw [HC.out]; rfl, by rw [HC.out]; exact HN2.out⟩, HB2.out⟩

theorem same_of {l m : List Nd} (h1 : hasB l = true) (h2 : hasB m = true) : sameB l m = decide (showL l = showL m) := by
  have e1 : decide (¬ (showL l).length = 0) = true := h1
  have e2 : decide (¬ (showL m).length = 0) = true := h2
  unfold sameB; rw [e1, e2]; rfl
theorem same_no {l m : List Nd} (h : hasB l = false ∨ hasB m = false) : sameB l m = false := by
  rcases h with h | h
  · have e1 : decide (¬ (showL l).length = 0) = false := h
    unfold sameB; rw [e1]; rfl
  · have e1 : decide (¬ (showL m).length = 0) = false := h
    unfold sameB; rw [e1]; simp

end Go.Proofs.YtmghkeahlhlclaaGreatDoor.Ss10
