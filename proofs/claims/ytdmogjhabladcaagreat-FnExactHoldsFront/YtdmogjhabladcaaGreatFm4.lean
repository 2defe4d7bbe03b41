/- The walk of the model's HoldsFront. -/
import Derived.Test.YtdmogjhabladcaaGreatFm2
import Derived.Test.YtdmogjhabladcaaGreatFr4
import Derived.Test.YtdmogjhabladcaaGreatPkL
namespace Go.Proofs.YtdmogjhabladcaaGreat.Fm4
open Go.RowKit
open Nd0 Qa0 Pl1 Tm0 Tm1 Tm6 Tr0 Rw0 Rw1 Vl1 Vm0 Kp1 Fr0 Fr1 Fr4
open Fm1 (quAt sBitsQ bitsQ bitsQ_few)
open Fm2 (sFrontOk sZerosW)
open Sv4 (sAt)
open Wd1 (spow)
open Ws1 (ret_int ret_bool)
set_option linter.unusedVariables false

/-- What HoldsFront tells. -/
def hfB (q : List Qu) (l : List Nd) : Bool := frontOkB q l && fewB q
def hfV (q : List Qu) (l : List Nd) : Int := if hfB q l then hf q (root l) (List.replicate 8 0) else 0

/-- What l05Holds is to do from quantifier k on. -/
def SHo (q : List Qu) (l : List Nd) (k : Nat) : Prop := ∀ (w : World) (aq a : Option Addr) (cq c g ce : Nat) (e : List Int), Qus w aq q → Nodes w a l → (0 < q.length → ∀ x, aq = some x → x.block ≠ g) → (∀ x, a = some x → x.block ≠ g) → e.length = 8 → Env w g e →
    Calls Tryz.prog 77 #[.slice aq q.length cq, .slice a l.length c, .slice (some ⟨g, 0, none⟩) 8 ce, .int .i64 (k : Int)] w fun x w' => x = .returned (.int .i64 (hf (q.drop k) (root l) e)) ∧ (∃ e', Off (q.drop k) e e' ∧ Env w' g e') ∧ Kept (fun b => b = g) w w'

theorem env_set {w : World} {g : Nat} {e : List Int} (h : Env w g e) (he : e.length = 8) {v : Nat} (hv : v < 8) (x : Int) : Env (w.setCell ⟨g, v, none⟩ (.int .i64 x)) g (e.set v x) := row_set_int h he hv x

set_option maxRecDepth 100000 in
set_option maxHeartbeats 4000000 in
theorem sHo_end {q : List Qu} {l : List Nd} (hT : termOk l = true) : SHo q l q.length := by
  intro w aq a cq c g ce e hQ hN hgq hga he hE
  obtain ⟨hl1, hl2⟩ := term_len hT
  have HN : Hid (Nodes w a l) := hN
  have HGA : Hid (∀ x, a = some x → x.block ≠ g) := hga
  have HE : Hid (Env w g e) := hE
  have HL : Hid (e.length = 8) := he
  have HAT : Hid (Sv3.SAt l (l.length - 1)) := sAt hT _ (by omega)
  have HD : Hid (hf (q.drop q.length) (root l) e = vT (tr l (l.length - 1)) e) := by
    show _ = _
    rw [List.drop_length]; rfl
  have HOF : Hid (Off (q.drop q.length) e e) := Off.refl _ _
  have hl9 : q.length ≤ maxLen := hQ.1
  unfold maxLen at hl9
  have e1 : ((l.length - 1 : Nat) : Int) = (l.length : Int) - 1 := by omega
  clear hN hga hE he hQ hgq
  go_enter Tryz.func77, Tryz.ntmps77
  go_wp2_with fail
  have hc := HAT.out w a c g ce e HN.out HGA.out HL.out HE.out
  rw [e1] at hc
  refine hc.mono ?_
  rintro x w1 ⟨rfl, hE1, hK1⟩
  have HE1 : Hid (Env w1 g e) := hE1
  have HK1 : Hid (Kept (fun b => b = g) w w1) := hK1
  clear hE1 hK1 hc
  generalize vT (tr l (l.length - 1)) e = val at HD ⊢
  go_wp2
  go_ret
  exact ⟨ret_int HD.out.symm, ⟨e, HOF.out, HE1.out⟩, HK1.out⟩

set_option maxRecDepth 100000 in
set_option maxHeartbeats 8000000 in
theorem sHo_step {q : List Qu} {l : List Nd} {k : Nat} (hk : k < q.length) (hq9 : q.length ≤ 8) (hty : 0 ≤ (qth q k).vr ∧ (qth q k).vr ≤ 7 ∧ 1 ≤ (qth q k).bits ∧ (qth q k).bits ≤ 8) (ih : SHo q l (k + 1)) : SHo q l k := by
  intro w aq a cq c g ce e hQ hN hgq hga he hE
  have HN : Hid (Nodes w a l) := hN
  have HQ : Hid (Qus w aq q) := hQ
  have HGA : Hid (∀ x, a = some x → x.block ≠ g) := hga
  have hgq' : ∀ x, aq = some x → x.block ≠ g := hgq (by omega)
  have HGQ : Hid (∀ x, aq = some x → x.block ≠ g) := hgq'
  have HE : Hid (Env w g e) := hE
  have HL : Hid (e.length = 8) := he
  have HIH : Hid (SHo q l (k + 1)) := ih
  have HDR : Hid (q.drop k = qth q k :: q.drop (k + 1)) := by
    show _ = _
    rw [← qth_get hk]; exact List.drop_eq_getElem_cons hk
  obtain ⟨b, o, rfl, hc⟩ := quAt hQ hk
  have hbw : b < w.heap.size := lt_of_cell (hc k hk).c0
  have hbg : b ≠ g := hgq' _ rfl
  have HC : Hid (QuAt w b (o + k * 3) (qth q k)) := hc k hk
  clear hN hQ hga hgq hgq' hE he ih hc
  obtain ⟨x, hx⟩ : ∃ x, x = qth q k := ⟨_, rfl⟩
  rw [← hx] at HDR HC hty
  clear hx
  obtain ⟨al, vr, bt⟩ := x
  simp only at hty
  obtain ⟨hv0, hv7, hb1, hb8⟩ := hty
  obtain ⟨vv, rfl⟩ := Int.eq_ofNat_of_zero_le hv0
  have hv8 : (vv : Int) < 8 := by omega
  obtain ⟨f, hf'⟩ : ∃ f : Nat → Int, f = fun (i : Nat) => hf (q.drop (k + 1)) (root l) (e.set vv (i : Int)) := ⟨_, rfl⟩
  have HF : Hid (∀ (i : Nat) (e1 : List Int), Off (q.drop k) e e1 → hf (q.drop (k + 1)) (root l) (e1.set vv (i : Int)) = f i) := fun i e1 h => by
    rw [hf']
    rw [HDR.out] at h
    have h2 := h.set (i : Int)
    exact (hf_off _ _ _ _ h2).symm
  have HV : Hid (hf (q.drop k) (root l) e = if al then allN f (2 ^ bt.toNat) else anyN f (2 ^ bt.toNat)) := by
    show _ = _
    rw [HDR.out, hf']; rfl
  have HON : Hid (∀ (e1 e2 : List Int) (i : Int), Off (q.drop k) e e1 → Off (q.drop (k + 1)) (e1.set vv i) e2 → Off (q.drop k) e e2) := fun e1 e2 i h1 h2 => by
    refine h1.trans ?_
    rw [HDR.out]
    have h3 : Off (⟨al, (vv : Int), bt⟩ :: q.drop (k + 1)) e1 (e1.set (⟨al, (vv : Int), bt⟩ : Qu).vr.toNat i) := Off.one e1 i
    exact h3.trans (h2.mono (fun x hx => List.mem_cons_of_mem _ hx))
  obtain ⟨M, hM⟩ : ∃ M : Nat, M = 2 ^ bt.toNat := ⟨_, rfl⟩
  rw [← hM] at HV
  have HP : Hid (∀ W, Calls Tryz.prog 91 #[.int .i64 bt] W fun e w' => e = .returned (.int .i64 (M : Int)) ∧ w' = W) := fun W => (spow bt W (by omega) (by omega)).mono (fun e w' h => ⟨by rw [h.1, hM]; simp [p2], h.2⟩)
  have hM9 : M ≤ 256 := by rw [hM]; exact (Sv3.pow_le hb1 hb8).1
  clear hf' hM
  have hkz : (k : Int) < (q.length : Int) := by omega
  have hke : ((k : Int) == (q.length : Int)) = false := by rw [beq_eq_false_iff_ne]; omega
  have hk1 : ((k + 1 : Nat) : Int) = (k : Int) + 1 := by omega
  go_enter Tryz.func77, Tryz.ntmps77
  go_wp2
  go_loopw [9, 10, 11] (fun va vs xi wr => ∃ (n : Nat) (e1 : List Int), n ≤ M ∧ xi = .int .i64 (n : Int) ∧ va = .int .i64 (allN f n) ∧ vs = .int .i64 (anyN f n) ∧ Off (q.drop k) e e1 ∧ e1.length = 8 ∧ Env wr g e1 ∧ Kept (fun b => b = g) w wr) (fun _ _ xi _ => M - (intOf xi).toNat)
  case atStart => exact ⟨0, e, Nat.zero_le _, rfl, rfl, rfl, Off.refl _ _, HL.out, HE.out, Kept.refl _ _⟩
  case round =>
    obtain ⟨n, e1, hn, rfl, rfl, rfl, hof, hl1, hE1, hK1⟩ := hrel
    have HOF : Hid (Off (q.drop k) e e1) := hof
    have HL1 : Hid (e1.length = 8) := hl1
    have HE1 : Hid (Env wr g e1) := hE1
    have HK1 : Hid (Kept (fun b => b = g) w wr) := hK1
    obtain ⟨p0', p1', p2'⟩ := HC.out
    have p0 : wr.cell? ⟨b, o + k * 3, none⟩ = some (.bool al) := by rw [hK1.cell (p := ⟨b, o + k * 3, none⟩) hbw hbg]; exact p0'
    have p1 : wr.cell? ⟨b, o + k * 3 + 1, none⟩ = some (.int .i64 (vv : Int)) := by rw [hK1.cell (p := ⟨b, o + k * 3 + 1, none⟩) hbw hbg]; exact p1'
    have p2 : wr.cell? ⟨b, o + k * 3 + 2, none⟩ = some (.int .i64 bt) := by rw [hK1.cell (p := ⟨b, o + k * 3 + 2, none⟩) hbw hbg]; exact p2'
    clear hof hl1 hE1 hK1 p0' p1' p2'
    by_cases hlt : n < M
    · have hlz : (n : Int) < (M : Int) := by omega
      obtain ⟨c1, c2⟩ := HE1.out vv (by omega)
      dsimp only at c1
      obtain ⟨w2, hw2⟩ : ∃ w2 : World, w2 = wr.setCell ⟨g, vv, none⟩ (.int .i64 (n : Int)) := ⟨_, rfl⟩
      have HE2 : Hid (Env w2 g (e1.set vv (n : Int))) := by rw [hw2]; exact env_set HE1.out HL1.out (by omega) _
      have HK2 : Hid (Kept (fun b => b = g) w w2) := by rw [hw2]; exact HK1.out.setCell (p := ⟨g, vv, none⟩) rfl _
      have HCL := HIH.out w2 (some ⟨b, o, none⟩) a cq c g ce (e1.set vv (n : Int)) (HQ.out.kept HK2.out HGQ.out) (HN.out.kept HK2.out HGA.out) (fun _ => HGQ.out) HGA.out (by rw [List.length_set]; exact HL1.out) HE2.out
      rw [HF.out n e1 HOF.out, hk1] at HCL
      have HA : Hid (f n = 1 → allN f (n + 1) = allN f n ∧ anyN f (n + 1) = 1) := fun h => ⟨allN_yes h, anyN_yes h⟩
      have HB : Hid (¬ f n = 1 → allN f (n + 1) = 0 ∧ anyN f (n + 1) = anyN f n) := fun h => ⟨allN_no h, anyN_no h⟩
      go_wp2_with (go_at_call 91; refine (HP.out _).mono ?_; rintro e w' ⟨rfl, hw'⟩; have hw'' := hw'.symm; clear hw'; subst hw'')
      rw [← hw2]
      clear hw2 c1 c2
      refine HCL.mono ?_
      rintro x w3 ⟨rfl, ⟨e3, hO3, hE3⟩, hK3⟩
      have HO3 : Hid (Off (q.drop k) e e3) := HON.out e1 e3 _ HOF.out hO3
      have HL3 : Hid (e3.length = 8) := by
        show _ = _
        rw [← hO3.1, List.length_set]; exact HL1.out
      have HE3 : Hid (Env w3 g e3) := hE3
      have HK3 : Hid (Kept (fun b => b = g) w w3) := HK2.out.trans hK3
      clear hO3 hE3 hK3 HCL
      generalize f n = fn at HA HB ⊢
      cases hfn : (fn == 1)
      · obtain ⟨h1, h2⟩ := HB.out (by simpa using hfn)
        have H1 : Hid (allN f (n + 1) = 0 ∧ anyN f (n + 1) = anyN f n) := ⟨h1, h2⟩
        clear h1 h2
        go_wp2
        go_roundw
        case rel => exact ⟨n + 1, e3, by omega, by go_num, by rw [H1.out.1], by rw [H1.out.2], HO3.out, HL3.out, HE3.out, HK3.out⟩
        case measure => simp [intOf]; omega
      · obtain ⟨h1, h2⟩ := HA.out (by simpa using hfn)
        have H1 : Hid (allN f (n + 1) = allN f n ∧ anyN f (n + 1) = 1) := ⟨h1, h2⟩
        clear h1 h2
        go_wp2
        go_roundw
        case rel => exact ⟨n + 1, e3, by omega, by go_num, by rw [H1.out.1], by rw [H1.out.2], HO3.out, HL3.out, HE3.out, HK3.out⟩
        case measure => simp [intOf]; omega
    · have hlz : ¬ (n : Int) < (M : Int) := by omega
      have HNM : Hid (n = M) := by show _ = _; omega
      cases al
      · have HV2 : Hid (hf (q.drop k) (root l) e = anyN f n) := by
          show _ = _
          rw [HV.out, HNM.out]; rfl
        go_wp2_with (go_at_call 91; refine (HP.out _).mono ?_; rintro e w' ⟨rfl, hw'⟩; have hw'' := hw'.symm; clear hw'; subst hw'')
        go_ret
        exact ⟨ret_int HV2.out.symm, ⟨e1, HOF.out, HE1.out⟩, HK1.out⟩
      · have HV2 : Hid (hf (q.drop k) (root l) e = allN f n) := by
          show _ = _
          rw [HV.out, HNM.out]; rfl
        go_wp2_with (go_at_call 91; refine (HP.out _).mono ?_; rintro e w' ⟨rfl, hw'⟩; have hw'' := hw'.symm; clear hw'; subst hw'')
        go_ret
        exact ⟨ret_int HV2.out.symm, ⟨e1, HOF.out, HE1.out⟩, HK1.out⟩

theorem sHo_all {q : List Qu} {l : List Nd} (hf : frontOkB q l = true) : ∀ d k, k + d = q.length → SHo q l k := by
  obtain ⟨hT, hr, ws, hw, hg⟩ := fo_of hf
  intro d
  induction d with
  | zero => intro k hk; rw [show k = q.length by omega]; exact sHo_end hT
  | succ d ih =>
    intro k hk
    have ht := wq_ty q.length ws (Nat.le_refl _) hw k (by omega)
    exact sHo_step (by omega) (fo_few hf) ⟨ht.1, ht.2.1, ht.2.2.1, ht.2.2.2.1⟩ (ih (k + 1) (by omega))

set_option maxRecDepth 100000 in
set_option maxHeartbeats 4000000 in
theorem sHoldsFront (w : World) (aq a : Option Addr) (q : List Qu) (l : List Nd) (cq c : Nat) (hQ : Qus w aq q) (hN : Nodes w a l) (hl : q.length ≤ 1048576) :
    Calls Tryz.prog 32 #[.slice aq q.length cq, .slice a l.length c] w fun e w' => e = .returned (.tuple #[.int .i64 (hfV q l), .bool (hfB q l)]) ∧ Below w.heap.size w w' := by
  have HN : Hid (Nodes w a l) := hN
  have HQ : Hid (Qus w aq q) := hQ
  clear hN hQ
  go_enter Tryz.func32, Tryz.ntmps32
  go_wp2_with fail
  refine (sFrontOk w aq a q l cq c HQ.out HN.out hl).mono ?_
  rintro e w1 ⟨rfl, hb1⟩
  have HB1 : Hid (Below w.heap.size w w1) := hb1
  clear hb1
  cases hfo : frontOkB q l
  · have HV : Hid (hfV q l = 0 ∧ hfB q l = false) := by
      have h : hfB q l = false := by unfold hfB; rw [hfo]; rfl
      exact ⟨by unfold hfV; rw [h]; rfl, h⟩
    go_wp2
    go_ret2
    rw [HV.out.1, HV.out.2]
    exact ⟨rfl, HB1.out⟩
  · have HHO : Hid (SHo q l 0) := sHo_all hfo q.length 0 (by omega)
    have hq8 := fo_few hfo
    have hl1 : 1 ≤ l.length := (term_len (fo_of hfo).1).1
    have hfw := bitsQ_few q
    have HBI : Hid (∀ W, Qus W aq q → Calls Tryz.prog 76 #[.slice aq q.length cq] W fun e w' => e = .returned (.int .i64 (bitsQ q)) ∧ w' = W) := fun W h => sBitsQ W aq q cq h hl
    cases hfe : fewB q
    · have hgt : 12 < bitsQ q := by
        rw [hfe] at hfw
        have := of_decide_eq_false hfw.symm
        omega
      have HV : Hid (hfV q l = 0 ∧ hfB q l = false) := by
        have h : hfB q l = false := by unfold hfB; rw [hfo, hfe]; rfl
        exact ⟨by unfold hfV; rw [h]; rfl, h⟩
      clear hfo hfe hfw
      generalize bitsQ q = z at hgt HBI
      go_wp2_with (go_at_call 76; refine (HBI.out _ (HQ.out.below HB1.out)).mono ?_; rintro e w' ⟨rfl, hw'⟩; have hw'' := hw'.symm; clear hw'; subst hw'')
      go_ret2
      rw [HV.out.1, HV.out.2]
      exact ⟨rfl, HB1.out⟩
    · have hgt : ¬ 12 < bitsQ q := by
        rw [hfe] at hfw
        have := of_decide_eq_true hfw.symm
        omega
      have HV : Hid (hfV q l = hf (q.drop 0) (root l) (List.replicate 8 0) ∧ hfB q l = true) := by
        have h : hfB q l = true := by unfold hfB; rw [hfo, hfe]; rfl
        exact ⟨by unfold hfV; rw [h]; rfl, h⟩
      clear hfo hfe hfw
      generalize bitsQ q = z at hgt HBI
      go_wp2_with (first | (go_at_call 76; refine (HBI.out _ (HQ.out.below HB1.out)).mono ?_; rintro e w' ⟨rfl, hw'⟩; have hw'' := hw'.symm; clear hw'; subst hw'') | (go_at_call 58; refine (sZerosW _).mono ?_; rintro e w2 ⟨⟨g, cg, rfl, hg1, hg2, hr⟩, hb2⟩; have HE2 : Hid (Env w2 g (List.replicate 8 0)) := hr; have HB2 : Hid (Below w.heap.size w w2) := HB1.out.trans (hb2.mono HB1.out.size); have HBW : Hid (Below w1.heap.size w1 w2) := hb2; clear hr hb2))
      have HQ2 : Hid (Qus w2 aq q) := HQ.out.below HB2.out
      have HN2 : Hid (Nodes w2 a l) := HN.out.below HB2.out
      have hs1 : w.heap.size ≤ w1.heap.size := HB1.out.size
      have HGQ : Hid (0 < q.length → ∀ x, aq = some x → x.block ≠ g) := fun h0 x hx he => by
        rcases HQ.out.2 with h | ⟨b, o, hb, hc⟩
        · omega
        · rw [hx] at hb
          cases hb
          have := (hc 0 h0).lt
          dsimp only at he
          omega
      have HGA : Hid (∀ x, a = some x → x.block ≠ g) := fun x hx he => by
        rcases HN.out.2 with h | ⟨b, o, hb, hc⟩
        · omega
        · rw [hx] at hb
          cases hb
          have := (hc 0 (by omega)).lt
          dsimp only at he
          omega
      have hc := HHO.out w2 aq a cq c g cg (List.replicate 8 0) HQ2.out HN2.out HGQ.out HGA.out (by simp) HE2.out
      refine hc.mono ?_
      rintro x w3 ⟨rfl, _, hK3⟩
      have HB3 : Hid (Below w.heap.size w w3) := HB2.out.trans (hK3.below (fun b (hb : b = g) => by omega) HB2.out.size)
      clear hK3 hc
      generalize hf (q.drop 0) (root l) (List.replicate 8 0) = val at HV ⊢
      go_wp2
      go_ret2
      rw [HV.out.1, HV.out.2]
      exact ⟨rfl, HB3.out⟩

end Go.Proofs.YtdmogjhabladcaaGreat.Fm4
