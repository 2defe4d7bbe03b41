/- Small texts of mine, one behind the other. -/
import Derived.Test.YtejoeahehljhnaaGreatRows
import Derived.Test.YtejoeahehljhnaaGreatSv3
import Derived.Test.YtejoeahehljhnaaGreatPkIQ22
import Derived.Test.YtejoeahehljhnaaGreatPkIQ18
import Derived.Test.YtejoeahehljhnaaGreatPkIQ19
import Derived.Test.YtejoeahehljhnaaGreatPkIQ10
import Derived.Test.YtejoeahehljhnaaGreatPkIQ1
import Derived.Test.YtejoeahehljhnaaGreatPkIQ3
/- The walk of the model's l04At, out of l04One; the two by induction on the place. -/
namespace Go.Proofs.YtejoeahehljhnaaGreat.Sv4
open Go.RowKit
open Nd0 Pl1 Tm0 Tm1 Tm5 Tm6 Tm8 Ap0 Tr0 Rw0 Vl1 Vl2 Vm0 Kp1 Sv3
open Wd1 (ret_int)
set_option linter.unusedVariables false

def vsTo (l : List Nd) (e : List Int) (k : Nat) : List Int := (List.range k).map fun j => vT (tr l j) e
theorem vsTo_length (l : List Nd) (e : List Int) (k : Nat) : (vsTo l e k).length = k := by simp [vsTo]
theorem vsTo_succ (l : List Nd) (e : List Int) (k : Nat) : vsTo l e (k + 1) = vsTo l e k ++ [vT (tr l k) e] := by simp [vsTo, List.range_succ]
theorem vsTo_wd (l : List Nd) (e : List Int) {j k : Nat} (h : j < k) : wd (vsTo l e k) (j : Int) = vT (tr l j) e := by
  rw [← wd_get (by rw [vsTo_length]; exact h)]; simp [vsTo]

set_option maxRecDepth 100000 in
set_option maxHeartbeats 8000000 in
theorem at_of {l : List Nd} {i : Nat} (hi : i < l.length) (h80 : l.length ≤ 80) (ih : ∀ k, k ≤ i → SOne l k) : SAt l i := by
  intro w a c g ce e hN0 hag he hE
  have HN0 : Hid (Nodes w a l) := hN0
  have HAG : Hid (∀ x, a = some x → ¬ x.block = g) := hag
  have HE : Hid (Env w g e) := hE
  have IH : Hid (∀ k, k ≤ i → SOne l k) := ih
  have hg := hE.lt
  clear hN0 hag hE ih
  go_enter Tryz.func42, Tryz.ntmps42
  go_wp2_with fail
  go_loopw [7, 8] (fun v q wr => ∃ k : Nat, k ≤ i + 1 ∧ q = .int .i64 (k : Int) ∧ Ows wr w.heap.size v (vsTo l e k) ∧ Env wr g e ∧ Kept (fun b => b = g) w wr) (fun _ q _ => i + 1 - (intOf q).toNat)
  case atStart => exact ⟨0, Nat.zero_le _, rfl, Ows.lit w _ (Nat.le_refl _), HE.out.kept (S := fun _ => False) ((Kept.refl _ _).alloc _) (fun h => h), (Kept.refl _ _).alloc _⟩
  case round =>
    obtain ⟨k, hk, rfl, ho, hE2, hK2⟩ := hrel
    have HE2 : Hid (Env wr g e) := hE2
    have HK2 : Hid (Kept (fun b => b = g) w wr) := hK2
    have hBs : w.heap.size ≤ wr.heap.size := hK2.size
    have HLN : Hid ((vsTo l e k).length = k) := vsTo_length l e k
    clear hE2 hK2
    by_cases hlt : k ≤ i
    · have hkz : (k : Int) ≤ (i : Int) := by omega
      obtain ⟨av, cv, rfl, hwi⟩ := ho.form
      have HO : Hid (Ows wr w.heap.size (.slice av (vsTo l e k).length cv) (vsTo l e k)) := ho
      have HI : Hid (Ints wr av (vsTo l e k)) := hwi.ints
      rw [HLN.out] at HO ⊢
      clear ho hwi
      have HSU : Hid (vsTo l e (k + 1) = vsTo l e k ++ [vT (tr l k) e]) := vsTo_succ l e k
      have HON := IH.out k hlt
      have HONH : Hid (SOne l k) := HON
      clear HON
      go_wp2_with fail
      refine (HONH.out _ _ _ c g ce cv e (vsTo l e k) (HN0.out.kept HK2.out HAG.out) HAG.out he HE2.out HI.out HLN.out (fun j hj => vsTo_wd l e hj)).mono ?_
      rintro x0 w2 ⟨rfl, hE3, hK3⟩
      have HE3 : Hid (Env w2 g e) := hE3
      have HK3 : Hid (Kept (fun b => b = g) w w2) := HK2.out.trans hK3
      have HO3 : Hid (Ows w2 w.heap.size (.slice av k cv) (vsTo l e k)) := HO.out.kept hK3 (fun b hb (e : b = g) => by have := (HO.out.lt b hb).1; omega)
      have hB3 : w.heap.size ≤ w2.heap.size := HK3.out.size
      clear hE3 hK3 HO HI HE2
      generalize vT (tr l k) e = x at HSU
      generalize vsTo l e k = L at HO3 HSU HLN
      have HLE : Hid (L.length ≤ 1048576) := by
        show _ ≤ _
        have := HLN.out
        omega
      go_wp2_with (at_builtin; go_must (refine app_int _ rfl _ _ rfl w.heap.size (.slice av k cv) L x rfl rfl HO3.out hB3 HLE.out ?_; intro g5 cp5 w5 ho5 hk5 hg5; have HO5 : Hid (Ows w5 w.heap.size (.slice (some ⟨g5, 0, none⟩) (L.length + 1) cp5) (L ++ [x])) := ho5; have HK5 : Hid (Kept (fun b => (Value.slice av k cv).ownBlock = some b) w2 w5) := hk5; clear ho5 hk5 hg5))
      go_roundw
      case rel =>
        refine ⟨k + 1, by omega, by go_num, by rw [HSU.out]; exact HO5.out, HE3.out.kept HK5.out (fun h => by have := (HO3.out.lt g h).1; omega), Kept.past HK3.out HK5.out (fun b h => .inr (HO3.out.lt b h).1)⟩
      case measure => simp [intOf]; omega
    · have hkz : ¬ (k : Int) ≤ (i : Int) := by omega
      have hke : k = i + 1 := by omega
      obtain ⟨g6, c6, hv6, hg6, hr6⟩ : ∃ g6 c6, u7 = .slice (some ⟨g6, 0, none⟩) (i + 1) c6 ∧ g6 < wr.heap.size ∧ wr.cell? ⟨g6, i, none⟩ = some (.int .i64 (vT (tr l i) e)) := by
        obtain ⟨g6, c6, hv, _, hlt6, hrow⟩ := Rw1.row_ints ho (by rw [HLN.out]; omega)
        rw [HLN.out, hke] at hv
        refine ⟨g6, c6, hv, hlt6, ?_⟩
        have := (hrow i (by rw [HLN.out]; omega)).1
        rw [this]
        dsimp only
        rw [vsTo_wd l e (by omega)]
      subst hv6
      clear ho
      have hiz : (i : Int) < (i : Int) + 1 := by omega
      go_wp2
      go_ret
      exact ⟨rfl, HE2.out, HK2.out⟩
theorem sAt {l : List Nd} (hT : termOk l = true) : ∀ i, i < l.length → SAt l i := by
  intro i
  induction i using Nat.strongRecOn with
  | ind i ih =>
    intro hi
    have hl := term_len hT
    have hD := down_of hT
    have hN : ∀ k, k < l.length → nodeOk l k = true := fun k hk => term_node hT hk
    refine at_of hi hl.2 (fun k hk => ?_)
    have hkl : k < l.length := by omega
    by_cases h1 : (nth l k).op = 1
    · exact one_var hD hN hkl hl.2 h1
    · cases hq : quant (nth l k).op
      · exact one_other hD hN hkl hl.2 h1 hq
      · refine one_quant hD hN hkl hl.2 hq ?_
        have hq2 : (nth l k).op = 19 ∨ (nth l k).op = 20 := by simpa [quant] using hq
        have haa := hD k hkl (nth l k).a (by rw [parts_one (by omega)]; simp)
        exact ih _ (by omega) (by omega)

end Go.Proofs.YtejoeahehljhnaaGreat.Sv4

/- The walk of the model's HoldsFront. -/
namespace Go.Proofs.YtejoeahehljhnaaGreat.Fm4
open Go.RowKit
open Nd0 Qa0 Pl1 Tm0 Tm1 Tm6 Tr0 Rw0 Rw1 Vl1 Vm0 Kp1 Fr0 Fr1 Fr4
open Fm1 (quAt sBitsQ bitsQ bitsQ_few)
open Fm2 (sFrontOk sZerosW)
open Sv4 (sAt)
open Wd1 (spow)
open Ws1 (ret_int ret_bool)
set_option linter.unusedVariables false

def hfB (q : List Qu) (l : List Nd) : Bool := frontOkB q l && fewB q
def hfV (q : List Qu) (l : List Nd) : Int := if hfB q l then hf q (root l) (List.replicate 8 0) else 0

def SHo (q : List Qu) (l : List Nd) (k : Nat) : Prop := ∀ (w : World) (aq a : Option Addr) (cq c g ce : Nat) (e : List Int), Qus w aq q → Nodes w a l → (0 < q.length → ∀ x, aq = some x → x.block ≠ g) → (∀ x, a = some x → x.block ≠ g) → e.length = 8 → Env w g e →
    Calls Tryz.prog 25 #[.slice aq q.length cq, .slice a l.length c, .slice (some ⟨g, 0, none⟩) 8 ce, .int .i64 (k : Int)] w fun x w' => x = .returned (.int .i64 (hf (q.drop k) (root l) e)) ∧ (∃ e', Off (q.drop k) e e' ∧ Env w' g e') ∧ Kept (fun b => b = g) w w'

theorem env_set {w : World} {g : Nat} {e : List Int} (h : Env w g e) (he : e.length = 8) {v : Nat} (hv : v < 8) (x : Int) : Env (w.setCell ⟨g, v, none⟩ (.int .i64 x)) g (e.set v x) := row_set_int h he hv x

set_option maxRecDepth 100000 in
set_option maxHeartbeats 4000000 in
theorem sHo_end {q : List Qu} {l : List Nd} (hT : termOk l = true) : SHo q l q.length := by
  intro w aq a cq c g ce e hQ hN hgq hga he hE
  obtain ⟨hl1, hl2⟩ := term_len hT
  have HN : Hid (Nodes w a l) := hN
  have HGA : Hid (∀ x, a = some x → x.block ≠ g) := hga
  have HE : Hid (Env w g e) := hE
  have HL : Hid (e.length = 8) := he
  have HAT : Hid (Sv3.SAt l (l.length - 1)) := sAt hT _ (by omega)
  have HD : Hid (hf (q.drop q.length) (root l) e = vT (tr l (l.length - 1)) e) := by
    show _ = _
    rw [List.drop_length]; rfl
  have HOF : Hid (Off (q.drop q.length) e e) := Off.refl _ _
  have hl9 : q.length ≤ maxLen := hQ.1
  unfold maxLen at hl9
  have e1 : ((l.length - 1 : Nat) : Int) = (l.length : Int) - 1 := by omega
  clear hN hga hE he hQ hgq
  go_enter Tryz.func25, Tryz.ntmps25
  go_wp2_with fail
  have hc := HAT.out w a c g ce e HN.out HGA.out HL.out HE.out
  rw [e1] at hc
  refine hc.mono ?_
  rintro x w1 ⟨rfl, hE1, hK1⟩
  have HE1 : Hid (Env w1 g e) := hE1
  have HK1 : Hid (Kept (fun b => b = g) w w1) := hK1
  clear hE1 hK1 hc
  generalize vT (tr l (l.length - 1)) e = val at HD ⊢
  go_wp2
  go_ret
  exact ⟨ret_int HD.out.symm, ⟨e, HOF.out, HE1.out⟩, HK1.out⟩

set_option maxRecDepth 100000 in
set_option maxHeartbeats 8000000 in
theorem sHo_step {q : List Qu} {l : List Nd} {k : Nat} (hk : k < q.length) (hq9 : q.length ≤ 8) (hty : 0 ≤ (qth q k).vr ∧ (qth q k).vr ≤ 7 ∧ 1 ≤ (qth q k).bits ∧ (qth q k).bits ≤ 8) (ih : SHo q l (k + 1)) : SHo q l k := by
  intro w aq a cq c g ce e hQ hN hgq hga he hE
  have HN : Hid (Nodes w a l) := hN
  have HQ : Hid (Qus w aq q) := hQ
  have HGA : Hid (∀ x, a = some x → x.block ≠ g) := hga
  have hgq' : ∀ x, aq = some x → x.block ≠ g := hgq (by omega)
  have HGQ : Hid (∀ x, aq = some x → x.block ≠ g) := hgq'
  have HE : Hid (Env w g e) := hE
  have HL : Hid (e.length = 8) := he
  have HIH : Hid (SHo q l (k + 1)) := ih
  have HDR : Hid (q.drop k = qth q k :: q.drop (k + 1)) := by
    show _ = _
    rw [← qth_get hk]; exact List.drop_eq_getElem_cons hk
  obtain ⟨b, o, rfl, hc⟩ := quAt hQ hk
  have hbw : b < w.heap.size := lt_of_cell (hc k hk).c0
  have hbg : b ≠ g := hgq' _ rfl
  have HC : Hid (QuAt w b (o + k * 3) (qth q k)) := hc k hk
  clear hN hQ hga hgq hgq' hE he ih hc
  obtain ⟨x, hx⟩ : ∃ x, x = qth q k := ⟨_, rfl⟩
  rw [← hx] at HDR HC hty
  clear hx
  obtain ⟨al, vr, bt⟩ := x
  simp only at hty
  obtain ⟨hv0, hv7, hb1, hb8⟩ := hty
  obtain ⟨vv, rfl⟩ := Int.eq_ofNat_of_zero_le hv0
  have hv8 : (vv : Int) < 8 := by omega
  obtain ⟨f, hf'⟩ : ∃ f : Nat → Int, f = fun (i : Nat) => hf (q.drop (k + 1)) (root l) (e.set vv (i : Int)) := ⟨_, rfl⟩
  have HF : Hid (∀ (i : Nat) (e1 : List Int), Off (q.drop k) e e1 → hf (q.drop (k + 1)) (root l) (e1.set vv (i : Int)) = f i) := fun i e1 h => by
    rw [hf']
    rw [HDR.out] at h
    have h2 := h.set (i : Int)
    exact (hf_off _ _ _ _ h2).symm
  have HV : Hid (hf (q.drop k) (root l) e = if al then allN f (2 ^ bt.toNat) else anyN f (2 ^ bt.toNat)) := by
    show _ = _
    rw [HDR.out, hf']; rfl
  have HON : Hid (∀ (e1 e2 : List Int) (i : Int), Off (q.drop k) e e1 → Off (q.drop (k + 1)) (e1.set vv i) e2 → Off (q.drop k) e e2) := fun e1 e2 i h1 h2 => by
    refine h1.trans ?_
    rw [HDR.out]
    have h3 : Off (⟨al, (vv : Int), bt⟩ :: q.drop (k + 1)) e1 (e1.set (⟨al, (vv : Int), bt⟩ : Qu).vr.toNat i) := Off.one e1 i
    exact h3.trans (h2.mono (fun x hx => List.mem_cons_of_mem _ hx))
  obtain ⟨M, hM⟩ : ∃ M : Nat, M = 2 ^ bt.toNat := ⟨_, rfl⟩
  rw [← hM] at HV
  have HP : Hid (∀ W, Calls Tryz.prog 43 #[.int .i64 bt] W fun e w' => e = .returned (.int .i64 (M : Int)) ∧ w' = W) := fun W => (spow bt W (by omega) (by omega)).mono (fun e w' h => ⟨by rw [h.1, hM]; simp [p2], h.2⟩)
  have hM9 : M ≤ 256 := by rw [hM]; exact (Sv3.pow_le hb1 hb8).1
  clear hf' hM
  have hkz : (k : Int) < (q.length : Int) := by omega
  have hke : ((k : Int) == (q.length : Int)) = false := by rw [beq_eq_false_iff_ne]; omega
  have hk1 : ((k + 1 : Nat) : Int) = (k : Int) + 1 := by omega
  go_enter Tryz.func25, Tryz.ntmps25
  go_wp2
  go_loopw [9, 10, 11] (fun va vs xi wr => ∃ (n : Nat) (e1 : List Int), n ≤ M ∧ xi = .int .i64 (n : Int) ∧ va = .int .i64 (allN f n) ∧ vs = .int .i64 (anyN f n) ∧ Off (q.drop k) e e1 ∧ e1.length = 8 ∧ Env wr g e1 ∧ Kept (fun b => b = g) w wr) (fun _ _ xi _ => M - (intOf xi).toNat)
  case atStart => exact ⟨0, e, Nat.zero_le _, rfl, rfl, rfl, Off.refl _ _, HL.out, HE.out, Kept.refl _ _⟩
  case round =>
    obtain ⟨n, e1, hn, rfl, rfl, rfl, hof, hl1, hE1, hK1⟩ := hrel
    have HOF : Hid (Off (q.drop k) e e1) := hof
    have HL1 : Hid (e1.length = 8) := hl1
    have HE1 : Hid (Env wr g e1) := hE1
    have HK1 : Hid (Kept (fun b => b = g) w wr) := hK1
    obtain ⟨p0', p1', p2'⟩ := HC.out
    have p0 : wr.cell? ⟨b, o + k * 3, none⟩ = some (.bool al) := by rw [hK1.cell (p := ⟨b, o + k * 3, none⟩) hbw hbg]; exact p0'
    have p1 : wr.cell? ⟨b, o + k * 3 + 1, none⟩ = some (.int .i64 (vv : Int)) := by rw [hK1.cell (p := ⟨b, o + k * 3 + 1, none⟩) hbw hbg]; exact p1'
    have p2 : wr.cell? ⟨b, o + k * 3 + 2, none⟩ = some (.int .i64 bt) := by rw [hK1.cell (p := ⟨b, o + k * 3 + 2, none⟩) hbw hbg]; exact p2'
    clear hof hl1 hE1 hK1 p0' p1' p2'
    by_cases hlt : n < M
    · have hlz : (n : Int) < (M : Int) := by omega
      obtain ⟨c1, c2⟩ := HE1.out vv (by omega)
      dsimp only at c1
      obtain ⟨w2, hw2⟩ : ∃ w2 : World, w2 = wr.setCell ⟨g, vv, none⟩ (.int .i64 (n : Int)) := ⟨_, rfl⟩
      have HE2 : Hid (Env w2 g (e1.set vv (n : Int))) := by rw [hw2]; exact env_set HE1.out HL1.out (by omega) _
      have HK2 : Hid (Kept (fun b => b = g) w w2) := by rw [hw2]; exact HK1.out.setCell (p := ⟨g, vv, none⟩) rfl _
      have HCL := HIH.out w2 (some ⟨b, o, none⟩) a cq c g ce (e1.set vv (n : Int)) (HQ.out.kept HK2.out HGQ.out) (HN.out.kept HK2.out HGA.out) (fun _ => HGQ.out) HGA.out (by rw [List.length_set]; exact HL1.out) HE2.out
      rw [HF.out n e1 HOF.out, hk1] at HCL
      have HA : Hid (f n = 1 → allN f (n + 1) = allN f n ∧ anyN f (n + 1) = 1) := fun h => ⟨allN_yes h, anyN_yes h⟩
      have HB : Hid (¬ f n = 1 → allN f (n + 1) = 0 ∧ anyN f (n + 1) = anyN f n) := fun h => ⟨allN_no h, anyN_no h⟩
      go_wp2_with (go_at_call 43; refine (HP.out _).mono ?_; rintro e w' ⟨rfl, hw'⟩; have hw'' := hw'.symm; clear hw'; subst hw'')
      rw [← hw2]
      clear hw2 c1 c2
      refine HCL.mono ?_
      rintro x w3 ⟨rfl, ⟨e3, hO3, hE3⟩, hK3⟩
      have HO3 : Hid (Off (q.drop k) e e3) := HON.out e1 e3 _ HOF.out hO3
      have HL3 : Hid (e3.length = 8) := by
        show _ = _
        rw [← hO3.1, List.length_set]; exact HL1.out
      have HE3 : Hid (Env w3 g e3) := hE3
      have HK3 : Hid (Kept (fun b => b = g) w w3) := HK2.out.trans hK3
      clear hO3 hE3 hK3 HCL
      generalize f n = fn at HA HB ⊢
      cases hfn : (fn == 1)
      · obtain ⟨h1, h2⟩ := HB.out (by simpa using hfn)
        have H1 : Hid (allN f (n + 1) = 0 ∧ anyN f (n + 1) = anyN f n) := ⟨h1, h2⟩
        clear h1 h2
        go_wp2
        go_roundw
        case rel => exact ⟨n + 1, e3, by omega, by go_num, by rw [H1.out.1], by rw [H1.out.2], HO3.out, HL3.out, HE3.out, HK3.out⟩
        case measure => simp [intOf]; omega
      · obtain ⟨h1, h2⟩ := HA.out (by simpa using hfn)
        have H1 : Hid (allN f (n + 1) = allN f n ∧ anyN f (n + 1) = 1) := ⟨h1, h2⟩
        clear h1 h2
        go_wp2
        go_roundw
        case rel => exact ⟨n + 1, e3, by omega, by go_num, by rw [H1.out.1], by rw [H1.out.2], HO3.out, HL3.out, HE3.out, HK3.out⟩
        case measure => simp [intOf]; omega
    · have hlz : ¬ (n : Int) < (M : Int) := by omega
      have HNM : Hid (n = M) := by show _ = _; omega
      cases al
      · have HV2 : Hid (hf (q.drop k) (root l) e = anyN f n) := by
          show _ = _
          rw [HV.out, HNM.out]; rfl
        go_wp2_with (go_at_call 43; refine (HP.out _).mono ?_; rintro e w' ⟨rfl, hw'⟩; have hw'' := hw'.symm; clear hw'; subst hw'')
        go_ret
        exact ⟨ret_int HV2.out.symm, ⟨e1, HOF.out, HE1.out⟩, HK1.out⟩
      · have HV2 : Hid (hf (q.drop k) (root l) e = allN f n) := by
          show _ = _
          rw [HV.out, HNM.out]; rfl
        go_wp2_with (go_at_call 43; refine (HP.out _).mono ?_; rintro e w' ⟨rfl, hw'⟩; have hw'' := hw'.symm; clear hw'; subst hw'')
        go_ret
        exact ⟨ret_int HV2.out.symm, ⟨e1, HOF.out, HE1.out⟩, HK1.out⟩

theorem sHo_all {q : List Qu} {l : List Nd} (hf : frontOkB q l = true) : ∀ d k, k + d = q.length → SHo q l k := by
  obtain ⟨hT, hr, ws, hw, hg⟩ := fo_of hf
  intro d
  induction d with
  | zero => intro k hk; rw [show k = q.length by omega]; exact sHo_end hT
  | succ d ih =>
    intro k hk
    have ht := wq_ty q.length ws (Nat.le_refl _) hw k (by omega)
    exact sHo_step (by omega) (fo_few hf) ⟨ht.1, ht.2.1, ht.2.2.1, ht.2.2.2.1⟩ (ih (k + 1) (by omega))

set_option maxRecDepth 100000 in
set_option maxHeartbeats 4000000 in
theorem sHoldsFront (w : World) (aq a : Option Addr) (q : List Qu) (l : List Nd) (cq c : Nat) (hQ : Qus w aq q) (hN : Nodes w a l) (hl : q.length ≤ 1048576) :
    Calls Tryz.prog 8 #[.slice aq q.length cq, .slice a l.length c] w fun e w' => e = .returned (.tuple #[.int .i64 (hfV q l), .bool (hfB q l)]) ∧ Below w.heap.size w w' := by
  have HN : Hid (Nodes w a l) := hN
  have HQ : Hid (Qus w aq q) := hQ
  clear hN hQ
  go_enter Tryz.func8, Tryz.ntmps8
  go_wp2_with fail
  refine (sFrontOk w aq a q l cq c HQ.out HN.out hl).mono ?_
  rintro e w1 ⟨rfl, hb1⟩
  have HB1 : Hid (Below w.heap.size w w1) := hb1
  clear hb1
  cases hfo : frontOkB q l
  · have HV : Hid (hfV q l = 0 ∧ hfB q l = false) := by
      have h : hfB q l = false := by unfold hfB; rw [hfo]; rfl
      exact ⟨by unfold hfV; rw [h]; rfl, h⟩
    go_wp2
    go_ret2
    rw [HV.out.1, HV.out.2]
    exact ⟨rfl, HB1.out⟩
  · have HHO : Hid (SHo q l 0) := sHo_all hfo q.length 0 (by omega)
    have hq8 := fo_few hfo
    have hl1 : 1 ≤ l.length := (term_len (fo_of hfo).1).1
    have hfw := bitsQ_few q
    have HBI : Hid (∀ W, Qus W aq q → Calls Tryz.prog 24 #[.slice aq q.length cq] W fun e w' => e = .returned (.int .i64 (bitsQ q)) ∧ w' = W) := fun W h => sBitsQ W aq q cq h hl
    cases hfe : fewB q
    · have hgt : 12 < bitsQ q := by
        rw [hfe] at hfw
        have := of_decide_eq_false hfw.symm
        omega
      have HV : Hid (hfV q l = 0 ∧ hfB q l = false) := by
        have h : hfB q l = false := by unfold hfB; rw [hfo, hfe]; rfl
        exact ⟨by unfold hfV; rw [h]; rfl, h⟩
      clear hfo hfe hfw
      generalize bitsQ q = z at hgt HBI
      go_wp2_with (go_at_call 24; refine (HBI.out _ (HQ.out.below HB1.out)).mono ?_; rintro e w' ⟨rfl, hw'⟩; have hw'' := hw'.symm; clear hw'; subst hw'')
      go_ret2
      rw [HV.out.1, HV.out.2]
      exact ⟨rfl, HB1.out⟩
    · have hgt : ¬ 12 < bitsQ q := by
        rw [hfe] at hfw
        have := of_decide_eq_true hfw.symm
        omega
      have HV : Hid (hfV q l = hf (q.drop 0) (root l) (List.replicate 8 0) ∧ hfB q l = true) := by
        have h : hfB q l = true := by unfold hfB; rw [hfo, hfe]; rfl
        exact ⟨by unfold hfV; rw [h]; rfl, h⟩
      clear hfo hfe hfw
      generalize bitsQ q = z at hgt HBI
      go_wp2_with (first | (go_at_call 24; refine (HBI.out _ (HQ.out.below HB1.out)).mono ?_; rintro e w' ⟨rfl, hw'⟩; have hw'' := hw'.symm; clear hw'; subst hw'') | (go_at_call 26; refine (sZerosW _).mono ?_; rintro e w2 ⟨⟨g, cg, rfl, hg1, hg2, hr⟩, hb2⟩; have HE2 : Hid (Env w2 g (List.replicate 8 0)) := hr; have HB2 : Hid (Below w.heap.size w w2) := HB1.out.trans (hb2.mono HB1.out.size); have HBW : Hid (Below w1.heap.size w1 w2) := hb2; clear hr hb2))
      have HQ2 : Hid (Qus w2 aq q) := HQ.out.below HB2.out
      have HN2 : Hid (Nodes w2 a l) := HN.out.below HB2.out
      have hs1 : w.heap.size ≤ w1.heap.size := HB1.out.size
      have HGQ : Hid (0 < q.length → ∀ x, aq = some x → x.block ≠ g) := fun h0 x hx he => by
        rcases HQ.out.2 with h | ⟨b, o, hb, hc⟩
        · omega
        · rw [hx] at hb
          cases hb
          have := (hc 0 h0).lt
          dsimp only at he
          omega
      have HGA : Hid (∀ x, a = some x → x.block ≠ g) := fun x hx he => by
        rcases HN.out.2 with h | ⟨b, o, hb, hc⟩
        · omega
        · rw [hx] at hb
          cases hb
          have := (hc 0 (by omega)).lt
          dsimp only at he
          omega
      have hc := HHO.out w2 aq a cq c g cg (List.replicate 8 0) HQ2.out HN2.out HGQ.out HGA.out (by simp) HE2.out
      refine hc.mono ?_
      rintro x w3 ⟨rfl, _, hK3⟩
      have HB3 : Hid (Below w.heap.size w w3) := HB2.out.trans (hK3.below (fun b (hb : b = g) => by omega) HB2.out.size)
      clear hK3 hc
      generalize hf (q.drop 0) (root l) (List.replicate 8 0) = val at HV ⊢
      go_wp2
      go_ret2
      rw [HV.out.1, HV.out.2]
      exact ⟨rfl, HB3.out⟩

end Go.Proofs.YtejoeahehljhnaaGreat.Fm4

/- A quantifier more of a variable that is not in the rest: plain facts of FnIdleQuant. -/
namespace Go.Proofs.YtejoeahehljhnaaGreat.Ff1
open Nd0 Qa0 Pl1 Tm0 Tm1 Tm5 Tm6 Tm8 Tm10 Tm11 Tr0 Vl1 Vl2 Fr0 Fr1 Fr2 Fr3 Fr4 Fr5 To0 To0t De0 Dh0 Dh1 Dh3 Ff0
set_option linter.unusedVariables false

theorem hf_some (q : List Qu) (x : Qu) (p : List Qu) (t : Tr) (e : List Int) : hf (p ++ x :: q) t e = 0 ∨ hf (p ++ x :: q) t e = 1 := by
  cases p with
  | nil => exact hf_bit _ _ _ _
  | cons y p => exact hf_bit _ _ _ _
theorem hold_ok {l : List Nd} (hS : sentB l = true) (hb : bitsL l ≤ 8) : Fm4.hfB (frontQ l) (frontR l) = true := by
  obtain ⟨ws, hF⟩ := fs_of hS
  have hbl := front_bits hS
  have hfe := few_bit (q := frontQ l) (fun i hi => by rw [← qth_get hi]; exact rq_of (hF.rq _ (List.getElem_mem hi))) (by omega)
  unfold Fm4.hfB
  rw [front_ok hS, hfe]; rfl
theorem idle {l : List Nd} (hS : sentB l = true) (hb : bitsL l ≤ 8) {y : Qu} (hy : 0 ≤ y.vr ∧ y.vr ≤ 7 ∧ y.bits = 1) (hn : ∀ x ∈ frontQ l, x.vr ≠ y.vr) {k : Nat} (hk : k ≤ (frontQ l).length) :
    Fm4.hfB ((frontQ l).take k ++ y :: (frontQ l).drop k) (frontR l) = true ∧ Fm4.hfB (frontQ l) (frontR l) = true ∧ Fm4.hfV ((frontQ l).take k ++ y :: (frontQ l).drop k) (frontR l) = Fm4.hfV (frontQ l) (frontR l) ∧ (rowsL ((frontQ l).take k ++ y :: (frontQ l).drop k)).length = (rowsL (frontQ l)).length + 1 := by
  obtain ⟨ws, hF⟩ := fs_of hS
  have hbl := front_bits hS
  have hq8 : bitL (frontQ l) ≤ 8 := by omega
  obtain ⟨M, hM⟩ : ∃ M, M = (frontQ l).take k ++ y :: (frontQ l).drop k := ⟨_, rfl⟩
  have htd : (frontQ l).take k ++ (frontQ l).drop k = frontQ l := List.take_append_drop _ _
  have hperm : M.Perm (y :: frontQ l) := by
    rw [hM]
    have := List.perm_middle (l₁ := (frontQ l).take k) (l₂ := (frontQ l).drop k) (a := y)
    rwa [htd] at this
  have hmem : ∀ x, x ∈ M ↔ x = y ∨ x ∈ frontQ l := fun x => by rw [hperm.mem_iff, List.mem_cons]
  have hyr : Rq y := ⟨hy.1, hy.2.1, by omega, by omega⟩
  have hMr : ∀ x ∈ M, Rq x := fun x hx => by
    rcases (hmem x).1 hx with rfl | hx
    · exact hyr
    · exact rq_of (hF.rq x hx)
  have hne : ∀ x ∈ frontQ l, x.vr.toNat ≠ y.vr.toNat := fun x hx e => hn x hx (by have := (hF.rq x hx).1; omega)
  have hMA : M.Pairwise (fun x y => x.vr.toNat ≠ y.vr.toNat) := by
    rw [hperm.pairwise_iff (fun {a b} h => Ne.symm h)]
    exact List.pairwise_cons.2 ⟨fun x hx => (hne x hx).symm, hF.pair⟩
  have hfo := front_ok hS
  have hfm := front_more hS hMr hMA (fun x hx => (hmem x).2 (.inr hx))
  have rth : ∀ {q : List Qu}, (∀ x ∈ q, Rq x) → ∀ i, i < q.length → Rq (qth q i) := fun {q} h i hi => by rw [← qth_get hi]; exact h _ (List.getElem_mem hi)
  have hbM : bitL M = bitL (frontQ l) + 1 := by
    have h1 : bitL (y :: (frontQ l).drop k) = y.bits.toNat + bitL ((frontQ l).drop k) := rfl
    have h2 := bit_app ((frontQ l).take k) ((frontQ l).drop k)
    rw [htd] at h2
    rw [hM, bit_app, h1, h2, hy.2.2]
    omega
  have hfe := few_bit (rth fun x hx => rq_of (hF.rq x hx)) (by omega : bitL (frontQ l) ≤ 12)
  have hfeM := few_bit (rth hMr) (by omega : bitL M ≤ 12)
  have hB1 : Fm4.hfB (frontQ l) (frontR l) = true := by unfold Fm4.hfB; rw [hfo, hfe]; rfl
  have hB2 : Fm4.hfB M (frontR l) = true := by unfold Fm4.hfB; rw [hfm, hfeM]; rfl
  rw [← hM]
  refine ⟨hB2, hB1, ?_, by rw [rows_len hfe, rows_len hfeM, hbM]⟩
  unfold Fm4.hfV
  rw [hB1, hB2, if_pos rfl, if_pos rfl]
  obtain ⟨us, hFo⟩ := fo_all hfo
  have hind : Ind y.vr (fun e => vT (root (frontR l)) e = 1) := fun e i => by
    show vT (root (frontR l)) (e.set y.vr.toNat i) = 1 ↔ vT (root (frontR l)) e = 1
    rw [hF.rest, str_ind (root l) [] hF.rt hF.sc (fun s hs => by cases hs) y.vr hy.1 (by simp) ?_ e i]
    intro hb
    obtain ⟨x, hx, he⟩ := List.mem_map.1 hb
    rw [← hF.eq] at hx
    exact hn x hx he
  have hiff : hf M (root (frontR l)) (List.replicate 8 0) = 1 ↔ hf (frontQ l) (root (frontR l)) (List.replicate 8 0) = 1 := by
    rw [hf_HF, hf_HF, hM, HF_idle hind _ _ (fun x hx => hne x (List.mem_of_mem_drop hx)), htd]
  have h01 : hf (frontQ l) (root (frontR l)) (List.replicate 8 0) = 0 ∨ hf (frontQ l) (root (frontR l)) (List.replicate 8 0) = 1 := by
    cases hq : frontQ l with
    | nil => exact ty_bit hFo.rt hFo.ty hFo.env hFo.wid
    | cons x q => exact hf_bit _ _ _ _
  have h01M : hf M (root (frontR l)) (List.replicate 8 0) = 0 ∨ hf M (root (frontR l)) (List.replicate 8 0) = 1 := by rw [hM]; exact hf_some _ _ _ _ _
  rcases h01 with h1 | h1 <;> rcases h01M with h2 | h2
  · rw [h1, h2]
  · have := hiff.1 h2; omega
  · have := hiff.2 h1; omega
  · rw [h1, h2]

end Go.Proofs.YtejoeahehljhnaaGreat.Ff1

/- What the program's functions of chapter 2 are to do. -/
namespace Go.Proofs.YtejoeahehljhnaaGreat.Lx1
open Go.RowKit
open Nd0 Nd3 Tm0 Tm1 Tm2 Tm3 Tm4 Tm5 Tm6 Tm11
/-- What the program's TermOk is to do. -/
def ITermOk : Prop := ∀ (w : World) (a : Option Addr) (l : List Nd) (c : Nat), Nodes w a l → l.length ≤ c → l.length ≤ 1048576 →
    Calls Tryz.prog 36 #[.slice a l.length c] w fun e w' => e = .returned (.bool (termOk l)) ∧ Below w.heap.size w w'
end Go.Proofs.YtejoeahehljhnaaGreat.Lx1
namespace Go.Proofs.YtejoeahehljhnaaGreat.Lx2
open Go.RowKit
open Nd0 Nd3 Tm0 Tm1 Tm2 Tm3 Tm4 Tm5 Tm6 Tm11
/-- What the program's Reached is to do. -/
def IReached : Prop := ∀ (w : World) (a : Option Addr) (l : List Nd) (c : Nat), Nodes w a l → l.length ≤ c → l.length ≤ 1048576 →
    Calls Tryz.prog 38 #[.slice a l.length c] w fun e w' => (∃ a' c', e = .returned (.slice a' (reachedL l).length c') ∧ WInts w' w.heap.size a' (reachedL l)) ∧ Below w.heap.size w w'
end Go.Proofs.YtejoeahehljhnaaGreat.Lx2
namespace Go.Proofs.YtejoeahehljhnaaGreat.Lx3
open Go.RowKit
open Nd0 Nd3 Tm0 Tm1 Tm2 Tm3 Tm4 Tm5 Tm6 Tm11
end Go.Proofs.YtejoeahehljhnaaGreat.Lx3
namespace Go.Proofs.YtejoeahehljhnaaGreat.Lx4
open Go.RowKit
open Nd0 Nd3 Tm0 Tm1 Tm2 Tm3 Tm4 Tm5 Tm6 Tm11
end Go.Proofs.YtejoeahehljhnaaGreat.Lx4
namespace Go.Proofs.YtejoeahehljhnaaGreat.Lx6
open Go.RowKit
open Nd0 Nd3 Tm0 Tm1 Tm2 Tm3 Tm4 Tm5 Tm6 Tm11
end Go.Proofs.YtejoeahehljhnaaGreat.Lx6
