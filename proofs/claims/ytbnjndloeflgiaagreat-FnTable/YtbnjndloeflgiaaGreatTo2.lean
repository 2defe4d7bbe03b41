/- The program's TableOf. -/
import Derived.Test.YtbnjndloeflgiaaGreatPkTA19
import Derived.Test.YtbnjndloeflgiaaGreatPkTA20
import Derived.Test.YtbnjndloeflgiaaGreatPkTA24
import Derived.Test.YtbnjndloeflgiaaGreatPkTA26
import Derived.Test.YtbnjndloeflgiaaGreatPkTA27
import Derived.Test.YtbnjndloeflgiaaGreatPkTA28
namespace Go.Proofs.YtbnjndloeflgiaaGreat.To2
open Go.RowKit
open Nd0 Qa0 Tm0 Tm1 Tm6 Tm8 Tr0 Vl1 Vl2 Vm2 Pv7 Pv12 Pv15 Fr0 Fr1 To0 To0t To1 Ic4
open Ta0 (upto upto_zero wd_next_no wd_zero)
open Ta1 (tab tab_length p12)
open Tc2 (tv)
open Tc4 (Wds nw pv nw_le newPacked size put)
open Tc5 (Lay kset)
open Tc6 (table)
open Ss0 (bs)
open Fm1 (iRowOf)
open Fp2 (IFrontOk)
set_option linter.unusedVariables false

theorem few_bits {q : List Qu} (h : fewB q = true) : bitL q ≤ 12 ∧ (rowsL q).length = bitL q := by
  obtain ⟨n, h1, h2⟩ := few_of h
  have e := bit_all h1
  refine ⟨by omega, ?_⟩
  unfold rowsL
  rw [h, if_pos rfl, rowTo_length n h1, e]
theorem tab_upto (n : Nat) (F : Nat → Bool) : tab n (upto (2 ^ n) F) = tab n F := by
  refine List.ext_getElem (by rw [tab_length, tab_length]) fun k h1 h2 => ?_
  rw [Ta1.tab_get, Ta1.tab_get]
  rw [tab_length] at h1
  simp [upto, h1]

set_option maxRecDepth 100000 in
set_option maxHeartbeats 8000000 in
theorem iTableOf (hFO : IFrontOk) (hIA : IApply) (w : World) (aq a : Option Addr) (q : List Qu) (l : List Nd) (cq c : Nat) (hQ : Qus w aq q) (hl : q.length ≤ 1048576) (hN : Nodes w a l) (hcap : l.length ≤ c) (hll : l.length ≤ 1048576) :
    Calls Tryz.prog 7 #[.slice aq q.length cq, .slice a l.length c] w fun e w' => e = .returned (.tuple #[tv (toN q l) (toS q l), .bool (toB q l)]) ∧ Below w.heap.size w w' := by
  have HN : Hid (Nodes w a l) := hN
  have HQ : Hid (Qus w aq q) := hQ
  have HCAP : Hid (l.length ≤ c) := hcap
  obtain ⟨wa, hwa⟩ : ∃ wa : World, wa = w.alloc (.cells #[.int .i64 0, .string ⟨#[]⟩] 30) := ⟨_, rfl⟩
  have HBA : Hid (Below w.heap.size w wa) := by rw [hwa]; exact (Below.refl _ _).alloc (Nat.le_refl _) _
  have HLA : Hid (Lay wa w.heap.size (.int .i64 0) (.string ⟨#[]⟩)) := by rw [hwa]; exact Lay.made _ _ _ _
  have HFO : Hid (∀ W, Below w.heap.size w W → Calls Tryz.prog 24 #[.slice aq q.length cq, .slice a l.length c] W fun e w' => e = .returned (.bool (frontOkB q l)) ∧ Below W.heap.size W w') := fun W hb => hFO W aq a q l cq c (hQ.below hb) hl (hN.below hb) hcap hll
  clear hN hQ hFO hcap
  have HWA : Hid (w.alloc (.cells #[.int .i64 0, .string ⟨#[]⟩] 30) = wa) := hwa.symm
  clear hwa
  go_enter Tryz.func7, Tryz.ntmps7
  go_wp2_with fail
  rw [HWA.out]
  clear HWA
  refine (iRowOf wa aq q cq (HQ.out.below HBA.out) hl).mono ?_
  rintro e w1 ⟨⟨ar, cr, rfl, _⟩, hb1⟩
  have HB1 : Hid (Below w.heap.size w w1) := HBA.out.trans (hb1.mono HBA.out.size)
  have HL1 : Hid (Lay w1 w.heap.size (.int .i64 0) (.string ⟨#[]⟩)) := HLA.out.below hb1
  clear hb1 HBA HLA
  cases hfe : fewB q
  · have HTB : Hid (toB q l = false) := by show _ = _; unfold toB; rw [hfe]; rfl
    obtain ⟨z0, z1, z2, z3⟩ := HL1.out
    have HZ := HL1.out.put (.int .i64 0) (.string ⟨#[]⟩)
    have HK : Kept (fun b => b = w.heap.size) w1 ((w1.setCell ⟨w.heap.size, 0, none⟩ (.int .i64 0)).setCell ⟨w.heap.size, 1, none⟩ (.string ⟨#[]⟩)) := kset (S := fun b => b = w.heap.size) (kset (S := fun b => b = w.heap.size) (Kept.refl (fun b => b = w.heap.size) w1) rfl _) rfl _
    have HH : Hid (∃ W, W = (w1.setCell ⟨w.heap.size, 0, none⟩ (.int .i64 0)).setCell ⟨w.heap.size, 1, none⟩ (.string ⟨#[]⟩) ∧ Lay W w.heap.size (.int .i64 0) (.string ⟨#[]⟩) ∧ Below w.heap.size w W) := ⟨_, rfl, HZ, HB1.out.trans (HK.below (B := w.heap.size) (fun b (hb : b = w.heap.size) => by omega) HB1.out.size)⟩
    clear HZ HK hfe
    go_wp2
    obtain ⟨W, hW, hz, hbz⟩ := HH.out
    rw [← hW]
    obtain ⟨y0, y1, _, _⟩ := hz
    refine bodyPost_ret (v := .tuple #[tv 0 ⟨#[]⟩, .bool false]) (by simp [results, Tryz.results7, go_sem, y0, y1]) rfl ⟨?_, hbz⟩
    rw [(to_no HTB.out).1, (to_no HTB.out).2, HTB.out]
  go_wp2_with fail
  refine (HFO.out w1 HB1.out).mono ?_
  rintro e w2 ⟨rfl, hb2⟩
  have HB2 : Hid (Below w.heap.size w w2) := HB1.out.trans (hb2.mono HB1.out.size)
  have HL2 : Hid (Lay w2 w.heap.size (.int .i64 0) (.string ⟨#[]⟩)) := HL1.out.below hb2
  clear hb2 HB1 HL1
  cases hfo : frontOkB q l
  · have HTB : Hid (toB q l = false) := by show _ = _; unfold toB; rw [hfe, hfo]; rfl
    obtain ⟨z0, z1, z2, z3⟩ := HL2.out
    have HZ := HL2.out.put (.int .i64 0) (.string ⟨#[]⟩)
    have HK : Kept (fun b => b = w.heap.size) w2 ((w2.setCell ⟨w.heap.size, 0, none⟩ (.int .i64 0)).setCell ⟨w.heap.size, 1, none⟩ (.string ⟨#[]⟩)) := kset (S := fun b => b = w.heap.size) (kset (S := fun b => b = w.heap.size) (Kept.refl (fun b => b = w.heap.size) w2) rfl _) rfl _
    have HH : Hid (∃ W, W = (w2.setCell ⟨w.heap.size, 0, none⟩ (.int .i64 0)).setCell ⟨w.heap.size, 1, none⟩ (.string ⟨#[]⟩) ∧ Lay W w.heap.size (.int .i64 0) (.string ⟨#[]⟩) ∧ Below w.heap.size w W) := ⟨_, rfl, HZ, HB2.out.trans (HK.below (B := w.heap.size) (fun b (hb : b = w.heap.size) => by omega) HB2.out.size)⟩
    clear HZ HK hfe hfo
    go_wp2
    obtain ⟨W, hW, hz, hbz⟩ := HH.out
    rw [← hW]
    obtain ⟨y0, y1, _, _⟩ := hz
    refine bodyPost_ret (v := .tuple #[tv 0 ⟨#[]⟩, .bool false]) (by simp [results, Tryz.results7, go_sem, y0, y1]) rfl ⟨?_, hbz⟩
    rw [(to_no HTB.out).1, (to_no HTB.out).2, HTB.out]
  have HTB : Hid (toB q l = true) := by show _ = _; unfold toB; rw [hfe, hfo]; rfl
  obtain ⟨hn12, hrl⟩ := few_bits hfe
  obtain ⟨ws, hF⟩ := fo_all hfo
  have HF : Hid (Fo q l ws) := hF
  obtain ⟨hl1, hl2⟩ := term_len hF.term
  have hl80 : l.length ≤ 80 := hl2
  have HTY : Hid (∀ i, i < q.length → 0 ≤ (qth q i).vr ∧ (qth q i).vr ≤ 7 ∧ 1 ≤ (qth q i).bits ∧ (qth q i).bits ≤ 8) := fun i hi => ⟨(hF.q hi).1, (hF.q hi).2.1, (hF.q hi).2.2.1, (hF.q hi).2.2.2.1⟩
  have HFN : Hid (∀ p, FitN l (l.length - 1) (envL q p)) := fun p => by
    obtain ⟨r, h1, h2⟩ := need_ty (root l) hF.rt hF.ty
    exact ⟨r, h1, fits_ty h2 (env_ok hF.env p q hF.tq)⟩
  have HPV : Hid (PVal l (l.length - 1)) := pVal hIA hF.term hl2 (l.length - 1) (by omega)
  have HBI : Hid (∀ p, vT (tr l (l.length - 1)) (envL q p) = if atL q l p then 1 else 0) := fun p => hF.bit p
  obtain ⟨zc, hzc⟩ : ∃ zc : Array Value, zc = Tryz.zeroCells68 := ⟨_, rfl⟩
  have hZ : Zc zc := by rw [hzc]; exact zc_of
  have HZC : Hid (Tryz.zeroCells68 = zc) := hzc.symm
  have hw1 : IntKind.i64.wrap ((l.length : Int) - 1) = (l.length : Int) - 1 := by rw [IntKind.wrap_i64] <;> omega
  have E1 : Hid (((l.length - 1 : Nat) : Int) = (l.length : Int) - 1) := by show _ = _; omega
  rw [hrl]
  clear hF hfe hfo hzc hrl
  obtain ⟨G, hG⟩ : ∃ G : Nat → Bool, G = atL q l := ⟨_, rfl⟩
  rw [← hG] at HBI
  have HG : Hid (atL q l = G) := hG.symm
  clear hG
  obtain ⟨n, hn⟩ : ∃ n : Nat, n = bitL q := ⟨_, rfl⟩
  rw [← hn] at hn12 ⊢
  have HNB : Hid (bitL q = n) := hn.symm
  clear hn
  obtain ⟨hp, hpl⟩ := p12 hn12
  have hnw := nw_le hn12
  have HNP : Hid (∀ W, Calls Tryz.prog 25 #[.int .i64 (n : Int)] W fun e w' => ∃ g, e = .returned (pv n (nw n) g) ∧ W.heap.size ≤ g ∧ Wds w' g (nw n) (fun _ => false) ∧ Below W.heap.size W w') := fun W => newPacked n W hn12
  have HSI : Hid (∀ W g, Calls Tryz.prog 26 #[pv n (nw n) g] W fun e w' => e = .returned (.int .i64 ((2 ^ n : Nat) : Int)) ∧ Below W.heap.size W w') := fun W g => size n g W hn12
  have HPU : Hid (∀ W g k, k < 2 ^ n → G k = true → Wds W g (nw n) (upto k G) → Calls Tryz.prog 29 #[pv n (nw n) g, .int .i64 (k : Int)] W fun e w' => e = .returned (.tuple #[]) ∧ Wds w' g (nw n) (upto (k + 1) G) ∧ Kept (fun b => b = g) W w') := fun W g k h1 h2 h3 => put n g k G W hn12 h1 h2 h3
  have HTA : Hid (∀ W g, Wds W g (nw n) (upto (2 ^ n) G) → Calls Tryz.prog 30 #[pv n (nw n) g] W fun e w' => e = .returned (tv (n : Int) (bs (tab n G))) ∧ Below W.heap.size W w') := fun W g h => by
    have := table n g (upto (2 ^ n) G) W hn12 h
    rw [tab_upto] at this
    exact this
  have hP4 : 2 ^ n ≤ 4096 := by have := Nat.pow_le_pow_right (show 0 < 2 by omega) hn12; simpa using this
  generalize hST : bs (tab n G) = ST at HTA
  have HST : Hid (bs (tab n G) = ST) := hST
  clear hST
  generalize hP : 2 ^ n = P at *
  have HP : Hid (2 ^ n = P) := hP
  clear hP
  go_wp2_with fail
  refine (HNP.out w2).mono ?_
  rintro e w3 ⟨g, rfl, hg, hw3, hb3⟩
  have hlw := HL2.out.lt
  have hgw : w.heap.size < g := by omega
  have HB3 : Hid (Below w.heap.size w w3) := HB2.out.trans (hb3.mono HB2.out.size)
  have HL3 : Hid (Lay w3 w.heap.size (.int .i64 0) (.string ⟨#[]⟩)) := HL2.out.below hb3
  have HW3 : Hid (Wds w3 g (nw n) (fun _ => false)) := hw3
  have hgl : g < w3.heap.size := hw3.lt (by omega)
  clear hg hw3 hb3 HB2 HL2 hlw
  generalize nw n = m at *
  go_wp2_with fail
  refine (HSI.out _ g).mono ?_
  rintro e w4 ⟨rfl, hb4⟩
  have HQ4 : Hid (Lay w4 w3.heap.size (.int .i64 (n : Int)) (.slice (some ⟨g, 0, none⟩) m m)) := (Lay.made w3 _ _ _).below hb4
  have HL4 : Hid (Lay w4 w.heap.size (.int .i64 0) (.string ⟨#[]⟩)) := (HL3.out.alloc _).below hb4
  have HW4 : Hid (Wds w4 g m (upto 0 G)) := ((HW3.out.kept (S := fun _ => False) ((Kept.refl _ _).alloc _) (fun h => h)).below hb4).congr fun i _ => by rw [upto_zero, wd_zero (by intro j _; rfl)]
  have HB4 : Hid (Below w.heap.size w w4) := (HB3.out.alloc HB3.out.size _).trans (hb4.mono (by have := HB3.out.size; simp; omega))
  have hsz4 : w3.heap.size < w4.heap.size := HQ4.out.lt
  clear hb4
  generalize hpb : w3.heap.size = pb at *
  clear hpb HW3 HL3 HB3
  go_wp2_with fail
  go_loopw [30] (fun i wr => ∃ k : Nat, k ≤ P ∧ i = .int .i64 k ∧ Lay wr w.heap.size (.int .i64 0) (.string ⟨#[]⟩) ∧ Lay wr pb (.int .i64 (n : Int)) (.slice (some ⟨g, 0, none⟩) m m) ∧ Wds wr g m (upto k G) ∧ Below w.heap.size w wr) (fun i _ => P - (intOf i).toNat)
  case atStart => exact ⟨0, Nat.zero_le _, rfl, HL4.out, HQ4.out, HW4.out, HB4.out⟩
  case round =>
    obtain ⟨k, hk, rfl, hx, hq, hw, hb⟩ := hrel
    have HL : Hid (Lay wr w.heap.size (.int .i64 0) (.string ⟨#[]⟩)) := hx
    have HQ9 : Hid (Lay wr pb (.int .i64 (n : Int)) (.slice (some ⟨g, 0, none⟩) m m)) := hq
    have HW : Hid (Wds wr g m (upto k G)) := hw
    have HB : Hid (Below w.heap.size w wr) := hb
    have hsw : w.heap.size < wr.heap.size := hx.lt
    have hsp : pb < wr.heap.size := hq.lt
    have hsg : g < wr.heap.size := hw.lt (by omega)
    clear hx hq hw hb
    by_cases hlt : k < P
    · have hkz : (k : Int) < (P : Int) := by omega
      go_wp2_with fail
      refine (iVarsAt wr aq q cq k (HQ.out.below HB.out) hl HTY.out (by omega)).mono ?_
      rintro e w5 ⟨rfl, hb5⟩
      have HL5 : Hid (Lay w5 w.heap.size (.int .i64 0) (.string ⟨#[]⟩)) := HL.out.below hb5
      have HQ5 : Hid (Lay w5 pb (.int .i64 (n : Int)) (.slice (some ⟨g, 0, none⟩) m m)) := HQ9.out.below hb5
      have HW5 : Hid (Wds w5 g m (upto k G)) := HW.out.below hb5
      have HB5 : Hid (Below w.heap.size w w5) := HB.out.trans (hb5.mono HB.out.size)
      have hs5 : wr.heap.size ≤ w5.heap.size := hb5.size
      have HEL : Hid ((envL q k).length = 8) := env_len q k
      have HFK : Hid (FitN l (l.length - 1) (envL q k)) := HFN.out k
      have HBK : Hid (vT (tr l (l.length - 1)) (envL q k) = if G k then 1 else 0) := HBI.out k
      generalize envL q k = ev at *
      clear hb5 HL HQ9 HW HB
      unfold aggE
      go_wp2_with (rw [HZC.out]; refine store_new _ rfl 68 (.tmp 10) (.tmp 37) rfl zc (scCells zc a l.length c ev) _ rfl rfl rfl (by rw [sc_size hZ]; exact info_sc) (by rw [sc_size hZ]; exact hZ.size) (sc_one hZ _ _ _ _) ?_; clear HZC; have hsc := (sc_new w5 hZ a l c 68 ev).1; have hBW : Below w5.heap.size w5 (w5.alloc (.cells (scCells zc a l.length c ev) 68)) := (Below.refl _ _).alloc (Nat.le_refl _) _; generalize w5.alloc (.cells (scCells zc a l.length c ev) 68) = W5 at hsc hBW; have HSC : Hid (Sc W5 w5.heap.size a l c ev (fun _ => false) (fun _ => 0)) := hsc; have HBW : Hid (Below w5.heap.size w5 W5) := hBW; clear hsc hBW)
      have hN5 : Nodes w5 a l := HN.out.below HB5.out
      have hblk : ∀ y, a = some y → y.block ≠ w5.heap.size := fun y hy h => by
        rcases hN5.2 with h0 | ⟨xb, xo, hx, hc⟩
        · omega
        · rw [hy] at hx
          have h9 := (hc 0 (by omega)).lt
          have h10 := Option.some.inj hx
          rw [h10] at h
          have : xb = w5.heap.size := h
          omega
      have hcall := HPV.out W5 w5.heap.size a c ev _ _ (hN5.below HBW.out) hblk HEL.out HSC.out HFK.out
      rw [E1.out] at hcall
      refine hcall.mono ?_
      rintro x0 w6 ⟨rfl, _, hK6⟩
      have HL6 : Hid (Lay w6 w.heap.size (.int .i64 0) (.string ⟨#[]⟩)) := (HL5.out.below HBW.out).kept hK6 (fun h => by have h' : w.heap.size = w5.heap.size := h; omega)
      have HQ6 : Hid (Lay w6 pb (.int .i64 (n : Int)) (.slice (some ⟨g, 0, none⟩) m m)) := (HQ5.out.below HBW.out).kept hK6 (fun h => by have h' : pb = w5.heap.size := h; omega)
      have HW6 : Hid (Wds w6 g m (upto k G)) := (HW5.out.below HBW.out).kept hK6 (fun h => by have h' : g = w5.heap.size := h; omega)
      have HB6 : Hid (Below w.heap.size w w6) := by
        have h1 : Below w.heap.size w W5 := HB5.out.trans (HBW.out.mono HB5.out.size)
        exact h1.trans (hK6.below (fun b (hb : b = w5.heap.size) => by omega) h1.size)
      clear hcall hK6 hN5 hblk HL5 HQ5 HW5 HB5 HBW HSC
      rw [HBK.out]
      clear HBK HFK HEL
      cases hGk : G k
      · have HGK : Hid (G k = false) := hGk
        rw [if_neg (by simp)]
        clear hGk
        go_wp2
        go_roundw
        case rel => exact ⟨k + 1, by omega, by go_num, HL6.out, HQ6.out, HW6.out.congr fun i _ => (wd_next_no G k i HGK.out).symm, HB6.out⟩
        case measure => simp [intOf]; omega
      · have HGK : Hid (G k = true) := hGk
        rw [if_pos rfl]
        clear hGk
        obtain ⟨q0, q1, _, _⟩ := HQ6.out
        go_wp2_with (go_at_call 29; refine (HPU.out _ g k hlt HGK.out HW6.out).mono ?_; rintro e w7 ⟨rfl, hw7, hk7⟩)
        go_roundw
        case rel => exact ⟨k + 1, by omega, by go_num, HL6.out.kept hk7 (fun h => by have h' : w.heap.size = g := h; omega), HQ6.out.kept hk7 (fun h => by have h' : pb = g := h; omega), hw7, HB6.out.trans (hk7.below (fun b (hb : b = g) => by omega) HB6.out.size)⟩
        case measure => simp [intOf]; omega
    · have hkP : k = P := by omega
      have HWP : Hid (Wds wr g m (upto P G)) := by rw [← hkP]; exact HW.out
      obtain ⟨q0, q1, _, _⟩ := HQ9.out
      go_wp2_with fail
      refine (HTA.out wr g HWP.out).mono ?_
      rintro e w8 ⟨rfl, hb8⟩
      have HL8 : Hid (Lay w8 w.heap.size (.int .i64 0) (.string ⟨#[]⟩)) := HL.out.below hb8
      have HB8 : Hid (Below w.heap.size w w8) := HB.out.trans (hb8.mono HB.out.size)
      clear hb8 q0 q1
      obtain ⟨z0, z1, z2, z3⟩ := HL8.out
      have HZ := HL8.out.put (.int .i64 (n : Int)) (.string ST)
      have HK : Kept (fun b => b = w.heap.size) w8 ((w8.setCell ⟨w.heap.size, 0, none⟩ (.int .i64 (n : Int))).setCell ⟨w.heap.size, 1, none⟩ (.string ST)) := kset (S := fun b => b = w.heap.size) (kset (S := fun b => b = w.heap.size) (Kept.refl (fun b => b = w.heap.size) w8) rfl _) rfl _
      have HH : Hid (∃ W, W = (w8.setCell ⟨w.heap.size, 0, none⟩ (.int .i64 (n : Int))).setCell ⟨w.heap.size, 1, none⟩ (.string ST) ∧ Lay W w.heap.size (.int .i64 (n : Int)) (.string ST) ∧ Below w.heap.size w W) := ⟨_, rfl, HZ, HB8.out.trans (HK.below (B := w.heap.size) (fun b (hb : b = w.heap.size) => by omega) HB8.out.size)⟩
      clear HZ HK
      go_wp2
      obtain ⟨W, hW, hz, hbz⟩ := HH.out
      rw [← hW]
      obtain ⟨y0, y1, _, _⟩ := hz
      refine bodyPost_ret (v := .tuple #[tv (n : Int) ST, .bool true]) (by simp [results, Tryz.results7, go_sem, y0, y1]) rfl ⟨?_, hbz⟩
      rw [(to_yes HTB.out).1, (to_yes HTB.out).2, HTB.out, HNB.out, HG.out, HST.out]

def ITableOf : Prop := ∀ (w : World) (aq a : Option Addr) (q : List Qu) (l : List Nd) (cq c : Nat), Qus w aq q → q.length ≤ 1048576 → Nodes w a l → l.length ≤ c → l.length ≤ 1048576 →
    Calls Tryz.prog 7 #[.slice aq q.length cq, .slice a l.length c] w fun e w' => e = .returned (.tuple #[tv (toN q l) (toS q l), .bool (toB q l)]) ∧ Below w.heap.size w w'
theorem iTableOf' (hFO : IFrontOk) (hIA : IApply) : ITableOf := fun w aq a q l cq c hQ hl hN hcap hll => iTableOf hFO hIA w aq a q l cq c hQ hl hN hcap hll

end Go.Proofs.YtbnjndloeflgiaaGreat.To2
