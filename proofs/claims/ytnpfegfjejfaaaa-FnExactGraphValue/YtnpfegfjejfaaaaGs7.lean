/- The model's GraphValue. -/
import Derived.Test.YtnpfegfjejfaaaaGs6
import Derived.Test.YtnpfegfjejfaaaaGv0
namespace Go.Proofs.Ytnpfegfjejfaaaa.Gs7
open Go.RowKit
open Nd0 Qb0 Gr0 Gr1 Gs1 Gs2 Gs6 Wv0 Wv2 Gv0
set_option linter.unusedVariables false

set_option maxRecDepth 100000 in
set_option maxHeartbeats 8000000 in
theorem sGraphValue (w : World) (ins : Int) (a : Option Addr) (c : Nat) (l : List An) (h : Ans w a l) (hR : Rg l) (gx ox cx : Nat) (bs : List Int) (hI : Ints w (some ⟨gx, ox, none⟩) bs) (hbl : bs.length ≤ 1048576) (x : Int) :
    Calls Try.prog 36 #[.agg #[.int .i64 ins, .slice a l.length c], .slice (some ⟨gx, ox, none⟩) bs.length cx, .int .i64 x] w fun e w' => e = .returned (.int .i64 (valG ins l bs x)) ∧ Below w.heap.size w w' := by
  obtain ⟨W, hW⟩ : ∃ W, W = w.alloc (.cells #[.int .i64 ins, .slice a l.length c] 29) := ⟨_, rfl⟩
  have HWB : Hid (Below w.heap.size w W) := by rw [hW]; exact (Below.refl _ _).alloc (Nat.le_refl _) _
  obtain ⟨bg, hbg⟩ : ∃ bg, bg = w.heap.size := ⟨_, rfl⟩
  have C0 : Hid (W.cell? ⟨bg, 0, none⟩ = some (.int .i64 ins)) := by show _ = _; rw [hW, hbg, World.cell?_alloc_new]; rfl
  have C1 : Hid (W.cell? ⟨bg, 1, none⟩ = some (.slice a l.length c)) := by show _ = _; rw [hW, hbg, World.cell?_alloc_new]; rfl
  have hWs : bg < W.heap.size := by rw [hW, hbg]; simp
  have HA : Hid (Ans W a l) := h.below HWB.out
  have HI : Hid (Ints W (some ⟨gx, ox, none⟩) bs) := hI.below HWB.out
  have HRg : Hid (Rg l) := hR
  have HW : Hid (W = w.alloc (.cells #[.int .i64 ins, .slice a l.length c] 29)) := hW
  have HBG : Hid (bg = w.heap.size) := hbg
  clear hW hbg h hR hI
  go_enter Try.func36, Try.ntmps36
  go_upto_region 1 with fail
  rw [← HW.out, ← HBG.out]
  have c0 := C0.out
  have c1 := C1.out
  go_wp2_with fail
  refine (sGraphOk _ ins a c l HA.out HRg.out).mono ?_
  cases hg : gokB ins l with
  | false =>
    rintro e w2 ⟨rfl, hb2⟩
    have HG : Hid (valG ins l bs x = -1) := by show _ = _; unfold valG; rw [if_neg (fun e => by rw [hg] at e; exact absurd e.1 (by simp))]
    have HB : Hid (Below w.heap.size w w2) := HWB.out.trans (hb2.mono HWB.out.size)
    clear hg hb2
    go_wp2
    go_ret
    exact ⟨by rw [HG.out]; rfl, HB.out⟩
  | true =>
    rintro e w2 ⟨rfl, hb2⟩
    have HB2 : Hid (Below W.heap.size W w2) := hb2
    have d0 : w2.cell? ⟨bg, 0, none⟩ = some (.int .i64 ins) := by rw [hb2.cell hWs]; exact c0
    have d1 : w2.cell? ⟨bg, 1, none⟩ = some (.slice a l.length c) := by rw [hb2.cell hWs]; exact c1
    obtain ⟨h0, h1, hl, hok⟩ := gok_facts hg
    have HG : Hid (gokB ins l = true) := hg
    have HOK : Hid (okL ins l = true) := hok
    clear hg hb2 c0 c1 hok
    by_cases hlen : (bs.length : Int) = ins
    rotate_left
    · have hne : ((bs.length : Int) != ins) = true := bne_iff_ne.2 hlen
      have HV : Hid (valG ins l bs x = -1) := by show _ = _; unfold valG; rw [if_neg (fun e => hlen e.2.1)]
      clear hlen
      go_wp2
      go_ret
      exact ⟨by rw [HV.out]; rfl, HWB.out.trans (HB2.out.mono HWB.out.size)⟩
    have hne : ((bs.length : Int) != ins) = false := by rw [hlen]; simp
    have HLEN : Hid ((bs.length : Int) = ins) := hlen
    have hb12 : bs.length ≤ 12 := by omega
    clear hlen
    go_wp2_with fail
    refine (sWire _ ins a l c x h0 h1 hl).mono ?_
    cases hwx : wireB ins l x with
    | false =>
      rintro e w3 ⟨rfl, hb3⟩
      have HV : Hid (valG ins l bs x = -1) := by show _ = _; unfold valG; rw [if_neg (fun e => by rw [hwx] at e; exact absurd e.2.2.1 (by simp))]
      have HB3 : Hid (Below W.heap.size W w3) := HB2.out.trans (hb3.mono HB2.out.size)
      clear hwx hb3 d0 d1
      go_wp2
      go_ret
      exact ⟨by rw [HV.out]; rfl, HWB.out.trans (HB3.out.mono HWB.out.size)⟩
    | true =>
      rintro e w3 ⟨rfl, hb3⟩
      have HB3 : Hid (Below W.heap.size W w3) := HB2.out.trans (hb3.mono HB2.out.size)
      have rx := of_decide_eq_true hwx
      have HWX : Hid (wireB ins l x = true) := hwx
      clear hwx hb3 d0 d1 hne
      go_upto_region 4 with fail
      go_loopw [7] (fun i wr => ∃ k : Nat, k ≤ bs.length ∧ i = .int .i64 k ∧ (∀ j (hj : j < bs.length), j < k → 0 ≤ bs[j] ∧ bs[j] ≤ 1) ∧ Below W.heap.size W wr) (fun i _ => bs.length - (intOf i).toNat)
      case atStart => exact ⟨0, Nat.zero_le _, rfl, fun j hj h => by omega, HB3.out⟩
      case round =>
        obtain ⟨k, hk, rfl, hbits, hbw⟩ := hrel
        have HBT : Hid (∀ j (hj : j < bs.length), j < k → 0 ≤ bs[j] ∧ bs[j] ≤ 1) := hbits
        have HBW : Hid (Below W.heap.size W wr) := hbw
        clear hbits hbw
        by_cases hlt : k < bs.length
        · have hlz : (k : Int) < (bs.length : Int) := by omega
          have hcell : wr.cell? ⟨gx, ox + k, none⟩ = some (.int .i64 bs[k]) := by
            rcases (HI.out.below HBW.out).2 with e | ⟨b, o, ha, hc⟩
            · omega
            · cases ha; exact hc k hlt
          obtain ⟨bb, hbb⟩ : ∃ bb, bb = bs[k] := ⟨_, rfl⟩
          have HBB : Hid (bb = bs[k]) := hbb
          rw [← hbb] at hcell
          clear hbb
          by_cases hbit : 0 ≤ bb ∧ bb ≤ 1
          · go_wp2_with fail
            refine (sInT _ hbit).mono ?_
            rintro e w4 ⟨rfl, hw4⟩
            have hw4' := hw4.symm
            clear hw4
            subst hw4'
            have HBT2 : Hid (∀ j (hj : j < bs.length), j < k + 1 → 0 ≤ bs[j] ∧ bs[j] ≤ 1) := fun j hj h => by
              by_cases e : j = k
              · subst e; rw [← HBB.out]; exact hbit
              · exact HBT.out j hj (by omega)
            clear hcell hbit
            go_wp2
            go_roundw
            case rel => exact ⟨k + 1, by omega, by go_num, HBT2.out, HBW.out⟩
            case measure => simp [intOf]; omega
          · have HV : Hid (valG ins l bs x = -1) := by
              show _ = _
              unfold valG
              have hb := bits_stop hlt (by rw [← HBB.out]; exact hbit)
              rw [if_neg (fun e => by rw [hb] at e; exact absurd e.2.2.2 (by simp))]
            go_wp2_with fail
            refine (sInF _ hbit).mono ?_
            rintro e w4 ⟨rfl, hw4⟩
            have hw4' := hw4.symm
            clear hw4
            subst hw4'
            clear hcell hbit
            go_wp2
            go_ret
            exact ⟨by rw [HV.out]; rfl, HWB.out.trans (HBW.out.mono HWB.out.size)⟩
        · have e : k = bs.length := by omega
          subst e
          have HAL : Hid (∀ j (hj : j < bs.length), 0 ≤ bs[j] ∧ bs[j] ≤ 1) := fun j hj => HBT.out j hj hj
          have hlen := HLEN.out
          have c0 : wr.cell? ⟨bg, 0, none⟩ = some (.int .i64 ins) := by rw [HBW.out.cell hWs]; exact C0.out
          have c1 : wr.cell? ⟨bg, 1, none⟩ = some (.slice a l.length c) := by rw [HBW.out.cell hWs]; exact C1.out
          have HV : Hid (valG ins l bs x = ((gval (bI bs) bs.length l x).toNat : Int)) := by
            show _ = _
            unfold valG
            rw [if_pos ⟨HG.out, hlen, HWX.out, bits_all HAL.out⟩, show ins.toNat = bs.length by omega]
          have HSV : Hid (Calls Try.prog 84 #[.agg #[.int .i64 ins, .slice a l.length c], .slice (some ⟨gx, ox, none⟩) bs.length cx] wr fun e w' => (∃ g cp, e = .returned (.slice (some ⟨g, 0, none⟩) (vB (bI bs) bs.length l l.length).length cp) ∧ OwI w' wr.heap.size (.slice (some ⟨g, 0, none⟩) (vB (bI bs) bs.length l l.length).length cp) (vB (bI bs) bs.length l l.length)) ∧ Below wr.heap.size wr w') := by
            have hok := HOK.out
            rw [← hlen] at hok ⊢
            exact sVals wr bs.length a c l (HA.out.below HBW.out) hb12 hl hok (bI bs) gx ox cx (is_of (HI.out.below HBW.out) HAL.out)
          clear hlen
          go_wp2_with fail
          refine HSV.out.mono ?_
          rintro e w5 ⟨⟨g5, c5, rfl, hO5⟩, hb5⟩
          have HB5 : Hid (Below W.heap.size W w5) := HBW.out.trans (hb5.mono HBW.out.size)
          have hlv := vB_len (bI bs) bs.length l l.length
          have hins : ins = (bs.length : Int) := HLEN.out.symm
          have hcx := hO5.cell (x / 2).toNat (by rw [hlv]; omega)
          rw [vB_get] at hcx
          have xr := xor_wv (vl (bI bs) bs.length l l.length) x (by omega)
          have HGV : Hid (gval (bI bs) bs.length l x = wv (vl (bI bs) bs.length l l.length) x) := rfl
          have tx : x.tdiv 2 = (((x / 2).toNat : Nat) : Int) := by rw [Int.tdiv_eq_ediv_of_nonneg (by omega)]; omega
          have tx' : x / 2 = (((x / 2).toNat : Nat) : Int) := by omega
          have mx : x.tmod 2 = x % 2 := Int.tmod_eq_emod_of_nonneg (by omega)
          have lx : (((x / 2).toNat : Nat) : Int) < (((vB (bI bs) bs.length l l.length).length : Nat) : Int) := by rw [hlv]; omega
          have wX : IntKind.i64.wrap (((x / 2).toNat : Nat) : Int) = (((x / 2).toNat : Nat) : Int) := by rw [IntKind.wrap_i64]; omega
          generalize (vB (bI bs) bs.length l l.length).length = LL at *
          generalize (x / 2).toNat = X2 at *
          generalize ((vl (bI bs) bs.length l l.length).getD X2 false).toNat = vx at *
          generalize wv (vl (bI bs) bs.length l l.length) x = wx at *
          have hx2 : x ≤ 100000 := by omega
          clear hO5 hb5 c0 c1 hins hlv
          go_wp2
          go_ret
          exact ⟨by rw [HV.out, HGV.out]; rfl, HWB.out.trans (HB5.out.mono HWB.out.size)⟩

end Go.Proofs.Ytnpfegfjejfaaaa.Gs7
