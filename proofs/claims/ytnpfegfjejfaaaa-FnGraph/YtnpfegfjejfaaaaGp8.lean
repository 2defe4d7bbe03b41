/- The program's GraphValue. -/
import Derived.Test.YtnpfegfjejfaaaaGp7
import Derived.Test.YtnpfegfjejfaaaaGv0
namespace Go.Proofs.Ytnpfegfjejfaaaa.Gp8
open Go.RowKit
open Nd0 Qb0 Qb2 Gr0 Gr1 Mq0 Nt0 Gp1 Gp3 Gp7 Ta0 Wv0 Wv1 Gv0
set_option linter.unusedVariables false

theorem iBit (x : Int) (w : World) : Calls Try.prog 63 #[.int .i64 x] w fun e w' => e = .returned (.bool (decide (0 ≤ x ∧ x ≤ 1))) ∧ w' = w := by
  by_cases h0 : x = 0
  · have hb : (x == 0) = true := by rw [h0]; rfl
    have HB : Hid (decide (0 ≤ x ∧ x ≤ 1) = true) := decide_eq_true (by omega)
    clear h0
    go_enter Try.func63, Try.ntmps63
    go_wp2
    go_ret
    exact ⟨by rw [HB.out]; rfl, rfl⟩
  · have hb : (x == 0) = false := beq_eq_false_iff_ne.2 h0
    by_cases h1 : x = 1
    · have hb1 : (x == 1) = true := by rw [h1]; rfl
      have HB : Hid (decide (0 ≤ x ∧ x ≤ 1) = true) := decide_eq_true (by omega)
      clear h0 h1
      go_enter Try.func63, Try.ntmps63
      go_wp2
      go_ret
      exact ⟨by rw [HB.out]; rfl, rfl⟩
    · have hb1 : (x == 1) = false := beq_eq_false_iff_ne.2 h1
      have HB : Hid (decide (0 ≤ x ∧ x ≤ 1) = false) := decide_eq_false (by omega)
      clear h0 h1
      go_enter Try.func63, Try.ntmps63
      go_wp2
      go_ret
      exact ⟨by rw [HB.out]; rfl, rfl⟩

/-- The words of the first k bits. -/
def wk (bs : List Int) (k : Nat) : List Nat := (List.range k).map fun i => wdN (U1 bs i) 64
theorem wk_next (bs : List Int) (k : Nat) : wk bs (k + 1) = wk bs k ++ [(bI bs k).toNat] := by
  unfold wk
  rw [List.range_succ, List.map_append, List.map_singleton]
  congr 2
  exact wd_one (bI bs k)

set_option maxRecDepth 100000 in
set_option maxHeartbeats 8000000 in
theorem iGraphValue (w : World) (ins : Int) (a : Option Addr) (c : Nat) (l : List An) (h : Ans w a l) (gx ox cx : Nat) (bs : List Int) (hI : Ints w (some ⟨gx, ox, none⟩) bs) (hbl : bs.length ≤ 1048576) (x : Int) :
    Calls Try.prog 21 #[.agg #[.int .i64 ins, .slice a l.length c], .slice (some ⟨gx, ox, none⟩) bs.length cx, .int .i64 x] w fun e w' => e = .returned (.int .i64 (valG ins l bs x)) ∧ Below w.heap.size w w' := by
  have HI0 : Hid (Ints w (some ⟨gx, ox, none⟩) bs) := hI
  have H : Hid (Ans w a l) := h
  clear h hI
  obtain ⟨W, hW⟩ : ∃ W, W = w.alloc (.cells #[.int .i64 ins, .slice a l.length c] 29) := ⟨_, rfl⟩
  have HWB : Hid (Below w.heap.size w W) := by rw [hW]; exact (Below.refl _ _).alloc (Nat.le_refl _) _
  obtain ⟨bg, hbg⟩ : ∃ bg, bg = w.heap.size := ⟨_, rfl⟩
  have C0 : Hid (W.cell? ⟨bg, 0, none⟩ = some (.int .i64 ins)) := by show _ = _; rw [hW, hbg, World.cell?_alloc_new]; rfl
  have C1 : Hid (W.cell? ⟨bg, 1, none⟩ = some (.slice a l.length c)) := by show _ = _; rw [hW, hbg, World.cell?_alloc_new]; rfl
  have hWs : bg < W.heap.size := by rw [hW, hbg]; simp
  have HI : Hid (Ints W (some ⟨gx, ox, none⟩) bs) := HI0.out.below HWB.out
  have HW : Hid (W = w.alloc (.cells #[.int .i64 ins, .slice a l.length c] 29)) := hW
  have HBG : Hid (bg = w.heap.size) := hbg
  clear hW hbg
  go_enter Try.func21, Try.ntmps21
  go_upto_region 1 with fail
  rw [← HW.out, ← HBG.out]
  have c0 := C0.out
  have c1 := C1.out
  go_wp2_with fail
  refine (iNetOf W ins a c l (H.out.below HWB.out)).mono ?_
  rintro e w2 (⟨hg, rfl, hb2⟩ | ⟨hg, p, rfl, hnet, hb2⟩)
  · have HG : Hid (valG ins l bs x = -1) := by show _ = _; unfold valG; rw [if_neg (fun e => by rw [hg] at e; exact absurd e.1 (by simp))]
    have HB : Hid (Below w.heap.size w w2) := HWB.out.trans (hb2.mono HWB.out.size)
    clear hg hb2
    go_wp2
    go_ret
    exact ⟨by rw [HG.out]; rfl, HB.out⟩
  have HB2 : Hid (Below W.heap.size W w2) := hb2
  have d0 : w2.cell? ⟨bg, 0, none⟩ = some (.int .i64 ins) := by rw [hb2.cell hWs]; exact c0
  obtain ⟨h0, h1, hl, hok⟩ := gok_facts hg
  have HG : Hid (gokB ins l = true) := hg
  have HOK : Hid (okL ins l = true) := hok
  obtain ⟨v, bm, hnt⟩ := hnet
  have HN : Hid (Nt w2 (fun k => k < W.heap.size) p ins l v bm) := hnt
  clear hg hb2 c0 c1 hok hnt
  by_cases hlen : (bs.length : Int) = ins
  rotate_left
  · have hne : ((bs.length : Int) != ins) = true := bne_iff_ne.2 hlen
    have HV : Hid (valG ins l bs x = -1) := by show _ = _; unfold valG; rw [if_neg (fun e => hlen e.2.1)]
    clear hlen
    go_wp2
    go_ret
    exact ⟨by rw [HV.out]; rfl, HWB.out.trans (HB2.out.mono HWB.out.size)⟩
  have hne : ((bs.length : Int) != ins) = false := by rw [hlen]; simp
  have HLEN : Hid ((bs.length : Int) = ins) := hlen
  have hb12 : bs.length ≤ 12 := by omega
  clear hlen
  go_wp2_with fail
  refine (iHasWire HN.out h0 h1 hl x).mono ?_
  cases hwx : wireB ins l x with
  | false =>
    rintro e w3 ⟨rfl, m, rfl⟩
    have HV : Hid (valG ins l bs x = -1) := by show _ = _; unfold valG; rw [if_neg (fun e => by rw [hwx] at e; exact absurd e.2.2.1 (by simp))]
    clear hwx d0
    go_wp2
    go_ret
    have hb := HWB.out.trans (HB2.out.mono HWB.out.size)
    exact ⟨by rw [HV.out]; rfl, ⟨hb.os, hb.tape, hb.output, hb.size, hb.block⟩⟩
  | true =>
    rintro e w3 ⟨rfl, m, rfl⟩
    have rx := of_decide_eq_true hwx
    have HWX : Hid (wireB ins l x = true) := hwx
    clear hwx d0 hne
    obtain ⟨Z, hZ⟩ : ∃ Z, Z = w2.drewN m := ⟨_, rfl⟩
    have HBZ : Hid (Below W.heap.size W Z) := by rw [hZ]; exact ⟨HB2.out.os, HB2.out.tape, HB2.out.output, HB2.out.size, HB2.out.block⟩
    have HNZ : Hid (Nt Z (fun k => k < W.heap.size) p ins l v bm) := by rw [hZ]; exact HN.out.kept (S := fun _ => False) ((Kept.refl _ _).drewN _) (fun _ e => e.elim)
    rw [← hZ]
    clear hZ
    go_upto_region 6 with fail
    obtain ⟨W4, hW4⟩ : ∃ W4, W4 = Z.alloc (.cells #[] 78) := ⟨_, rfl⟩
    have HO4 : Hid (OwU W4 Z.heap.size (.slice (some ⟨Z.heap.size, 0, none⟩) 0 0) []) := by rw [hW4]; exact OwU.lit Z Z.heap.size (Nat.le_refl _)
    have HB4 : Hid (Below Z.heap.size Z W4) := by rw [hW4]; exact (Below.refl _ _).alloc (Nat.le_refl _) _
    rw [← hW4]
    clear hW4
    go_loopw [9, 35] (fun v i wr => ∃ (k : Nat) (L : List Nat) (g cap : Nat), k ≤ bs.length ∧ i = .int .i64 k ∧ v = .slice (some ⟨g, 0, none⟩) L.length cap ∧ L = wk bs k ∧ OwU wr Z.heap.size (.slice (some ⟨g, 0, none⟩) L.length cap) L ∧ (∀ j (hj : j < bs.length), j < k → 0 ≤ bs[j] ∧ bs[j] ≤ 1) ∧ Below Z.heap.size Z wr) (fun _ i _ => bs.length - (intOf i).toNat)
    case atStart => exact ⟨0, [], Z.heap.size, 0, Nat.zero_le _, rfl, rfl, rfl, HO4.out, fun j hj h => by omega, HB4.out⟩
    case round =>
      obtain ⟨k, L, g, cap, hk, rfl, rfl, hL, hO, hbits, hbw⟩ := hrel
      have HL : Hid (L = wk bs k) := hL
      have HO : Hid (OwU wr Z.heap.size (.slice (some ⟨g, 0, none⟩) L.length cap) L) := hO
      have HBT : Hid (∀ j (hj : j < bs.length), j < k → 0 ≤ bs[j] ∧ bs[j] ≤ 1) := hbits
      have HBW : Hid (Below Z.heap.size Z wr) := hbw
      have HBR : Hid (Below W.heap.size W wr) := HBZ.out.trans (hbw.mono HBZ.out.size)
      clear hL hO hbits hbw
      by_cases hlt : k < bs.length
      · have hlz : (k : Int) < (bs.length : Int) := by omega
        have hcell : wr.cell? ⟨gx, ox + k, none⟩ = some (.int .i64 bs[k]) := by
          rcases (HI.out.below HBR.out).2 with e | ⟨b, o, ha, hc⟩
          · omega
          · cases ha; exact hc k hlt
        obtain ⟨bb, hbb⟩ : ∃ bb, bb = bs[k] := ⟨_, rfl⟩
        have HBB : Hid (bb = bs[k]) := hbb
        rw [← hbb] at hcell
        clear hbb
        by_cases hbit : 0 ≤ bb ∧ bb ≤ 1
        rotate_left
        · have HV : Hid (valG ins l bs x = -1) := by
            show _ = _
            unfold valG
            have hb := bits_stop hlt (by rw [← HBB.out]; exact hbit)
            rw [if_neg (fun e => by rw [hb] at e; exact absurd e.2.2.2 (by simp))]
          go_wp2_with fail
          refine (iBit bb _).mono ?_
          rw [decide_eq_false hbit]
          rintro e w4 ⟨rfl, hw4⟩
          have hw4' := hw4.symm
          clear hw4
          subst hw4'
          clear hcell hbit
          go_wp2
          go_ret
          exact ⟨by rw [HV.out]; rfl, HWB.out.trans (HBR.out.mono HWB.out.size)⟩
        have HBT2 : Hid (∀ j (hj : j < bs.length), j < k + 1 → 0 ≤ bs[j] ∧ bs[j] ≤ 1) := fun j hj h => by
          by_cases e : j = k
          · subst e; rw [← HBB.out]; exact hbit
          · exact HBT.out j hj (by omega)
        go_wp2_with fail
        refine (iBit bb _).mono ?_
        rw [decide_eq_true hbit]
        rintro e w4 ⟨rfl, hw4⟩
        have hw4' := hw4.symm
        clear hw4
        subst hw4'
        obtain ⟨y, hy, hy1⟩ : ∃ y : Nat, bb = (y : Int) ∧ y ≤ 1 := ⟨bb.toNat, by omega, by omega⟩
        have HYB : Hid (y = (bI bs k).toNat) := by
          have h2 := bit_at hlt (by rw [← HBB.out]; exact hbit)
          rw [← HBB.out, hy] at h2
          exact Int.ofNat.inj h2
        rw [hy]
        clear hy hcell hbit
        obtain ⟨L6, hL6⟩ : ∃ L6, L6 = wk bs (k + 1) := ⟨_, rfl⟩
        have HL6 : Hid (L6 = wk bs (k + 1)) := hL6
        have HLA : Hid (L ++ [y] = L6) := by show _ = _; rw [hL6, wk_next, HL.out, HYB.out]
        have wy : IntKind.u64.wrap (y : Int) = (y : Int) := by rw [IntKind.wrap_u64]; omega
        have hlen1 : L.length + [y].length ≤ 1048577 := by rw [HL.out]; simp [wk]; omega
        have HOA : Hid (OwU (wr.alloc (.cells #[.int .u64 (y : Int)] 78)) Z.heap.size (.slice (some ⟨g, 0, none⟩) L.length cap) L) := HO.out.kept (S := fun _ => False) ((Kept.refl _ _).alloc _) (fun _ _ e => e)
        have HUA : Hid (Us (wr.alloc (.cells #[.int .u64 (y : Int)] 78)) wr.heap.size 0 [y]) := fun j hj => by
          have : j = 0 := by simp at hj; exact hj
          subst this
          rw [World.cell?_alloc_new]; rfl
        have HBA : Hid (Below Z.heap.size Z (wr.alloc (.cells #[.int .u64 (y : Int)] 78))) := HBW.out.alloc HBW.out.size _
        clear hL6
        go_wp2_with (at_builtin; refine app_us _ (by rfl) _ _ (by rfl) Z.heap.size g cap wr.heap.size 0 1 L [y] (by rfl) (by rfl) HOA.out HUA.out HBA.out.size hlen1 L6 HLA.out ?_; intro g6 cp6 w6 ho6 hk6 hg6; have HO6 : Hid (OwU w6 Z.heap.size (.slice (some ⟨g6, 0, none⟩) L6.length cp6) L6) := ho6; have HB6 : Hid (Below Z.heap.size Z w6) := HBA.out.trans (hk6.below (fun k e => by have := (HOA.out.lt g rfl).1; omega) HBA.out.size); clear ho6 hk6 hg6)
        go_roundw
        case rel => exact ⟨k + 1, L6, g6, cp6, by omega, by go_num, rfl, HL6.out, HO6.out, HBT2.out, HB6.out⟩
        case measure => simp [intOf]; omega
      · have e : k = bs.length := by omega
        subst e
        have HAL : Hid (∀ j (hj : j < bs.length), 0 ≤ bs[j] ∧ bs[j] ≤ 1) := fun j hj => HBT.out j hj hj
        have HV : Hid (valG ins l bs x = ((gval (bI bs) bs.length l x).toNat : Int)) := by
          show _ = _
          have hlen := HLEN.out
          unfold valG
          rw [if_pos ⟨HG.out, hlen, HWX.out, bits_all HAL.out⟩, show ins.toNat = bs.length by omega]
        have hgl := (HO.out.lt g rfl).2
        have HSW : Hid (Calls Try.prog 56 #[.pointer (some ⟨p, 0, none⟩), .slice (some ⟨g, 0, none⟩) L.length cap, .int .i64 x] wr fun e w' => e = .returned (.int .u64 (wW (U1 bs) bs.length l l.length x : Int)) ∧ Below wr.heap.size wr w') := by
          have hlen := HLEN.out
          have hok := HOK.out
          have hwx := HWX.out
          have hn := HNZ.out.below HBW.out
          have hu := HO.out.us
          have hll : L.length = bs.length := by rw [HL.out]; simp [wk]
          rw [hll]
          rw [HL.out] at hu
          rw [← hlen] at hok hwx hn
          exact iWorth hn hb12 hl hok (U1 bs) g 0 cap hu hgl x hwx
        have HLOW : Hid (wW (U1 bs) bs.length l l.length x &&& 1 = (gval (bI bs) bs.length l x).toNat) := by
          show _ = _
          rw [wW_low]
          rfl
        go_wp2_with fail
        refine HSW.out.mono ?_
        have hwlt := wW_lt (U1 bs) bs.length l l.length x
        have ha := bandu (x := wW (U1 bs) bs.length l l.length x) (y := 1) hwlt (by decide)
        rw [HLOW.out, show ((1 : Nat) : Int) = 1 from rfl] at ha
        have hg1 : (gval (bI bs) bs.length l x).toNat ≤ 1 := by cases gval (bI bs) bs.length l x <;> decide
        generalize wW (U1 bs) bs.length l l.length x = WX at *
        generalize (gval (bI bs) bs.length l x).toNat = GX at *
        have wG : IntKind.i64.wrap (GX : Int) = (GX : Int) := by rw [IntKind.wrap_i64]; omega
        rintro e w5 ⟨rfl, hb5⟩
        have HB5 : Hid (Below W.heap.size W w5) := HBR.out.trans (hb5.mono HBR.out.size)
        clear hb5
        go_wp2
        go_ret
        exact ⟨by rw [HV.out]; rfl, HWB.out.trans (HB5.out.mono HWB.out.size)⟩

end Go.Proofs.Ytnpfegfjejfaaaa.Gp8
