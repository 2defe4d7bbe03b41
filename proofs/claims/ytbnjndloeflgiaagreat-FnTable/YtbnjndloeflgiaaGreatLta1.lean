/- The law FnTable. -/
import Derived.Deep.RegionHeld3
import Derived.Deep.CutBlock
import Derived.Test.YtbnjndloeflgiaaGreatPkTA15
import Derived.Test.YtbnjndloeflgiaaGreatTo2
import Derived.Test.YtbnjndloeflgiaaGreatPkTA33
import Derived.Test.YtbnjndloeflgiaaGreatPkTA34
import Derived.Test.YtbnjndloeflgiaaGreatPkTA35
import Derived.Test.YtbnjndloeflgiaaGreatPkTA39
import Derived.Test.YtbnjndloeflgiaaGreatFt0
namespace Go.Proofs.YtbnjndloeflgiaaGreat.Lta1
open Go.RowKit
open Nd0 Qa0 Ta0 Ta1 Ta2 Tc2 Tc5 De0 Fr0 Fr2 To0 To0t Ft0
open Ap0 (Ows)
open Dr0 (Bytes)
open Lw4 (lat lbig)
open Tm11 (bitsL)
open Tm6 (sentB)
open Vl1 (valueL)
open Sv6 (vRes sValue)
open Sp12 (sBits)
open Te1 (iOk1)
open Te3 (iTableAt)
open Td4 (sTableAt)
open Fm7 (sFront)
open Fm1 (quAt)
open To2 (ITableOf)
open To3 (sTableOf)
open Ss0 (bs bs_size)
open Ws1 (ret_int ret_bool)
set_option linter.unusedVariables false

theorem ows_at {w : World} {B : Nat} {v : Value} {l : List Int} (h : Ows w B v l) (hl : 1 ≤ l.length) : ∃ g c, v = .slice (some ⟨g, 0, none⟩) l.length c ∧ B ≤ g ∧ g < w.heap.size := by
  rcases h.2 with ⟨rfl, h0⟩ | ⟨g, cap, cur, rfl, hb, hg, _⟩
  · omega
  · exact ⟨g, cap, rfl, hb, (Array.getElem?_eq_some_iff.1 hg).1⟩
theorem ows_set' {w : World} {B g c n : Nat} {l : List Int} (h : Ows w B (.slice (some ⟨g, 0, none⟩) n c) l) (hn : l.length = n) (j : Nat) (x : Int) : Ows (w.setCell ⟨g, j, none⟩ (.int .i64 x)) B (.slice (some ⟨g, 0, none⟩) n c) (l.set j x) := by
  subst hn
  have h1 := (World.ownsRow.stored h j (.int .i64 x)).1
  unfold Ows
  rw [List.map_set, List.length_set]
  exact h1
theorem ows_cell {w : World} {B g c n : Nat} {l : List Int} (h : Ows w B (.slice (some ⟨g, 0, none⟩) n c) l) (hn : l.length = n) (j : Nat) (hj : j < n) : w.cell? ⟨g, j, none⟩ = some (.int .i64 (l.getD j 0)) ∧ w.frozen? ⟨g, j, none⟩ = false := by
  subst hn
  obtain ⟨a, c', hv, hw⟩ := h.form
  cases hv
  rcases hw.2 with h0 | ⟨b, o, hb, _, hc⟩
  · omega
  · cases hb
    have := hc j hj
    rw [Nat.zero_add] at this
    rw [List.getD_eq_getElem?_getD, List.getElem?_eq_getElem hj]
    exact this
theorem num_bit (s : List Int) {y : Int} (h : y = 0 ∨ y = 1) : ((num (s ++ [y]) : Nat) : Int) = 2 * (num s : Int) + y := by
  rw [num_one]
  rcases h with rfl | rfl
  · simp
  · simp

theorem front_le (l : List Nd) : (frontQ l).length ≤ 1048576 := by
  unfold frontQ
  cases h : sentB l with
  | false => exact Nat.zero_le _
  | true => exact Nat.le_trans (Fr5.wk_len h false) (by omega)
theorem rest_le (l : List Nd) : (frontR l).length ≤ 1048576 := by
  unfold frontR
  cases h : sentB l with
  | false => exact Nat.zero_le _
  | true =>
    show (restL l).length ≤ _
    unfold restL
    have h1 := Tm0.term_len (Tm13.prune_term (cut_term (Tm11.sent_ok h)))
    omega

set_option maxRecDepth 100000 in
set_option maxHeartbeats 8000000 in
theorem lawTable (hTO : ITableOf) (w : World) (a : Option Addr) (len cap : Nat) (hb : Bytes w a len) :
    Calls Tryz.prog 3 #[.slice a len cap] w fun e w' => e = .returned (.bool true) ∧ Below w.heap.size w w' := by
  have HB : Hid (Bytes w a len) := hb
  have HIT : Hid ITableOf := hTO
  clear hb hTO
  by_cases hs : 1048576 < len
  · go_enter Tryz.func3, Tryz.ntmps3
    go_wp2_with fail
    refine (lbig _ a len cap true (by simp; omega)).mono ?_
    rintro e w' ⟨rfl, rfl⟩
    go_wp2
    go_ret
    exact ⟨rfl, Below.refl _ _⟩
  have hsl : len ≤ 1048576 := by omega
  go_enter Tryz.func3, Tryz.ntmps3
  go_wp2_with fail
  refine (lbig _ a len cap false (by simp; omega)).mono ?_
  rintro e w0 ⟨rfl, hw0⟩
  have hw0' := hw0.symm
  clear hw0
  subst hw0'
  go_wp2_with fail
  refine (Ds1.drawSaid _ a len cap HB.out).mono ?_
  rintro e w1 ⟨g, c, L, rfl, hn, hb1, hl1, hl2, hcL, -, -⟩
  have HN1 : Hid (Nodes w1 (some ⟨g, 0, none⟩) L) := hn
  have HB1 : Hid (Below w.heap.size w w1) := hb1
  clear hn hb1 hcL
  go_wp2_with fail
  refine (sFront _ _ L c HN1.out).mono ?_
  rintro e w2 ⟨⟨aq, cq, ar, cr, rfl, hq, hr, hcq, hcr, -⟩, hb⟩
  have HN2 : Hid (Nodes w2 (some ⟨g, 0, none⟩) L) := HN1.out.below hb
  have HB2 : Hid (Below w.heap.size w w2) := HB1.out.trans (hb.mono HB1.out.size)
  have HQ2 : Hid (Qus w2 aq (frontQ L)) := hq.plain
  have HR2 : Hid (Nodes w2 ar (frontR L)) := hr.nodes
  have HQL : Hid ((frontQ L).length ≤ 1048576) := front_le L
  have HRL : Hid ((frontR L).length ≤ 1048576) := rest_le L
  have HCR : Hid ((frontR L).length ≤ cr) := hcr
  clear hb hq hr HN1 HB1 hcq hcr
  have HBI : Hid (toB (frontQ L) (frontR L) = true → bitsL L = (bitL (frontQ L) : Int)) := fun h => by
    obtain ⟨h1, h2⟩ := Dh3.bits_said h
    unfold bitsL
    rw [h1, h2]
    rfl
  have HBC : Hid (∀ W : World, Nodes W (some ⟨g, 0, none⟩) L → Calls Tryz.prog 10 #[.slice (some ⟨g, 0, none⟩) L.length c] W fun e w' => e = .returned (.int .i64 (bitsL L)) ∧ Below W.heap.size W w') := fun W h => sBits W _ L c h
  generalize frontQ L = q at *
  generalize frontR L = r at *
  generalize bitsL L = bz at *
  have HI1 : Hid (∀ W : World, Qus W aq q → Nodes W ar r → Calls Tryz.prog 7 #[.slice aq q.length cq, .slice ar r.length cr] W fun e w' => e = .returned (.tuple #[tv (toN q r) (toS q r), .bool (toB q r)]) ∧ Below W.heap.size W w') := fun W h1 h2 => HIT.out W aq ar q r cq cr h1 HQL.out h2 HCR.out HRL.out
  have HS1 : Hid (∀ W : World, Qus W aq q → Nodes W ar r → Calls Tryz.prog 8 #[.slice aq q.length cq, .slice ar r.length cr] W fun e w' => e = .returned (.tuple #[tv (toN q r) (toS q r), .bool (toB q r)]) ∧ Below W.heap.size W w') := fun W h1 h2 => sTableOf W aq ar q r cq cr h1 h2 HQL.out
  clear HIT
  have HTB : Hid (toB q r = true → toN q r = (bitL q : Int) ∧ toS q r = bs (tab (bitL q) (atL q r)) ∧ bitL q ≤ 12) := fun h => by
    obtain ⟨e1, e2⟩ := to_yes h
    refine ⟨e1, e2, ?_⟩
    unfold toB at h
    obtain ⟨n, hn1, hn2⟩ := few_of (Bool.and_eq_true_iff.1 h).1
    rw [bit_all hn1]
    exact hn2
  have HFI : Hid (∀ l e, Bi q q.length l e → toB q r = true → valueL r e = some (atB (bitL q) (atL q r) l)) := fun l e h1 h2 => h1.end_ h2
  have HTQ : Hid (toB q r = true → Ap q ∧ ∀ i, i < q.length → 0 ≤ (qth q i).vr ∧ (qth q i).vr ≤ 7 ∧ 1 ≤ (qth q i).bits ∧ (qth q i).bits ≤ 8) := fun h => by
    unfold toB at h
    obtain ⟨ws, hF⟩ := fo_all (Bool.and_eq_true_iff.1 h).2
    exact ⟨hF.ap, fun i hi => ⟨(hF.q hi).1, (hF.q hi).2.1, (hF.q hi).2.2.1, (hF.q hi).2.2.2.1⟩⟩
  generalize hbo : toB q r = bo at *
  generalize toN q r = N at *
  generalize toS q r = S at *
  have HBO : Hid (toB q r = bo) := hbo
  clear hbo
  go_wp2_with fail
  refine (HI1.out _ HQ2.out HR2.out).mono ?_
  rintro e w3 ⟨rfl, hb⟩
  obtain ⟨W3, hW3⟩ : ∃ W3, W3 = w3.alloc (.cells #[.int .i64 N, .string S] 30) := ⟨_, rfl⟩
  have HE3 : Hid (w3.alloc (.cells #[.int .i64 N, .string S] 30) = W3) := hW3.symm
  have HT3 : Hid (Lay W3 w3.heap.size (.int .i64 N) (.string S)) := by rw [hW3]; exact Lay.made _ _ _ _
  have hb3 : Below w2.heap.size w2 W3 := by rw [hW3]; exact hb.alloc hb.size _
  have HN3 : Hid (Nodes W3 (some ⟨g, 0, none⟩) L) := HN2.out.below hb3
  have HR3 : Hid (Nodes W3 ar r) := HR2.out.below hb3
  have HQ3 : Hid (Qus W3 aq q) := HQ2.out.below hb3
  have HB3 : Hid (Below w.heap.size w W3) := HB2.out.trans (hb3.mono HB2.out.size)
  clear hb hb3 hW3 HN2 HQ2 HR2 HB2 HI1
  go_upto_region 6 with fail
  rw [HE3.out]
  generalize hq3e : w3.heap.size = q3 at HT3 ⊢
  clear HE3 hq3e
  go_wp2_with fail
  refine (HS1.out _ HQ3.out HR3.out).mono ?_
  rintro e w4 ⟨rfl, hb⟩
  obtain ⟨W4, hW4⟩ : ∃ W4, W4 = w4.alloc (.cells #[.int .i64 N, .string S] 30) := ⟨_, rfl⟩
  have HE4 : Hid (w4.alloc (.cells #[.int .i64 N, .string S] 30) = W4) := hW4.symm
  have hb4 : Below W3.heap.size W3 W4 := by rw [hW4]; exact hb.alloc hb.size _
  have HT4 : Hid (Lay W4 q3 (.int .i64 N) (.string S)) := HT3.out.below hb4
  have HN4 : Hid (Nodes W4 (some ⟨g, 0, none⟩) L) := HN3.out.below hb4
  have HR4 : Hid (Nodes W4 ar r) := HR3.out.below hb4
  have HQ4 : Hid (Qus W4 aq q) := HQ3.out.below hb4
  have HB4 : Hid (Below w.heap.size w W4) := HB3.out.trans (hb4.mono HB3.out.size)
  clear hb hb4 hW4 HN3 HQ3 HR3 HB3 HS1 HT3
  go_upto_region 7 with fail
  rw [HE4.out]
  clear HE4
  cases bo
  · go_wp2
    go_ret
    exact ⟨rfl, HB4.out⟩
  obtain ⟨hN, hS, hn12⟩ := HTB.out rfl
  subst hN hS
  have HFE : Hid (∀ l e, Bi q q.length l e → valueL r e = some (atB (bitL q) (atL q r) l)) := fun l e h1 => HFI.out l e h1 rfl
  have HQT : Hid (Ap q ∧ ∀ i, i < q.length → 0 ≤ (qth q i).vr ∧ (qth q i).vr ≤ 7 ∧ 1 ≤ (qth q i).bits ∧ (qth q i).bits ≤ 8) := HTQ.out rfl
  clear HTQ
  have HOK : Hid (∀ W : World, Calls Tryz.prog 9 #[tv (bitL q : Int) (bs (tab (bitL q) (atL q r)))] W fun e w' => e = .returned (.bool true) ∧ Below W.heap.size W w') := fun W => iOk1 _ _ W hn12
  have hbz : bz = (bitL q : Int) := HBI.out rfl
  subst hbz
  clear HTB HFI HBI
  obtain ⟨x0, x1, _, _⟩ := HT4.out
  have hnn : ((bitL q : Int) != (bitL q : Int)) = false := by simp
  go_wp2_with fail
  have DX : Lay W4.drew q3 (.int .i64 (bitL q : Int)) (.string (bs (tab (bitL q) (atL q r)))) := HT4.out.kept (S := fun _ => False) (Kept.refl _ _).drew (fun h => h)
  have HBD : Hid (Below W4.heap.size W4 W4.drew) := (Below.refl _ _).drew
  go_region_held3 (fun w' => w'.cell? ⟨q3, 0, none⟩ = some (.int .i64 (bitL q : Int)) ∧ w'.cell? ⟨q3, 1, none⟩ = some (.string (bs (tab (bitL q) (atL q r))))) ((first | exact ⟨EX.c0, EX.c1⟩ | exact ⟨DX.c0, DX.c1⟩)) ((first | (go_at_call 9; refine (HOK.out _).mono ?_; rintro e w5 ⟨rfl, hb⟩; have EX := DX.below hb; have HB5 : Hid (Below W4.heap.size W4 w5) := HBD.out.trans (hb.mono HBD.out.size); clear hb) | (go_at_call 10; refine (HBC.out _ (HN4.out.below HB5.out)).mono ?_; rintro e w6 ⟨rfl, hb⟩; have EX := EX.below hb; have HB6 : Hid (Below W4.heap.size W4 w6) := HB5.out.trans (hb.mono HB5.out.size); clear hb)))
  all_goals
    have HTV : Hid (Lay w6 q3 (.int .i64 (bitL q : Int)) (.string (bs (tab (bitL q) (atL q r))))) := EX
    have HQV : Hid (Qus w6 aq q) := HQ4.out.below HB6.out
    have HRV : Hid (Nodes w6 ar r) := HR4.out.below HB6.out
    have HBV : Hid (Below w.heap.size w w6) := HB4.out.trans (HB6.out.mono HB4.out.size)
    have HYV : Hid (Bytes w6 a len) := HB.out.below HBV.out
    clear DX EX HBD HB5 HB6 HB4 HN4 HR4 HQ4 HT4 x0 x1 HOK HBC
    go_wp2_with fail
    go_loopw [11] (fun i wr => ∃ j : Nat, j ≤ 6 ∧ i = .int .i64 j ∧ Below w6.heap.size w6 wr) (fun i _ => 6 - (intOf i).toNat)
    case atStart => exact ⟨0, by omega, rfl, Below.refl _ _⟩
    case round =>
      obtain ⟨k, hk, rfl, hbr⟩ := hrel
      have HBR : Hid (Below w6.heap.size w6 wr) := hbr
      clear hbr
      by_cases hk6 : k < 6
      · have hkz : (k : Int) < 6 := by omega
        obtain ⟨R1, hR1⟩ : ∃ R1, R1 = wr.alloc (.cells #[] 3) := ⟨_, rfl⟩
        have HER : Hid (wr.alloc (.cells #[] 3) = R1) := hR1.symm
        have HW1 : Hid (Ows R1 wr.heap.size (.slice (some ⟨wr.heap.size, 0, none⟩) 0 0) []) := by rw [hR1]; exact Ows.lit wr _ (Nat.le_refl _)
        have HBR1 : Hid (Below w6.heap.size w6 R1) := by rw [hR1]; exact HBR.out.alloc HBR.out.size _
        have HUS : Hid (w6.heap.size ≤ wr.heap.size ∧ wr.heap.size < R1.heap.size) := ⟨HBR.out.size, by rw [hR1]; simp⟩
        clear hR1 HBR
        go_upto_region 15 with fail
        rw [HER.out]
        generalize hU : wr.heap.size = U at HW1 HUS ⊢
        clear HER hU
        have HW2 : Hid (Ows (R1.alloc (.cells #[] 3)) R1.heap.size (.slice (some ⟨R1.heap.size, 0, none⟩) 0 0) []) := Ows.lit R1 _ (Nat.le_refl _)
        go_wp2_with fail
        go_loopw [13, 14] (fun ve i wv => ∃ v : Nat, v ≤ 8 ∧ i = .int .i64 v ∧ Ows wv R1.heap.size ve (List.replicate v 0) ∧ Below R1.heap.size R1 wv) (fun _ i _ => 8 - (intOf i).toNat)
        case atStart => exact ⟨0, by omega, rfl, HW2.out, (Below.refl _ _).alloc (Nat.le_refl _) _⟩
        case round =>
          obtain ⟨v, hv, rfl, ho, hbv⟩ := hrel
          have HO : Hid (Ows wr R1.heap.size u13 (List.replicate v 0)) := ho
          have HBW : Hid (Below R1.heap.size R1 wr) := hbv
          have hBs : R1.heap.size ≤ wr.heap.size := hbv.size
          clear ho hbv HW2
          by_cases hv8 : v < 8
          · have hvz : (v : Int) < 8 := by omega
            go_wp2_with (at_builtin; go_must (refine Ap0.app_int _ rfl _ _ rfl R1.heap.size u13 (List.replicate v 0) 0 rfl rfl HO.out hBs (by simp; omega) ?_; intro g' cp w9 ho9 hk9 hg9))
            have HO9 : Hid _ := ho9
            have HB9 : Hid (Below R1.heap.size R1 w9) := HBW.out.trans (hk9.below (fun b hb => (HO.out.lt b hb).1) hBs)
            clear ho9 hk9 hg9
            go_wp2
            go_roundw
            case rel => exact ⟨v + 1, by omega, by go_num, by rw [List.replicate_succ']; have h := HO9.out; rw [List.length_replicate] at h; exact h, HB9.out⟩
            case measure => simp [intOf]; omega
          · have hvz : ¬ (v : Int) < 8 := by omega
            have hv8' : v = 8 := by omega
            subst hv8'
            obtain ⟨wA, rfl⟩ : ∃ wA : World, wA = wr := ⟨_, rfl⟩
            obtain ⟨ge, ce, hu, hg1, hg2⟩ := ows_at HO.out (by simp)
            rw [List.length_replicate] at hu
            subst hu
            have HE : Hid (Ows wA R1.heap.size (.slice (some ⟨ge, 0, none⟩) 8 ce) (List.replicate 8 0)) := HO.out
            have HGE : Hid (R1.heap.size ≤ ge) := hg1
            have HWB : Hid (Ows wA U (.slice (some ⟨U, 0, none⟩) 0 0) []) := HW1.out.kept (S := fun _ => False) (Kept.ofBelow HBW.out) (fun _ _ h => h)
            have HBA : Hid (Below w6.heap.size w6 wA) := HBR1.out.trans (HBW.out.mono HBR1.out.size)
            clear HO hBs hvz hv hv8 hg1 hg2 HW1 HBW HBR1
            go_wp2_with fail
            go_loopw [12, 15] (fun vb i wv => ∃ (m : Nat) (l e : List Int), m ≤ q.length ∧ i = .int .i64 m ∧ Bi q m l e ∧ Ows wv U vb l ∧ vb.ownBlock ≠ some ge ∧ Ows wv R1.heap.size (.slice (some ⟨ge, 0, none⟩) 8 ce) e ∧ Below w6.heap.size w6 wv) (fun _ i _ => q.length - (intOf i).toNat)
            case atStart => exact ⟨0, [], List.replicate 8 0, Nat.zero_le _, rfl, Bi.zero q, HWB.out, fun h => absurd (Option.some.inj h : U = ge) (by have := HGE.out; have := HUS.out; omega), HE.out, HBA.out⟩
            case round =>
              clear HWB HE HBA
              obtain ⟨m, l, ev, hm, rfl, hbi, ho, hne, hoe, hbv⟩ := hrel
              obtain ⟨wB, rfl⟩ : ∃ wB : World, wB = wr := ⟨_, rfl⟩
              have HBI : Hid (Bi q m l ev) := hbi
              have hql : q.length ≤ 1048576 := HQL.out
              have HO : Hid (Ows wB U u12 l) := ho
              have HNE : Hid (u12.ownBlock ≠ some ge) := hne
              have HOE : Hid (Ows wB R1.heap.size (.slice (some ⟨ge, 0, none⟩) 8 ce) ev) := hoe
              have HBW : Hid (Below w6.heap.size w6 wB) := hbv
              have hll : l.length + bitL (q.drop m) = bitL q := hbi.len
              clear hbi ho hne hoe hbv
              by_cases hmq : m < q.length
              · have hmz : (m : Int) < (q.length : Int) := by omega
                obtain ⟨hvr0, hvr7, hbt1, hbt8⟩ := HQT.out.2 m hmq
                obtain ⟨j, hj⟩ : ∃ j : Nat, (qth q m).vr = (j : Int) := ⟨(qth q m).vr.toNat, by omega⟩
                obtain ⟨n, hn⟩ : ∃ n : Nat, (qth q m).bits = (n : Int) := ⟨(qth q m).bits.toNat, by omega⟩
                have hj8 : j < 8 := by omega
                have hn8 : n ≤ 8 := by omega
                have hln : l.length + n ≤ bitL q := by have := bit_drop hmq; omega
                have HNX : Hid (∀ s, Bts s → s.length = n → Bi q (m + 1) (l ++ s) (ev.set j ((num s : Nat) : Int))) := fun s h1 h2 => by
                  have h := HBI.out.next HQT.out.1 hmq (by omega) h1 (by omega)
                  rw [hj, Int.toNat_natCast] at h
                  exact h
                have HEW : Hid (ev.length = 8) := HBI.out.wid
                have HQC : Hid (∀ W, Below w6.heap.size w6 W → ∃ b0 o0, aq = some ⟨b0, o0, none⟩ ∧ W.cell? ⟨b0, o0 + m * 3 + 1, none⟩ = some (.int .i64 (j : Int)) ∧ W.cell? ⟨b0, o0 + m * 3 + 2, none⟩ = some (.int .i64 (n : Int))) := fun W hW => by
                  obtain ⟨b0, o0, he0, hc0⟩ := quAt (HQV.out.below hW) hmq
                  obtain ⟨-, p1, p2⟩ := hc0 m hmq
                  rw [hj] at p1
                  rw [hn] at p2
                  exact ⟨b0, o0, he0, p1, p2⟩
                clear hvr0 hvr7 hbt1 hbt8 hj hn HBI hll
                go_wp2_with fail
                go_loopw [12, 16, 17] (fun vb x b wv => ∃ (d : Nat) (s T : List Int), d ≤ n ∧ s.length = d ∧ Bts s ∧ T = l ++ s ∧ x = .int .i64 ((num s : Nat) : Int) ∧ b = .int .i64 d ∧ Ows wv U vb T ∧ vb.ownBlock ≠ some ge ∧ Ows wv R1.heap.size (.slice (some ⟨ge, 0, none⟩) 8 ce) ev ∧ Below w6.heap.size w6 wv) (fun _ _ b _ => n - (intOf b).toNat)
                case atStart => exact ⟨0, [], l, Nat.zero_le _, rfl, Bts.nil, by simp, rfl, rfl, HO.out, HNE.out, HOE.out, HBW.out⟩
                case round =>
                  clear HO HNE HOE HBW
                  obtain ⟨d, s, T, hd, hsl2, hbs, hT, rfl, rfl, ho, hne, hoe, hbv⟩ := hrel
                  obtain ⟨wC, rfl⟩ : ∃ wC : World, wC = wr := ⟨_, rfl⟩
                  have HS : Hid (s.length = d ∧ Bts s ∧ T = l ++ s) := ⟨hsl2, hbs, hT⟩
                  have HO : Hid (Ows wC U u12 T) := ho
                  have HNE : Hid (u12.ownBlock ≠ some ge) := hne
                  have HOE : Hid (Ows wC R1.heap.size (.slice (some ⟨ge, 0, none⟩) 8 ce) ev) := hoe
                  have HBW : Hid (Below w6.heap.size w6 wC) := hbv
                  have hTl : T.length = l.length + d := by rw [hT, List.length_append, hsl2]
                  have hT12 : T.length ≤ 12 := by omega
                  have hUs : U ≤ wC.heap.size := by have := (hoe.lt ge rfl).2; have := HGE.out; have := HUS.out; omega
                  have hz1 : num s ≤ 255 := by
                    have h1 := num_lt hbs
                    have h2 : 2 ^ s.length ≤ 2 ^ 8 := Nat.pow_le_pow_right (by omega) (by omega)
                    omega
                  obtain ⟨av, cv, rfl, -⟩ := ho.form
                  obtain ⟨b0, o0, hq0, p1, p2⟩ := HQC.out wC hbv
                  subst hq0
                  have HZ : Hid (∀ y : Int, y = 0 ∨ y = 1 → ((num (s ++ [y]) : Nat) : Int) = 2 * ((num s : Nat) : Int) + y) := fun y h => num_bit s h
                  have HNS : Hid (d = n → Bi q (m + 1) T (ev.set j ((num s : Nat) : Int))) := fun h => by
                    have := HNX.out s hbs (by omega)
                    rw [← hT] at this
                    exact this
                  obtain ⟨z, hz⟩ : ∃ z : Int, z = ((num s : Nat) : Int) := ⟨_, rfl⟩
                  have hz0 : 0 ≤ z := by omega
                  have hz2 : z ≤ 255 := by omega
                  rw [← hz] at HNS ⊢
                  have HZ2 : Hid (∀ y : Int, y = 0 ∨ y = 1 → ((num (s ++ [y]) : Nat) : Int) = 2 * z + y) := fun y h => by rw [HZ.out y h, hz]
                  clear ho hne hoe hbv hT hbs hsl2 HZ hz hz1 hTl
                  by_cases hdn : d < n
                  · have hdz : (d : Int) < (n : Int) := by omega
                    go_wp2_with fail
                    refine (lat _ a len cap ((k : Int) * 20 + (T.length : Int)) (by omega) (by omega) (HYV.out.below HBW.out) hsl).mono ?_
                    rintro er w' ⟨⟨xx, rfl, hx0, hx1⟩, hq⟩
                    have hq' := hq.symm
                    clear hq
                    subst hq'
                    obtain ⟨y, hy⟩ : ∃ y : Int, y = xx % 2 := ⟨_, rfl⟩
                    have hy0 : 0 ≤ y := by omega
                    have hy1 : y ≤ 1 := by omega
                    have HY01 : Hid (y = 0 ∨ y = 1) := by show _ ∨ _; omega
                    go_upto_region 28 with fail
                    rw [← hy]
                    clear hy hx0 hx1 p1 p2
                    go_wp2_with (at_builtin; go_must (refine Ap0.app_int _ rfl _ _ rfl U (.slice av T.length cv) T y rfl rfl HO.out hUs (by omega) ?_; intro g' cp w9 ho9 hk9 hg9))
                    have HO9 : Hid (Ows w9 U (.slice (some ⟨g', 0, none⟩) (T.length + 1) cp) (T ++ [y])) := ho9
                    have HNE9 : Hid ((Value.slice (some ⟨g', 0, none⟩) (T.length + 1) cp).ownBlock ≠ some ge) := fun h => by
                      have e1 : g' = ge := Option.some.inj h
                      subst e1
                      rcases hg9 with h1 | h1
                      · exact HNE.out h1
                      · have h2 : g' < wC.heap.size := (HOE.out.lt g' rfl).2
                        omega
                    have HOE9 : Hid (Ows w9 R1.heap.size (.slice (some ⟨ge, 0, none⟩) 8 ce) ev) := HOE.out.kept hk9 (fun b h1 h2 => HNE.out (by cases h1; exact h2))
                    have HB9 : Hid (Below w6.heap.size w6 w9) := HBW.out.trans (hk9.below (fun b hb => by have := (HO.out.lt b hb).1; have := HUS.out; omega) HBW.out.size)
                    clear ho9 hk9 hg9 HO HNE HOE HBW
                    go_wp2
                    go_roundw
                    case rel =>
                      repeat apply Exists.intro
                      refine ⟨?_, rfl⟩
                      refine ⟨d + 1, s ++ [y], T ++ [y], by omega, by rw [List.length_append, HS.out.1]; rfl, HS.out.2.1.app (Bts.one HY01.out), by rw [HS.out.2.2, List.append_assoc], ?_, by go_num, HO9.out, HNE9.out, HOE9.out, HB9.out⟩
                      rw [HZ2.out y HY01.out]
                    case measure => simp [intOf]; omega
                  · have hdz : ¬ (d : Int) < (n : Int) := by omega
                    have HNB : Hid (Bi q (m + 1) T (ev.set j z)) := HNS.out (by omega)
                    have hjz : (j : Int) < 8 := by omega
                    obtain ⟨c0, c1⟩ := ows_cell HOE.out HEW.out j hj8
                    clear HS HZ2 HNS
                    go_wp2_with fail
                    go_roundw
                    case rel =>
                      have hk1 : Kept (fun b => b = ge) wC (wC.setCell ⟨ge, j, none⟩ (.int .i64 z)) := (Kept.refl (fun b => b = ge) wC).setCell (p := ⟨ge, j, none⟩) rfl (.int .i64 z)
                      exact ⟨m + 1, T, ev.set j z, by omega, by go_num, HNB.out, HO.out.kept hk1 (fun b h1 h2 => HNE.out (by rw [h1, h2])), HNE.out, ows_set' HOE.out HEW.out j z, HBW.out.trans (hk1.below (fun b (hb : b = ge) => by have := HGE.out; have := HUS.out; omega) HBW.out.size)⟩
                    case measure => simp [intOf]; omega
              · have hmz : ¬ (m : Int) < (q.length : Int) := by omega
                have hme : m = q.length := by omega
                subst hme
                have HV : Hid (valueL r ev = some (atB (bitL q) (atL q r) l)) := HFE.out l ev HBI.out
                have HIE : Hid (Ints wB (some ⟨ge, 0, none⟩) ev) := by
                  obtain ⟨av, cv, hv, hw⟩ := HOE.out.form
                  simp only [Value.slice.injEq] at hv
                  rw [hv.1]
                  exact hw.ints
                obtain ⟨ab, cb, rfl, hwb⟩ := HO.out.form
                have HIB : Hid (Ints wB ab l) := hwb.ints
                have HEW : Hid (ev.length = 8) := HBI.out.wid
                have HVA : Hid (∀ W : World, Nodes W ar r → Ints W (some ⟨ge, 0, none⟩) ev → Calls Tryz.prog 12 #[.slice ar r.length cr, .slice (some ⟨ge, 0, none⟩) 8 ce] W fun x w' => x = .returned (.tuple #[.int .i64 (atB (bitL q) (atL q r) l), .bool true]) ∧ Below W.heap.size W w') := fun W h1 h2 => by
                  have h := sValue W ar (some ⟨ge, 0, none⟩) r ev cr ce h1 h2
                  rw [HEW.out, HV.out] at h
                  exact h
                have HTA : Hid (∀ W : World, Ints W ab l → Calls Tryz.prog 13 #[tv (bitL q : Int) (bs (tab (bitL q) (atL q r))), .slice ab l.length cb] W fun e w' => e = .returned (.int .i64 (atB (bitL q) (atL q r) l)) ∧ Below W.heap.size W w') := fun W h => iTableAt _ _ ab l cb W hn12 h
                have hvv : (atB (bitL q) (atL q r) l != atB (bitL q) (atL q r) l) = false := by simp
                generalize atB (bitL q) (atL q r) l = V at HVA HTA hvv
                clear hwb HV HO HNE HOE HBI
                go_wp2_with fail
                refine (HVA.out _ (HRV.out.below HBW.out) HIE.out).mono ?_
                rintro er w8 ⟨rfl, hb⟩
                have HB8 : Hid (Below w6.heap.size w6 w8) := HBW.out.trans (hb.mono HBW.out.size)
                have HIB8 : Hid (Ints w8 ab l) := HIB.out.below hb
                clear hb HIE HIB HBW HVA
                obtain ⟨x0, x1, -, -⟩ := HTV.out.below HB8.out
                go_wp2_with fail
                refine (HTA.out _ HIB8.out).mono ?_
                rintro er w9 ⟨rfl, hb⟩
                have HB9 : Hid (Below w6.heap.size w6 w9) := HB8.out.trans (hb.mono HB8.out.size)
                clear hb x0 x1 HTA HIB8 HB8
                go_wp2_with fail
                go_roundw
                case rel => exact ⟨k + 1, by omega, by go_num, HB9.out⟩
                case measure => simp [intOf]; omega
      · have hkz : ¬ (k : Int) < 6 := by omega
        have HTE : Hid (Lay wr q3 (.int .i64 (bitL q : Int)) (.string (bs (tab (bitL q) (atL q r))))) := HTV.out.below HBR.out
        have HBE : Hid (Below w.heap.size w wr) := HBV.out.trans (HBR.out.mono HBV.out.size)
        have HTA : Hid (∀ W : World, Calls Tryz.prog 13 #[tv (bitL q : Int) (bs (tab (bitL q) (atL q r))), .slice none 0 0] W fun e w' => e = .returned (.int .i64 (atB (bitL q) (atL q r) [])) ∧ Below W.heap.size W w') := fun W => iTableAt _ _ none [] 0 W hn12 ⟨Nat.zero_le _, .inl rfl⟩
        have HSA : Hid (∀ W : World, Calls Tryz.prog 14 #[tv (bitL q : Int) (bs (tab (bitL q) (atL q r))), .slice none 0 0] W fun e w' => e = .returned (.int .i64 (atB (bitL q) (atL q r) [])) ∧ Below W.heap.size W w') := fun W => sTableAt _ _ none [] 0 W hn12 ⟨Nat.zero_le _, .inl rfl⟩
        have hvv : (atB (bitL q) (atL q r) [] == atB (bitL q) (atL q r) []) = true := by simp
        generalize atB (bitL q) (atL q r) [] = V at HTA HSA hvv
        generalize bs (tab (bitL q) (atL q r)) = S at *
        obtain ⟨x0, x1, -, -⟩ := HTE.out
        clear HTV HQV HRV HYV HBV HFE HQT HBR
        go_wp2_with fail
        have DX : Lay wr.drew q3 (.int .i64 (bitL q : Int)) (.string S) := HTE.out.kept (S := fun _ => False) (Kept.refl _ _).drew (fun h => h)
        have HBD : Hid (Below w.heap.size w wr.drew) := HBE.out.drew
        go_region_held3 (fun w' => w'.cell? ⟨q3, 0, none⟩ = some (.int .i64 (bitL q : Int)) ∧ w'.cell? ⟨q3, 1, none⟩ = some (.string S)) ((first | exact ⟨EX.c0, EX.c1⟩ | exact ⟨DX.c0, DX.c1⟩)) ((first | (go_at_call 13; refine (HTA.out _).mono ?_; rintro e w7 ⟨rfl, hb⟩; have EX : Lay w7 q3 (.int .i64 (bitL q : Int)) (.string S) := (by first | exact EX.below hb | exact DX.below hb); have HBD : Hid (Below w.heap.size w w7) := HBD.out.trans (hb.mono HBD.out.size); clear hb) | (go_at_call 14; refine (HSA.out _).mono ?_; rintro e w7 ⟨rfl, hb⟩; have EX : Lay w7 q3 (.int .i64 (bitL q : Int)) (.string S) := (by first | exact EX.below hb | exact DX.below hb); have HBD : Hid (Below w.heap.size w w7) := HBD.out.trans (hb.mono HBD.out.size); clear hb)))
        all_goals
          have HBZ : Hid _ := HBD.out
          clear DX EX HTE HBE x0 x1
          go_wp2
          go_ret
          exact ⟨rfl, HBZ.out⟩

end Go.Proofs.YtbnjndloeflgiaaGreat.Lta1
