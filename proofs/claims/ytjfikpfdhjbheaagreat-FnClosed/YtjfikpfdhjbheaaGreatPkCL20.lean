/- Small texts of mine, one behind the other. -/
import Derived.WalkSpells
import Derived.Deep.Light
import Derived.Test.YtjfikpfdhjbheaaGreatPkCL5
import Derived.Test.YtjfikpfdhjbheaaGreatPkCL7
import Derived.Test.YtjfikpfdhjbheaaGreatPkCL17
import Derived.Test.YtjfikpfdhjbheaaGreatPkCL11
import Derived.Test.YtjfikpfdhjbheaaGreatPkCL0
import Derived.Test.YtjfikpfdhjbheaaGreatPkCL3
/- The walk of the model's width of a variable that stands free. -/
namespace Go.Proofs.YtjfikpfdhjbheaaGreat.Am7
open Go.RowKit
open Nd0 Nd1 Tm0 Tm1 Tm5 Ap1 Sp2 Aq2
set_option linter.unusedVariables false

set_option maxHeartbeats 4000000 in
theorem sWidth (w : World) (a : Option Addr) (l : List Nd) (c v : Nat) (hN : Nodes w a l) (hT : termOk l = true) :
    Calls Tryz.prog 43 #[.slice a l.length c, .int .i64 (v : Int)] w fun e w' => e = .returned (.int .i64 (widL l v)) ∧ Below w.heap.size w w' := by
  have HN : Hid (Nodes w a l) := hN
  have HT : Hid (termOk l = true) := hT
  obtain ⟨hl1, hl2⟩ := term_len hT
  clear hN hT
  go_enter Tryz.func43, Tryz.ntmps43
  go_wp2
  go_loopw [5, 6] (fun vv q wr => ∃ k : Nat, k ≤ l.length ∧ q = .int .i64 k ∧ Below w.heap.size w wr ∧ Owb wr w.heap.size vv ((reachInit l.length).take k)) (fun _ q _ => l.length - (intOf q).toNat)
  case atStart => exact ⟨0, Nat.zero_le _, rfl, (Below.refl _ _).alloc (Nat.le_refl _) _, Owb.lit w _ (Nat.le_refl _)⟩
  case round =>
    obtain ⟨k, hk, rfl, hb, hown⟩ := hrel
    have HB : Hid (Below w.heap.size w wr) := hb
    have HO : Hid (Owb wr w.heap.size u5 ((reachInit l.length).take k)) := hown
    have hBs : w.heap.size ≤ wr.heap.size := hb.size
    clear hb
    by_cases hlt : k < l.length
    · clear hown
      have hlen : ((reachInit l.length).take k).length = k := by rw [List.length_take, reachInit_length]; omega
      have HT2 : Hid ((reachInit l.length).take (k + 1) = (reachInit l.length).take k ++ [((k : Int) == (l.length : Int) - 1)]) := by
        show (reachInit l.length).take (k + 1) = _
        rw [List.take_succ_eq_append_getElem (by rw [reachInit_length]; exact hlt)]
        congr 2
        simp only [reachInit, List.getElem_map, List.getElem_range]
        rw [Bool.eq_iff_iff]
        simp
        omega
      have hlz : (k : Int) < (l.length : Int) := by omega
      go_wp2_with (at_builtin; go_must (refine app_bool _ rfl _ _ rfl w.heap.size u5 ((reachInit l.length).take k) ((k : Int) == (l.length : Int) - 1) rfl rfl HO.out hBs (by omega) ?_; intro g cp w3 ho3 hk3 hg3))
      have HO3 : Hid (Owb w3 w.heap.size (.slice (some ⟨g, 0, none⟩) (((reachInit l.length).take k).length + 1) cp) ((reachInit l.length).take k ++ [((k : Int) == (l.length : Int) - 1)])) := ho3
      have HK3 : Hid (Kept (fun k => u5.ownBlock = some k) wr w3) := hk3
      clear ho3 hk3 hg3
      go_wp2
      go_roundw
      case rel =>
        refine ⟨k + 1, by omega, by go_num, HB.out.trans (HK3.out.below (fun k hk => (HO.out.lt k hk).1) hBs), ?_⟩
        rw [HT2.out]
        have h9 := HO3.out
        rw [hlen] at h9
        exact h9
      case measure => simp [intOf]; omega
    · have e2 : k = l.length := by omega
      subst e2
      have hown2 : Owb wr w.heap.size u5 (reachInit l.length) := by
        have h9 := hown
        rw [List.take_of_length_le (by rw [reachInit_length]; exact Nat.le_refl _)] at h9
        exact h9
      obtain ⟨g, cp, hv, hg1, hg2⟩ := hown2.at (by rw [reachInit_length]; exact hl1)
      rw [reachInit_length] at hv
      subst hv
      clear hown HO
      have HO : Hid (Owb wr w.heap.size (.slice (some ⟨g, 0, none⟩) l.length cp) (reachInit l.length)) := hown2
      clear hown2
      have HBO : Hid (Below w.heap.size w wr) := HB.out
      obtain ⟨wa, rfl⟩ : ∃ wa : World, wa = wr := ⟨_, rfl⟩
      go_wp2
      go_loopw [7] (fun q wr => ∃ j : Nat, j ≤ l.length ∧ q = .int .i64 ((j : Int) - 1) ∧ ∃ bs : List Bool, Owb wr w.heap.size (.slice (some ⟨g, 0, none⟩) l.length cp) bs ∧ bs.length = l.length ∧ vDown l v j bs = vL l v ∧ Below w.heap.size w wr ∧ g < wr.heap.size) (fun q _ => (intOf q + 1).toNat)
      case atStart => exact ⟨l.length, Nat.le_refl _, rfl, _, HO.out, reachInit_length _, rfl, HBO.out, hg2⟩
      case round =>
        obtain ⟨j, hj, rfl, bs, ho, hbl, hrd, hbb, hgs⟩ := hrel
        cases j with
        | zero =>
          have hneg : ¬ (0 : Int) ≤ ((0 : Nat) : Int) - 1 := by omega
          have HOV : Hid (Owb wr w.heap.size (.slice (some ⟨g, 0, none⟩) l.length cp) (vL l v)) := by rw [← hrd]; exact ho
          have HBV : Hid (Below w.heap.size w wr) := hbb
          have HVL : Hid ((vL l v).length = l.length) := by
            show _ = _
            unfold vL
            rw [vDown_length, reachInit_length]
          clear ho hbb hrd hbl hgs
          obtain ⟨wz, rfl⟩ : ∃ wz : World, wz = wr := ⟨_, rfl⟩
          go_wp2_with fail
          go_loopw [10] (fun q wr => ∃ j : Nat, j ≤ l.length ∧ q = .int .i64 j ∧ Owb wr w.heap.size (.slice (some ⟨g, 0, none⟩) l.length cp) (vL l v) ∧ Below w.heap.size w wr ∧ vWid l v (l.length - j) = widL l v) (fun q _ => l.length - (intOf q).toNat)
          case atStart => exact ⟨0, Nat.zero_le _, rfl, HOV.out, HBV.out, rfl⟩
          case round =>
            clear HOV HBV
            obtain ⟨j, hj, rfl, ho, hb, hv⟩ := hrel
            have HO : Hid (Owb wr w.heap.size (.slice (some ⟨g, 0, none⟩) l.length cp) (vL l v)) := ho
            have HB : Hid (Below w.heap.size w wr) := hb
            by_cases hlt : j < l.length
            · have hlz : (j : Int) < (l.length : Int) := by omega
              have HS : Hid ((if flag (vL l v) j && Aq2.isVar (nth l j) v then (nth l j).w else vWid l v (l.length - (j + 1))) = widL l v) := by
                show _ = _
                rw [← hv, show l.length - j = (l.length - (j + 1)) + 1 by omega]
                show _ = (if flag (vL l v) (l.length - (l.length - (j + 1) + 1)) && Aq2.isVar (nth l (l.length - (l.length - (j + 1) + 1))) v then (nth l (l.length - (l.length - (j + 1) + 1))).w else vWid l v (l.length - (j + 1)))
                rw [show l.length - (l.length - (j + 1) + 1) = j by omega]
              have c0 : wr.cell? ⟨g, j, none⟩ = some (.bool (flag (vL l v) j)) := by
                have h9 := (ho.cell' HVL.out j hlt).1
                rw [flag_get] at h9
                exact h9
              rcases (HN.out.below hb).2 with h0 | ⟨xb, xo, rfl, hc⟩
              · omega
              obtain ⟨p0, p1, p2, p3, p4, p5⟩ := hc j hlt
              rw [nth_get hlt] at p0 p1 p2 p3 p4 p5
              clear hc ho hb hv
              generalize nth l j = n at p0 p1 p2 p3 p4 p5 HS
              have HIV : Hid (Aq2.isVar n v = (n.op == 1 && n.k == (v : Int))) := rfl
              cases hf : flag (vL l v) j
              · have HS2 : Hid (vWid l v (l.length - (j + 1)) = widL l v) := by have h := HS.out; rw [hf] at h; exact h
                rw [hf] at c0
                clear HS hf
                go_wp2_with fail
                go_roundw
                case rel => exact ⟨j + 1, by omega, by go_num, HO.out, HB.out, HS2.out⟩
                case measure => simp [intOf]; omega
              · rw [hf] at c0
                cases h1 : (n.op == 1)
                · have HS2 : Hid (vWid l v (l.length - (j + 1)) = widL l v) := by have h := HS.out; rw [hf, HIV.out, h1] at h; exact h
                  clear HS hf
                  go_wp2_with fail
                  go_roundw
                  case rel => exact ⟨j + 1, by omega, by go_num, HO.out, HB.out, HS2.out⟩
                  case measure => simp [intOf]; omega
                · cases h2 : (n.k == (v : Int))
                  · have HS2 : Hid (vWid l v (l.length - (j + 1)) = widL l v) := by have h := HS.out; rw [hf, HIV.out, h1, h2] at h; exact h
                    clear HS hf
                    go_wp2_with fail
                    go_roundw
                    case rel => exact ⟨j + 1, by omega, by go_num, HO.out, HB.out, HS2.out⟩
                    case measure => simp [intOf]; omega
                  · have HS2 : Hid (n.w = widL l v) := by have h := HS.out; rw [hf, HIV.out, h1, h2] at h; exact h
                    clear HS hf
                    go_wp2
                    go_ret
                    exact ⟨by rw [← HS2.out]; rfl, HB.out⟩
            · have hlz : ¬ (j : Int) < (l.length : Int) := by omega
              have HS2 : Hid (widL l v = 1) := by
                show _ = _
                rw [← hv, show l.length - j = 0 by omega]; rfl
              clear ho hb hv
              go_wp2
              go_ret
              exact ⟨by rw [HS2.out]; rfl, HB.out⟩
        | succ i =>
          have hp : (0 : Int) ≤ ((i + 1 : Nat) : Int) - 1 := by omega
          have hie : ((i + 1 : Nat) : Int) - 1 = (i : Int) := by omega
          have HRD : Hid (vDown l v (i + 1) bs = vL l v) := hrd
          have HOB : Hid (Owb wr w.heap.size (.slice (some ⟨g, 0, none⟩) l.length cp) bs) := ho
          have HBB : Hid (Below w.heap.size w wr) := hbb
          have HBL : Hid (bs.length = l.length) := hbl
          clear hrd ho hbb hbl
          rw [hie]
          clear hie hp
          have hiz : (i : Int) < (l.length : Int) := by omega
          have HNQ0 : Hid (∀ W, Below w.heap.size w W → ∃ xb xo, a = some ⟨xb, xo, none⟩ ∧ W.cell? ⟨xb, xo + i * 6, none⟩ = some (.int .i64 (nth l i).op) ∧ W.cell? ⟨xb, xo + i * 6 + 2, none⟩ = some (.int .i64 (nth l i).k)) := fun W hW => by
            rcases (HN.out.below hW).2 with h0 | ⟨xb, xo, he, hc⟩
            · omega
            · obtain ⟨p0, -, p2, -, -, -⟩ := hc i (by omega)
              rw [nth_get (by omega : i < l.length)] at p0 p2
              exact ⟨xb, xo, he, p0, p2⟩
          rcases (HN.out.below HBB.out).2 with h0 | ⟨xb, xo, rfl, hc⟩
          · omega
          obtain ⟨p0, p1, p2, p3, p4, p5⟩ := hc i (by omega)
          rw [nth_get (by omega : i < l.length)] at p0 p1 p2 p3 p4 p5
          clear hc
          have HPO := parts_ok (term_node HT.out (by omega : i < l.length))
          generalize hn : nth l i = n at p0 p1 p2 p3 p4 p5 HPO HNQ0
          have HNQ : Hid _ := HNQ0.out
          have HD : Hid (nth l i = n) := hn
          have HPO' : Hid (∀ k (hk : k < (parts n).length), 0 ≤ (parts n)[k] ∧ (parts n)[k] < i) := HPO
          clear hn HPO
          obtain ⟨wb, rfl⟩ : ∃ wb : World, wb = wr := ⟨_, rfl⟩
          go_wp2_with fail
          refine (sParts n _).mono ?_
          rintro e w1 ⟨⟨pa, pc, rfl, hpi⟩, hb1⟩
          have HP : Hid (WInts w1 wb.heap.size pa (parts n)) := hpi
          have HB1 : Hid (Below wb.heap.size wb w1) := hb1
          clear hpi hb1 p0 p1 p2 p3 p4 p5
          have hpl := parts_le n
          go_wp2_with fail
          have HOW1 : Hid (Owb w1 w.heap.size (.slice (some ⟨g, 0, none⟩) l.length cp) bs) := HOB.out.kept (S := fun _ => False) (Kept.ofBelow HB1.out) (fun _ _ h => h)
          have HNW : Hid (∀ W, Below w.heap.size w W → W.cell? ⟨xb, xo + i * 6, none⟩ = some (.int .i64 n.op) ∧ W.cell? ⟨xb, xo + i * 6 + 2, none⟩ = some (.int .i64 n.k)) := fun W hW => by
            obtain ⟨xb', xo', he, h0, h2⟩ := HNQ.out W hW
            cases he
            exact ⟨h0, h2⟩
          obtain ⟨act, hact⟩ : ∃ act : Bool, act = (flag bs i && !isQ n v) := ⟨_, rfl⟩
          have HAC : Hid (act = (flag bs i && !isQ n v)) := hact
          have HIQ : Hid (isQ n v = (quant n.op && n.k == (v : Int))) := rfl
          clear hact
          go_loopw [9] (fun q wr => ∃ k : Nat, k ≤ (parts n).length ∧ q = .int .i64 k ∧ ∃ b3 : List Bool, Owb wr w.heap.size (.slice (some ⟨g, 0, none⟩) l.length cp) b3 ∧ b3.length = l.length ∧ flag b3 i = flag bs i ∧ (act = true → markAll b3 ((parts n).drop k) = markAll bs (parts n)) ∧ (act = false → b3 = bs) ∧ Kept (fun x => x = g) w1 wr) (fun q _ => (parts n).length - (intOf q).toNat)
          case atStart => exact ⟨0, Nat.zero_le _, rfl, bs, HOW1.out, HBL.out, rfl, fun _ => rfl, fun _ => rfl, Kept.refl _ _⟩
          case round =>
            obtain ⟨k, hk, rfl, b3, ho3, hl3, hf3, hm3, he3, hk3⟩ := hrel
            obtain ⟨wq, rfl⟩ : ∃ wq : World, wq = wr := ⟨_, rfl⟩
            have HO3 : Hid (Owb wq w.heap.size (.slice (some ⟨g, 0, none⟩) l.length cp) b3) := ho3
            have HL3 : Hid (b3.length = l.length) := hl3
            have HF3 : Hid (flag b3 i = flag bs i) := hf3
            have HM3 : Hid (act = true → markAll b3 ((parts n).drop k) = markAll bs (parts n)) := hm3
            have HE3 : Hid (act = false → b3 = bs) := he3
            have HK3 : Hid (Kept (fun x => x = g) w1 wq) := hk3
            have cI : wq.cell? ⟨g, i, none⟩ = some (.bool (flag bs i)) := by
              have h9 := (ho3.cell' hl3 i (by omega)).1
              rw [flag_get, hf3] at h9
              exact h9
            have HBEL : Hid (Below w.heap.size w wq) := (HBB.out.trans (HB1.out.mono HBB.out.size)).trans (hk3.below (fun k hk => by subst hk; exact hg1) (Nat.le_trans HBB.out.size HB1.out.size))
            have HSZ : Hid (g < wq.heap.size) := by
              have h1 := HB1.out.size
              have h2 := hk3.size
              show g < _
              omega
            obtain ⟨p0, p2⟩ := HNW.out wq HBEL.out
            clear hl3 hf3 hm3 he3 hk3
            have HEND : Hid ((act = true → k = (parts n).length) → vDown l v i b3 = vL l v) := by
              show (act = true → k = (parts n).length) → vDown l v i b3 = vL l v
              intro hend
              rw [← HRD.out]
              show _ = vDown l v i (vStep l v bs i)
              congr 1
              unfold vStep
              rw [HD.out, ← HAC.out]
              cases hfb : act
              · rw [HE3.out hfb]; rfl
              · have h9 := HM3.out hfb
                rw [hend hfb, List.drop_length] at h9
                exact h9
            by_cases hlt : k < (parts n).length
            · have hlz : (k : Int) < ((parts n).length : Int) := by omega
              cases hfb : flag bs i
              · rw [hfb] at cI
                have HA : Hid (act = false) := by have h := HAC.out; rw [hfb] at h; exact h
                clear ho3
                go_wp2_with fail
                go_roundw
                case rel => exact ⟨i, by omega, by go_num, b3, HO3.out, HL3.out, HEND.out (fun h => by rw [HA.out] at h; cases h), HBEL.out, HSZ.out⟩
                case measure => simp [intOf]
              · rw [hfb] at cI
                have HFB : Hid (flag bs i = true) := hfb
                have HPC : Hid (∃ pb po, pa = some ⟨pb, po, none⟩ ∧ wq.cell? ⟨pb, po + k, none⟩ = some (.int .i64 (parts n)[k])) := by
                  rcases (HP.out.kept HK3.out (fun x hx e => by
                      subst hx
                      rcases HP.out.2 with h0 | ⟨pb, po, hpe, hpB, _⟩
                      · omega
                      · cases hpe; simp at e; omega)).2 with h0 | ⟨pb, po, hpe, hpB, hpc⟩
                  · omega
                  exact ⟨pb, po, hpe, (hpc k hlt).1⟩
                obtain ⟨pb, po, hpe, q0⟩ := HPC.out
                subst hpe
                obtain ⟨hx0, hx1⟩ := HPO'.out k hlt
                have HDR : Hid ((parts n).drop k = (parts n)[k] :: (parts n).drop (k + 1)) := List.drop_eq_getElem_cons hlt
                generalize (parts n)[k] = x at q0 hx0 hx1 HDR
                obtain ⟨c1, c2⟩ := ho3.cell' HL3.out x.toNat (by omega)
                have hxz : x < (l.length : Int) := by omega
                have HON : Hid (act = true → flag (b3.set x.toNat true) i = true ∧ (markAll (b3.set x.toNat true) ((parts n).drop (k + 1)) = markAll bs (parts n))) := fun ha => by
                  have hle : x.toNat < b3.length := by rw [HL3.out]; omega
                  refine ⟨?_, ?_⟩
                  · rw [flag_set hle, if_neg (by omega)]; exact HF3.out.trans HFB.out
                  · have h9 := HM3.out ha
                    rw [HDR.out] at h9
                    exact h9
                have HQC : Hid (∀ W, Calls Tryz.prog 38 #[.int .i64 n.op] W fun e w' => e = .returned (.bool (quant n.op)) ∧ w' = W) := fun W => Sp10.sQuant n.op W
                clear ho3 hfb
                cases hq : quant n.op
                · have HA : Hid (act = true) := by have h := HAC.out; rw [HFB.out, HIQ.out, hq] at h; exact h
                  rw [hq] at HQC
                  clear hq
                  go_wp2_with fail
                  refine (HQC.out _).mono ?_
                  rintro e w' ⟨rfl, hz1⟩
                  have hz2 := hz1.symm
                  clear hz1
                  subst hz2
                  go_wp2_with fail
                  go_roundw
                  case rel => exact ⟨k + 1, by omega, by go_num, b3.set x.toNat true, HO3.out.set' HL3.out _ _, by rw [List.length_set]; exact HL3.out, (HON.out HA.out).1, fun _ => (HON.out HA.out).2, (fun h => by rw [HA.out] at h; cases h), HK3.out.setCell rfl _⟩
                  case measure => simp [intOf]; omega
                · rw [hq] at HQC
                  cases hkv : (n.k == (v : Int))
                  · have HA : Hid (act = true) := by have h := HAC.out; rw [HFB.out, HIQ.out, hq, hkv] at h; exact h
                    clear hq
                    go_wp2_with fail
                    refine (HQC.out _).mono ?_
                    rintro e w' ⟨rfl, hz1⟩
                    have hz2 := hz1.symm
                    clear hz1
                    subst hz2
                    go_wp2_with fail
                    go_roundw
                    case rel => exact ⟨k + 1, by omega, by go_num, b3.set x.toNat true, HO3.out.set' HL3.out _ _, by rw [List.length_set]; exact HL3.out, (HON.out HA.out).1, fun _ => (HON.out HA.out).2, (fun h => by rw [HA.out] at h; cases h), HK3.out.setCell rfl _⟩
                    case measure => simp [intOf]; omega
                  · have HA : Hid (act = false) := by have h := HAC.out; rw [HFB.out, HIQ.out, hq, hkv] at h; exact h
                    clear hq
                    go_wp2_with fail
                    refine (HQC.out _).mono ?_
                    rintro e w' ⟨rfl, hz1⟩
                    have hz2 := hz1.symm
                    clear hz1
                    subst hz2
                    go_wp2_with fail
                    go_roundw
                    case rel => exact ⟨i, by omega, by go_num, b3, HO3.out, HL3.out, HEND.out (fun h => by rw [HA.out] at h; cases h), HBEL.out, HSZ.out⟩
                    case measure => simp [intOf]
            · have hlz : ¬ (k : Int) < ((parts n).length : Int) := by omega
              clear ho3
              go_wp2_with fail
              go_roundw
              case rel => exact ⟨i, by omega, by go_num, b3, HO3.out, HL3.out, HEND.out (fun _ => by omega), HBEL.out, HSZ.out⟩
              case measure => simp [intOf]

end Go.Proofs.YtjfikpfdhjbheaaGreat.Am7

/- A list of nodes appended to another. -/
namespace Go.Proofs.YtjfikpfdhjbheaaGreat.Ap7
open Go.RowKit
open Nd0 Nd3 Ap2 Dw3 Dw4
set_option linter.unusedVariables false

theorem own_cap {w : World} {B : Nat} {a : Option Addr} {n c : Nat} {l : List Nd} (h : Ap2.Own w B (.slice a n c) l) : n = l.length ∧ l.length ≤ c := by
  obtain ⟨h1, h2⟩ := h
  rcases h2 with ⟨e, h0⟩ | ⟨g, cap, cur, e, hb, hg, hn, hm, hs, ht⟩
  · cases e; exact ⟨h0.symm, by omega⟩
  · cases e; exact ⟨rfl, hn⟩

end Go.Proofs.YtjfikpfdhjbheaaGreat.Ap7

/- A list of nodes of any length appended to one's own. -/
namespace Go.Proofs.YtjfikpfdhjbheaaGreat.Ap13
open Go.RowKit
open Nd0 Nd3 Ap2 Dw3 Ap7
set_option linter.unusedVariables false

theorem app_any {ops : Array Oper} {rest : List Oper} {o : Oper} {a : Act} {Q : Exit → Act → World → Prop} (W : World) (hgd : o.guard = none) (s x : Operand)
    (ho : o.op = .call { callee := .builtin .append, args := #[s, x], argTypes := #[24, 24] })
    (B g c : Nat) (l ys L : List Nd) (hL : l ++ ys = L) (gx ox cx n m : Nat) (hs : a.eval s = .slice (some ⟨g, 0, none⟩) n c) (hx : a.eval x = .slice (some ⟨gx, ox, none⟩) m cx) (hn : n = l.length) (hm : m = ys.length)
    (hy : ∀ i (h : i < ys.length), NodeAt W gx (ox + i * 6) ys[i])
    (hown : Ap2.Own W B (.slice (some ⟨g, 0, none⟩) l.length c) l) (hB : B ≤ W.heap.size) (hlen : l.length + ys.length ≤ 1048577)
    (h : ∀ g' cap w', Ap2.Own w' B (.slice (some ⟨g', 0, none⟩) L.length cap) L → Kept (fun k => k = g) W w' → wpList Tryz.prog ops Q rest (a.put o.dst (.slice (some ⟨g', 0, none⟩) L.length cap)) w') :
    wpList Tryz.prog ops Q (o :: rest) a W := by
  subst hn hm hL
  obtain ⟨i, hi, hzz⟩ := Option.map_eq_some_iff.1 infoNode
  simp only [Prod.mk.injEq] at hzz
  obtain ⟨hz, hsz, hb⟩ := hzz
  refine wpList_append_own W hgd s x 24 ho B 42 i _ 6 48 Tryz.underlying24 hi hz hsz hb rfl (by omega) _ l.length (flat l) hs hown
    ⟨gx, ox, none⟩ ys.length cx (flat ys) hx (flat_length ys) (fun j u hu => nodes_cells hy j u hu) ?_ (by unfold maxLen; omega) (by omega) hB ?_
  · intro u hu
    obtain ⟨n, _, hn⟩ := List.mem_flatMap.1 hu
    simp [Nd.cells] at hn
    rcases hn with rfl | rfl | rfl | rfl | rfl | rfl <;> rfl
  · intro v' w' h1 h2 h3
    have h4 : Ap2.Own w' B v' (l ++ ys) := by unfold Ap2.Own; rw [flat_app, List.length_append]; exact h1
    have h5 : ∃ g' cp, v' = .slice (some ⟨g', 0, none⟩) (l ++ ys).length cp := by
      rcases h4.2 with ⟨h0, _⟩ | ⟨g', cap, cur, he, _⟩
      · exact absurd (h3.1 h0).1 (by simp)
      · exact ⟨g', cap, he⟩
    obtain ⟨g', cp, rfl⟩ := h5
    exact h g' cp w' h4 ⟨h2.os, h2.tape, h2.output, h2.size, fun k hk hn => h2.block k hk (fun e => hn (by cases e; rfl))⟩

end Go.Proofs.YtjfikpfdhjbheaaGreat.Ap13
