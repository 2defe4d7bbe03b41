/- The walk of the program's Reached. -/
import Derived.Test.YtebejleeadofcaaPkXF36
import Derived.Test.YtebejleeadofcaaPkXF38
import Derived.Test.YtebejleeadofcaaPkXF10
namespace Go.Proofs.Ytebejleeadofcaa.Pg7
open Go.RowKit
open Nd0 Tm0 Tm1 Tm2 Ap0 Pg2 Rw0
open Lx1 (ITermOk)
open Lx2 (IReached)
open Ws1 (ret_int ret_bool)
set_option linter.unusedVariables false

theorem zeros : Try.zeroCells72 = Array.replicate 80 (.bool false) := by kernel_rfl
theorem zeros_get (i : Nat) (h : i < 80) : Try.zeroCells72[i]? = some (.bool false) := by
  rw [zeros, Array.getElem?_replicate, if_pos h]

set_option maxRecDepth 100000 in
set_option maxHeartbeats 4000000 in
theorem iReached (hTO : ITermOk) (w : World) (a : Option Addr) (l : List Nd) (c : Nat) (hN : Nodes w a l) (hcap : l.length ≤ c) (hlen : l.length ≤ 1048576) :
    Calls Try.prog 35 #[.slice a l.length c] w fun e w' => (∃ a' c', e = .returned (.slice a' (reachedL l).length c') ∧ WInts w' w.heap.size a' (reachedL l)) ∧ Below w.heap.size w w' := by
  have HN : Hid (Nodes w a l) := hN
  have HTO : Hid ITermOk := hTO
  have HCAP : Hid (l.length ≤ c) := hcap
  clear hcap hN hTO
  go_enter Try.func35, Try.ntmps35
  go_wp2_with fail
  refine (HTO.out _ a l c (HN.out.below ((Below.refl _ _).alloc (Nat.le_refl _) _)) HCAP.out hlen).mono ?_
  rintro e w1 ⟨rfl, hb1⟩
  have HB1 : Hid (Below w.heap.size w w1) := ((Below.refl _ _).alloc (Nat.le_refl _) _).trans (hb1.mono (by simp))
  have HL1 : Hid (Ows w1 w.heap.size (.slice (some ⟨w.heap.size, 0, none⟩) 0 0) []) := (Ows.lit w _ (Nat.le_refl _)).kept (S := fun _ => False) (Kept.ofBelow hb1) (fun _ _ h => h)
  clear hb1
  cases hT : termOk l
  · go_wp2
    go_ret
    have e0 : reachedL l = [] := by unfold reachedL; rw [hT]; rfl
    rw [e0]
    exact ⟨⟨_, _, rfl, Nat.zero_le _, .inl rfl⟩, HB1.out⟩
  · have HT : Hid (termOk l = true) := hT
    obtain ⟨hl1, hl2⟩ := term_len hT
    have hz := zeros_get (l.length - 1) (by omega)
    go_wp2
    clear hz hT
    have HR0 : Hid (Row (w1.alloc (.cells (Try.zeroCells72.setIfInBounds (l.length - 1) (.bool true)) 72)) w1.heap.size l.length (fun i => .bool (flag (reachInit l.length) i))) := by
      refine Row.new _ _ _ _ _ (fun i hi => ?_)
      rw [zeros, Array.getElem?_setIfInBounds, Array.getElem?_replicate]
      have e1 : flag (reachInit l.length) i = (i + 1 == l.length) := by simp [flag, reachInit, List.getD, hi]
      by_cases e : l.length - 1 = i
      · rw [if_pos e, if_pos (by simp; omega), e1]
        have : (i + 1 == l.length) = true := by simp; omega
        rw [this]
      · rw [if_neg e, if_pos (by omega), e1]
        have : (i + 1 == l.length) = false := by simp; omega
        rw [this]
    have HBA : Hid (Below w1.heap.size w1 (w1.alloc (.cells (Try.zeroCells72.setIfInBounds (l.length - 1) (.bool true)) 72))) := (Below.refl _ _).alloc (Nat.le_refl _) _
    obtain ⟨wa, hwa⟩ : ∃ wa : World, wa = w1.alloc (.cells (Try.zeroCells72.setIfInBounds (l.length - 1) (.bool true)) 72) := ⟨_, rfl⟩
    rw [← hwa] at HR0 HBA ⊢
    clear hwa
    obtain ⟨g, hg⟩ : ∃ g : Nat, g = w1.heap.size := ⟨_, rfl⟩
    rw [← hg] at HR0 ⊢
    have HG : Hid (g = w1.heap.size) := hg
    clear hg
    go_loopw [5] (fun q wr => ∃ j : Nat, j ≤ l.length ∧ q = .int .i64 ((j : Int) - 1) ∧ ∃ bs : List Bool, Row wr g l.length (fun i => .bool (flag bs i)) ∧ bs.length = l.length ∧ reachDown l j bs = reachL l ∧ Below w1.heap.size w1 wr) (fun q _ => (intOf q + 1).toNat)
    case atStart => exact ⟨l.length, Nat.le_refl _, rfl, _, HR0.out, reachInit_length _, rfl, HBA.out⟩
    case round =>
      clear HR0 HBA
      obtain ⟨j, hj, rfl, bs, hr, hbl, hrd, hbb⟩ := hrel
      have HRO : Hid (Row wr g l.length (fun i => .bool (flag bs i))) := hr
      have HRD : Hid (reachDown l j bs = reachL l) := hrd
      have HBB : Hid (Below w1.heap.size w1 wr) := hbb
      have HBL : Hid (bs.length = l.length) := hbl
      clear hr hrd hbb hbl
      cases j with
      | zero =>
        have hneg : ¬ (0 : Int) ≤ ((0 : Nat) : Int) - 1 := by omega
        have HRD0 : Hid (bs = reachL l) := HRD.out
        have HRX : Hid (Row wr g l.length (fun i => .bool (flag (reachL l) i))) := HRD0.out ▸ HRO.out
        have HL2 : Hid (Ows wr w.heap.size (.slice (some ⟨w.heap.size, 0, none⟩) 0 0) []) := HL1.out.kept (S := fun _ => False) (Kept.ofBelow HBB.out) (fun _ _ h => h)
        have HBW : Hid (Below w.heap.size w wr) := HB1.out.trans (HBB.out.mono HB1.out.size)
        obtain ⟨wz, rfl⟩ : ∃ wz : World, wz = wr := ⟨_, rfl⟩
        go_wp2
        go_loopw [3, 43] (fun v q wr => ∃ k : Nat, k ≤ l.length ∧ q = .int .i64 k ∧ Ows wr w.heap.size v (reachTo l k) ∧ Below w.heap.size w wr ∧ Row wr g l.length (fun i => .bool (flag (reachL l) i)) ∧ (∀ x, v.ownBlock = some x → x ≠ g)) (fun _ q _ => l.length - (intOf q).toNat)
        case atStart =>
          refine ⟨0, Nat.zero_le _, rfl, HL2.out, HBW.out, HRX.out, fun x hx => ?_⟩
          have := (HL1.out.lt x hx).2
          have := HG.out
          omega
        case round =>
          clear HL2 HBW HRX
          obtain ⟨k, hk, rfl, ho, hb, hr, hne⟩ := hrel
          have HO : Hid (Ows wr w.heap.size u3 (reachTo l k)) := ho
          have HB : Hid (Below w.heap.size w wr) := hb
          have HR : Hid (Row wr g l.length (fun i => .bool (flag (reachL l) i))) := hr
          have HNE : Hid (∀ x, u3.ownBlock = some x → x ≠ g) := hne
          have hBs : w.heap.size ≤ wr.heap.size := hb.size
          have hrl := reachTo_length l k
          clear hb hr hne
          by_cases hlt : k < l.length
          · clear ho
            have hlz : (k : Int) < (l.length : Int) := by omega
            have hk80 : (k : Int) < 80 := by omega
            have cI : wr.cell? ⟨g, k, none⟩ = some (.bool (flag (reachL l) k)) := (HR.out k hlt).1
            have HTS : Hid (reachTo l (k + 1) = if flag (reachL l) k then reachTo l k ++ [(k : Int)] else reachTo l k) := reachTo_succ l k
            cases hf : flag (reachL l) k
            · rw [hf] at cI
              have HT2 : Hid (reachTo l (k + 1) = reachTo l k) := by
                show _ = _
                rw [HTS.out, hf]; rfl
              go_wp2
              go_roundw
              case rel => exact ⟨k + 1, by omega, by go_num, HT2.out.symm ▸ HO.out, HB.out, HR.out, HNE.out⟩
              case measure => simp [intOf]; omega
            · rw [hf] at cI
              have HT2 : Hid (reachTo l (k + 1) = reachTo l k ++ [(k : Int)]) := by
                show _ = _
                rw [HTS.out, hf]; rfl
              go_wp2_with (at_builtin; go_must (refine app_int _ rfl _ _ rfl w.heap.size u3 (reachTo l k) (k : Int) rfl rfl HO.out hBs (by omega) ?_; intro g' cp w3 ho3 hk3 hg3))
              have HO3 : Hid (Ows w3 w.heap.size (.slice (some ⟨g', 0, none⟩) ((reachTo l k).length + 1) cp) (reachTo l k ++ [(k : Int)])) := ho3
              have HK3 : Hid (Kept (fun k => u3.ownBlock = some k) wr w3) := hk3
              have HG3 : Hid (u3.ownBlock = some g' ∨ wr.heap.size ≤ g') := hg3
              clear ho3 hk3 hg3
              go_wp2
              go_roundw
              case rel =>
                refine ⟨k + 1, by omega, by go_num, HT2.out.symm ▸ HO3.out, HB.out.trans (HK3.out.below (fun k hk => (HO.out.lt k hk).1) hBs), HR.out.kept HK3.out (fun e => HNE.out g e rfl), fun x hx => ?_⟩
                cases hx
                rcases HG3.out with e | e
                · exact HNE.out _ e
                · have := HR.out.lt (by omega)
                  show g' ≠ g
                  omega
              case measure => simp [intOf]; omega
          · have e2 : k = l.length := by omega
            subst e2
            obtain ⟨a9, c9, rfl, hw9⟩ := ho.form
            have HW9 : Hid (WInts wr w.heap.size a9 (reachTo l l.length)) := hw9
            clear ho hw9 HO
            go_wp2
            go_ret
            have e0 : reachedL l = reachTo l l.length := by unfold reachedL; rw [HT.out]; rfl
            rw [e0]
            exact ⟨⟨_, _, rfl, HW9.out⟩, HB.out⟩
      | succ i =>
        have hp : (0 : Int) ≤ ((i + 1 : Nat) : Int) - 1 := by omega
        have hie : ((i + 1 : Nat) : Int) - 1 = (i : Int) := by omega
        rw [hie]
        clear hie hp
        have hiz : (i : Int) < (l.length : Int) := by omega
        have hi80 : (i : Int) < 80 := by omega
        have cI : wr.cell? ⟨g, i, none⟩ = some (.bool (flag bs i)) := (HRO.out i (by omega)).1
        cases hfb : flag bs i
        · rw [hfb] at cI
          have HST : Hid (reachDown l i bs = reachL l) := by
            show _ = _
            rw [← HRD.out]
            show _ = reachDown l i (reachStep l bs i)
            unfold reachStep
            rw [hfb]; rfl
          go_wp2
          go_roundw
          case rel => exact ⟨i, by omega, by go_num, bs, HRO.out, HBL.out, HST.out, HBB.out⟩
          case measure => simp [intOf]
        · rw [hfb] at cI
          rcases ((HN.out.below HB1.out).below HBB.out).2 with h0 | ⟨xb, xo, rfl, hc⟩
          · omega
          obtain ⟨p0, p1, p2, p3, p4, p5⟩ := hc i (by omega)
          rw [nth_get (by omega : i < l.length)] at p0 p1 p2 p3 p4 p5
          clear hc
          have HPO := parts_ok (term_node HT.out (by omega : i < l.length))
          generalize hn : nth l i = n at p0 p1 p2 p3 p4 p5 HPO
          have HD : Hid (nth l i = n) := hn
          have HPO' : Hid (∀ k (hk : k < (parts n).length), 0 ≤ (parts n)[k] ∧ (parts n)[k] < i) := HPO
          clear hn HPO
          obtain ⟨wb, rfl⟩ : ∃ wb : World, wb = wr := ⟨_, rfl⟩
          have hgb : g < wb.heap.size := HRO.out.lt (by omega)
          go_wp2_with fail
          refine (iParts n _).mono ?_
          rintro e w2 ⟨⟨pa, pc, rfl, hpi⟩, hb2⟩
          have HP : Hid (IntsIn w2 wb.heap.size w2.heap.size pa (parts n)) := hpi.within
          have HRW : Hid (Row w2 g l.length (fun i => .bool (flag bs i))) := HRO.out.below hb2
          have HB2 : Hid (Below w1.heap.size w1 w2) := HBB.out.trans (hb2.mono HBB.out.size)
          clear hpi hb2 p0 p1 p2 p3 p4 p5 cI
          have hpl := parts_le n
          go_wp2_with fail
          go_loopw [34] (fun q wr => ∃ k : Nat, k ≤ (parts n).length ∧ q = .int .i64 k ∧ ∃ b3 : List Bool, Row wr g l.length (fun i => .bool (flag b3 i)) ∧ b3.length = l.length ∧ markAll b3 ((parts n).drop k) = markAll bs (parts n) ∧ Kept (fun x => x = g) w2 wr) (fun q _ => (parts n).length - (intOf q).toNat)
          case atStart => exact ⟨0, Nat.zero_le _, rfl, bs, HRW.out, HBL.out, rfl, Kept.refl _ _⟩
          case round =>
            obtain ⟨k, hk, rfl, b3, hr3, hl3, hm3, hk3⟩ := hrel
            have HR3 : Hid (Row wr g l.length (fun i => .bool (flag b3 i))) := hr3
            have HL3 : Hid (b3.length = l.length) := hl3
            have HM3 : Hid (markAll b3 ((parts n).drop k) = markAll bs (parts n)) := hm3
            have HK3 : Hid (Kept (fun x => x = g) w2 wr) := hk3
            clear hr3 hl3 hm3 hk3
            by_cases hlt : k < (parts n).length
            · have hlz : (k : Int) < ((parts n).length : Int) := by omega
              rcases (HP.out.kept HK3.out (fun b h1 h2 e => by omega)).2 with h0 | ⟨pb, po, rfl, hpB, hpU, hpc⟩
              · omega
              have q0 := (hpc k hlt).1
              obtain ⟨hx0, hx1⟩ := HPO'.out k hlt
              have HDR : Hid ((parts n).drop k = (parts n)[k] :: (parts n).drop (k + 1)) := List.drop_eq_getElem_cons hlt
              clear hpc hpB hpU
              generalize (parts n)[k] = x at q0 hx0 hx1 HDR
              obtain ⟨jx, rfl⟩ := Int.eq_ofNat_of_zero_le hx0
              obtain ⟨c1, c2⟩ := HR3.out jx (by omega)
              have hxz : (jx : Int) < 80 := by omega
              go_wp2
              go_roundw
              case rel =>
                have hle : jx < b3.length := by rw [HL3.out]; omega
                refine ⟨k + 1, by omega, by go_num, b3.set jx true, ?_, by rw [List.length_set]; exact HL3.out, ?_, HK3.out.setCell rfl _⟩
                · refine (HR3.out.set (by omega) _).congr (fun i hi => ?_)
                  rw [flag_set hle]
                  by_cases e : i = jx
                  · rw [if_pos e, if_pos e.symm]
                  · rw [if_neg e, if_neg (fun x => e x.symm)]
                · have h9 := HM3.out
                  rw [HDR.out] at h9
                  exact h9
              case measure => simp [intOf]; omega
            · have HST : Hid (reachDown l i b3 = reachL l) := by
                show _ = _
                rw [← HRD.out]
                show _ = reachDown l i (reachStep l bs i)
                unfold reachStep
                rw [hfb, HD.out]
                have h9 := HM3.out
                rw [List.drop_of_length_le (by omega)] at h9
                exact congrArg _ h9
              go_wp2
              go_roundw
              case rel => exact ⟨i, by omega, by go_num, b3, HR3.out, HL3.out, HST.out, HB2.out.trans (HK3.out.below (fun k hk => by have := HG.out; omega) HB2.out.size)⟩
              case measure => simp [intOf]

end Go.Proofs.Ytebejleeadofcaa.Pg7
