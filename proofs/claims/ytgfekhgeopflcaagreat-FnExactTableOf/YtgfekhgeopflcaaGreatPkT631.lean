/- Small texts of mine, one behind the other. -/
import Derived.WalkSpells
import Derived.Deep.RegionWith
import Derived.Deep.RegionHeld
import Derived.Laws.PanicsMore
import Derived.Deep.MidRow
import Derived.Test.YtgfekhgeopflcaaGreatPkT615
import Derived.Test.YtgfekhgeopflcaaGreatPkT630
import Derived.Test.YtgfekhgeopflcaaGreatPkT67
import Derived.Test.YtgfekhgeopflcaaGreatPkT66
import Derived.Test.YtgfekhgeopflcaaGreatPkT612
import Derived.Test.YtgfekhgeopflcaaGreatPkT619
import Derived.Test.YtgfekhgeopflcaaGreatPkT620
import Derived.Test.YtgfekhgeopflcaaGreatPkT68
import Derived.Test.YtgfekhgeopflcaaGreatPkT613
import Derived.Test.YtgfekhgeopflcaaGreatPkT627
/- The walk of the program's Reached. -/
namespace Go.Proofs.YtgfekhgeopflcaaGreat.Pg7
open Go.RowKit
open Nd0 Tm0 Tm1 Tm2 Ap0 Pg2 Rw0
open Lx1 (ITermOk)
open Lx2 (IReached)
open Ws1 (ret_int ret_bool)
set_option linter.unusedVariables false

theorem zeros : Tryz.zeroCells64 = Array.replicate 80 (.bool false) := by kernel_rfl
theorem zeros_get (i : Nat) (h : i < 80) : Tryz.zeroCells64[i]? = some (.bool false) := by
  rw [zeros, Array.getElem?_replicate, if_pos h]

set_option maxRecDepth 100000 in
set_option maxHeartbeats 4000000 in
theorem iReached (hTO : ITermOk) (w : World) (a : Option Addr) (l : List Nd) (c : Nat) (hN : Nodes w a l) (hcap : l.length ≤ c) (hlen : l.length ≤ 1048576) :
    Calls Tryz.prog 39 #[.slice a l.length c] w fun e w' => (∃ a' c', e = .returned (.slice a' (reachedL l).length c') ∧ WInts w' w.heap.size a' (reachedL l)) ∧ Below w.heap.size w w' := by
  have HN : Hid (Nodes w a l) := hN
  have HTO : Hid ITermOk := hTO
  have HCAP : Hid (l.length ≤ c) := hcap
  clear hcap hN hTO
  go_enter Tryz.func39, Tryz.ntmps39
  go_wp2_with fail
  refine (HTO.out _ a l c (HN.out.below ((Below.refl _ _).alloc (Nat.le_refl _) _)) HCAP.out hlen).mono ?_
  rintro e w1 ⟨rfl, hb1⟩
  have HB1 : Hid (Below w.heap.size w w1) := ((Below.refl _ _).alloc (Nat.le_refl _) _).trans (hb1.mono (by simp))
  have HL1 : Hid (Ows w1 w.heap.size (.slice (some ⟨w.heap.size, 0, none⟩) 0 0) []) := (Ows.lit w _ (Nat.le_refl _)).kept (S := fun _ => False) (Kept.ofBelow hb1) (fun _ _ h => h)
  clear hb1
  cases hT : termOk l
  · go_wp2
    go_ret
    have e0 : reachedL l = [] := by unfold reachedL; rw [hT]; rfl
    rw [e0]
    exact ⟨⟨_, _, rfl, Nat.zero_le _, .inl rfl⟩, HB1.out⟩
  · have HT : Hid (termOk l = true) := hT
    obtain ⟨hl1, hl2⟩ := term_len hT
    have hz := zeros_get (l.length - 1) (by omega)
    go_wp2
    clear hz hT
    have HR0 : Hid (Row (w1.alloc (.cells (Tryz.zeroCells64.setIfInBounds (l.length - 1) (.bool true)) 64)) w1.heap.size l.length (fun i => .bool (flag (reachInit l.length) i))) := by
      refine Row.new _ _ _ _ _ (fun i hi => ?_)
      rw [zeros, Array.getElem?_setIfInBounds, Array.getElem?_replicate]
      have e1 : flag (reachInit l.length) i = (i + 1 == l.length) := by simp [flag, reachInit, List.getD, hi]
      by_cases e : l.length - 1 = i
      · rw [if_pos e, if_pos (by simp; omega), e1]
        have : (i + 1 == l.length) = true := by simp; omega
        rw [this]
      · rw [if_neg e, if_pos (by omega), e1]
        have : (i + 1 == l.length) = false := by simp; omega
        rw [this]
    have HBA : Hid (Below w1.heap.size w1 (w1.alloc (.cells (Tryz.zeroCells64.setIfInBounds (l.length - 1) (.bool true)) 64))) := (Below.refl _ _).alloc (Nat.le_refl _) _
    obtain ⟨wa, hwa⟩ : ∃ wa : World, wa = w1.alloc (.cells (Tryz.zeroCells64.setIfInBounds (l.length - 1) (.bool true)) 64) := ⟨_, rfl⟩
    rw [← hwa] at HR0 HBA ⊢
    clear hwa
    obtain ⟨g, hg⟩ : ∃ g : Nat, g = w1.heap.size := ⟨_, rfl⟩
    rw [← hg] at HR0 ⊢
    have HG : Hid (g = w1.heap.size) := hg
    clear hg
    go_loopw [5] (fun q wr => ∃ j : Nat, j ≤ l.length ∧ q = .int .i64 ((j : Int) - 1) ∧ ∃ bs : List Bool, Row wr g l.length (fun i => .bool (flag bs i)) ∧ bs.length = l.length ∧ reachDown l j bs = reachL l ∧ Below w1.heap.size w1 wr) (fun q _ => (intOf q + 1).toNat)
    case atStart => exact ⟨l.length, Nat.le_refl _, rfl, _, HR0.out, reachInit_length _, rfl, HBA.out⟩
    case round =>
      clear HR0 HBA
      obtain ⟨j, hj, rfl, bs, hr, hbl, hrd, hbb⟩ := hrel
      have HRO : Hid (Row wr g l.length (fun i => .bool (flag bs i))) := hr
      have HRD : Hid (reachDown l j bs = reachL l) := hrd
      have HBB : Hid (Below w1.heap.size w1 wr) := hbb
      have HBL : Hid (bs.length = l.length) := hbl
      clear hr hrd hbb hbl
      cases j with
      | zero =>
        have hneg : ¬ (0 : Int) ≤ ((0 : Nat) : Int) - 1 := by omega
        have HRD0 : Hid (bs = reachL l) := HRD.out
        have HRX : Hid (Row wr g l.length (fun i => .bool (flag (reachL l) i))) := HRD0.out ▸ HRO.out
        have HL2 : Hid (Ows wr w.heap.size (.slice (some ⟨w.heap.size, 0, none⟩) 0 0) []) := HL1.out.kept (S := fun _ => False) (Kept.ofBelow HBB.out) (fun _ _ h => h)
        have HBW : Hid (Below w.heap.size w wr) := HB1.out.trans (HBB.out.mono HB1.out.size)
        obtain ⟨wz, rfl⟩ : ∃ wz : World, wz = wr := ⟨_, rfl⟩
        go_wp2
        go_loopw [3, 43] (fun v q wr => ∃ k : Nat, k ≤ l.length ∧ q = .int .i64 k ∧ Ows wr w.heap.size v (reachTo l k) ∧ Below w.heap.size w wr ∧ Row wr g l.length (fun i => .bool (flag (reachL l) i)) ∧ (∀ x, v.ownBlock = some x → x ≠ g)) (fun _ q _ => l.length - (intOf q).toNat)
        case atStart =>
          refine ⟨0, Nat.zero_le _, rfl, HL2.out, HBW.out, HRX.out, fun x hx => ?_⟩
          have := (HL1.out.lt x hx).2
          have := HG.out
          omega
        case round =>
          clear HL2 HBW HRX
          obtain ⟨k, hk, rfl, ho, hb, hr, hne⟩ := hrel
          have HO : Hid (Ows wr w.heap.size u3 (reachTo l k)) := ho
          have HB : Hid (Below w.heap.size w wr) := hb
          have HR : Hid (Row wr g l.length (fun i => .bool (flag (reachL l) i))) := hr
          have HNE : Hid (∀ x, u3.ownBlock = some x → x ≠ g) := hne
          have hBs : w.heap.size ≤ wr.heap.size := hb.size
          have hrl := reachTo_length l k
          clear hb hr hne
          by_cases hlt : k < l.length
          · clear ho
            have hlz : (k : Int) < (l.length : Int) := by omega
            have hk80 : (k : Int) < 80 := by omega
            have cI : wr.cell? ⟨g, k, none⟩ = some (.bool (flag (reachL l) k)) := (HR.out k hlt).1
            have HTS : Hid (reachTo l (k + 1) = if flag (reachL l) k then reachTo l k ++ [(k : Int)] else reachTo l k) := reachTo_succ l k
            cases hf : flag (reachL l) k
            · rw [hf] at cI
              have HT2 : Hid (reachTo l (k + 1) = reachTo l k) := by
                show _ = _
                rw [HTS.out, hf]; rfl
              go_wp2
              go_roundw
              case rel => exact ⟨k + 1, by omega, by go_num, HT2.out.symm ▸ HO.out, HB.out, HR.out, HNE.out⟩
              case measure => simp [intOf]; omega
            · rw [hf] at cI
              have HT2 : Hid (reachTo l (k + 1) = reachTo l k ++ [(k : Int)]) := by
                show _ = _
                rw [HTS.out, hf]; rfl
              go_wp2_with (at_builtin; go_must (refine app_int _ rfl _ _ rfl w.heap.size u3 (reachTo l k) (k : Int) rfl rfl HO.out hBs (by omega) ?_; intro g' cp w3 ho3 hk3 hg3))
              have HO3 : Hid (Ows w3 w.heap.size (.slice (some ⟨g', 0, none⟩) ((reachTo l k).length + 1) cp) (reachTo l k ++ [(k : Int)])) := ho3
              have HK3 : Hid (Kept (fun k => u3.ownBlock = some k) wr w3) := hk3
              have HG3 : Hid (u3.ownBlock = some g' ∨ wr.heap.size ≤ g') := hg3
              clear ho3 hk3 hg3
              go_wp2
              go_roundw
              case rel =>
                refine ⟨k + 1, by omega, by go_num, HT2.out.symm ▸ HO3.out, HB.out.trans (HK3.out.below (fun k hk => (HO.out.lt k hk).1) hBs), HR.out.kept HK3.out (fun e => HNE.out g e rfl), fun x hx => ?_⟩
                cases hx
                rcases HG3.out with e | e
                · exact HNE.out _ e
                · have := HR.out.lt (by omega)
                  show g' ≠ g
                  omega
              case measure => simp [intOf]; omega
          · have e2 : k = l.length := by omega
            subst e2
            obtain ⟨a9, c9, rfl, hw9⟩ := ho.form
            have HW9 : Hid (WInts wr w.heap.size a9 (reachTo l l.length)) := hw9
            clear ho hw9 HO
            go_wp2
            go_ret
            have e0 : reachedL l = reachTo l l.length := by unfold reachedL; rw [HT.out]; rfl
            rw [e0]
            exact ⟨⟨_, _, rfl, HW9.out⟩, HB.out⟩
      | succ i =>
        have hp : (0 : Int) ≤ ((i + 1 : Nat) : Int) - 1 := by omega
        have hie : ((i + 1 : Nat) : Int) - 1 = (i : Int) := by omega
        rw [hie]
        clear hie hp
        have hiz : (i : Int) < (l.length : Int) := by omega
        have hi80 : (i : Int) < 80 := by omega
        have cI : wr.cell? ⟨g, i, none⟩ = some (.bool (flag bs i)) := (HRO.out i (by omega)).1
        cases hfb : flag bs i
        · rw [hfb] at cI
          have HST : Hid (reachDown l i bs = reachL l) := by
            show _ = _
            rw [← HRD.out]
            show _ = reachDown l i (reachStep l bs i)
            unfold reachStep
            rw [hfb]; rfl
          go_wp2
          go_roundw
          case rel => exact ⟨i, by omega, by go_num, bs, HRO.out, HBL.out, HST.out, HBB.out⟩
          case measure => simp [intOf]
        · rw [hfb] at cI
          rcases ((HN.out.below HB1.out).below HBB.out).2 with h0 | ⟨xb, xo, rfl, hc⟩
          · omega
          obtain ⟨p0, p1, p2, p3, p4, p5⟩ := hc i (by omega)
          rw [nth_get (by omega : i < l.length)] at p0 p1 p2 p3 p4 p5
          clear hc
          have HPO := parts_ok (term_node HT.out (by omega : i < l.length))
          generalize hn : nth l i = n at p0 p1 p2 p3 p4 p5 HPO
          have HD : Hid (nth l i = n) := hn
          have HPO' : Hid (∀ k (hk : k < (parts n).length), 0 ≤ (parts n)[k] ∧ (parts n)[k] < i) := HPO
          clear hn HPO
          obtain ⟨wb, rfl⟩ : ∃ wb : World, wb = wr := ⟨_, rfl⟩
          have hgb : g < wb.heap.size := HRO.out.lt (by omega)
          go_wp2_with fail
          refine (iParts n _).mono ?_
          rintro e w2 ⟨⟨pa, pc, rfl, hpi⟩, hb2⟩
          have HP : Hid (IntsIn w2 wb.heap.size w2.heap.size pa (parts n)) := hpi.within
          have HRW : Hid (Row w2 g l.length (fun i => .bool (flag bs i))) := HRO.out.below hb2
          have HB2 : Hid (Below w1.heap.size w1 w2) := HBB.out.trans (hb2.mono HBB.out.size)
          clear hpi hb2 p0 p1 p2 p3 p4 p5 cI
          have hpl := parts_le n
          go_wp2_with fail
          go_loopw [34] (fun q wr => ∃ k : Nat, k ≤ (parts n).length ∧ q = .int .i64 k ∧ ∃ b3 : List Bool, Row wr g l.length (fun i => .bool (flag b3 i)) ∧ b3.length = l.length ∧ markAll b3 ((parts n).drop k) = markAll bs (parts n) ∧ Kept (fun x => x = g) w2 wr) (fun q _ => (parts n).length - (intOf q).toNat)
          case atStart => exact ⟨0, Nat.zero_le _, rfl, bs, HRW.out, HBL.out, rfl, Kept.refl _ _⟩
          case round =>
            obtain ⟨k, hk, rfl, b3, hr3, hl3, hm3, hk3⟩ := hrel
            have HR3 : Hid (Row wr g l.length (fun i => .bool (flag b3 i))) := hr3
            have HL3 : Hid (b3.length = l.length) := hl3
            have HM3 : Hid (markAll b3 ((parts n).drop k) = markAll bs (parts n)) := hm3
            have HK3 : Hid (Kept (fun x => x = g) w2 wr) := hk3
            clear hr3 hl3 hm3 hk3
            by_cases hlt : k < (parts n).length
            · have hlz : (k : Int) < ((parts n).length : Int) := by omega
              rcases (HP.out.kept HK3.out (fun b h1 h2 e => by omega)).2 with h0 | ⟨pb, po, rfl, hpB, hpU, hpc⟩
              · omega
              have q0 := (hpc k hlt).1
              obtain ⟨hx0, hx1⟩ := HPO'.out k hlt
              have HDR : Hid ((parts n).drop k = (parts n)[k] :: (parts n).drop (k + 1)) := List.drop_eq_getElem_cons hlt
              clear hpc hpB hpU
              generalize (parts n)[k] = x at q0 hx0 hx1 HDR
              obtain ⟨jx, rfl⟩ := Int.eq_ofNat_of_zero_le hx0
              obtain ⟨c1, c2⟩ := HR3.out jx (by omega)
              have hxz : (jx : Int) < 80 := by omega
              go_wp2
              go_roundw
              case rel =>
                have hle : jx < b3.length := by rw [HL3.out]; omega
                refine ⟨k + 1, by omega, by go_num, b3.set jx true, ?_, by rw [List.length_set]; exact HL3.out, ?_, HK3.out.setCell rfl _⟩
                · refine (HR3.out.set (by omega) _).congr (fun i hi => ?_)
                  rw [flag_set hle]
                  by_cases e : i = jx
                  · rw [if_pos e, if_pos e.symm]
                  · rw [if_neg e, if_neg (fun x => e x.symm)]
                · have h9 := HM3.out
                  rw [HDR.out] at h9
                  exact h9
              case measure => simp [intOf]; omega
            · have HST : Hid (reachDown l i b3 = reachL l) := by
                show _ = _
                rw [← HRD.out]
                show _ = reachDown l i (reachStep l bs i)
                unfold reachStep
                rw [hfb, HD.out]
                have h9 := HM3.out
                rw [List.drop_of_length_le (by omega)] at h9
                exact congrArg _ h9
              go_wp2
              go_roundw
              case rel => exact ⟨i, by omega, by go_num, b3, HR3.out, HL3.out, HST.out, HB2.out.trans (HK3.out.below (fun k hk => by have := HG.out; omega) HB2.out.size)⟩
              case measure => simp [intOf]

end Go.Proofs.YtgfekhgeopflcaaGreat.Pg7

/- Walks of the program's sets of variables: justVar and numbers. -/
namespace Go.Proofs.YtgfekhgeopflcaaGreat.Pg8
open Go.RowKit
open Nd0 Pl1 Tm0 Tm1 Tm4 Tm7 Ap0
open Ws1 (ret_int ret_bool)
set_option linter.unusedVariables false

end Go.Proofs.YtgfekhgeopflcaaGreat.Pg8

/- The walk of the program's freeSet. -/
namespace Go.Proofs.YtgfekhgeopflcaaGreat.Pg9
open Go.RowKit
open Nd0 Pl1 Tm0 Tm1 Tm4 Tm5 Tm7 Ap0 Pg1 Pg2 Pg8 Rw0
open Ws1 (ret_int ret_bool)
open Lx1 (ITermOk)
set_option linter.unusedVariables false

theorem var_of {l : List Nd} {k : Nat} (h : nodeOk l k = true) (hop : (nth l k).op = 1 ∨ quant (nth l k).op = true) : ∃ kk : Nat, (nth l k).k = (kk : Int) ∧ kk ≤ 7 := by
  simp only [nodeOk, Bool.and_eq_true] at h
  have hs := h.2
  unfold shapeOk at hs
  have hb : 0 ≤ (nth l k).k ∧ (nth l k).k ≤ 7 := by
    rcases hop with h1 | h1
    · rw [if_neg (by omega), if_pos h1] at hs
      simp at hs; omega
    · have h2 : (nth l k).op = 19 ∨ (nth l k).op = 20 := by simpa [quant] using h1
      rw [if_neg (by omega), if_neg (by omega), if_neg (by omega), if_neg (by omega), if_neg (by omega), if_neg (by omega), if_neg (by omega), if_neg (by omega), if_pos h2] at hs
      simp at hs; omega
  exact ⟨(nth l k).k.toNat, by omega, by omega⟩

/-- The sets of the first k nodes stand in s, the rest are empty. -/
def Sets (l : List Nd) (k : Nat) (s : Nat → Nat) : Prop := (∀ i, i < k → Has (s i) (row (freeRows l k) (i : Int))) ∧ ∀ i, k ≤ i → s i = 0

theorem sets_next {l : List Nd} {k : Nat} {s s' : Nat → Nat} {x : Nat} (h : Sets l k s) (hx : Has x (freeRow (freeRows l k) (nth l k))) (hs : ∀ i, s' i = if i = k then x else s i) : Sets l (k + 1) s' := by
  constructor
  · intro i hi
    rw [hs i]
    by_cases e : i = k
    · subst e; rw [if_pos rfl, row_new]; exact hx
    · rw [if_neg e, row_old l k (i : Int) (by omega) (by omega)]; exact h.1 i (by omega)
  · intro i hi
    rw [hs i, if_neg (by omega)]; exact h.2 i (by omega)

end Go.Proofs.YtgfekhgeopflcaaGreat.Pg9

/- The walk of the program's freeWidths. -/
namespace Go.Proofs.YtgfekhgeopflcaaGreat.Pv13
open Go.RowKit
open Nd0 Pl1 Tm0 Tm1 Tm2 Tm5 Tm6 Tm8 Tr0 Rw0 Vl1 Vl2 Vm0 Vm1 Kp1 Sv5 Vm3 Pg1 Pg2
open Lx1 (ITermOk)
open Pg7 (iReached)
open Pg9 (var_of)
open Pv5 (or16 not16)
set_option linter.unusedVariables false

/-- What freeWidths tells. -/
def FW (l : List Nd) (r : Nat → Nat) (b : Bool) : Prop := b = (needT (root l)).isSome ∧ (∀ v, v < 8 → r v < 2 ^ 9) ∧ ∀ q, needT (root l) = some q → ∀ v, v < 8 → r v = q.getD v 0
def agg8 (r : Nat → Nat) : Value := .agg #[.int .u16 (r 0 : Int), .int .u16 (r 1 : Int), .int .u16 (r 2 : Int), .int .u16 (r 3 : Int), .int .u16 (r 4 : Int), .int .u16 (r 5 : Int), .int .u16 (r 6 : Int), .int .u16 (r 7 : Int)]

def list8 (r : Nat → Nat) : List Value := [.int .u16 (r 0 : Int), .int .u16 (r 1 : Int), .int .u16 (r 2 : Int), .int .u16 (r 3 : Int), .int .u16 (r 4 : Int), .int .u16 (r 5 : Int), .int .u16 (r 6 : Int), .int .u16 (r 7 : Int)]
theorem kept_drewN {S : Nat → Prop} {u w : World} (h : Kept S u w) (n : Nat) : Kept S u (w.drewN n) := ⟨h.os, h.tape, h.output, h.size, h.block⟩
theorem kept_set8 {gr : Nat} {u w : World} (h : Kept (fun b => b = gr) u w) (v0 v1 v2 v3 v4 v5 v6 v7 : Value) : Kept (fun b => b = gr) u ((((((((w.setCell ⟨gr, 0, none⟩ v0).setCell ⟨gr, 1, none⟩ v1).setCell ⟨gr, 2, none⟩ v2).setCell ⟨gr, 3, none⟩ v3).setCell ⟨gr, 4, none⟩ v4).setCell ⟨gr, 5, none⟩ v5).setCell ⟨gr, 6, none⟩ v6).setCell ⟨gr, 7, none⟩ v7) :=
  (((((((h.setCell rfl _).setCell rfl _).setCell rfl _).setCell rfl _).setCell rfl _).setCell rfl _).setCell rfl _).setCell rfl _
theorem row_set8 {gr : Nat} {w : World} {f : Nat → Value} (h : Row w gr 8 f) (r : Nat → Nat) : ∀ v, v < 8 → ((((((((w.setCell ⟨gr, 0, none⟩ (.int .u16 (r 0 : Int))).setCell ⟨gr, 1, none⟩ (.int .u16 (r 1 : Int))).setCell ⟨gr, 2, none⟩ (.int .u16 (r 2 : Int))).setCell ⟨gr, 3, none⟩ (.int .u16 (r 3 : Int))).setCell ⟨gr, 4, none⟩ (.int .u16 (r 4 : Int))).setCell ⟨gr, 5, none⟩ (.int .u16 (r 5 : Int))).setCell ⟨gr, 6, none⟩ (.int .u16 (r 6 : Int))).setCell ⟨gr, 7, none⟩ (.int .u16 (r 7 : Int))).cell? ⟨gr, v, none⟩ = some (.int .u16 (r v : Int)) := by
  have h8 := (((((((h.set (p := 0) (by omega) (.int .u16 (r 0 : Int))).set (p := 1) (by omega) (.int .u16 (r 1 : Int))).set (p := 2) (by omega) (.int .u16 (r 2 : Int))).set (p := 3) (by omega) (.int .u16 (r 3 : Int))).set (p := 4) (by omega) (.int .u16 (r 4 : Int))).set (p := 5) (by omega) (.int .u16 (r 5 : Int))).set (p := 6) (by omega) (.int .u16 (r 6 : Int))).set (p := 7) (by omega) (.int .u16 (r 7 : Int))
  intro v hv
  rw [(h8 v hv).1]
  rcases (show v = 0 ∨ v = 1 ∨ v = 2 ∨ v = 3 ∨ v = 4 ∨ v = 5 ∨ v = 6 ∨ v = 7 by omega) with h | h | h | h | h | h | h | h <;> subst h <;> rfl

end Go.Proofs.YtgfekhgeopflcaaGreat.Pv13

/- The walk of the program's boundOnce. -/
namespace Go.Proofs.YtgfekhgeopflcaaGreat.Pg12
open Go.RowKit
open Nd0 Pl1 Tm0 Tm1 Tm2 Tm4 Tm5 Tm6 Tm8 Tm9 Tm10 Ap0 Pg1 Rw0 Rw1
open Ws1 (ret_int ret_bool)
set_option linter.unusedVariables false

theorem zerosW : (#[.int .i64 0, .int .i64 0, .int .i64 0, .int .i64 0, .int .i64 0, .int .i64 0, .int .i64 0, .int .i64 0] : Array Value) = Array.replicate 8 (.int .i64 0) := rfl
theorem wd_rep (n i : Nat) : wd (List.replicate n 0) (i : Int) = 0 := by
  have := upto_zero n (i : Int)
  omega
theorem reach_step {l : List Nd} {y j : Nat} (hf : flag (reachL l) y = true) (h : (reachTo l y).length = j) : (reachTo l (y + 1)).length = j + 1 := by
  rw [reachTo_succ, hf, if_pos rfl, List.length_append, h]; rfl
theorem below_drewN {B : Nat} {u w : World} (h : Below B u w) (n : Nat) : Below B u (w.drewN n) := ⟨h.os, h.tape, h.output, h.size, h.block⟩

/-- The answer is true only where p, and false only where the term is no sentence. -/
def Tells (p : Prop) (l : List Nd) (e : Ending) : Prop := ∃ b, e = .returned (.bool b) ∧ (b = true → p) ∧ (b = false → sentB l = false)
theorem told_no {p : Prop} {l : List Nd} (h : sentB l = false) : Tells p l (.returned (.bool false)) := ⟨false, rfl, fun h => (by cases h), fun _ => h⟩
theorem told_yes {p : Prop} {l : List Nd} (h : p) : Tells p l (.returned (.bool true)) := ⟨true, rfl, fun _ => h, fun h => (by cases h)⟩

end Go.Proofs.YtgfekhgeopflcaaGreat.Pg12

/- The walk of the program's movable. -/
namespace Go.Proofs.YtgfekhgeopflcaaGreat.Pg13
open Go.RowKit
open Nd0 Pl1 Tm0 Tm1 Tm2 Tm4 Tm5 Tm6 Tm8 Tm9 Tm10 Ap0 Pg1 Pg2 Rw0 Rw1 Pg12
open Pg7 (zeros zeros_get)
open Ws1 (ret_int ret_bool)
set_option linter.unusedVariables false

theorem addUses_snoc (us ps : List Int) (p : Int) : addUses us (ps ++ [p]) = (addUses us ps).set p.toNat (wd (addUses us ps) p + 1) := by
  unfold addUses; rw [List.foldl_append]; rfl
theorem addUses_app (us ps qs : List Int) : addUses us (ps ++ qs) = addUses (addUses us ps) qs := by
  unfold addUses; rw [List.foldl_append]
theorem addUses_pos (ps : List Int) : ∀ us : List Int, (∀ q : Nat, 0 ≤ wd us (q : Int)) → ∀ q : Nat, 0 ≤ wd (addUses us ps) (q : Int) := fun us h q => Int.le_trans (h q) (addUses_le ps us q)
theorem usesF_pos (l : List Nd) (k q : Nat) : 0 ≤ wd (usesF l k) (q : Int) := by
  refine Int.le_trans ?_ (usesF_le l (Nat.zero_le k) q)
  show 0 ≤ wd (List.replicate l.length 0) _
  rw [wd_rep]; exact Int.le_refl _

/-- What is taken, after uses us: of the nodes that are reached and hold, those that are used, and none twice. -/
def Tak (l : List Nd) (us : List Int) (T : Nat → Bool) : Prop := ∀ p, p < l.length → flag (reachL l) p = true → flag (holdTo l l.length) p = true → T p = decide (1 ≤ wd us (p : Int)) ∧ wd us (p : Int) ≤ 1

theorem tak_free {l : List Nd} {us : List Int} {T : Nat → Bool} (h : Tak l us T) (hul : us.length = l.length) {jy : Nat} (hj : jy < l.length) (hh : flag (holdTo l l.length) jy = false) : Tak l (us.set jy (wd us (jy : Int) + 1)) T := by
  intro p hp hr hf
  have hne : ¬ p = jy := fun e => by subst e; rw [hh] at hf; cases hf
  rw [wd_set (by omega), if_neg hne]
  exact h p hp hr hf
theorem tak_more {l : List Nd} {us : List Int} {T : Nat → Bool} (h : Tak l us T) (hul : us.length = l.length) (hpos : ∀ q : Nat, 0 ≤ wd us (q : Int)) {jy : Nat} (hj : jy < l.length) (hr0 : flag (reachL l) jy = true) (hh : flag (holdTo l l.length) jy = true) (ht : T jy = false) :
    Tak l (us.set jy (wd us (jy : Int) + 1)) (fun i => if i = jy then true else T i) := by
  intro p hp hr hf
  rw [wd_set (by omega)]
  by_cases e : p = jy
  · subst e
    rw [if_pos rfl]
    have h1 := (h p hp hr hf).1
    rw [ht] at h1
    have h2 := hpos p
    have h3 : ¬ 1 ≤ wd us (p : Int) := by simpa using h1.symm
    refine ⟨?_, by omega⟩
    dsimp only
    rw [if_pos rfl]
    symm
    rw [decide_eq_true_eq]; omega
  · dsimp only
    rw [if_neg e, if_neg e]; exact h p hp hr hf
theorem tak_twice {l : List Nd} {us : List Int} {T : Nat → Bool} (h : Tak l us T) {jy : Nat} (hj : jy < l.length) (hr0 : flag (reachL l) jy = true) (hh : flag (holdTo l l.length) jy = true) (ht : T jy = true) : 1 ≤ wd us (jy : Int) := by
  have h1 := (h jy hj hr0 hh).1
  rw [ht] at h1
  simpa using h1.symm

theorem zerosB (w : World) (i : Nat) (hi : i < 80) : (w.alloc (.cells Tryz.zeroCells64 64)).cell? ⟨w.heap.size, i, none⟩ = some (.bool false) := by
  rw [World.cell?_alloc_new]; exact zeros_get i hi

end Go.Proofs.YtgfekhgeopflcaaGreat.Pg13

/- The walks of the program's Sentence and Bits. -/
namespace Go.Proofs.YtgfekhgeopflcaaGreat.Pg14
open Go.RowKit
open Nd0 Pl1 Tm0 Tm1 Tm2 Tm4 Tm5 Tm6 Tm7 Tm8 Tm9 Tm10 Tm11 Ap0 Pg1 Rw0 Pg12 Pg13
open Lx1 (ITermOk)
open Lx2 (IReached)
open Ws1 (ret_int ret_bool)
set_option linter.unusedVariables false

end Go.Proofs.YtgfekhgeopflcaaGreat.Pg14

/- The walk of the program's hasValue. -/
namespace Go.Proofs.YtgfekhgeopflcaaGreat.Pv14
open Go.RowKit
open Nd0 Pl1 Tm0 Tm1 Tm2 Tm5 Tm6 Tm8 Tm11 Tr0 Rw0 Vl1 Vl2 Vm0 Vm1 Sv5 Vm3 Pv5 Pv13
open Lx1 (ITermOk)
open Lx2 (IReached)
open Ws1 (ret_int ret_bool)
set_option linter.unusedVariables false

/-- The first v variables have words. -/
def upTo (r : Nat → Nat) (e : List Int) (b : Bool) : Nat → Bool
  | 0 => b
  | v + 1 => upTo r e b v && wordsB (r v) (e.getD v 0)
theorem upTo_false (r : Nat → Nat) (e : List Int) (v : Nat) : upTo r e false v = false := by
  induction v with
  | zero => rfl
  | succ v ih => show (_ && _) = _; rw [ih]; rfl
theorem upTo_true (r : Nat → Nat) (e : List Int) (v : Nat) : upTo r e true v = (List.range v).all fun v => wordsB (r v) (e.getD v 0) := by
  induction v with
  | zero => rfl
  | succ v ih => show (_ && _) = _; rw [ih, List.range_succ, List.all_append]; simp
theorem upTo_fit {l : List Nd} {r : Nat → Nat} {b : Bool} (h : FW l r b) (e : List Int) : upTo r e b 8 = fitT (root l) e := by
  obtain ⟨h1, _, h3⟩ := h
  cases hn : needT (root l) with
  | none =>
    rw [hn] at h1
    rw [h1, fit_none hn]
    exact upTo_false r e 8
  | some q =>
    rw [hn] at h1
    rw [h1, fit_some hn]
    show upTo r e true 8 = _
    rw [upTo_true]
    have h4 := h3 q hn
    show _ = (List.range 8).all fun v => wordsB (q.getD v 0) (e.getD v 0)
    rw [Bool.eq_iff_iff, List.all_eq_true, List.all_eq_true]
    constructor
    · intro h v hv
      rw [← h4 v (List.mem_range.1 hv)]; exact h v hv
    · intro h v hv
      rw [h4 v (List.mem_range.1 hv)]; exact h v hv

end Go.Proofs.YtgfekhgeopflcaaGreat.Pv14

/- The walk of the program's Value. -/
namespace Go.Proofs.YtgfekhgeopflcaaGreat.Pv15
open Go.RowKit
open Nd0 Pl1 Tm0 Tm1 Tm2 Tm5 Tm6 Tm8 Tm11 Tr0 Rw0 Vl1 Vl2 Vm0 Vm1 Vm2 Kp1 Sv5 Vm3 Pv5 Pv7 Pv12 Pv13 Pv14 Ic4
open Lx1 (ITermOk)
open Lx2 (IReached)
open Ws1 (ret_int ret_bool)
set_option linter.unusedVariables false

set_option maxRecDepth 100000 in
set_option maxHeartbeats 1000000 in
theorem toArr (b o ce : Nat) (w : World) : (Instr.arrayAt 62 (.slice (some ⟨b, o, none⟩) 8 ce)).run Tryz.prog w = .ok (.pointer (some ⟨b, o, none⟩)) w := by
  simp [Instr.arrayAt, run_underlying Tryz.underlying62, go_sem]

theorem store_new {ops : Array Oper} {rest : List Oper} {op : Oper} {a : Act} {Q : Exit → Act → World → Prop} (w : World) (hgd : op.guard = none) (ty : TypeId) (x y : Operand) (ho : op.op = .store ty x y)
    (c c' : Array Value) (g : Nat) (hx : a.eval x = .pointer (some ⟨g, 0, none⟩)) (hg : g = w.heap.size) (hy : a.eval y = .agg c') (hi : (Tryz.prog.info? ty).map (·.size) = some c'.size) (hs : c.size = c'.size) (h1 : c'.all (·.oneCell') = true)
    (h : wpList Tryz.prog ops Q rest (a.put op.dst undef) (w.alloc (.cells c' ty))) : wpList Tryz.prog ops Q (op :: rest) a (w.alloc (.cells c ty)) :=
  wpList_plain hgd fun _ hK => wp_store_new w ty x y ho c c' g hx hg hy hi hs h1 (hK _ _ h)

end Go.Proofs.YtgfekhgeopflcaaGreat.Pv15
