/- Small texts of mine, one behind the other. -/
import Derived.WalkSpells
import Derived.Deep.RegionWith
import Derived.Deep.RegionHeld
import Derived.Laws.PanicsMore
import Derived.Deep.MidRow
import Derived.Test.YtejoeahehljhnaaGreatPkIQ26
import Derived.Test.YtejoeahehljhnaaGreatPkIQ32
import Derived.Test.YtejoeahehljhnaaGreatPkIQ2
import Derived.Test.YtejoeahehljhnaaGreatPkIQ1
import Derived.Test.YtejoeahehljhnaaGreatWs1
import Derived.Test.YtejoeahehljhnaaGreatPkIQ29
import Derived.Test.YtejoeahehljhnaaGreatPkIQ17
import Derived.Test.YtejoeahehljhnaaGreatPkIQ3
import Derived.Test.YtejoeahehljhnaaGreatPkIQ19
import Derived.Test.YtejoeahehljhnaaGreatPkIQ28
import Derived.Test.YtejoeahehljhnaaGreatPkIQ18
/- The walk of the program's Reached. -/
namespace Go.Proofs.YtejoeahehljhnaaGreat.Pg7
open Go.RowKit
open Nd0 Tm0 Tm1 Tm2 Ap0 Pg2 Rw0
open Lx1 (ITermOk)
open Lx2 (IReached)
open Ws1 (ret_int ret_bool)
set_option linter.unusedVariables false

theorem zeros : Tryz.zeroCells67 = Array.replicate 80 (.bool false) := by kernel_rfl
theorem zeros_get (i : Nat) (h : i < 80) : Tryz.zeroCells67[i]? = some (.bool false) := by
  rw [zeros, Array.getElem?_replicate, if_pos h]

set_option maxRecDepth 100000 in
set_option maxHeartbeats 4000000 in
theorem iReached (hTO : ITermOk) (w : World) (a : Option Addr) (l : List Nd) (c : Nat) (hN : Nodes w a l) (hcap : l.length ≤ c) (hlen : l.length ≤ 1048576) :
    Calls Tryz.prog 38 #[.slice a l.length c] w fun e w' => (∃ a' c', e = .returned (.slice a' (reachedL l).length c') ∧ WInts w' w.heap.size a' (reachedL l)) ∧ Below w.heap.size w w' := by
  have HN : Hid (Nodes w a l) := hN
  have HTO : Hid ITermOk := hTO
  have HCAP : Hid (l.length ≤ c) := hcap
  clear hcap hN hTO
  go_enter Tryz.func38, Tryz.ntmps38
  go_wp2_with fail
  refine (HTO.out _ a l c (HN.out.below ((Below.refl _ _).alloc (Nat.le_refl _) _)) HCAP.out hlen).mono ?_
  rintro e w1 ⟨rfl, hb1⟩
  have HB1 : Hid (Below w.heap.size w w1) := ((Below.refl _ _).alloc (Nat.le_refl _) _).trans (hb1.mono (by simp))
  have HL1 : Hid (Ows w1 w.heap.size (.slice (some ⟨w.heap.size, 0, none⟩) 0 0) []) := (Ows.lit w _ (Nat.le_refl _)).kept (S := fun _ => False) (Kept.ofBelow hb1) (fun _ _ h => h)
  clear hb1
  cases hT : termOk l
  · go_wp2
    go_ret
    have e0 : reachedL l = [] := by unfold reachedL; rw [hT]; rfl
    rw [e0]
    exact ⟨⟨_, _, rfl, Nat.zero_le _, .inl rfl⟩, HB1.out⟩
  · have HT : Hid (termOk l = true) := hT
    obtain ⟨hl1, hl2⟩ := term_len hT
    have hz := zeros_get (l.length - 1) (by omega)
    go_wp2
    clear hz hT
    have HR0 : Hid (Row (w1.alloc (.cells (Tryz.zeroCells67.setIfInBounds (l.length - 1) (.bool true)) 67)) w1.heap.size l.length (fun i => .bool (flag (reachInit l.length) i))) := by
      refine Row.new _ _ _ _ _ (fun i hi => ?_)
      rw [zeros, Array.getElem?_setIfInBounds, Array.getElem?_replicate]
      have e1 : flag (reachInit l.length) i = (i + 1 == l.length) := by simp [flag, reachInit, List.getD, hi]
      by_cases e : l.length - 1 = i
      · rw [if_pos e, if_pos (by simp; omega), e1]
        have : (i + 1 == l.length) = true := by simp; omega
        rw [this]
      · rw [if_neg e, if_pos (by omega), e1]
        have : (i + 1 == l.length) = false := by simp; omega
        rw [this]
    have HBA : Hid (Below w1.heap.size w1 (w1.alloc (.cells (Tryz.zeroCells67.setIfInBounds (l.length - 1) (.bool true)) 67))) := (Below.refl _ _).alloc (Nat.le_refl _) _
    obtain ⟨wa, hwa⟩ : ∃ wa : World, wa = w1.alloc (.cells (Tryz.zeroCells67.setIfInBounds (l.length - 1) (.bool true)) 67) := ⟨_, rfl⟩
    rw [← hwa] at HR0 HBA ⊢
    clear hwa
    obtain ⟨g, hg⟩ : ∃ g : Nat, g = w1.heap.size := ⟨_, rfl⟩
    rw [← hg] at HR0 ⊢
    have HG : Hid (g = w1.heap.size) := hg
    clear hg
    go_loopw [5] (fun q wr => ∃ j : Nat, j ≤ l.length ∧ q = .int .i64 ((j : Int) - 1) ∧ ∃ bs : List Bool, Row wr g l.length (fun i => .bool (flag bs i)) ∧ bs.length = l.length ∧ reachDown l j bs = reachL l ∧ Below w1.heap.size w1 wr) (fun q _ => (intOf q + 1).toNat)
    case atStart => exact ⟨l.length, Nat.le_refl _, rfl, _, HR0.out, reachInit_length _, rfl, HBA.out⟩
    case round =>
      clear HR0 HBA
      obtain ⟨j, hj, rfl, bs, hr, hbl, hrd, hbb⟩ := hrel
      have HRO : Hid (Row wr g l.length (fun i => .bool (flag bs i))) := hr
      have HRD : Hid (reachDown l j bs = reachL l) := hrd
      have HBB : Hid (Below w1.heap.size w1 wr) := hbb
      have HBL : Hid (bs.length = l.length) := hbl
      clear hr hrd hbb hbl
      cases j with
      | zero =>
        have hneg : ¬ (0 : Int) ≤ ((0 : Nat) : Int) - 1 := by omega
        have HRD0 : Hid (bs = reachL l) := HRD.out
        have HRX : Hid (Row wr g l.length (fun i => .bool (flag (reachL l) i))) := HRD0.out ▸ HRO.out
        have HL2 : Hid (Ows wr w.heap.size (.slice (some ⟨w.heap.size, 0, none⟩) 0 0) []) := HL1.out.kept (S := fun _ => False) (Kept.ofBelow HBB.out) (fun _ _ h => h)
        have HBW : Hid (Below w.heap.size w wr) := HB1.out.trans (HBB.out.mono HB1.out.size)
        obtain ⟨wz, rfl⟩ : ∃ wz : World, wz = wr := ⟨_, rfl⟩
        go_wp2
        go_loopw [3, 43] (fun v q wr => ∃ k : Nat, k ≤ l.length ∧ q = .int .i64 k ∧ Ows wr w.heap.size v (reachTo l k) ∧ Below w.heap.size w wr ∧ Row wr g l.length (fun i => .bool (flag (reachL l) i)) ∧ (∀ x, v.ownBlock = some x → x ≠ g)) (fun _ q _ => l.length - (intOf q).toNat)
        case atStart =>
          refine ⟨0, Nat.zero_le _, rfl, HL2.out, HBW.out, HRX.out, fun x hx => ?_⟩
          have := (HL1.out.lt x hx).2
          have := HG.out
          omega
        case round =>
          clear HL2 HBW HRX
          obtain ⟨k, hk, rfl, ho, hb, hr, hne⟩ := hrel
          have HO : Hid (Ows wr w.heap.size u3 (reachTo l k)) := ho
          have HB : Hid (Below w.heap.size w wr) := hb
          have HR : Hid (Row wr g l.length (fun i => .bool (flag (reachL l) i))) := hr
          have HNE : Hid (∀ x, u3.ownBlock = some x → x ≠ g) := hne
          have hBs : w.heap.size ≤ wr.heap.size := hb.size
          have hrl := reachTo_length l k
          clear hb hr hne
          by_cases hlt : k < l.length
          · clear ho
            have hlz : (k : Int) < (l.length : Int) := by omega
            have hk80 : (k : Int) < 80 := by omega
            have cI : wr.cell? ⟨g, k, none⟩ = some (.bool (flag (reachL l) k)) := (HR.out k hlt).1
            have HTS : Hid (reachTo l (k + 1) = if flag (reachL l) k then reachTo l k ++ [(k : Int)] else reachTo l k) := reachTo_succ l k
            cases hf : flag (reachL l) k
            · rw [hf] at cI
              have HT2 : Hid (reachTo l (k + 1) = reachTo l k) := by
                show _ = _
                rw [HTS.out, hf]; rfl
              go_wp2
              go_roundw
              case rel => exact ⟨k + 1, by omega, by go_num, HT2.out.symm ▸ HO.out, HB.out, HR.out, HNE.out⟩
              case measure => simp [intOf]; omega
            · rw [hf] at cI
              have HT2 : Hid (reachTo l (k + 1) = reachTo l k ++ [(k : Int)]) := by
                show _ = _
                rw [HTS.out, hf]; rfl
              go_wp2_with (at_builtin; go_must (refine app_int _ rfl _ _ rfl w.heap.size u3 (reachTo l k) (k : Int) rfl rfl HO.out hBs (by omega) ?_; intro g' cp w3 ho3 hk3 hg3))
              have HO3 : Hid (Ows w3 w.heap.size (.slice (some ⟨g', 0, none⟩) ((reachTo l k).length + 1) cp) (reachTo l k ++ [(k : Int)])) := ho3
              have HK3 : Hid (Kept (fun k => u3.ownBlock = some k) wr w3) := hk3
              have HG3 : Hid (u3.ownBlock = some g' ∨ wr.heap.size ≤ g') := hg3
              clear ho3 hk3 hg3
              go_wp2
              go_roundw
              case rel =>
                refine ⟨k + 1, by omega, by go_num, HT2.out.symm ▸ HO3.out, HB.out.trans (HK3.out.below (fun k hk => (HO.out.lt k hk).1) hBs), HR.out.kept HK3.out (fun e => HNE.out g e rfl), fun x hx => ?_⟩
                cases hx
                rcases HG3.out with e | e
                · exact HNE.out _ e
                · have := HR.out.lt (by omega)
                  show g' ≠ g
                  omega
              case measure => simp [intOf]; omega
          · have e2 : k = l.length := by omega
            subst e2
            obtain ⟨a9, c9, rfl, hw9⟩ := ho.form
            have HW9 : Hid (WInts wr w.heap.size a9 (reachTo l l.length)) := hw9
            clear ho hw9 HO
            go_wp2
            go_ret
            have e0 : reachedL l = reachTo l l.length := by unfold reachedL; rw [HT.out]; rfl
            rw [e0]
            exact ⟨⟨_, _, rfl, HW9.out⟩, HB.out⟩
      | succ i =>
        have hp : (0 : Int) ≤ ((i + 1 : Nat) : Int) - 1 := by omega
        have hie : ((i + 1 : Nat) : Int) - 1 = (i : Int) := by omega
        rw [hie]
        clear hie hp
        have hiz : (i : Int) < (l.length : Int) := by omega
        have hi80 : (i : Int) < 80 := by omega
        have cI : wr.cell? ⟨g, i, none⟩ = some (.bool (flag bs i)) := (HRO.out i (by omega)).1
        cases hfb : flag bs i
        · rw [hfb] at cI
          have HST : Hid (reachDown l i bs = reachL l) := by
            show _ = _
            rw [← HRD.out]
            show _ = reachDown l i (reachStep l bs i)
            unfold reachStep
            rw [hfb]; rfl
          go_wp2
          go_roundw
          case rel => exact ⟨i, by omega, by go_num, bs, HRO.out, HBL.out, HST.out, HBB.out⟩
          case measure => simp [intOf]
        · rw [hfb] at cI
          rcases ((HN.out.below HB1.out).below HBB.out).2 with h0 | ⟨xb, xo, rfl, hc⟩
          · omega
          obtain ⟨p0, p1, p2, p3, p4, p5⟩ := hc i (by omega)
          rw [nth_get (by omega : i < l.length)] at p0 p1 p2 p3 p4 p5
          clear hc
          have HPO := parts_ok (term_node HT.out (by omega : i < l.length))
          generalize hn : nth l i = n at p0 p1 p2 p3 p4 p5 HPO
          have HD : Hid (nth l i = n) := hn
          have HPO' : Hid (∀ k (hk : k < (parts n).length), 0 ≤ (parts n)[k] ∧ (parts n)[k] < i) := HPO
          clear hn HPO
          obtain ⟨wb, rfl⟩ : ∃ wb : World, wb = wr := ⟨_, rfl⟩
          have hgb : g < wb.heap.size := HRO.out.lt (by omega)
          go_wp2_with fail
          refine (iParts n _).mono ?_
          rintro e w2 ⟨⟨pa, pc, rfl, hpi⟩, hb2⟩
          have HP : Hid (IntsIn w2 wb.heap.size w2.heap.size pa (parts n)) := hpi.within
          have HRW : Hid (Row w2 g l.length (fun i => .bool (flag bs i))) := HRO.out.below hb2
          have HB2 : Hid (Below w1.heap.size w1 w2) := HBB.out.trans (hb2.mono HBB.out.size)
          clear hpi hb2 p0 p1 p2 p3 p4 p5 cI
          have hpl := parts_le n
          go_wp2_with fail
          go_loopw [34] (fun q wr => ∃ k : Nat, k ≤ (parts n).length ∧ q = .int .i64 k ∧ ∃ b3 : List Bool, Row wr g l.length (fun i => .bool (flag b3 i)) ∧ b3.length = l.length ∧ markAll b3 ((parts n).drop k) = markAll bs (parts n) ∧ Kept (fun x => x = g) w2 wr) (fun q _ => (parts n).length - (intOf q).toNat)
          case atStart => exact ⟨0, Nat.zero_le _, rfl, bs, HRW.out, HBL.out, rfl, Kept.refl _ _⟩
          case round =>
            obtain ⟨k, hk, rfl, b3, hr3, hl3, hm3, hk3⟩ := hrel
            have HR3 : Hid (Row wr g l.length (fun i => .bool (flag b3 i))) := hr3
            have HL3 : Hid (b3.length = l.length) := hl3
            have HM3 : Hid (markAll b3 ((parts n).drop k) = markAll bs (parts n)) := hm3
            have HK3 : Hid (Kept (fun x => x = g) w2 wr) := hk3
            clear hr3 hl3 hm3 hk3
            by_cases hlt : k < (parts n).length
            · have hlz : (k : Int) < ((parts n).length : Int) := by omega
              rcases (HP.out.kept HK3.out (fun b h1 h2 e => by omega)).2 with h0 | ⟨pb, po, rfl, hpB, hpU, hpc⟩
              · omega
              have q0 := (hpc k hlt).1
              obtain ⟨hx0, hx1⟩ := HPO'.out k hlt
              have HDR : Hid ((parts n).drop k = (parts n)[k] :: (parts n).drop (k + 1)) := List.drop_eq_getElem_cons hlt
              clear hpc hpB hpU
              generalize (parts n)[k] = x at q0 hx0 hx1 HDR
              obtain ⟨jx, rfl⟩ := Int.eq_ofNat_of_zero_le hx0
              obtain ⟨c1, c2⟩ := HR3.out jx (by omega)
              have hxz : (jx : Int) < 80 := by omega
              go_wp2
              go_roundw
              case rel =>
                have hle : jx < b3.length := by rw [HL3.out]; omega
                refine ⟨k + 1, by omega, by go_num, b3.set jx true, ?_, by rw [List.length_set]; exact HL3.out, ?_, HK3.out.setCell rfl _⟩
                · refine (HR3.out.set (by omega) _).congr (fun i hi => ?_)
                  rw [flag_set hle]
                  by_cases e : i = jx
                  · rw [if_pos e, if_pos e.symm]
                  · rw [if_neg e, if_neg (fun x => e x.symm)]
                · have h9 := HM3.out
                  rw [HDR.out] at h9
                  exact h9
              case measure => simp [intOf]; omega
            · have HST : Hid (reachDown l i b3 = reachL l) := by
                show _ = _
                rw [← HRD.out]
                show _ = reachDown l i (reachStep l bs i)
                unfold reachStep
                rw [hfb, HD.out]
                have h9 := HM3.out
                rw [List.drop_of_length_le (by omega)] at h9
                exact congrArg _ h9
              go_wp2
              go_roundw
              case rel => exact ⟨i, by omega, by go_num, b3, HR3.out, HL3.out, HST.out, HB2.out.trans (HK3.out.below (fun k hk => by have := HG.out; omega) HB2.out.size)⟩
              case measure => simp [intOf]

end Go.Proofs.YtejoeahehljhnaaGreat.Pg7

/- Walks of the program's sets of variables: justVar and numbers. -/
namespace Go.Proofs.YtejoeahehljhnaaGreat.Pg8
open Go.RowKit
open Nd0 Pl1 Tm0 Tm1 Tm4 Tm7 Ap0
open Ws1 (ret_int ret_bool)
set_option linter.unusedVariables false

end Go.Proofs.YtejoeahehljhnaaGreat.Pg8

/- The walk of the program's freeSet. -/
namespace Go.Proofs.YtejoeahehljhnaaGreat.Pg9
open Go.RowKit
open Nd0 Pl1 Tm0 Tm1 Tm4 Tm5 Tm7 Ap0 Pg1 Pg2 Pg8 Rw0
open Ws1 (ret_int ret_bool)
open Lx1 (ITermOk)
set_option linter.unusedVariables false

end Go.Proofs.YtejoeahehljhnaaGreat.Pg9

/- The walk of the program's freeWidths. -/
namespace Go.Proofs.YtejoeahehljhnaaGreat.Pv13
open Go.RowKit
open Nd0 Pl1 Tm0 Tm1 Tm2 Tm5 Tm6 Tm8 Tr0 Rw0 Vl1 Vl2 Vm0 Vm1 Kp1 Sv5 Vm3 Pg1 Pg2
open Lx1 (ITermOk)
open Pg7 (iReached)


set_option linter.unusedVariables false

end Go.Proofs.YtejoeahehljhnaaGreat.Pv13

/- The walk of the program's boundOnce. -/
namespace Go.Proofs.YtejoeahehljhnaaGreat.Pg12
open Go.RowKit
open Nd0 Pl1 Tm0 Tm1 Tm2 Tm4 Tm5 Tm6 Tm8 Tm9 Tm10 Ap0 Pg1 Rw0 Rw1
open Ws1 (ret_int ret_bool)
set_option linter.unusedVariables false

end Go.Proofs.YtejoeahehljhnaaGreat.Pg12

/- The walk of the program's movable. -/
namespace Go.Proofs.YtejoeahehljhnaaGreat.Pg13
open Go.RowKit
open Nd0 Pl1 Tm0 Tm1 Tm2 Tm4 Tm5 Tm6 Tm8 Tm9 Tm10 Ap0 Pg1 Pg2 Rw0 Rw1 Pg12
open Pg7 (zeros zeros_get)
open Ws1 (ret_int ret_bool)
set_option linter.unusedVariables false

end Go.Proofs.YtejoeahehljhnaaGreat.Pg13

/- The walks of the program's Sentence and Bits. -/
namespace Go.Proofs.YtejoeahehljhnaaGreat.Pg14
open Go.RowKit
open Nd0 Pl1 Tm0 Tm1 Tm2 Tm4 Tm5 Tm6 Tm7 Tm8 Tm9 Tm10 Tm11 Ap0 Pg1 Rw0 Pg12 Pg13
open Lx1 (ITermOk)
open Lx2 (IReached)

open Ws1 (ret_int ret_bool)
set_option linter.unusedVariables false

end Go.Proofs.YtejoeahehljhnaaGreat.Pg14

/- The walk of the program's hasValue. -/
namespace Go.Proofs.YtejoeahehljhnaaGreat.Pv14
open Go.RowKit
open Nd0 Pl1 Tm0 Tm1 Tm2 Tm5 Tm6 Tm8 Tm11 Tr0 Rw0 Vl1 Vl2 Vm0 Vm1 Sv5 Vm3 Pv5 Pv13
open Lx1 (ITermOk)
open Lx2 (IReached)

open Ws1 (ret_int ret_bool)
set_option linter.unusedVariables false

end Go.Proofs.YtejoeahehljhnaaGreat.Pv14

/- The walk of the program's Value. -/
namespace Go.Proofs.YtejoeahehljhnaaGreat.Pv15
open Go.RowKit
open Nd0 Pl1 Tm0 Tm1 Tm2 Tm5 Tm6 Tm8 Tm11 Tr0 Rw0 Vl1 Vl2 Vm0 Vm1 Vm2 Kp1 Sv5 Vm3 Pv5 Pv7 Pv12 Pv13 Pv14 Ic4
open Lx1 (ITermOk)
open Lx2 (IReached)
open Ws1 (ret_int ret_bool)
set_option linter.unusedVariables false

theorem store_new {ops : Array Oper} {rest : List Oper} {op : Oper} {a : Act} {Q : Exit → Act → World → Prop} (w : World) (hgd : op.guard = none) (ty : TypeId) (x y : Operand) (ho : op.op = .store ty x y)
    (c c' : Array Value) (g : Nat) (hx : a.eval x = .pointer (some ⟨g, 0, none⟩)) (hg : g = w.heap.size) (hy : a.eval y = .agg c') (hi : (Tryz.prog.info? ty).map (·.size) = some c'.size) (hs : c.size = c'.size) (h1 : c'.all (·.oneCell') = true)
    (h : wpList Tryz.prog ops Q rest (a.put op.dst undef) (w.alloc (.cells c' ty))) : wpList Tryz.prog ops Q (op :: rest) a (w.alloc (.cells c ty)) :=
  wpList_plain hgd fun _ hK => wp_store_new w ty x y ho c c' g hx hg hy hi hs h1 (hK _ _ h)

end Go.Proofs.YtejoeahehljhnaaGreat.Pv15

/- The walk of the program's HoldsFront: what is worth below no quantifier. -/
namespace Go.Proofs.YtejoeahehljhnaaGreat.Fp4
open Go.RowKit
open Nd0 Qa0 Pl1 Tm0 Tm1 Tm6 Tm8 Tr0 Rw0 Vl1 Vl2 Vm0 Vm2 Kp1 Pv7 Pv12 Pv15 Fr0 Fr1 Fr4 Qi0 Qi1 Fp1 Ic4
open Ws1 (ret_int ret_bool)
set_option linter.unusedVariables false

def agg (e : List Int) : Value := .agg #[.int .i64 (wd e 0), .int .i64 (wd e 1), .int .i64 (wd e 2), .int .i64 (wd e 3), .int .i64 (wd e 4), .int .i64 (wd e 5), .int .i64 (wd e 6), .int .i64 (wd e 7)]
def PWo (ws : List Int) (l : List Nd) (q : List Qu) : Prop := ∀ (w : World) (aq a : Option Addr) (cq c : Nat) (e : List Int), Qvs w aq q → q.length ≤ cq → Nodes w a l → EnvOk ws e →
    Calls Tryz.prog 21 #[.slice aq q.length cq, .slice a l.length c, agg e] w fun x w' => x = .returned (.int .i64 (hf q (root l) e)) ∧ Below w.heap.size w w'

theorem results_int {w : World} {g : Nat} {x : Int} {tmps : Array Value} (hp : tmps.getD 6 undef = .pointer (some ⟨g, 0, none⟩)) (hc : w.cell? ⟨g, 0, none⟩ = some (.int .i64 x)) :
    (results Tryz.f21 tmps).run Tryz.prog w = .ok (.int .i64 x) w := by
  have hp' : tmps[6]?.getD undef = .pointer (some ⟨g, 0, none⟩) := by simpa using hp
  simp [results, Tryz.results21, go_sem, hp', hc]

structure Four (w W : World) (c0 c1 c2 c3 : Array Value) : Prop where
  sz : W.heap.size = w.heap.size + 1 + 1 + 1 + 1
  below : Below w.heap.size w W
  a0 : ∀ (j : Nat) v, c0[j]? = some v → W.cell? ⟨w.heap.size, j, none⟩ = some v
  a1 : ∀ (j : Nat) v, c1[j]? = some v → W.cell? ⟨w.heap.size + 1, j, none⟩ = some v
  a2 : ∀ (j : Nat) v, c2[j]? = some v → W.cell? ⟨w.heap.size + 1 + 1, j, none⟩ = some v ∧ W.frozen? ⟨w.heap.size + 1 + 1, j, none⟩ = false
  a3 : ∀ (j : Nat) v, c3[j]? = some v → W.cell? ⟨w.heap.size + 1 + 1 + 1, j, none⟩ = some v ∧ W.frozen? ⟨w.heap.size + 1 + 1 + 1, j, none⟩ = false
theorem four (w W : World) (c0 c1 c2 c3 : Array Value) (t0 t1 t2 t3 : Nat) (h : W = (((w.alloc (.cells c0 t0)).alloc (.cells c1 t1)).alloc (.cells c2 t2)).alloc (.cells c3 t3)) : Four w W c0 c1 c2 c3 := by
  obtain ⟨wa, ha⟩ : ∃ wa, wa = w.alloc (.cells c0 t0) := ⟨_, rfl⟩
  obtain ⟨wb, hb⟩ : ∃ wb, wb = wa.alloc (.cells c1 t1) := ⟨_, rfl⟩
  obtain ⟨wc, hc⟩ : ∃ wc, wc = wb.alloc (.cells c2 t2) := ⟨_, rfl⟩
  rw [← ha, ← hb, ← hc] at h
  have sa : wa.heap.size = w.heap.size + 1 := by rw [ha]; simp
  have sb : wb.heap.size = w.heap.size + 1 + 1 := by rw [hb]; simp [sa]
  have sc : wc.heap.size = w.heap.size + 1 + 1 + 1 := by rw [hc]; simp [sb]
  have s1 : W.heap.size = w.heap.size + 1 + 1 + 1 + 1 := by rw [h]; simp [sc]
  have ba : Below w.heap.size w wa := by rw [ha]; exact (Below.refl _ _).alloc (Nat.le_refl _) _
  have bb : Below wa.heap.size wa wb := by rw [hb]; exact (Below.refl _ _).alloc (Nat.le_refl _) _
  have bc : Below wb.heap.size wb wc := by rw [hc]; exact (Below.refl _ _).alloc (Nat.le_refl _) _
  have b1 : Below wc.heap.size wc W := by rw [h]; exact (Below.refl _ _).alloc (Nat.le_refl _) _
  have bc1 : Below wb.heap.size wb W := bc.trans (b1.mono (by omega))
  have bb1 : Below wa.heap.size wa W := bb.trans (bc1.mono (by omega))
  refine ⟨s1, ba.trans (bb1.mono (by omega)), fun j v hv => ?_, fun j v hv => ?_, fun j v hv => ⟨?_, ?_⟩, fun j v hv => ⟨?_, ?_⟩⟩
  · rw [bb1.cell (p := ⟨w.heap.size, j, none⟩) (show w.heap.size < _ by omega), ha, World.cell?_alloc_new]; exact hv
  · rw [← sa, bc1.cell (p := ⟨wa.heap.size, j, none⟩) (show wa.heap.size < _ by omega), hb, World.cell?_alloc_new]; exact hv
  · rw [← sb, b1.cell (p := ⟨wb.heap.size, j, none⟩) (show wb.heap.size < _ by omega), hc, World.cell?_alloc_new]; exact hv
  · rw [← sb, b1.frozen (p := ⟨wb.heap.size, j, none⟩) (show wb.heap.size < _ by omega), hc]; simp
  · rw [← sc, h, World.cell?_alloc_new]; exact hv
  · rw [← sc, h]; simp

set_option maxRecDepth 100000 in
set_option maxHeartbeats 8000000 in
theorem wo_nil (hIA : IApply) {ws : List Int} {l : List Nd} (hT : termOk l = true) (hty : Ty ws (root l)) : PWo ws l [] := by
  intro w aq a cq c e hQ hcq hN hE
  obtain ⟨hl1, hl2⟩ := term_len hT
  have HN : Hid (Nodes w a l) := hN
  have HE : Hid (EnvOk ws e) := hE
  have HFN : Hid (FitN l (l.length - 1) e) := by
    obtain ⟨r, h1, h2⟩ := need_ty (root l) (rt_all (down_of hT) (fun k hk => term_node hT hk) (l.length - 1) (by omega)).1 hty
    exact ⟨r, h1, fits_ty h2 hE⟩
  have HV : Hid (hf [] (root l) e = vT (tr l (l.length - 1)) e) := rfl
  have HPV : Hid (PVal l (l.length - 1)) := pVal hIA hT hl2 (l.length - 1) (by omega)
  obtain ⟨zc, hzc⟩ : ∃ zc : Array Value, zc = Tryz.zeroCells70 := ⟨_, rfl⟩
  have hZ : Zc zc := by rw [hzc]; exact zc_of
  have hw1 : IntKind.i64.wrap ((l.length : Int) - 1) = (l.length : Int) - 1 := by rw [IntKind.wrap_i64] <;> omega
  have e1 : ((l.length - 1 : Nat) : Int) = (l.length : Int) - 1 := by omega
  clear hN hE hQ
  unfold agg
  rw [show ([] : List Qu).length = 0 from rfl]
  obtain ⟨W4, hW4⟩ : ∃ W4 : World, W4 = (((w.alloc (.cells #[.slice aq 0 cq] 52)).alloc (.cells #[.slice a l.length c] 24)).alloc (.cells #[.int .i64 (wd e 0), .int .i64 (wd e 1), .int .i64 (wd e 2), .int .i64 (wd e 3), .int .i64 (wd e 4), .int .i64 (wd e 5), .int .i64 (wd e 6), .int .i64 (wd e 7)] 54)).alloc (.cells #[.int .i64 0] 3) := ⟨_, rfl⟩
  have F := four w W4 _ _ _ _ _ _ _ _ hW4
  have hs4 := F.sz
  have HF : Hid (Four w W4 #[.slice aq 0 cq] #[.slice a l.length c] #[.int .i64 (wd e 0), .int .i64 (wd e 1), .int .i64 (wd e 2), .int .i64 (wd e 3), .int .i64 (wd e 4), .int .i64 (wd e 5), .int .i64 (wd e 6), .int .i64 (wd e 7)] #[.int .i64 0]) := F
  clear F
  go_enter Tryz.func21, Tryz.ntmps21
  go_wp2_with (rw [← hzc, ← hW4]; refine store_new _ rfl 70 (.tmp 7) (.tmp 17) rfl zc (scCells zc a l.length c e) _ rfl hs4.symm rfl (by rw [sc_size hZ]; exact info_sc) (by rw [sc_size hZ]; exact hZ.size) (sc_one hZ _ _ _ _) ?_; clear hzc; have hsc := (sc_new W4 hZ a l c 70 e).1; have hBW : Below W4.heap.size W4 (W4.alloc (.cells (scCells zc a l.length c e) 70)) := (Below.refl _ _).alloc (Nat.le_refl _) _; generalize W4.alloc (.cells (scCells zc a l.length c e) 70) = W5 at hsc hBW; rw [hs4] at hsc; have r1 : W5.cell? ⟨w.heap.size + 1, 0, none⟩ = some (.slice a l.length c) := (hBW.cell (p := ⟨w.heap.size + 1, 0, none⟩) (show w.heap.size + 1 < _ by omega)).trans (HF.out.a1 0 _ rfl); have HSC : Hid (Sc W5 (w.heap.size + 1 + 1 + 1 + 1) a l c e (fun _ => false) (fun _ => 0)) := hsc; have HBW : Hid (Below W4.heap.size W4 W5) := hBW; clear hsc hBW)
  have hN4 : Nodes W4 a l := HN.out.below HF.out.below
  have hblk : ∀ y, a = some y → y.block ≠ w.heap.size + 1 + 1 + 1 + 1 := fun y hy h => by
    rcases HN.out.2 with h0 | ⟨xb, xo, hx, hc⟩
    · omega
    · rw [hy] at hx
      have h9 := (hc 0 (by omega)).lt
      have h10 := Option.some.inj hx
      rw [h10] at h
      have : xb = w.heap.size + 1 + 1 + 1 + 1 := h
      omega
  have hcall := HPV.out W5 (w.heap.size + 1 + 1 + 1 + 1) a c e _ _ (hN4.below HBW.out) hblk HE.out.1 HSC.out HFN.out
  rw [e1] at hcall
  refine hcall.mono ?_
  rintro x0 w6 ⟨rfl, _, hK6⟩
  have q0 : w6.cell? ⟨w.heap.size + 1 + 1 + 1, 0, none⟩ = some (.int .i64 0) := by
    rw [hK6.cell (p := ⟨w.heap.size + 1 + 1 + 1, 0, none⟩) (show w.heap.size + 1 + 1 + 1 < _ by have := HBW.out.size; omega) (show ¬ w.heap.size + 1 + 1 + 1 = _ by omega), HBW.out.cell (p := ⟨w.heap.size + 1 + 1 + 1, 0, none⟩) (show w.heap.size + 1 + 1 + 1 < _ by omega)]
    exact (HF.out.a3 0 _ rfl).1
  have q1 : w6.frozen? ⟨w.heap.size + 1 + 1 + 1, 0, none⟩ = false := by
    rw [hK6.frozen (p := ⟨w.heap.size + 1 + 1 + 1, 0, none⟩) (show w.heap.size + 1 + 1 + 1 < _ by have := HBW.out.size; omega) (show ¬ w.heap.size + 1 + 1 + 1 = _ by omega), HBW.out.frozen (p := ⟨w.heap.size + 1 + 1 + 1, 0, none⟩) (show w.heap.size + 1 + 1 + 1 < _ by omega)]
    exact (HF.out.a3 0 (.int .i64 0) rfl).2
  have HB6 : Hid (Below w.heap.size w w6) := by
    have h1 : Below w.heap.size w W5 := HF.out.below.trans (HBW.out.mono (by omega))
    exact h1.trans (hK6.below (fun b (hb : b = w.heap.size + 1 + 1 + 1 + 1) => by omega) h1.size)
  clear hcall hK6 hN4 hblk hW4
  generalize vT (tr l (l.length - 1)) e = val at HV ⊢
  go_wp2
  refine bodyPost_ret (results_int rfl (set_same q0)) rfl ?_
  refine ⟨by rw [HV.out], ?_⟩
  exact HB6.out.setCell (p := ⟨w.heap.size + 1 + 1 + 1, 0, none⟩) (show w.heap.size ≤ w.heap.size + 1 + 1 + 1 by omega) _

end Go.Proofs.YtejoeahehljhnaaGreat.Fp4
