import Derived.Laws.MakeOwn
import Derived.Test.YtiaimhgfimhepaaGreatDoorRows
import Derived.SizedLaws
import Derived.Test.YtiaimhgfimhepaaGreatDoorPkVV22
import Derived.Test.YtiaimhgfimhepaaGreatDoorPkVV24
import Derived.Test.YtiaimhgfimhepaaGreatDoorPkVV9
import Derived.Test.YtiaimhgfimhepaaGreatDoorPkVV23
import Derived.Test.YtiaimhgfimhepaaGreatDoorPt1
import Derived.Test.YtiaimhgfimhepaaGreatDoorPkVV37
import Derived.Test.YtiaimhgfimhepaaGreatDoorPg6
namespace Go.Proofs.YtiaimhgfimhepaaGreatDoor
set_option maxRecDepth 100000
set_option maxHeartbeats 8000000
set_option linter.unusedVariables false
namespace Pg7
open Go.RowKit
open Nd0 Tm0 Tm1 Tm2 Ap0 Pg2 Rw0
open Lx1 (ITermOk)
open Lx2 (IReached)
open Ws1 (ret_int ret_bool)
theorem zeros : Tryz.zeroCells41 = Array.replicate 80 (.bool false) := by kernel_rfl
theorem zeros_get (i : Nat) (h : i < 80) : Tryz.zeroCells41[i]? = some (.bool false) := by
 rw [zeros, Array.getElem?_replicate, if_pos h]
theorem iReached (hTO : ITermOk) (w : World) (a : Option Addr) (l : List Nd) (c : Nat) (hN : Nodes w a l) (hcap : l.length <= c) (hlen : l.length <= 1048576) :
 Calls Tryz.prog 22 #[.slice a l.length c] w fun e w' => (∃ a' c', e = .returned (.slice a' (reachedL l).length c') /\ WInts w' w.heap.size a' (reachedL l)) /\ Below w.heap.size w w' := by
 have HN : Hid (Nodes w a l) := hN
 have HTO : Hid ITermOk := hTO
 have HCAP : Hid (l.length <= c) := hcap
 clear hcap hN hTO
 go_enter Tryz.func22, Tryz.ntmps22
 go_wp2_with fail
 refine (HTO.out _ a l c (HN.out.below ((Below.refl _ _).alloc (Nat.le_refl _) _)) HCAP.out hlen).mono ?_
 rintro e w1 ⟨rfl, hb1⟩
 have HB1 : Hid (Below w.heap.size w w1) := ((Below.refl _ _).alloc (Nat.le_refl _) _).trans (hb1.mono (by simp))
 have HL1 : Hid (Ows w1 w.heap.size (.slice (some ⟨w.heap.size, 0, none⟩) 0 0) []) := (Ows.lit w _ (Nat.le_refl _)).kept (S := fun _ => False) (Kept.ofBelow hb1) (fun _ _ h => h)
 clear hb1
 cases hT : termOk l
 ·go_wp2
  go_ret
  have e0 : reachedL l = [] := by unfold reachedL; rw [hT]; rfl
  rw [e0]
  exact ⟨⟨_, _, rfl, Nat.zero_le _, .inl rfl⟩, HB1.out⟩
 ·have HT : Hid (termOk l = true) := hT
  obtain ⟨hl1, hl2⟩ := term_len hT
  have hz := zeros_get (l.length - 1) (by omega)
  go_wp2
  clear hz hT
  have HR0 : Hid (Row (w1.alloc (.cells (Tryz.zeroCells41.setIfInBounds (l.length - 1) (.bool true)) 41)) w1.heap.size l.length (fun i => .bool (flag (reachInit l.length) i))) := by
   refine Row.new _ _ _ _ _ (fun i hi => ?_)
   rw [zeros, Array.getElem?_setIfInBounds, Array.getElem?_replicate]
   have e1 : flag (reachInit l.length) i = (i + 1 == l.length) := by simp [flag, reachInit, List.getD, hi]
   by_cases e : l.length - 1 = i
   ·rw [if_pos e, if_pos (by simp; omega), e1]
    have : (i + 1 == l.length) = true := by simp; omega
    rw [this]
   ·rw [if_neg e, if_pos (by omega), e1]
    have : (i + 1 == l.length) = false := by simp; omega
    rw [this]
  have HBA : Hid (Below w1.heap.size w1 (w1.alloc (.cells (Tryz.zeroCells41.setIfInBounds (l.length - 1) (.bool true)) 41))) := (Below.refl _ _).alloc (Nat.le_refl _) _
  obtain ⟨wa, hwa⟩ : ∃ wa : World, wa = w1.alloc (.cells (Tryz.zeroCells41.setIfInBounds (l.length - 1) (.bool true)) 41) := ⟨_, rfl⟩
  rw [<- hwa] at HR0 HBA ⊢
  clear hwa
  obtain ⟨g, hg⟩ : ∃ g : Nat, g = w1.heap.size := ⟨_, rfl⟩
  rw [<- hg] at HR0 ⊢
  have HG : Hid (g = w1.heap.size) := hg
  clear hg
  go_loopw [5] (fun q wr => ∃ j : Nat, j <= l.length /\ q = .int .i64 ((j : Int) - 1) /\ ∃ bs : List Bool, Row wr g l.length (fun i => .bool (flag bs i)) /\ bs.length = l.length /\ reachDown l j bs = reachL l /\ Below w1.heap.size w1 wr) (fun q _ => (intOf q + 1).toNat)
  case atStart => exact ⟨l.length, Nat.le_refl _, rfl, _, HR0.out, reachInit_length _, rfl, HBA.out⟩
  case round =>
   clear HR0 HBA
   obtain ⟨j, hj, rfl, bs, hr, hbl, hrd, hbb⟩ := hrel
   have HRO : Hid (Row wr g l.length (fun i => .bool (flag bs i))) := hr
   have HRD : Hid (reachDown l j bs = reachL l) := hrd
   have HBB : Hid (Below w1.heap.size w1 wr) := hbb
   have HBL : Hid (bs.length = l.length) := hbl
   clear hr hrd hbb hbl
   cases j with
   | zero =>
     have hneg : ¬ (0 : Int) <= ((0 : Nat) : Int) - 1 := by omega
     have HRD0 : Hid (bs = reachL l) := HRD.out
     have HRX : Hid (Row wr g l.length (fun i => .bool (flag (reachL l) i))) := HRD0.out ▸ HRO.out
     have HL2 : Hid (Ows wr w.heap.size (.slice (some ⟨w.heap.size, 0, none⟩) 0 0) []) := HL1.out.kept (S := fun _ => False) (Kept.ofBelow HBB.out) (fun _ _ h => h)
     have HBW : Hid (Below w.heap.size w wr) := HB1.out.trans (HBB.out.mono HB1.out.size)
     obtain ⟨wz, rfl⟩ : ∃ wz : World, wz = wr := ⟨_, rfl⟩
     go_wp2
     go_loopw [3, 43] (fun v q wr => ∃ k : Nat, k <= l.length /\ q = .int .i64 k /\ Ows wr w.heap.size v (reachTo l k) /\ Below w.heap.size w wr /\ Row wr g l.length (fun i => .bool (flag (reachL l) i)) /\ (∀ x, v.ownBlock = some x -> x ≠ g)) (fun _ q _ => l.length - (intOf q).toNat)
     case atStart =>
      refine ⟨0, Nat.zero_le _, rfl, HL2.out, HBW.out, HRX.out, fun x hx => ?_⟩
      have := (HL1.out.lt x hx).2
      have := HG.out
      omega
     case round =>
      clear HL2 HBW HRX
      obtain ⟨k, hk, rfl, ho, hb, hr, hne⟩ := hrel
      have HO : Hid (Ows wr w.heap.size u3 (reachTo l k)) := ho
      have HB : Hid (Below w.heap.size w wr) := hb
      have HR : Hid (Row wr g l.length (fun i => .bool (flag (reachL l) i))) := hr
      have HNE : Hid (∀ x, u3.ownBlock = some x -> x ≠ g) := hne
      have hBs : w.heap.size <= wr.heap.size := hb.size
      have hrl := reachTo_length l k
      clear hb hr hne
      by_cases hlt : k < l.length
      ·clear ho
       have hlz : (k : Int) < (l.length : Int) := by omega
       have hk80 : (k : Int) < 80 := by omega
       have cI : wr.cell? ⟨g, k, none⟩ = some (.bool (flag (reachL l) k)) := (HR.out k hlt).1
       have HTS : Hid (reachTo l (k + 1) = if flag (reachL l) k then reachTo l k ++ [(k : Int)] else reachTo l k) := reachTo_succ l k
       cases hf : flag (reachL l) k
       ·rw [hf] at cI
        have HT2 : Hid (reachTo l (k + 1) = reachTo l k) := by
         show _ = _
         rw [HTS.out, hf]; rfl
        go_wp2
        go_roundw
        case rel => exact ⟨k + 1, by omega, by go_num, HT2.out.symm ▸ HO.out, HB.out, HR.out, HNE.out⟩
        case measure => simp [intOf]; omega
       ·rw [hf] at cI
        have HT2 : Hid (reachTo l (k + 1) = reachTo l k ++ [(k : Int)]) := by
         show _ = _
         rw [HTS.out, hf]; rfl
        go_wp2_with (at_builtin; go_must (refine app_int _ rfl _ _ rfl w.heap.size u3 (reachTo l k) (k : Int) rfl rfl HO.out hBs (by omega) ?_; intro g' cp w3 ho3 hk3 hg3))
        have HO3 : Hid (Ows w3 w.heap.size (.slice (some ⟨g', 0, none⟩) ((reachTo l k).length + 1) cp) (reachTo l k ++ [(k : Int)])) := ho3
        have HK3 : Hid (Kept (fun k => u3.ownBlock = some k) wr w3) := hk3
        have HG3 : Hid (u3.ownBlock = some g' \/ wr.heap.size <= g') := hg3
        clear ho3 hk3 hg3
        go_wp2
        go_roundw
        case rel =>
         refine ⟨k + 1, by omega, by go_num, HT2.out.symm ▸ HO3.out, HB.out.trans (HK3.out.below (fun k hk => (HO.out.lt k hk).1) hBs), HR.out.kept HK3.out (fun e => HNE.out g e rfl), fun x hx => ?_⟩
         cases hx
         rcases HG3.out with e | e
         ·exact HNE.out _ e
         ·have := HR.out.lt (by omega)
          show g' ≠ g
          omega
        case measure => simp [intOf]; omega
      ·have e2 : k = l.length := by omega
       subst e2
       obtain ⟨a9, c9, rfl, hw9⟩ := ho.form
       have HW9 : Hid (WInts wr w.heap.size a9 (reachTo l l.length)) := hw9
       clear ho hw9 HO
       go_wp2
       go_ret
       have e0 : reachedL l = reachTo l l.length := by unfold reachedL; rw [HT.out]; rfl
       rw [e0]
       exact ⟨⟨_, _, rfl, HW9.out⟩, HB.out⟩
   | succ i =>
     have hp : (0 : Int) <= ((i + 1 : Nat) : Int) - 1 := by omega
     have hie : ((i + 1 : Nat) : Int) - 1 = (i : Int) := by omega
     rw [hie]
     clear hie hp
     have hiz : (i : Int) < (l.length : Int) := by omega
     have hi80 : (i : Int) < 80 := by omega
     have cI : wr.cell? ⟨g, i, none⟩ = some (.bool (flag bs i)) := (HRO.out i (by omega)).1
     cases hfb : flag bs i
     ·rw [hfb] at cI
      have HST : Hid (reachDown l i bs = reachL l) := by
       show _ = _
       rw [<- HRD.out]
       show _ = reachDown l i (reachStep l bs i)
       unfold reachStep
       rw [hfb]; rfl
      go_wp2
      go_roundw
      case rel => exact ⟨i, by omega, by go_num, bs, HRO.out, HBL.out, HST.out, HBB.out⟩
      case measure => simp [intOf]
     ·rw [hfb] at cI
      rcases ((HN.out.below HB1.out).below HBB.out).2 with h0 | ⟨xb, xo, rfl, hc⟩
      ·omega
      obtain ⟨p0, p1, p2, p3, p4, p5⟩ := hc i (by omega)
      rw [nth_get (by omega : i < l.length)] at p0 p1 p2 p3 p4 p5
      clear hc
      have HPO := parts_ok (term_node HT.out (by omega : i < l.length))
      generalize hn : nth l i = n at p0 p1 p2 p3 p4 p5 HPO
      have HD : Hid (nth l i = n) := hn
      have HPO' : Hid (∀ k (hk : k < (parts n).length), 0 <= (parts n)[k] /\ (parts n)[k] < i) := HPO
      clear hn HPO
      obtain ⟨wb, rfl⟩ : ∃ wb : World, wb = wr := ⟨_, rfl⟩
      have hgb : g < wb.heap.size := HRO.out.lt (by omega)
      go_wp2_with fail
      refine (iParts n _).mono ?_
      rintro e w2 ⟨⟨pa, pc, rfl, hpi⟩, hb2⟩
      have HP : Hid (IntsIn w2 wb.heap.size w2.heap.size pa (parts n)) := hpi.within
      have HRW : Hid (Row w2 g l.length (fun i => .bool (flag bs i))) := HRO.out.below hb2
      have HB2 : Hid (Below w1.heap.size w1 w2) := HBB.out.trans (hb2.mono HBB.out.size)
      clear hpi hb2 p0 p1 p2 p3 p4 p5 cI
      have hpl := parts_le n
      go_wp2_with fail
      go_loopw [34] (fun q wr => ∃ k : Nat, k <= (parts n).length /\ q = .int .i64 k /\ ∃ b3 : List Bool, Row wr g l.length (fun i => .bool (flag b3 i)) /\ b3.length = l.length /\ markAll b3 ((parts n).drop k) = markAll bs (parts n) /\ Kept (fun x => x = g) w2 wr) (fun q _ => (parts n).length - (intOf q).toNat)
      case atStart => exact ⟨0, Nat.zero_le _, rfl, bs, HRW.out, HBL.out, rfl, Kept.refl _ _⟩
      case round =>
       obtain ⟨k, hk, rfl, b3, hr3, hl3, hm3, hk3⟩ := hrel
       have HR3 : Hid (Row wr g l.length (fun i => .bool (flag b3 i))) := hr3
       have HL3 : Hid (b3.length = l.length) := hl3
       have HM3 : Hid (markAll b3 ((parts n).drop k) = markAll bs (parts n)) := hm3
       have HK3 : Hid (Kept (fun x => x = g) w2 wr) := hk3
       clear hr3 hl3 hm3 hk3
       by_cases hlt : k < (parts n).length
       ·have hlz : (k : Int) < ((parts n).length : Int) := by omega
        rcases (HP.out.kept HK3.out (fun b h1 h2 e => by omega)).2 with h0 | ⟨pb, po, rfl, hpB, hpU, hpc⟩
        ·omega
        have q0 := (hpc k hlt).1
        obtain ⟨hx0, hx1⟩ := HPO'.out k hlt
        have HDR : Hid ((parts n).drop k = (parts n)[k] :: (parts n).drop (k + 1)) := List.drop_eq_getElem_cons hlt
        clear hpc hpB hpU
        generalize (parts n)[k] = x at q0 hx0 hx1 HDR
        obtain ⟨jx, rfl⟩ := Int.eq_ofNat_of_zero_le hx0
        obtain ⟨c1, c2⟩ := HR3.out jx (by omega)
        have hxz : (jx : Int) < 80 := by omega
        go_wp2
        go_roundw
        case rel =>
         have hle : jx < b3.length := by rw [HL3.out]; omega
         refine ⟨k + 1, by omega, by go_num, b3.set jx true, ?_, by rw [List.length_set]; exact HL3.out, ?_, HK3.out.setCell rfl _⟩
         ·refine (HR3.out.set (by omega) _).congr (fun i hi => ?_)
          rw [flag_set hle]
          by_cases e : i = jx
          ·rw [if_pos e, if_pos e.symm]
          ·rw [if_neg e, if_neg (fun x => e x.symm)]
         ·have h9 := HM3.out
          rw [HDR.out] at h9
          exact h9
        case measure => simp [intOf]; omega
       ·have HST : Hid (reachDown l i b3 = reachL l) := by
         show _ = _
         rw [<- HRD.out]
         show _ = reachDown l i (reachStep l bs i)
         unfold reachStep
         rw [hfb, HD.out]
         have h9 := HM3.out
         rw [List.drop_of_length_le (by omega)] at h9
         exact congrArg _ h9
        go_wp2
        go_roundw
        case rel => exact ⟨i, by omega, by go_num, b3, HR3.out, HL3.out, HST.out, HB2.out.trans (HK3.out.below (fun k hk => by have := HG.out; omega) HB2.out.size)⟩
        case measure => simp [intOf]
end Pg7
namespace Tx6
open Nd0 Pl1 Tm0 Tm1 Tm2 Tm8 Tx0 Tx2 Tx3 Tx5 Ss10
open Ss9 (Wr wr_of)
def pt (l : List Nd) (k i : Nat) : List UInt8 := if flag (reachL l) i = true /\ (reachTo l i).length < k then X l i else []
def pts (l : List Nd) (k : Nat) : List (List UInt8) := (List.range l.length).map (pt l k)
theorem pts_length (l : List Nd) (k : Nat) : (pts l k).length = l.length := by simp [pts]
theorem pts_get (l : List Nd) (k i : Nat) (h : i < (pts l k).length) : (pts l k)[i] = pt l k i := by simp [pts]
theorem pts_txt {l : List Nd} {k i : Nat} (h : i < l.length) : txt (pts l k) (i : Int) = pt l k i := by
 rw [txt_nat]
 simp [pts, List.getD_eq_getElem?_getD, h]
theorem pt_zero (l : List Nd) (i : Nat) : pt l 0 i = [] := by
 unfold pt
 rw [if_neg (by omega)]
theorem pt_succ {l : List Nd} {k x : Nat} (hf : flag (reachL l) x = true) (hk : (reachTo l x).length = k) (i : Nat) : pt l (k + 1) i = if i = x then X l x else pt l k i := by
 unfold pt
 by_cases e : i = x
 ·subst e
  rw [if_pos rfl, if_pos ⟨hf, by omega⟩]
 ·rw [if_neg e]
  by_cases hi : flag (reachL l) i = true
  ·have hne : (reachTo l i).length ≠ k := fun h => e (reachTo_inj l hi hf (by omega))
   by_cases hlt : (reachTo l i).length < k
   ·rw [if_pos ⟨hi, by omega⟩, if_pos ⟨hi, hlt⟩]
   ·rw [if_neg (by omega), if_neg (by omega)]
  ·rw [if_neg (fun h => hi h.1), if_neg (fun h => hi h.1)]
theorem pts_short {l : List Nd} (hT : termOk l = true) (k : Nat) : ∀ t ∈ pts l k, t.length <= 4000 := by
 intro t ht
 obtain ⟨i, hi, rfl⟩ := List.mem_map.1 ht
 have hil := List.mem_range.1 hi
 unfold pt
 split
 ·have h9 := showTo_short hT (k := l.length) (Nat.le_refl _) (X l i) (by
   have hlt : i < (showTo l l.length).length := by rw [showTo_length]; exact hil
   rw [<- showTo_get l hlt (Nat.le_refl _)]
   exact List.getElem_mem hlt)
  exact h9
 ·simp
theorem wr_at {l : List Nd} (hT : termOk l = true) {x : Nat} (hx : x < l.length) : Wr (nth l x) l.length := by
 have hall : ∀ k, k < l.length -> nodeOk l k = true := fun _ hk => term_node hT hk
 have h := wr_of (l := l) (i := x) (fun j hj => (node_width (hall j (by omega))).2) (hall x hx)
 exact ⟨h.w0, h.w1, h.k0, h.b0, fun p hp => by have := h.ps p hp; omega, h.op⟩
theorem step_text {l : List Nd} (hT : termOk l = true) {x k : Nat} (hx : x < l.length) (hf : flag (reachL l) x = true) (hk : (reachTo l x).length = k)
 (hd : ∀ i, i < l.length -> flag (reachL l) i = true -> (reachTo l i).length < k -> X l i ≠ []) :
 X l x = if 4000 < (progN (nth l x) (pts l k)).length then [] else progN (nth l x) (pts l k) := by
 have hD := down_of hT
 have hW := wr_at hT hx
 have hpp : ∀ p ∈ parts (nth l x), txt (pts l k) p = txt (showTo l l.length) p /\ txt (pts l k) p ≠ [] := by
  intro p hp
  have hpd := hD x hx p hp
  obtain ⟨y, rfl⟩ : ∃ y : Nat, p = (y : Int) := ⟨p.toNat, by omega⟩
  have hyf : flag (reachL l) y = true := by
   have := reach_closed hD hx hf hp
   rwa [Int.toNat_natCast] at this
  have hyk : (reachTo l y).length < k := by rw [<- hk]; exact reachTo_lt l (by omega) hyf
  have e : txt (pts l k) (y : Int) = X l y := by
   rw [pts_txt (by omega)]
   unfold pt
   rw [if_pos ⟨hyf, hyk⟩]
  refine ⟨e, ?_⟩
  rw [e]
  exact hd y (by omega) hyf hyk
 have h1 : progN (nth l x) (pts l k) = progN (nth l x) (showTo l l.length) := prog_congr (fun p hp => (hpp p hp).1)
 rw [X_at hD hx, h1]
 refine prog_show hW.op.1 hW.op.2 (fun h => prog_small h (hW.k0 (by omega)) ⟨hW.w0, hW.w1⟩) (fun p hp => ?_)
 rw [<- (hpp p hp).1]
 exact (hpp p hp).2
theorem has_true {l : List Nd} (h : showL l ≠ []) : hasB l = true := by
 unfold hasB
 have : ¬ (showL l).length = 0 := fun e => h (List.eq_nil_of_length_eq_zero e)
 simp [this]
theorem has_false {l : List Nd} (h : showL l = []) : hasB l = false := by
 unfold hasB; rw [h]; rfl
end Tx6
namespace Pt2
open Go.RowKit
open Nd0 Nd3 Tm0 Tm1 Tm2 Tm8 Tx0 Tx2 Tx5 Tx6 Ss0 Ss1 Ss2 Ss10 Ap4 Rw0 Tb0 Pt1 Ic3
open Lx1 (ITermOk)
open Lx2 (IReached)
def blanks (n : Nat) : Array Value := madeCells #[.string ⟨#[]⟩] (n * 1)
theorem blanks_get (n j : Nat) (h : j < n) : (blanks n)[j]? = some (.string (bs [])) := by
 simp only [blanks, madeCells, Array.getElem?_map, Array.getElem?_range]
 rw [if_pos (by omega)]
 simp only [Option.map_some, List.size_toArray, List.length_cons, List.length_nil, Nat.zero_add, Nat.mod_one]
 rfl
theorem makeStrs (n : Nat) (hn : n <= 1048576) (w : World) :
 (Instr.makeSlice 75 (.int .i64 (n : Int)) (.int .i64 (n : Int))).run Tryz.prog w = .ok (.slice (some ⟨w.heap.size, 0, none⟩) n n) (w.alloc (.cells (blanks n) 9)) := by
 obtain ⟨i, hi, hzz⟩ := Option.map_eq_some_iff.1 infoStr
 simp only [Prod.mk.injEq] at hzz
 obtain ⟨hz, hs, hb⟩ := hzz
 have h := run_make (P := Tryz.prog) w 75 9 i _ Tryz.underlying75 hi hz .i64 .i64 n n (by omega) (Int.le_refl _) (by rw [hb]; omega) (by omega)
 rw [hs] at h
 simpa [blanks, Value.cells] using h
theorem row_strs {w : World} {g : Nat} {l : List Nd} {k : Nat} (h : Row w g l.length (fun i => .string (bs (pt l k i)))) (hl : l.length <= 1048576) : Strs w (some ⟨g, 0, none⟩) (pts l k) := by
 refine ⟨by rw [pts_length]; unfold maxLen; omega, .inr ⟨g, 0, rfl, fun i hi => ?_⟩⟩
 have hil : i < l.length := by rw [pts_length] at hi; exact hi
 rw [Nat.zero_add, pts_get, (h i hil).1]
theorem iNodeTextL (n : Nd) (w : World) (ta : Option Addr) (ts : List (List UInt8)) (tc m : Nat) (y : List UInt8) (hm : ts.length = m) (hy : progN n ts = y) (hT : Tabs w) (hS : Strs w ta ts) (hW : Ss9.Wr n m) (hl : ∀ t ∈ ts, t.length <= 4000) :
 Calls Tryz.prog 44 #[.agg #[.int .i64 n.op, .int .i64 n.w, .int .i64 n.k, .int .i64 n.a, .int .i64 n.b, .int .i64 n.c], .slice ta m tc] w fun e w' => e = .returned (.string (bs y)) /\ Below w.heap.size w w' := by
 subst hm; subst hy
 exact iNodeText n w ta ts tc hT hS hW hl
theorem iShowTermOf (hTO : ITermOk) (hRE : IReached) : IShowTerm := by
 intro w a l c hTb hN hcap hlen
 have HN : Hid (Nodes w a l) := hN
 have HTB : Hid (Tabs w) := hTb
 have HTO : Hid ITermOk := hTO
 have HRE : Hid IReached := hRE
 have HCAP : Hid (l.length <= c) := hcap
 clear hcap hN hTO hRE hTb
 go_enter Tryz.func25, Tryz.ntmps25
 go_wp2_with fail
 refine (HTO.out _ a l c HN.out HCAP.out hlen).mono ?_
 rintro e w1 ⟨rfl, hb1⟩
 have HB1 : Hid (Below w.heap.size w w1) := hb1
 clear hb1
 cases hT : termOk l
 ·have HE : Hid (showL l = []) := by
   show _ = _
   unfold showL; rw [hT]; rfl
  go_wp2
  go_ret2
  rw [HE.out, has_false HE.out]
  exact ⟨rfl, HB1.out⟩
 ·have HT : Hid (termOk l = true) := hT
  obtain ⟨hl1, hl2⟩ := term_len hT
  clear hT
  have hmk := makeStrs l.length hlen
  go_wp2_with fail
  clear hmk
  have hAl : Below w1.heap.size w1 (w1.alloc (.cells (blanks l.length) 9)) := (Below.refl _ _).alloc (Nat.le_refl _) _
  have HRW0 : Hid (Row (w1.alloc (.cells (blanks l.length) 9)) w1.heap.size l.length (fun i => .string (bs (pt l 0 i)))) := Row.new _ _ _ _ _ (fun i hi => by rw [pt_zero]; exact blanks_get _ _ hi)
  refine (HRE.out _ a l c ((HN.out.below HB1.out).below hAl) HCAP.out hlen).mono ?_
  rintro e w2 ⟨⟨a2, c2, rfl, hi2⟩, hb2⟩
  have hszA : (w1.alloc (.cells (blanks l.length) 9)).heap.size = w1.heap.size + 1 := by simp
  have HR2 : Hid (Row w2 w1.heap.size l.length (fun i => .string (bs (pt l 0 i)))) := HRW0.out.below hb2
  have HRE2 : Hid (reachedL l = reachTo l l.length) := by
   show _ = _
   unfold reachedL; rw [HT.out]; rfl
  have HI2 : Hid (IntsIn w2 (w1.heap.size + 1) w2.heap.size a2 (reachTo l l.length)) := by
   have h9 := hi2.within
   rw [hszA, HRE2.out] at h9
   exact h9
  have HB2 : Hid (Below w.heap.size w w2) := (HB1.out.trans (hAl.mono HB1.out.size)).trans (hb2.mono (by have := HB1.out.size; omega))
  have hs2 : w1.heap.size + 1 <= w2.heap.size := by rw [<- hszA]; exact hb2.size
  have HW1 : Hid (w.heap.size <= w1.heap.size) := HB1.out.size
  clear hi2 hb2 hAl HRW0 hszA
  rw [HRE2.out]
  obtain ⟨gp, hgp⟩ : ∃ gp : Nat, gp = w1.heap.size := ⟨_, rfl⟩
  rw [<- hgp] at HR2 HI2 HW1 hs2 ⊢
  clear hgp
  have hRl := reachTo_length l l.length
  go_wp2_with fail
  go_loopw [16] (fun q wr => ∃ k : Nat, k <= (reachTo l l.length).length /\ q = .int .i64 k /\ Row wr gp l.length (fun i => .string (bs (pt l k i))) /\ Below w.heap.size w wr /\ IntsIn wr (gp + 1) w2.heap.size a2 (reachTo l l.length) /\ w2.heap.size <= wr.heap.size /\ (∀ i, i < l.length -> flag (reachL l) i = true -> (reachTo l i).length < k -> X l i ≠ [])) (fun q _ => (reachTo l l.length).length - (intOf q).toNat)
  case atStart => exact ⟨0, Nat.zero_le _, rfl, HR2.out, HB2.out, HI2.out, Nat.le_refl _, fun i _ _ h => by omega⟩
  case round =>
   clear HB2 HR2 HI2
   obtain ⟨k, hk, rfl, hr, hb, hi, hsz, hd⟩ := hrel
   have HB : Hid (Below w.heap.size w wr) := hb
   have HR : Hid (Row wr gp l.length (fun i => .string (bs (pt l k i)))) := hr
   have HI : Hid (IntsIn wr (gp + 1) w2.heap.size a2 (reachTo l l.length)) := hi
   have HD : Hid (∀ i, i < l.length -> flag (reachL l) i = true -> (reachTo l i).length < k -> X l i ≠ []) := hd
   have HSZ : Hid (w2.heap.size <= wr.heap.size) := hsz
   have hBs : w.heap.size <= wr.heap.size := hb.size
   clear hb hr hi hd hsz
   by_cases hlt : k < (reachTo l l.length).length
   ·have hjz : (k : Int) < ((reachTo l l.length).length : Int) := by omega
    obtain ⟨x, hx, hxl, hxf, hxj⟩ := reach_at l l.length k hlt
    rcases HI.out.2 with h0 | ⟨pb, po, rfl, hpB, hpU, hpc⟩
    ·omega
    have q0 := (hpc k hlt).1
    rw [hx] at q0
    clear hpc hx
    have hxz : (x : Int) < (l.length : Int) := by omega
    have HXF : Hid (flag (reachL l) x = true) := hxf
    have HXJ : Hid ((reachTo l x).length = k) := hxj
    have HST := step_text HT.out hxl hxf hxj HD.out
    have HWR : Hid (Ss9.Wr (nth l x) l.length) := wr_at HT.out hxl
    clear hxf hxj
    rcases (HN.out.below HB.out).2 with h0 | ⟨xb, xo, rfl, hc⟩
    ·omega
    obtain ⟨p0, p1, p2, p3, p4, p5⟩ := hc x hxl
    rw [nth_get hxl] at p0 p1 p2 p3 p4 p5
    clear hc
    generalize nth l x = n at p0 p1 p2 p3 p4 p5 HST HWR
    obtain ⟨y, hy⟩ : ∃ y, progN n (pts l k) = y := ⟨_, rfl⟩
    rw [hy] at HST
    have HY : Hid (progN n (pts l k) = y) := hy
    have HS : Hid (X l x = if 4000 < y.length then [] else y) := HST
    clear hy HST
    go_wp2_with fail
    refine (iNodeTextL n wr _ (pts l k) l.length l.length y (pts_length l k) HY.out (HTB.out.below HB.out) (row_strs HR.out hlen) HWR.out (pts_short HT.out k)).mono ?_
    rintro e w3 ⟨rfl, hb3⟩
    have HR3 : Hid (Row w3 gp l.length (fun i => .string (bs (pt l k i)))) := HR.out.below hb3
    have HI3 : Hid (IntsIn w3 (gp + 1) w2.heap.size (some ⟨pb, po, none⟩) (reachTo l l.length)) := HI.out.kept (S := fun _ => False) (Kept.ofBelow hb3) (fun _ _ _ h => h)
    have HB3 : Hid (Below w.heap.size w w3) := HB.out.trans (hb3.mono hBs)
    have HSZ3 : Hid (w2.heap.size <= w3.heap.size) := Nat.le_trans HSZ.out hb3.size
    obtain ⟨c1, c3⟩ := HR3.out x hxl
    clear hb3 p0 p1 p2 p3 p4 p5 q0
    have c4 : (w3.setCell ⟨gp, x, none⟩ (.string (bs y))).cell? ⟨gp, x, none⟩ = some (.string (bs y)) := set_same c1
    have hys : (bs y).size = y.length := bs_size y
    have HKS : Hid (Kept (fun b => b = gp) w3 (w3.setCell ⟨gp, x, none⟩ (.string (bs y)))) := (Kept.refl (fun b => b = gp) w3).setCell (p := ⟨gp, x, none⟩) rfl _
    have HBS : Hid (Below w.heap.size w (w3.setCell ⟨gp, x, none⟩ (.string (bs y)))) := HB3.out.trans (HKS.out.below (fun b (hb : b = gp) => by have := HW1.out; omega) HB3.out.size)
    by_cases h4 : 4000 < y.length
    ·have h4z : (4000 : Int) < ((bs y).size : Int) := by rw [hys]; omega
     have HE : Hid (showL l = []) := by
      show _ = _
      rw [show_root HT.out hl1]
      exact root_none (down_of HT.out) _ x (Nat.le_refl _) hxl HXF.out (by rw [HS.out, if_pos h4])
     clear hys
     go_wp2
     go_ret2
     rw [HE.out, has_false HE.out]
     exact ⟨rfl, HBS.out⟩
    ·have h4z : ¬ (4000 : Int) < ((bs y).size : Int) := by rw [hys]; omega
     have HXY : Hid (X l x = y) := by show _ = _; rw [HS.out, if_neg h4]
     have HRS : Hid (Row (w3.setCell ⟨gp, x, none⟩ (.string (bs y))) gp l.length (fun i => .string (bs (pt l (k + 1) i)))) := by
      refine (HR3.out.set hxl _).congr (fun i hi => ?_)
      rw [pt_succ HXF.out HXJ.out, HXY.out]
      by_cases e : i = x
      ·simp [e]
      ·simp [e]
     have HIS : Hid (IntsIn (w3.setCell ⟨gp, x, none⟩ (.string (bs y))) (gp + 1) w2.heap.size (some ⟨pb, po, none⟩) (reachTo l l.length)) := HI3.out.kept HKS.out (fun b h1 h2 e => by omega)
     have HSS : Hid (w2.heap.size <= (w3.setCell ⟨gp, x, none⟩ (.string (bs y))).heap.size) := by
      have : (w3.setCell ⟨gp, x, none⟩ (.string (bs y))).heap.size = w3.heap.size := by simp [World.setCell]
      show _ <= _
      rw [this]; exact HSZ3.out
     have HDS : Hid (∀ i, i < l.length -> flag (reachL l) i = true -> (reachTo l i).length < k + 1 -> X l i ≠ []) := by
      show ∀ _, _
      intro i hi hf hl9
      by_cases e : (reachTo l i).length < k
      ·exact HD.out i hi hf e
      ·have ei : i = x := reachTo_inj l hf HXF.out (by have := HXJ.out; omega)
       rw [ei, HXY.out, <- HY.out]
       exact prog_some _ _
     clear hys
     go_wp2
     go_roundw
     case rel => exact ⟨k + 1, by omega, by go_num, HRS.out, HBS.out, HIS.out, HSS.out, HDS.out⟩
     case measure => simp [intOf]; omega
   ·have hjz : ¬ (k : Int) < ((reachTo l l.length).length : Int) := by omega
    have hroot := reach_root (l := l) hl1
    have hrk : (reachTo l (l.length - 1)).length < k := by
     have := reachTo_lt l (a := l.length - 1) (b := l.length) (by omega) hroot
     omega
    have HX : Hid (pt l k (l.length - 1) = showL l) := by
     show _ = _
     unfold pt
     rw [if_pos ⟨hroot, hrk⟩, show_root HT.out hl1]
    have HNE : Hid (showL l ≠ []) := by
     show _ ≠ _
     rw [show_root HT.out hl1]
     exact HD.out _ (by omega) hroot hrk
    have c1 : wr.cell? ⟨gp, l.length - 1, none⟩ = some (.string (bs (showL l))) := by rw [<- HX.out]; exact (HR.out (l.length - 1) (by omega)).1
    have hlz : (l.length : Int) - 1 < (l.length : Int) := by omega
    have hl0 : 0 <= (l.length : Int) - 1 := by omega
    clear hroot hrk
    go_wp2
    go_ret2
    rw [has_true HNE.out]
    exact ⟨rfl, HB.out⟩
end Pt2
namespace Pr14
open Pg6 Pg7 Pt2 Pt3 Ic3
theorem iShowTerm : IShowTerm := iShowTermOf iTermOk (iReached iTermOk)
end Pr14
namespace Hs0
variable {H : Type} {enc : TypeId × Value -> H}
theorem andShaped {C : Checked} {os : Os} {f : FuncId} {fn : Func} {s : ChangeSpec} {apart fresh handsOn again : Bool} {X : World -> Array Value -> Prop}
 (hX : ∀ (w w' : World) (args : Array Value), w.heap = w'.heap -> X w args -> X w' args)
 (own : ownKnob C.prog.godebug = none) (started : os.Started) (noInit : C.prog.inits.idxOf? f = none) (hfn : C.prog.funcs[f]? = some fn)
 (witness : ∃ (w : World) (tape : Tape) (i : Input), w.os = os /\ (w.forCall tape i).Shaped C.prog /\ i.vars = [] /\ Input.okWide C.prog (w.forCall tape i) .any w.heap.size f i ∧
  ((s.pre enc C.prog fn [] apart (w.forCall tape i).memory i.args /\ X (w.forCall tape i).memory i.args) /\ sizedMet enc C.prog fn (OpenSpec.ofChange s) apart (w.forCall tape i).memory i.args) /\ ({} : Assume).holds C.prog (lone (Frame.enter C.prog f i.args .normal) [] (w.forCall tape i)))
 (walk : ∀ (W : World) (base : Nat) (args : Array Value) (ds gs : List (DataW H)) (before : List MemPlace),
  (∀ (j : Nat) t v, fn.params[j]? = some t -> args[j]? = some v -> Value.okWide C.prog W .any base t v) →
  DataW.Whole enc C.prog fn.params.toList s.vars apart W args.toList ds gs before -> X W args -> W.ShapedOpen C.prog →
  Calls C.prog f args W fun e W' => ∃ v, e = .returned v /\ s.post enc C.prog fn apart fresh handsOn again W args v W') :
 ReturnsInHanded {} C os f .any (fun w args => (s.pre enc C.prog fn [] apart w args /\ X w args) /\ sizedMet enc C.prog fn (OpenSpec.ofChange s) apart w args) (s.post enc C.prog fn apart fresh handsOn again) := by
 refine returnsInHanded_of_calls own started noInit witness ?_
 intro w tape i _ hsh _ hok hpre _
 obtain ⟨_, _, _, fn', hfn', _, _, _, _, hval⟩ := hok
 obtain rfl : fn' = fn := Option.some.inj (hfn'.symm.trans hfn)
 obtain ⟨⟨⟨ds, gs, before, hw, hc⟩, hx⟩, hz⟩ := hpre
 have hw' := DataW.Whole.of_heap (w' := w.forCall tape i) (by rfl) hw
 refine (walk (w.forCall tape i) w.heap.size i.args ds gs before hval hw' (hX (w.forCall tape i).memory (w.forCall tape i) _ rfl hx) hsh).mono fun e W' ⟨v, he, hp⟩ => ?_
 subst he
 exact ChangeSpec.post_blind hp
end Hs0
end Go.Proofs.YtiaimhgfimhepaaGreatDoor
