import Derived.Test.YtiaimhgfimhepaaGreatDoorRows
import Derived.WalkKit
import Derived.WalkSpells
import Derived.WalkLawsBesides
import Derived.Deep.QuietTactic
import Derived.BigQuiet
import Derived.Lib.Join
import Derived.Lib.LaidTab
import Derived.Lib.AppendIntMem
import Derived.Lib.Itoa
import Derived.OpenShut
import Derived.MakeChecks
import Derived.Shelf.Vars
import Derived.Deep.RegionWith
import Derived.Deep.CutRange
import Derived.Deep.CutBlock
import Derived.Deep.RegionHeld
import Derived.Test.YtiaimhgfimhepaaGreatDoorPkVV18
import Derived.Test.YtiaimhgfimhepaaGreatDoorSv5
import Derived.Test.YtiaimhgfimhepaaGreatDoorPkVV7
import Derived.Test.YtiaimhgfimhepaaGreatDoorPkVV21
import Derived.Test.YtiaimhgfimhepaaGreatDoorPkVV0
import Derived.Test.YtiaimhgfimhepaaGreatDoorPkVV9
import Derived.Test.YtiaimhgfimhepaaGreatDoorPkVV14
import Derived.Test.YtiaimhgfimhepaaGreatDoorPkVV12
import Derived.Test.YtiaimhgfimhepaaGreatDoorPkVV13
import Derived.Test.YtiaimhgfimhepaaGreatDoorPkVV1
import Derived.Test.YtiaimhgfimhepaaGreatDoorPkVV5
import Derived.Test.YtiaimhgfimhepaaGreatDoorPkVV3
namespace Go.Proofs.YtiaimhgfimhepaaGreatDoor
set_option maxRecDepth 100000
set_option maxHeartbeats 8000000
set_option linter.unusedVariables false
namespace Sv6
open Go.RowKit
open Nd0 Pl1 Tm0 Tm1 Tm3 Tm5 Tm6 Tm8 Tm11 Tm13 Tm14 Ap0 Ap2 Tr0 Rw0 Vl1 Vl2 Vl3 Vl5 Vm0 Kp1
open Sp10 (sQuant)
open Sp7 (sPrune)
open Sp4 (sTermOk)
open Sv4 (sAt)
open Sv5 (sFits)
open Wd1 (ret_int ret_bool)
theorem app_intsO {ops : Array Oper} {rest : List Oper} {o : Oper} {a : Act} {Q : Exit -> Act -> World -> Prop} (W : World) (hgd : o.guard = none) (s x : Operand)
 (ho : o.op = .call { callee := .builtin .append, args := #[s, x], argTypes := #[25, 25] })
 (B : Nat) (v : Value) (l ys : List Int) (g d c : Nat) (hs : a.eval s = v) (hx : a.eval x = .slice (some ⟨g, d, none⟩) ys.length c)
 (hy : ∀ j (h : j < ys.length), W.cell? ⟨g, d + j, none⟩ = some (.int .i64 ys[j])) (hp : 0 < ys.length)
 (hown : Ows W B v l) (hB : B <= W.heap.size) (hlen : l.length + ys.length <= 1048577)
 (h : ∀ g cap w', Ows w' B (.slice (some ⟨g, 0, none⟩) (l.length + ys.length) cap) (l ++ ys) -> Kept (fun k => v.ownBlock = some k) W w' -> wpList Tryz.prog ops Q rest (a.put o.dst (.slice (some ⟨g, 0, none⟩) (l.length + ys.length) cap)) w') :
 wpList Tryz.prog ops Q (o :: rest) a W := by
 obtain ⟨i, hi, hzz⟩ := Option.map_eq_some_iff.1 infoInt
 simp only [Prod.mk.injEq] at hzz
 obtain ⟨hz, hsz, hb⟩ := hzz
 refine wpList_append_lies W hgd s x 25 ho B 3 i (.int .i64 0) 1 8 Tryz.underlying25 hi hz hsz hb rfl (by omega) v l.length (l.map fun x => .int .i64 x) hs hown
  ⟨g, d, none⟩ ys.length c (ys.map fun x => .int .i64 x) hx (by simp) ?_ ?_ hp (by unfold maxLen; omega) (by omega) hB _ rfl ?_
 ·intro j u hu
  have hadd : (⟨g, d, none⟩ : Addr).add j = ⟨g, d + j, none⟩ := by unfold Addr.add; split <;> simp_all
  rw [hadd]
  rw [List.getElem?_map] at hu
  obtain ⟨y, hy1, rfl⟩ := Option.map_eq_some_iff.1 hu
  obtain ⟨hj, rfl⟩ := List.getElem?_eq_some_iff.1 hy1
  exact hy j hj
 ·intro u hu
  obtain ⟨y, _, rfl⟩ := List.mem_map.1 hu
  rfl
 ·intro g cap w' h1 h2 h3 h4
  refine h g cap w' ?_ ?_
  ·unfold Ows
   simpa using h1
  ·exact ⟨h2.os, h2.tape, h2.output, h2.size, fun k hk hn => h2.block k hk (fun e => hn e.symm)⟩
def vRes (o : Option Int) : Value := .tuple #[.int .i64 (o.getD 0), .bool o.isSome]
theorem val_none {l : List Nd} {e : List Int} (h : ¬ (termOk l = true /\ e.length = 8 /\ bitsTo l l.length <= 12 /\ fitT (root l) e = true)) : valueL l e = none := by
 cases hv : valueL l e with
 | none => rfl
 | some x =>
   obtain ⟨h1, h2, h3, h4, _⟩ := value_parts.1 hv
   exact absurd ⟨h1, h2, h3, h4⟩ h
theorem sValue (w : World) (a ae : Option Addr) (l : List Nd) (e : List Int) (c ce : Nat) (hN : Nodes w a l) (hI : Ints w ae e) :
 Calls Tryz.prog 7 #[.slice a l.length c, .slice ae e.length ce] w fun x w' => x = .returned (vRes (valueL l e)) /\ Below w.heap.size w w' := by
 have HN : Hid (Nodes w a l) := hN
 have HI : Hid (Ints w ae e) := hI
 clear hN hI
 go_enter Tryz.func7, Tryz.ntmps7
 go_wp2_with fail
 refine (sTermOk _ a l c HN.out).mono ?_
 rintro x0 w1 ⟨rfl, hb1⟩
 have HB1 : Hid (Below w.heap.size w w1) := hb1
 clear hb1
 cases hT : termOk l
 ·have HV : Hid (valueL l e = none) := val_none (fun h => by rw [hT] at h; cases h.1)
  go_wp2
  go_ret2
  rw [HV.out]
  exact ⟨rfl, HB1.out⟩
 ·have HT : Hid (termOk l = true) := hT
  clear hT
  by_cases h8 : e.length = 8
  ·rw [h8]
   have HPR : Hid (valueL l e = valueL (pruneL l) e) := (value_prune HT.out e).symm
   have hTP := prune_term HT.out
   have hRP : ∀ j, j < (pruneL l).length -> flag (reachL (pruneL l)) j = true := fun j hj => prune_reach HT.out hj
   go_wp2_with fail
   refine (sPrune _ a l c (HN.out.below HB1.out)).mono ?_
   rintro x0 w2 ⟨⟨v2, rfl, ho2⟩, hb2⟩
   obtain ⟨a2, c2, rfl, hn2⟩ := ho2.form
   have hL1 := term_len hTP
   generalize pruneL l = P at hTP hRP hn2 hL1 HPR ⊢
   have HTP : Hid (termOk P = true) := hTP
   have HRP : Hid (∀ j, j < P.length -> flag (reachL P) j = true) := hRP
   have HNP : Hid (Nodes w2 a2 P) := hn2.nodes
   have HB2 : Hid (Below w.heap.size w w2) := HB1.out.trans (hb2.mono HB1.out.size)
   have HI2 : Hid (Ints w2 ae e) := HI.out.below HB2.out
   clear hTP hRP ho2 hn2 hb2
   go_wp2_with fail
   go_loop [7, 8] (fun s q => ∃ i : Nat, i <= P.length /\ q = .int .i64 (i : Int) /\ s = .int .i64 (bitsTo P i)) (fun _ q => P.length - (intOf q).toNat)
   case atStart => exact ⟨0, Nat.zero_le _, rfl, rfl⟩
   case round =>
    obtain ⟨i, hi, rfl, rfl⟩ := hrel
    by_cases hlt : i < P.length
    ·have hlz : (i : Int) < (P.length : Int) := by omega
     rcases HNP.out.2 with h0 | ⟨xb, xo, rfl, hc⟩
     ·omega
     have p0 := (hc i hlt).c0
     have p4 := (hc i hlt).c4
     rw [nth_get hlt] at p0 p4
     clear hc
     have HBN : Hid (bitsTo P (i + 1) = if quant (nth P i).op then bitsTo P i + (nth P i).b else bitsTo P i) := by
      show (if _ then _ else _) = _
      rw [HRP.out i hlt, Bool.true_and]
     have hbb := bits_bound HTP.out i hi
     have HQB : Hid (quant (nth P i).op = true -> 1 <= (nth P i).b /\ (nth P i).b <= 8) := fun h => quant_b (term_node HTP.out hlt) h
     generalize bitsTo P i = z at HBN hbb ⊢
     generalize nth P i = n at p0 p4 HBN HQB
     obtain ⟨hb0, hb9⟩ := hbb
     cases hqu : quant n.op
     ·have HB2' : Hid (bitsTo P (i + 1) = z) := by
       show _ = _
       rw [HBN.out, hqu]; rfl
      go_wp2_with (go_at_call 19; refine (sQuant _ _).mono ?_; rintro x0 w2 ⟨rfl, rfl⟩; rw [hqu])
      go_round
      case rel => exact ⟨i + 1, by omega, by go_num, by rw [HB2'.out]⟩
      case measure => simp [intOf]; omega
     ·have HB2' : Hid (bitsTo P (i + 1) = z + n.b) := by
       show _ = _
       rw [HBN.out, hqu]; rfl
      obtain ⟨hq1, hq2⟩ := HQB.out hqu
      go_wp2_with (go_at_call 19; refine (sQuant _ _).mono ?_; rintro x0 w2 ⟨rfl, rfl⟩; rw [hqu])
      go_round
      case rel => exact ⟨i + 1, by omega, by go_num, by rw [HB2'.out]⟩
      case measure => simp [intOf]; omega
    ·have hlz : ¬ (i : Int) < (P.length : Int) := by omega
     have hie : i = P.length := by omega
     have HBT : Hid (bitsTo P i = bitsTo P P.length) := by
      show _ = _
      rw [hie]
     clear hie
     generalize bitsTo P i = z at HBT ⊢
     by_cases h12 : 12 < z
     ·have HV : Hid (valueL l e = none) := HPR.out.trans (val_none (fun h => by have := h.2.2.1; rw [<- HBT.out] at this; omega))
      go_wp2
      go_ret2
      rw [HV.out]
      exact ⟨rfl, HB2.out⟩
     ·have h12z : ¬ (12 < z) := h12
      go_wp2_with fail
      refine (sFits _ a2 ae P e c2 ce HNP.out HTP.out HRP.out HI2.out h8).mono ?_
      rintro x0 w3 ⟨rfl, hb3⟩
      have HB3 : Hid (Below w.heap.size w w3) := HB2.out.trans (hb3.mono HB2.out.size)
      have HN3 : Hid (Nodes w3 a2 P) := HNP.out.below hb3
      have HI3 : Hid (Ints w3 ae e) := HI2.out.below hb3
      clear hb3
      cases hf : fitT (root P) e
      ·have HV : Hid (valueL l e = none) := HPR.out.trans (val_none (fun h => by rw [hf] at h; cases h.2.2.2))
       go_wp2
       go_ret2
       rw [HV.out]
       exact ⟨rfl, HB3.out⟩
      ·have HV : Hid (valueL l e = some (vT (tr P (P.length - 1)) e)) := HPR.out.trans (value_parts.2 ⟨HTP.out, h8, by rw [<- HBT.out]; omega, hf, rfl⟩)
       rcases HI3.out.2 with h0 | ⟨eb, eo, rfl, hec⟩
       ·omega
       have hebl : eb < w3.heap.size := lt_of_cell (hec 0 (by omega))
       have HEC : Hid (∀ j (h : j < e.length), (w3.alloc (.cells #[] 3)).cell? ⟨eb, eo + j, none⟩ = some (.int .i64 e[j])) := fun j hj => by
        rw [((Below.refl w3.heap.size w3).alloc (Nat.le_refl _) _).cell (p := ⟨eb, eo + j, none⟩) hebl]
        exact hec j hj
       have HLIT : Hid (Ows (w3.alloc (.cells #[] 3)) w3.heap.size (.slice (some ⟨w3.heap.size, 0, none⟩) 0 0) []) := Ows.lit w3 _ (Nat.le_refl _)
       have hs3 : w3.heap.size <= (w3.alloc (.cells #[] 3)).heap.size := by simp
       have hcast : (P.length : Int) - 1 = ((P.length - 1 : Nat) : Int) := by omega
       have HCA : Hid ((P.length : Int) - 1 = ((P.length - 1 : Nat) : Int)) := hcast
       clear hec hcast
       go_wp2_with (at_builtin; go_must (refine app_intsO _ rfl _ _ rfl w3.heap.size (.slice (some ⟨w3.heap.size, 0, none⟩) 0 0) [] e eb eo ce rfl (by rw [h8]; rfl) HEC.out (by omega) HLIT.out hs3 (by simp [h8]) ?_; intro g5 cp5 w5 ho5 hk5; rw [show ([] : List Int).length + e.length = 8 by simp [h8]] at ho5 ⊢; have HO5 : Hid (Ows w5 w3.heap.size (.slice (some ⟨g5, 0, none⟩) 8 cp5) e) := ho5; have HK5 : Hid (Below w3.heap.size w3 w5) := ((Below.refl w3.heap.size w3).alloc (Nat.le_refl _) _).trans (hk5.below (fun b hb => (HLIT.out.lt b hb).1) hs3); clear ho5 hk5))
       obtain ⟨g6, c6, hv6, hB6, hl6, hr6⟩ := Rw1.row_ints HO5.out (by omega)
       have HG5 : Hid (w3.heap.size <= g5 /\ Env w5 g5 e) := by
        have e6 : g6 = g5 := by
         have := congrArg Value.ownBlock hv6
         simpa [Value.ownBlock] using this.symm
        rw [e6, h8] at hr6
        exact ⟨by omega, hr6⟩
       rw [HCA.out]
       refine (sAt HTP.out (P.length - 1) (by omega) _ a2 c2 g5 cp5 e (HN3.out.below HK5.out) (fun x hx => ?_) h8 HG5.out.2).mono ?_
       ·rcases HN3.out.2 with h0 | ⟨xb, xo, hx2, hc⟩
        ·omega
        ·rw [hx] at hx2
         have h9 := (hc 0 (by omega)).lt
         have h10 := Option.some.inj hx2
         rw [h10]
         have := HG5.out.1
         show ¬ xb = g5
         omega
       rintro x0 w6 ⟨rfl, _, hK6⟩
       have HB6 : Hid (Below w.heap.size w w6) := (HB3.out.trans (HK5.out.mono HB3.out.size)).trans (hK6.below (fun b (eb : b = g5) => by have := HG5.out.1; have := HB3.out.size; omega) (by have := HK5.out.size; have := HB3.out.size; omega))
       clear hK6 hr6 hv6
       go_wp2
       go_ret2
       rw [HV.out]
       exact ⟨rfl, HB6.out⟩
  ·have h8z : ((e.length : Int) != 8) = true := by simp; omega
   have HV : Hid (valueL l e = none) := val_none (fun h => h8 h.2.1)
   go_wp2
   go_ret2
   rw [HV.out]
   exact ⟨rfl, HB1.out⟩
end Sv6
namespace Lx1
open Go.RowKit
open Nd0 Nd3 Tm0 Tm1 Tm2 Tm3 Tm4 Tm5 Tm6 Tm11
/-- What the program's TermOk is to do. -/
def ITermOk : Prop := ∀ (w : World) (a : Option Addr) (l : List Nd) (c : Nat), Nodes w a l -> l.length <= c -> l.length <= 1048576 →
 Calls Tryz.prog 14 #[.slice a l.length c] w fun e w' => e = .returned (.bool (termOk l)) /\ Below w.heap.size w w'
end Lx1
namespace Lx2
open Go.RowKit
open Nd0 Nd3 Tm0 Tm1 Tm2 Tm3 Tm4 Tm5 Tm6 Tm11
/-- What the program's Reached is to do. -/
def IReached : Prop := ∀ (w : World) (a : Option Addr) (l : List Nd) (c : Nat), Nodes w a l -> l.length <= c -> l.length <= 1048576 →
 Calls Tryz.prog 22 #[.slice a l.length c] w fun e w' => (∃ a' c', e = .returned (.slice a' (reachedL l).length c') /\ WInts w' w.heap.size a' (reachedL l)) /\ Below w.heap.size w w'
end Lx2
namespace Lx3
open Go.RowKit
open Nd0 Nd3 Tm0 Tm1 Tm2 Tm3 Tm4 Tm5 Tm6 Tm11
end Lx3
namespace Lx4
open Go.RowKit
open Nd0 Nd3 Tm0 Tm1 Tm2 Tm3 Tm4 Tm5 Tm6 Tm11
/-- What the program's Prune is to do. -/
def IPrune : Prop := ∀ (w : World) (a : Option Addr) (l : List Nd) (c : Nat), Nodes w a l -> l.length <= c -> l.length <= 1048576 →
 Calls Tryz.prog 8 #[.slice a l.length c] w fun e w' => (∃ a' c', e = .returned (.slice a' (pruneL l).length c') /\ WNodes w' w.heap.size a' (pruneL l) /\ (pruneL l).length <= c') /\ Below w.heap.size w w'
end Lx4
namespace Lx6
open Go.RowKit
open Nd0 Nd3 Tm0 Tm1 Tm2 Tm3 Tm4 Tm5 Tm6 Tm11
end Lx6
namespace Ic4
open Go.RowKit
open Nd0 Nd3 Tm0 Vl1 Vl4 Vl5
def IApply : Prop := ∀ (n : Nd) (W a b c : Int) (w : World), (Lit.int .i64 n.k).wf = true →
 Calls Tryz.prog 59 #[.agg #[.int .i64 n.op, .int .i64 n.w, .int .i64 n.k, .int .i64 n.a, .int .i64 n.b, .int .i64 n.c], .int .i64 W, .int .i64 a, .int .i64 b, .int .i64 c] w fun e w' => e = .returned (.int .i64 (applyL n.op n.w n.k W a b c)) /\ Below w.heap.size w w'
def IValue : Prop := ∀ (w : World) (a ae : Option Addr) (l : List Nd) (e : List Int) (c ce : Nat), Nodes w a l -> l.length <= c -> l.length <= 1048576 -> Ints w ae e -> e.length <= ce →
 Calls Tryz.prog 6 #[.slice a l.length c, .slice ae e.length ce] w fun x w' => x = .returned (.tuple #[.int .i64 ((valueL l e).getD 0), .bool (valueL l e).isSome]) /\ Below w.heap.size w w'
end Ic4
namespace Ss0
open Go.RowKit
open Nd0 Tx0
def bs (l : List UInt8) : ByteArray := ⟨l.toArray⟩
theorem bs_size (l : List UInt8) : (bs l).size = l.length := by simp [bs, ByteArray.size]
theorem bs_app (a b : List UInt8) : bs a ++ bs b = bs (a ++ b) := by
 apply ByteArray.ext
 simp [bs, ByteArray.data_append]
theorem bs_of (s : ByteArray) : bs s.data.toList = s := by cases s; rfl
theorem bs_ext (l : List UInt8) (i j : Nat) : (bs l).extract i j = bs ((l.take j).drop i) := by
 apply ByteArray.ext
 simp only [bs, ByteArray.data_extract]
 apply Array.ext'
 simp [List.extract_eq_take_drop, List.drop_take]
theorem ret_str {a b : ByteArray} (h : a = b) : Ending.returned (.string a) = .returned (.string b) := by rw [h]
end Ss0
namespace Tx5
open Nd0 Pl1 Tm0 Tm1 Tm2 Tm8 Tx0 Tx2 Tx3
def opTab : List (List UInt8) := [[], [], wNot] ++ wordsL ++ [wSlice, wIf, wAll, wSome]
def hw (n : Nd) : List (List UInt8) :=
 opTab.getD n.op.toNat [] :: (if n.op = 17 then [dec n.k.toNat, dec n.w.toNat] else if n.op = 19 \/ n.op = 20 then [[118] ++ dec n.k.toNat ++ [58] ++ dec n.b.toNat] else [])
def progN (n : Nd) (ts : List (List UInt8)) : List UInt8 :=
 if n.op = 0 then [35] ++ dec n.w.toNat ++ [58] ++ dec n.k.toNat
 else if n.op = 1 then [118] ++ dec n.k.toNat ++ [58] ++ dec n.w.toNat
 else [40] ++ Lib.join (hw n ++ (parts n).map (txt ts)) [32] ++ [41]
theorem join_app (x : List UInt8) (r ys : List (List UInt8)) (sep : List UInt8) : Lib.join (x :: r ++ ys) sep = Lib.join (x :: r) sep ++ Lib.joinTail sep ys := by
 rw [List.cons_append, Lib.join_cons, Lib.join_cons]
 simp [Lib.joinTail]
theorem join_hw {n : Nd} (h2 : 2 <= n.op) (h20 : n.op <= 20) : Lib.join (hw n) [32] = headL n := by
 have hc : n.op = 17 \/ n.op = 19 \/ n.op = 20 \/ n.op = 2 \/ n.op = 18 \/ (3 <= n.op /\ n.op <= 16) := by omega
 unfold hw
 rw [Lib.join_cons]
 rcases hc with h | h | h | h | h | h
 ·rw [if_pos h]
  unfold headL
  rw [if_neg (by omega), if_pos h, h]
  simp [Lib.joinTail, opTab, wordsL, wSlice]
 ·rw [if_neg (by omega), if_pos (by omega)]
  unfold headL
  rw [if_neg (by omega), if_neg (by omega), if_neg (by omega), if_pos h, h]
  simp [Lib.joinTail, opTab, wordsL, wAll]
 ·rw [if_neg (by omega), if_pos (by omega)]
  unfold headL
  rw [if_neg (by omega), if_neg (by omega), if_neg (by omega), if_neg (by omega), if_pos h, h]
  simp [Lib.joinTail, opTab, wordsL, wSome]
 ·rw [if_neg (by omega), if_neg (by omega)]
  unfold headL
  rw [if_pos h, h]
  simp [Lib.joinTail, opTab, wordsL]
 ·rw [if_neg (by omega), if_neg (by omega)]
  unfold headL
  rw [if_neg (by omega), if_neg (by omega), if_pos h, h]
  simp [Lib.joinTail, opTab, wordsL]
 ·rw [if_neg (by omega), if_neg (by omega)]
  unfold headL
  rw [if_neg (by omega), if_neg (by omega), if_neg (by omega), if_neg (by omega), if_neg (by omega)]
  obtain ⟨j, hj⟩ : ∃ j : Nat, n.op = (j : Int) + 3 := ⟨(n.op - 3).toNat, by omega⟩
  have hj14 : j < 14 := by omega
  rw [hj, show ((j : Int) + 3).toNat = j + 3 by omega, show ((j : Int) + 3 - 3).toNat = j by omega]
  have e : opTab.getD (j + 3) [] = wordsL.getD j [] := by
   rw [List.getD_eq_getElem?_getD, List.getD_eq_getElem?_getD]
   show ((([] : List UInt8) :: [] :: wNot :: (wordsL ++ [wSlice, wIf, wAll, wSome]))[j + 3]?).getD [] = _
   rw [List.getElem?_cons_succ, List.getElem?_cons_succ, List.getElem?_cons_succ, List.getElem?_append_left (by exact hj14)]
  rw [e]
  simp [Lib.joinTail]
theorem with_all {ts : List (List UInt8)} : ∀ (ps : List Int) (h : List UInt8), (∀ p ∈ ps, txt ts p ≠ []) -> withParts ts h ps = some (h ++ Lib.joinTail [32] (ps.map (txt ts))) := by
 intro ps
 induction ps with
 | nil => intro h _; simp [withParts, Lib.joinTail]
 | cons p ps ih =>
   intro h hp
   simp only [withParts]
   rw [if_neg (hp p (by simp)), ih _ (fun q hq => hp q (by simp [hq]))]
   simp [Lib.joinTail]
theorem hw_cons (n : Nd) : ∃ x r, hw n = x :: r := ⟨_, _, rfl⟩
theorem prog_show {n : Nd} {ts : List (List UInt8)} (h0 : 0 <= n.op) (h20 : n.op <= 20) (hs : n.op = 0 \/ n.op = 1 -> (progN n ts).length <= 4000) (hp : ∀ p ∈ parts n, txt ts p ≠ []) :
 showN n ts = if 4000 < (progN n ts).length then [] else progN n ts := by
 by_cases e0 : n.op = 0
 ·rw [if_neg (by have := hs (.inl e0); omega)]
  unfold showN progN
  rw [if_pos e0, if_pos e0]
 by_cases e1 : n.op = 1
 ·rw [if_neg (by have := hs (.inr e1); omega)]
  unfold showN progN
  rw [if_neg e0, if_pos e1, if_neg e0, if_pos e1]
 ·unfold showN progN
  rw [if_neg e0, if_neg e1, if_neg e0, if_neg e1, with_all _ _ hp]
  obtain ⟨x, r, hx⟩ := hw_cons n
  have hj := join_hw (n := n) (by omega) h20
  rw [hx] at hj ⊢
  rw [join_app, hj]
  simp only [List.length_append, List.length_cons, List.length_nil]
  by_cases hb : 4000 < (headL n).length + (Lib.joinTail [32] ((parts n).map (txt ts))).length + 2
  ·rw [if_pos hb, if_pos (by omega)]
  ·rw [if_neg hb, if_neg (by omega)]
theorem prog_congr {n : Nd} {ts us : List (List UInt8)} (h : ∀ p ∈ parts n, txt ts p = txt us p) : progN n ts = progN n us := by
 unfold progN
 rw [List.map_congr_left h]
theorem prog_some (n : Nd) (ts : List (List UInt8)) : progN n ts ≠ [] := by
 unfold progN
 split
 ·simp
 ·split <;> simp
theorem prog_small {n : Nd} {ts : List (List UInt8)} (h : n.op = 0 \/ n.op = 1) (hk : 0 <= n.k /\ n.k <= 255) (hw : 0 <= n.w /\ n.w <= 8) : (progN n ts).length <= 4000 := by
 have h1 := dec_len (n := n.k.toNat) (by omega)
 have h2 := dec_len (n := n.w.toNat) (by omega)
 unfold progN
 split
 ·simp; omega
 ·rw [if_pos (by omega)]
  simp; omega
theorem X_none {l : List Nd} (hD : Down l) {i : Nat} (hi : i < l.length) {p : Int} (hp : p ∈ parts (nth l i)) (h : X l p.toNat = []) : X l i = [] := by
 by_cases e : X l i = []
 ·exact e
 ·exact absurd h (part_text hD hi e hp).2.1
theorem root_none {l : List Nd} (hD : Down l) : ∀ (d i : Nat), l.length - i <= d -> i < l.length -> flag (reachL l) i = true -> X l i = [] -> X l (l.length - 1) = [] := by
 intro d
 induction d with
 | zero => intro i h hi; omega
 | succ d ih =>
   intro i h hi hf hx
   rcases reach_why hD hi hf with e | ⟨j, hij, hj, hfj, hm⟩
   ·have : l.length - 1 = i := by omega
    rw [this]; exact hx
   ·exact ih j (by omega) hj hfj (X_none hD hj hm (by rw [Int.toNat_natCast]; exact hx))
theorem show_root {l : List Nd} (h : termOk l = true) (h1 : 1 <= l.length) : showL l = X l (l.length - 1) := by
 unfold showL
 rw [if_pos h]
 have : ((l.length : Int) - 1) = ((l.length - 1 : Nat) : Int) := by omega
 rw [this]
 rfl
end Tx5
namespace Tb0
open Go.RowKit
open Nd0 Tx0 Tx5 Ss0
structure Tabs (w : World) : Prop where
 pow : Lib.TabIs Tryz.prog w "internal/strconv.uint64pow10" .u64 Lib.pow10Tab
 ops : ∀ i, i < 21 -> w.cell? ⟨0, i, none⟩ = some (.string (bs (opTab.getD i [])))
theorem Tabs.below {w w' : World} (h : Tabs w) (k : Below w.heap.size w w') : Tabs w' :=
 ⟨Lib.tabBelow_of_tabIs h.pow w' k, fun i hi => by rw [k.cell (p := ⟨_, i, none⟩) (lt_of_cell (h.ops i hi))]; exact h.ops i hi⟩
theorem laid_at {P : Program} {W : World} : ∀ {laid : List (String × DataW Unit)} {ps : List MemPlace}, DataW.LaidVars P W laid ps -> ∀ {n : String} {d : DataW Unit}, (n, d) ∈ laid →
 ∃ g t cs fuel p, P.globalNamed n = some g /\ (P.globals[g]?).map (·.type) = some t /\ W.var? P n = some cs /\ DataW.trod (fun _ => ()) P W 0 (fun _ => true) false fuel t cs.toList = some (d, p) := by
 intro laid
 induction laid with
 | nil => intro ps _ n d h; cases h
 | cons x r ih =>
   intro ps h n d hm
   obtain ⟨n', d'⟩ := x
   obtain ⟨g, t, cs, fuel, p, q, h1, h2, h3, h4, h5, _⟩ := h
   rcases List.mem_cons.1 hm with e | e
   ·cases e; exact ⟨g, t, cs, fuel, p, h1, h2, h3, h4⟩
   ·exact ih h5 e
theorem gPow : Tryz.prog.globalNamed "internal/strconv.uint64pow10" = some 1 := by kernel_rfl
theorem gtPow : (Tryz.prog.globals[1]?).map (·.type) = some 151 := by kernel_rfl
theorem gOps : Tryz.prog.globalNamed "loop.example/g00116/impl.opWords" = some 0 := by kernel_rfl
theorem gtOps : (Tryz.prog.globals[0]?).map (·.type) = some 97 := by kernel_rfl
theorem tabs_of_laid {W : World} {laid : List (String × DataW Unit)} (h : laidMet Tryz.prog laid W)
 (h1 : ("internal/strconv.uint64pow10", Rows.laid_internal_strconv_uint64pow10) ∈ laid) (h2 : ("loop.example/g00116/impl.opWords", Rows.laid_loop_example_g00116_impl_opWords) ∈ laid) : Tabs W := by
 obtain ⟨ps, hL, _⟩ := h
 refine ⟨?_, ?_⟩
 ·obtain ⟨g, t, cs, fuel, p, e1, e2, e3, e4⟩ := laid_at hL h1
  obtain rfl := Option.some.inj (gPow.symm.trans e1)
  obtain rfl := Option.some.inj (gtPow.symm.trans e2)
  unfold Lib.TabIs
  rw [e3, <- Lib.cells_of_tab (k := .u64) (zs := Lib.pow10Tab) Tryz.underlying151 Tryz.underlying141 (by kernel_rfl) (by kernel_rfl) e4]
 ·obtain ⟨g, t, cs, fuel, p, e1, e2, e3, e4⟩ := laid_at hL h2
  obtain rfl := Option.some.inj (gOps.symm.trans e1)
  obtain rfl := Option.some.inj (gtOps.symm.trans e2)
  intro i hi
  rw [World.var?_cell e1 e3 i]
  obtain ⟨xs, m, rfl, hx, hlen, hn, hel⟩ := DataW.trod_array Tryz.underlying97 e4
  have hc1 : Tryz.prog.cellsOf 9 = 1 := by kernel_rfl
  have h0 := hel i hi
  rw [hc1, Nat.mul_one] at h0
  have hxi : xs[i]? = some xs[i] := List.getElem?_eq_getElem (by omega)
  rw [hxi] at h0
  obtain ⟨s, hs, hy, _⟩ := DataW.trod_string Tryz.underlying9 h0
  have hd : xs.map (·.1) = opTab.map (fun x => (DataW.lit (.string x) : DataW Unit)) := by
   have := congrArg Prod.fst hx
   simpa [Rows.laid_loop_example_g00116_impl_opWords, opTab, wordsL, wNot, wSlice, wIf, wAll, wSome] using this.symm
  have hdi := congrArg (fun z => z[i]?) hd
  simp only [List.getElem?_map, hxi, Option.map_some] at hdi
  rw [hy] at hdi
  have hop : opTab[i]? = some (opTab.getD i []) := by
   rw [List.getD_eq_getElem?_getD, List.getElem?_eq_getElem (show i < opTab.length from hi)]; rfl
  rw [hop] at hdi
  simp only [Option.map_some, Option.some.injEq, DataW.lit.injEq, Lit.string.injEq] at hdi
  rw [<- hdi]
  have hci : cs.toList[i]? = some (.string s) := by
   have := congrArg (fun z => z[0]?) hs
   simpa [List.getElem?_take, List.getElem?_drop] using this
  rw [Array.getElem?_toList] at hci
  rw [hci, bs_of]
theorem itoa_dec (n : Nat) : Lib.itoa (n : Int) = dec n := by
 unfold Lib.itoa
 rw [if_neg (by omega), Int.toNat_natCast]
 induction n using Nat.strongRecOn with
 | ind n ih =>
   rw [Lib.decDigits]
   unfold dec
   by_cases h : n < 10
   ·rw [dif_pos h]
    by_cases h0 : n = 0
    ·subst h0; rfl
    ·rw [if_neg h0, digs_pos (by omega), show n / 10 = 0 by omega, digs_zero, show n % 10 = n by omega]; rfl
   ·rw [dif_neg h, if_neg (by omega), digs_pos (by omega), ih (n / 10) (by omega)]
    unfold dec
    rw [if_neg (by omega)]
end Tb0
namespace Tb1
open Go.RowKit
open Nd0 Tx0 Ss0 Tb0
structure TabR (w : World) : Prop where
 tabs : Tabs w
 err : ∃ te pe, w.cell? ⟨5, 0, none⟩ = some (.iface te pe)
 max : ∃ m, w.cell? ⟨2, 0, none⟩ = some (.int .i64 m)
theorem TabR.below {w w' : World} (h : TabR w) (k : Below w.heap.size w w') : TabR w' := by
 obtain ⟨te, pe, hc⟩ := h.err
 obtain ⟨m, hm⟩ := h.max
 exact ⟨h.tabs.below k, ⟨te, pe, by rw [k.cell (p := ⟨_, 0, none⟩) (lt_of_cell hc)]; exact hc⟩, ⟨m, by rw [k.cell (p := ⟨_, 0, none⟩) (lt_of_cell hm)]; exact hm⟩⟩
theorem iface_of_trod {P : Program} {W : World} {fuel : Nat} {t : TypeId} {cs : List Value} {nm : String} {d : DataW Unit} {p : List MemPlace} {ms : Array (String × TypeId)} (hu : P.underlying t = some (.interface ms))
 (h : DataW.trod (fun _ => ()) P W 0 (fun _ => true) false fuel t cs = some (.iface nm d, p)) : ∃ te pe, cs = [.iface te pe] := by
 cases fuel with
 | zero => simp [DataW.trod] at h
 | succ f =>
   unfold DataW.trod at h
   rw [hu] at h
   match cs, h with
   | [], h => simp at h
   | [x], h =>
     cases x with
     | iface te pe => exact ⟨te, pe, rfl⟩
     | _ => simp at h
   | x :: y :: r, h => simp at h
theorem gErr : Tryz.prog.globalNamed "strconv.ErrSyntax" = some 5 := by kernel_rfl
theorem gtErr : (Tryz.prog.globals[5]?).map (·.type) = some 122 := by kernel_rfl
theorem max_of_shaped {w : World} (h : w.ShapedOpen Tryz.prog) : ∃ m, w.cell? ⟨2, 0, none⟩ = some (.int .i64 m) :=
 cell_of_shapedOpen_int (t := 3) (zero := #[.int .i64 0]) h (of_decide_eq_true (by kernel_rfl)) (by kernel_rfl) rfl (by kernel_rfl) (by kernel_rfl) Tryz.underlying3
theorem tabr_of_laid {W : World} {laid : List (String × DataW Unit)} (h : laidMet Tryz.prog laid W)
 (h1 : ("internal/strconv.uint64pow10", Rows.laid_internal_strconv_uint64pow10) ∈ laid) (h2 : ("loop.example/g00116/impl.opWords", Rows.laid_loop_example_g00116_impl_opWords) ∈ laid) (h3 : ("strconv.ErrSyntax", Rows.laid_strconv_ErrSyntax) ∈ laid) (h4 : W.ShapedOpen Tryz.prog) : TabR W := by
 refine ⟨tabs_of_laid h h1 h2, ?_, max_of_shaped h4⟩
 obtain ⟨ps, hL, _⟩ := h
 obtain ⟨g, t, cs, fuel, p, e1, e2, e3, e4⟩ := laid_at hL h3
 obtain rfl := Option.some.inj (gErr.symm.trans e1)
 obtain rfl := Option.some.inj (gtErr.symm.trans e2)
 rw [World.var?_cell e1 e3 0]
 have hx := iface_of_trod Tryz.underlying122 e4
 obtain ⟨te, pe, hc⟩ := hx
 refine ⟨te, pe, ?_⟩
 rw [<- Array.getElem?_toList, hc]; rfl
end Tb1
namespace Ss1
open Go.RowKit
open Nd0 Tx0 Ss0
open Ws1 (sIn ret_int)
def tl (S : ByteArray) : List UInt8 := S.data.toList
theorem tl_bs (l : List UInt8) : tl (bs l) = l := by simp [tl, bs]
theorem bs_tl (S : ByteArray) : bs (tl S) = S := bs_of S
theorem tl_length (S : ByteArray) : (tl S).length = S.size := by unfold tl ByteArray.size; exact Array.length_toList
theorem tl_ext (S : ByteArray) (i j : Nat) : tl (S.extract i j) = ((tl S).take j).drop i := by
 have := bs_ext (tl S) i j
 rw [bs_tl] at this
 rw [this, tl_bs]
theorem tl_inj {S T : ByteArray} (h : tl S = tl T) : S = T := by rw [<- bs_tl S, <- bs_tl T, h]
theorem tl_take (S : ByteArray) (k : Nat) (h : k < S.size) : (tl S).take (k + 1) = (tl S).take k ++ [S[k]] := by
 rw [List.take_succ_eq_append_getElem (by rw [tl_length]; exact h)]; rfl
theorem eqb (S T : ByteArray) : (S.toList == T.toList) = decide (tl S = tl T) := by
 rw [ByteArray.toList_eq, ByteArray.toList_eq, Bool.eq_iff_iff]
 simp [tl]
theorem eqb_false {S T : ByteArray} (h : tl S ≠ tl T) : (S.toList == T.toList) = false := by rw [eqb]; exact decide_eq_false h
theorem eqb_true {S T : ByteArray} (h : tl S = tl T) : (S.toList == T.toList) = true := by rw [eqb]; exact decide_eq_true h
end Ss1
namespace Ss2
open Go.RowKit
open Nd0 Tx0 Ss0 Ss1
open Ws1 (ret_int)
def Strs (w : World) (a : Option Addr) (ts : List (List UInt8)) : Prop :=
 ts.length <= maxLen /\ (ts.length = 0 \/ ∃ b o, a = some ⟨b, o, none⟩ /\ ∀ i (h : i < ts.length), w.cell? ⟨b, o + i, none⟩ = some (.string (bs ts[i])))
theorem Strs.below {w w' : World} {a : Option Addr} {l : List (List UInt8)} (h : Strs w a l) (k : Below w.heap.size w w') : Strs w' a l := by
 refine ⟨h.1, ?_⟩
 rcases h.2 with h0 | ⟨b, o, rfl, hc⟩
 ·exact .inl h0
 ·exact .inr ⟨b, o, rfl, fun i hi => by rw [k.cell (lt_of_cell (hc i hi))]; exact hc i hi⟩
end Ss2
namespace Ss9
open Go.RowKit
open Nd0 Tm0 Tx0 Tx2 Ss0 Ss1 Ss2
open Sp2 (sParts)
open Pl1 (wok wok_lt)
structure Wr (n : Nd) (m : Nat) : Prop where
 w0 : 0 <= n.w
 w1 : n.w <= 8
 k0 : n.op = 0 \/ n.op = 1 \/ n.op = 17 \/ n.op = 19 \/ n.op = 20 -> 0 <= n.k /\ n.k <= 255
 b0 : n.op = 19 \/ n.op = 20 -> 0 <= n.b /\ n.b <= 8
 ps : ∀ p ∈ parts n, 0 <= p /\ p < (m : Int)
 op : 0 <= n.op /\ n.op <= 20
theorem wr_of {l : List Nd} {i : Nat} (hw : ∀ j, j < i -> (nth l j).w <= 8) (h : nodeOk l i = true) : Wr (nth l i) i := by
 have hwd := node_width h
 have hp := Tm1.parts_ok h
 have hs : shapeOk (nth l i) ((parts (nth l i)).map (width l)) = true := by
  simp only [nodeOk, Bool.and_eq_true] at h; exact h.2
 have hps : ∀ p ∈ parts (nth l i), 0 <= p /\ p < (i : Int) := by
  intro p hpm
  obtain ⟨j, hj, rfl⟩ := List.getElem_of_mem hpm
  exact hp j hj
 have hws : ∀ p ∈ parts (nth l i), width l p <= 8 := by
  intro p hpm
  have := hps p hpm
  exact hw p.toNat (by omega)
 generalize nth l i = n at hwd hs hps hws
 have hop : 0 <= n.op /\ n.op <= 20 := by
  by_cases e : 0 <= n.op /\ n.op <= 20
  ·exact e
  ·unfold shapeOk at hs
   rw [if_neg (by omega), if_neg (by omega), if_neg (by omega), if_neg (by omega), if_neg (by omega), if_neg (by omega), if_neg (by omega), if_neg (by omega), if_neg (by omega)] at hs
   cases hs
 refine ⟨by omega, hwd.2, ?_, ?_, hps, hop⟩
 ·intro hk
  unfold shapeOk at hs
  rcases hk with e | e | e | e
  ·rw [if_pos e] at hs
   simp only [Bool.and_eq_true] at hs
   exact wok_lt hs.1
  ·rw [if_neg (by omega), if_pos e] at hs
   simp at hs; omega
  ·have hpo : parts n = [n.a] := parts_one (by omega)
   rw [hpo] at hs hws
   have := hws n.a (by simp)
   rw [if_neg (by omega), if_neg (by omega), if_neg (by omega), if_neg (by omega), if_neg (by omega), if_neg (by omega), if_pos e] at hs
   simp at hs; omega
  ·rw [if_neg (by omega), if_neg (by omega), if_neg (by omega), if_neg (by omega), if_neg (by omega), if_neg (by omega), if_neg (by omega), if_neg (by omega), if_pos e] at hs
   simp at hs; omega
 ·intro e
  unfold shapeOk at hs
  rw [if_neg (by omega), if_neg (by omega), if_neg (by omega), if_neg (by omega), if_neg (by omega), if_neg (by omega), if_neg (by omega), if_neg (by omega), if_pos e] at hs
  simp at hs; omega
theorem dec_size {n : Nat} (h : n < 1000000000) : (bs (dec n)).size <= 9 := by
 rw [bs_size]; exact (dec_len h).2
theorem head_len {n : Nd} {m : Nat} (h : Wr n m) : (headL n).length <= 40 := by
 have hw := dec_len (n := n.w.toNat) (by have := h.w1; omega)
 unfold headL
 split
 ·decide
 ·split
  ·rename_i e
   have hk := dec_len (n := n.k.toNat) (by have := h.k0 (.inr (.inr (.inl e))); omega)
   simp [wSlice]; omega
  ·split
   ·decide
   ·split
    ·rename_i e
     have hk := dec_len (n := n.k.toNat) (by have := h.k0 (by omega); omega)
     have hb := dec_len (n := n.b.toNat) (by have := h.b0 (by omega); omega)
     simp [wAll]; omega
    ·split
     ·rename_i e
      have hk := dec_len (n := n.k.toNat) (by have := h.k0 (by omega); omega)
      have hb := dec_len (n := n.b.toNat) (by have := h.b0 (by omega); omega)
      simp [wSome]; omega
     ·rw [List.getD_eq_getElem?_getD]
      cases hg : wordsL[(n.op - 3).toNat]? with
      | none => simp
      | some x =>
        have hm := List.mem_of_getElem? hg
        have : ∀ x ∈ wordsL, x.length <= 40 := by decide
        exact this x hm
end Ss9
namespace Ss3
open Go.RowKit
open Nd0 Tx0 Tx1 Ss0 Ss1 Ss2
open Ws1 (ret_int ret_bool)
theorem kept_set {b o : Nat} {u w : World} (h : Kept (fun k => k = b) u w) (x : Value) : Kept (fun k => k = b) u (w.setCell ⟨b, o, none⟩ x) := h.setCell (p := ⟨b, o, none⟩) rfl x
def left (S : ByteArray) (p : Nat) : List UInt8 := (tl S).drop p
theorem left_cons {S : ByteArray} {p : Nat} (h : p < S.size) : left S p = S[p] :: left S (p + 1) := by
 unfold left
 rw [List.drop_eq_getElem_cons (by rw [tl_length]; exact h)]; rfl
theorem left_nil {S : ByteArray} {p : Nat} (h : S.size <= p) : left S p = [] := by
 unfold left
 exact List.drop_eq_nil_of_le (by rw [tl_length]; exact h)
theorem take_more {S : ByteArray} {p k : Nat} (hp : p <= k) (h : k < S.size) : ((tl S).take (k + 1)).drop p = ((tl S).take k).drop p ++ [S[k]] := by
 rw [tl_take S k h, List.drop_append_of_le_length (by rw [List.length_take, tl_length]; omega)]
theorem left_split {S : ByteArray} {p k : Nat} (hp : p <= k) : left S p = ((tl S).take k).drop p ++ left S k := by
 unfold left
 have e : tl S = (tl S).take k ++ (tl S).drop k := (List.take_append_drop _ _).symm
 by_cases h : p <= ((tl S).take k).length
 ·refine (congrArg (List.drop p) e).trans ?_
  rw [List.drop_append_of_le_length h]
 ·rw [List.length_take] at h
  have h1 : (tl S).drop p = [] := List.drop_eq_nil_of_le (by omega)
  have h2 : ((tl S).take k).drop p = [] := List.drop_eq_nil_of_le (by rw [List.length_take]; omega)
  have h3 : (tl S).drop k = [] := List.drop_eq_nil_of_le (by omega)
  rw [h1, h2, h3]; rfl
end Ss3
namespace Ss4
open Go.RowKit
open Nd0 Nd3 Ap2 Tm0 Tx0 Tx1 Ss0 Ss1 Ss2 Ss3 Dw3 Dw4
open Sp3 (sNode)
open Ws1 (ret_int ret_bool)
def Fit (t : List Nd) : Prop := t.length <= 80 /\ ∀ k, k < t.length -> nodeOk t k = true
end Ss4
end Go.Proofs.YtiaimhgfimhepaaGreatDoor
