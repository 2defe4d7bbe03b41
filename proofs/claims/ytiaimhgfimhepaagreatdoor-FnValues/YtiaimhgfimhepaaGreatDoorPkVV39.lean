import Derived.Laws.MakeOwn
import Derived.RangeFuncNested
import Derived.RangeFuncBound
import Derived.RangeFuncCalls
import Derived.RangeFuncLeaves
import Derived.Shelf.Abstract
import Derived.Shelf.RegionOpen
import Derived.WalkKit
import Derived.OwnWalkIn
import Derived.TacticsInMore
import Derived.LoopNIn
import Derived.LoopIn
import Derived.OrdersHeld
import Derived.OrdersIn
import Derived.TacticsIn
import Derived.Deep.RegionHeld
import Derived.Test.YtiaimhgfimhepaaGreatDoorPkVV22
import Derived.Test.YtiaimhgfimhepaaGreatDoorPkVV0
import Derived.Test.YtiaimhgfimhepaaGreatDoorPkVV24
import Derived.Test.YtiaimhgfimhepaaGreatDoorPkVV9
import Derived.Test.YtiaimhgfimhepaaGreatDoorPkVV12
import Derived.Test.YtiaimhgfimhepaaGreatDoorPkVV15
import Derived.Test.YtiaimhgfimhepaaGreatDoorPkVV23
import Derived.Test.YtiaimhgfimhepaaGreatDoorPkVV19
namespace Go.Proofs.YtiaimhgfimhepaaGreatDoor
set_option maxRecDepth 100000
set_option maxHeartbeats 8000000
set_option linter.unusedVariables false
namespace Pg10
open Go.RowKit
open Nd0 Nd3 Tm0 Tm1 Tm2 Tm3 Tm8 Ap2 Pg1 Pg2 Rw0
open Lx1 (ITermOk)
open Lx2 (IReached)
open Ws1 (ret_int ret_bool)
def mv (P : Nat -> Int) (n : Nd) : Nd :=
 ⟨n.op, n.w, n.k, if 0 < cnt n.op then P n.a.toNat else n.a, if 1 < cnt n.op then P n.b.toNat else n.b, if 2 < cnt n.op then P n.c.toNat else n.c⟩
theorem iMoved (n : Nd) (w : World) (gp len cap : Nat) (P : Nat -> Int) (hr : Row w gp len (fun i => .int .i64 (P i))) (hp : ∀ p ∈ parts n, 0 <= p /\ p < (len : Int)) (hl : len <= 80) :
 Calls Tryz.prog 23 #[.agg #[.int .i64 n.op, .int .i64 n.w, .int .i64 n.k, .int .i64 n.a, .int .i64 n.b, .int .i64 n.c], .slice (some ⟨gp, 0, none⟩) len cap] w fun e w' =>
  e = .returned (.agg #[.int .i64 (mv P n).op, .int .i64 (mv P n).w, .int .i64 (mv P n).k, .int .i64 (mv P n).a, .int .i64 (mv P n).b, .int .i64 (mv P n).c]) /\ Below w.heap.size w w' := by
 have hc3 := cnt_le n.op
 have hcp := cnt_parts n
 have HC : Hid (cnt n.op = 0 \/ cnt n.op = 1 \/ cnt n.op = 2 \/ cnt n.op = 3) := by show _ \/ _; omega
 have HV : Hid (mv P n = ⟨n.op, n.w, n.k, if 0 < cnt n.op then P n.a.toNat else n.a, if 1 < cnt n.op then P n.b.toNat else n.b, if 2 < cnt n.op then P n.c.toNat else n.c⟩) := rfl
 have HPC := parts_cases n
 have HA : Hid (0 < cnt n.op -> ∃ j : Nat, n.a = (j : Int) /\ j < len /\ w.cell? ⟨gp, j, none⟩ = some (.int .i64 (P n.a.toNat))) := by
  show _ -> _
  intro h
  have hm : n.a ∈ parts n := by
   rcases HPC with e | e | e | e
   ·rw [e] at hcp; simp at hcp; omega
   ·rw [e]; simp
   ·rw [e]; simp
   ·rw [e]; simp
  obtain ⟨h0, h1⟩ := hp _ hm
  exact ⟨n.a.toNat, by omega, by omega, (hr n.a.toNat (by omega)).1⟩
 have HB : Hid (1 < cnt n.op -> ∃ j : Nat, n.b = (j : Int) /\ j < len /\ w.cell? ⟨gp, j, none⟩ = some (.int .i64 (P n.b.toNat))) := by
  show _ -> _
  intro h
  have hm : n.b ∈ parts n := by
   rcases HPC with e | e | e | e
   ·rw [e] at hcp; simp at hcp; omega
   ·rw [e] at hcp; simp at hcp; omega
   ·rw [e]; simp
   ·rw [e]; simp
  obtain ⟨h0, h1⟩ := hp _ hm
  exact ⟨n.b.toNat, by omega, by omega, (hr n.b.toNat (by omega)).1⟩
 have HD : Hid (2 < cnt n.op -> ∃ j : Nat, n.c = (j : Int) /\ j < len /\ w.cell? ⟨gp, j, none⟩ = some (.int .i64 (P n.c.toNat))) := by
  show _ -> _
  intro h
  have hm : n.c ∈ parts n := by
   rcases HPC with e | e | e | e
   ·rw [e] at hcp; simp at hcp; omega
   ·rw [e] at hcp; simp at hcp; omega
   ·rw [e] at hcp; simp at hcp; omega
   ·rw [e]; simp
  obtain ⟨h0, h1⟩ := hp _ hm
  exact ⟨n.c.toNat, by omega, by omega, (hr n.c.toNat (by omega)).1⟩
 clear hc3 hcp HPC hr hp
 generalize mv P n = u at HV ⊢
 generalize P n.a.toNat = xa at HV HA
 generalize P n.b.toNat = xb at HV HB
 generalize P n.c.toNat = xc at HV HD
 obtain ⟨op, m, k, a, b, c⟩ := n
 dsimp only at *
 rcases HC.out with hc | hc | hc | hc
 ·have HK : Hid (cnt op = _) := hc
  clear HA HB HD
  go_enter Tryz.func23, Tryz.ntmps23
  go_wp2_with (go_at_call 43; refine (iCount _ _).mono ?_; rintro e w' ⟨rfl, rfl⟩; rw [hc])
  refine bodyPost_ret (v := .agg #[.int .i64 u.op, .int .i64 u.w, .int .i64 u.k, .int .i64 u.a, .int .i64 u.b, .int .i64 u.c]) ?_ rfl ⟨rfl, ?_⟩
  ·have h9 := HV.out
   rw [HK.out] at h9
   simp at h9
   subst h9
   simp [results, Tryz.results23, go_sem]
  ·exact ((Below.refl _ _).alloc (Nat.le_refl _) _).alloc (by simp) _
 ·have HK : Hid (cnt op = _) := hc
  obtain ⟨ja, rfl, hja, pa⟩ := HA.out (by omega)
  have hz1 : (ja : Int) < (len : Int) := by omega
  have hn0 : gp < w.heap.size := lt_of_cell (p := ⟨gp, ja, none⟩) pa
  have hn1 : gp < w.heap.size + 1 := by omega
  clear HA HB HD
  go_enter Tryz.func23, Tryz.ntmps23
  go_wp2_with (go_at_call 43; refine (iCount _ _).mono ?_; rintro e w' ⟨rfl, rfl⟩; rw [hc])
  refine bodyPost_ret (v := .agg #[.int .i64 u.op, .int .i64 u.w, .int .i64 u.k, .int .i64 u.a, .int .i64 u.b, .int .i64 u.c]) ?_ rfl ⟨rfl, ?_⟩
  ·have h9 := HV.out
   rw [HK.out] at h9
   simp at h9
   subst h9
   simp [results, Tryz.results23, go_sem]
  ·exact ((Below.refl _ _).alloc (Nat.le_refl _) _).alloc (by simp) _
 ·have HK : Hid (cnt op = _) := hc
  obtain ⟨ja, rfl, hja, pa⟩ := HA.out (by omega)
  obtain ⟨jb, rfl, hjb, pb⟩ := HB.out (by omega)
  have hz1 : (ja : Int) < (len : Int) := by omega
  have hz2 : (jb : Int) < (len : Int) := by omega
  have hn0 : gp < w.heap.size := lt_of_cell (p := ⟨gp, ja, none⟩) pa
  have hn1 : gp < w.heap.size + 1 := by omega
  clear HA HB HD
  go_enter Tryz.func23, Tryz.ntmps23
  go_wp2_with (go_at_call 43; refine (iCount _ _).mono ?_; rintro e w' ⟨rfl, rfl⟩; rw [hc])
  refine bodyPost_ret (v := .agg #[.int .i64 u.op, .int .i64 u.w, .int .i64 u.k, .int .i64 u.a, .int .i64 u.b, .int .i64 u.c]) ?_ rfl ⟨rfl, ?_⟩
  ·have h9 := HV.out
   rw [HK.out] at h9
   simp at h9
   subst h9
   simp [results, Tryz.results23, go_sem]
  ·exact ((Below.refl _ _).alloc (Nat.le_refl _) _).alloc (by simp) _
 ·have HK : Hid (cnt op = _) := hc
  obtain ⟨ja, rfl, hja, pa⟩ := HA.out (by omega)
  obtain ⟨jb, rfl, hjb, pb⟩ := HB.out (by omega)
  obtain ⟨jc, rfl, hjc, pc⟩ := HD.out (by omega)
  have hz1 : (ja : Int) < (len : Int) := by omega
  have hz2 : (jb : Int) < (len : Int) := by omega
  have hz3 : (jc : Int) < (len : Int) := by omega
  have hn0 : gp < w.heap.size := lt_of_cell (p := ⟨gp, ja, none⟩) pa
  have hn1 : gp < w.heap.size + 1 := by omega
  clear HA HB HD
  go_enter Tryz.func23, Tryz.ntmps23
  go_wp2_with (go_at_call 43; refine (iCount _ _).mono ?_; rintro e w' ⟨rfl, rfl⟩; rw [hc])
  refine bodyPost_ret (v := .agg #[.int .i64 u.op, .int .i64 u.w, .int .i64 u.k, .int .i64 u.a, .int .i64 u.b, .int .i64 u.c]) ?_ rfl ⟨rfl, ?_⟩
  ·have h9 := HV.out
   rw [HK.out] at h9
   simp at h9
   subst h9
   simp [results, Tryz.results23, go_sem]
  ·exact ((Below.refl _ _).alloc (Nat.le_refl _) _).alloc (by simp) _
end Pg10
namespace Pg11
open Go.RowKit
open Nd0 Nd3 Tm0 Tm1 Tm2 Tm3 Tm8 Ap2 Pg1 Pg2 Rw0 Pg10
open Lx1 (ITermOk)
open Lx2 (IReached)
theorem infoInt : (Tryz.prog.info? 3).map (fun i => (i.zero, i.size, i.bytes)) = some (some (.int .i64 0), 1, 8) := by kernel_rfl
def noughts (n : Nat) : Array Value := madeCells #[.int .i64 0] (n * 1)
theorem noughts_get (n j : Nat) (h : j < n) : (noughts n)[j]? = some (.int .i64 0) := by
 simp only [noughts, madeCells, Array.getElem?_map, Array.getElem?_range]
 rw [if_pos (by omega)]
 simp only [Option.map_some, List.size_toArray, List.length_cons, List.length_nil, Nat.zero_add, Nat.mod_one]
 rfl
theorem makeInts (n : Nat) (hn : n <= 1048576) (w : World) :
 (Instr.makeSlice 25 (.int .i64 (n : Int)) (.int .i64 (n : Int))).run Tryz.prog w = .ok (.slice (some ⟨w.heap.size, 0, none⟩) n n) (w.alloc (.cells (noughts n) 3)) := by
 obtain ⟨i, hi, hzz⟩ := Option.map_eq_some_iff.1 infoInt
 simp only [Prod.mk.injEq] at hzz
 obtain ⟨hz, hs, hb⟩ := hzz
 have h := run_make (P := Tryz.prog) w 25 3 i _ Tryz.underlying25 hi hz .i64 .i64 n n (by omega) (Int.le_refl _) (by rw [hb]; omega) (by omega)
 rw [hs] at h
 simpa [noughts, Value.cells] using h
theorem own_room {w : World} {B n c : Nat} {a : Option Addr} {L : List Nd} (h : Ap2.Own w B (.slice a n c) L) : L.length <= c := by
 obtain ⟨h1, h2⟩ := h
 rcases h2 with ⟨h0, h9⟩ | ⟨g', cap, cur, he, hb, hg, hn, rest⟩
 ·cases h0; omega
 ·cases he; exact hn
theorem iPrune (hTO : ITermOk) (hRE : IReached) (w : World) (a : Option Addr) (l : List Nd) (c : Nat) (hN : Nodes w a l) (hcap : l.length <= c) (hlen : l.length <= 1048576) :
 Calls Tryz.prog 8 #[.slice a l.length c] w fun e w' => (∃ a' c', e = .returned (.slice a' (pruneL l).length c') /\ WNodes w' w.heap.size a' (pruneL l) /\ (pruneL l).length <= c') /\ Below w.heap.size w w' := by
 have HN : Hid (Nodes w a l) := hN
 have HTO : Hid ITermOk := hTO
 have HRE : Hid IReached := hRE
 have HCAP : Hid (l.length <= c) := hcap
 clear hcap hN hTO hRE
 go_enter Tryz.func8, Tryz.ntmps8
 go_wp2_with fail
 refine (HTO.out _ a l c (HN.out.below ((Below.refl _ _).alloc (Nat.le_refl _) _)) HCAP.out hlen).mono ?_
 rintro e w1 ⟨rfl, hb1⟩
 have HB1 : Hid (Below w.heap.size w w1) := ((Below.refl _ _).alloc (Nat.le_refl _) _).trans (hb1.mono (by simp))
 have HL1 : Hid (Ap2.Own w1 w.heap.size (.slice (some ⟨w.heap.size, 0, none⟩) 0 0) []) := (Own.lit w _ (Nat.le_refl _)).kept (S := fun _ => False) (Kept.ofBelow hb1) (fun _ _ h => h)
 clear hb1
 cases hT : termOk l
 ·have HE : Hid (pruneL l = []) := by
   show _ = _
   unfold pruneL; rw [hT]; rfl
  go_wp2
  go_ret
  rw [HE.out]
  exact ⟨⟨_, _, rfl, ⟨Nat.zero_le _, .inl rfl⟩, Nat.zero_le _⟩, HB1.out⟩
 ·have HT : Hid (termOk l = true) := hT
  obtain ⟨hl1, hl2⟩ := term_len hT
  clear hT
  have hmk := makeInts l.length hlen
  go_wp2_with fail
  clear hmk
  have hAl : Below w1.heap.size w1 (w1.alloc (.cells (noughts l.length) 3)) := (Below.refl _ _).alloc (Nat.le_refl _) _
  have HRW0 : Hid (Row (w1.alloc (.cells (noughts l.length) 3)) w1.heap.size l.length (fun i => .int .i64 ((fun _ => 0) i))) := Row.new _ _ _ _ _ (fun i hi => noughts_get _ _ hi)
  refine (HRE.out _ a l c ((HN.out.below HB1.out).below hAl) HCAP.out hlen).mono ?_
  rintro e w2 ⟨⟨a2, c2, rfl, hi2⟩, hb2⟩
  have hszA : (w1.alloc (.cells (noughts l.length) 3)).heap.size = w1.heap.size + 1 := by simp
  have HR2 : Hid (Row w2 w1.heap.size l.length (fun i => .int .i64 ((fun _ => 0) i))) := HRW0.out.below hb2
  have HRE2 : Hid (reachedL l = reachTo l l.length) := by
   show _ = _
   unfold reachedL; rw [HT.out]; rfl
  have HI2 : Hid (IntsIn w2 (w1.heap.size + 1) w2.heap.size a2 (reachTo l l.length)) := by
   have h9 := hi2.within
   rw [hszA, HRE2.out] at h9
   exact h9
  have HB2 : Hid (Below w.heap.size w w2) := (HB1.out.trans (hAl.mono HB1.out.size)).trans (hb2.mono (by have := HB1.out.size; omega))
  have hs2 : w1.heap.size + 1 <= w2.heap.size := by rw [<- hszA]; exact hb2.size
  have HL2 : Hid (Ap2.Own w2 w.heap.size (.slice (some ⟨w.heap.size, 0, none⟩) 0 0) []) := (HL1.out.kept (S := fun _ => False) (Kept.ofBelow hAl) (fun _ _ h => h)).kept (S := fun _ => False) (Kept.ofBelow hb2) (fun _ _ h => h)
  have HW1 : Hid (w.heap.size < w1.heap.size) := (HL1.out.lt w.heap.size rfl).2
  have HTR : Hid (termOk l = true) := HT.out
  clear hi2 hb2 hAl HRW0 hszA
  rw [HRE2.out]
  obtain ⟨gp, hgp⟩ : ∃ gp : Nat, gp = w1.heap.size := ⟨_, rfl⟩
  rw [<- hgp] at HR2 HI2 HW1 hs2 ⊢
  clear hgp
  have hRl := reachTo_length l l.length
  go_wp2_with fail
  go_loopw [3, 18] (fun v q wr => ∃ j : Nat, j <= (reachTo l l.length).length /\ q = .int .i64 j /\ Ap2.Own wr w.heap.size v (((reachTo l l.length).take j).map fun p => remap l (nth l p.toNat)) /\ Below w.heap.size w wr /\ (∃ P : Nat -> Int, Row wr gp l.length (fun i => .int .i64 (P i)) /\ ∀ p, p < l.length -> flag (reachL l) p = true -> (reachTo l p).length < j -> P p = ((reachTo l p).length : Int)) /\ IntsIn wr (gp + 1) w2.heap.size a2 (reachTo l l.length) /\ w2.heap.size <= wr.heap.size /\ ∀ x, v.ownBlock = some x -> x < gp \/ w2.heap.size <= x) (fun _ q _ => (reachTo l l.length).length - (intOf q).toNat)
  case atStart => exact ⟨0, Nat.zero_le _, rfl, HL2.out, HB2.out, ⟨_, HR2.out, fun p _ _ h => by omega⟩, HI2.out, Nat.le_refl _, fun x hx => by cases hx; exact .inl HW1.out⟩
  case round =>
   clear HL2 HB2 HR2 HI2
   obtain ⟨j, hj, rfl, ho, hb, ⟨P, hr, hP⟩, hi, hsz, hne⟩ := hrel
   have HB : Hid (Below w.heap.size w wr) := hb
   have HR : Hid (Row wr gp l.length (fun i => .int .i64 (P i))) := hr
   have HP : Hid (∀ p, p < l.length -> flag (reachL l) p = true -> (reachTo l p).length < j -> P p = ((reachTo l p).length : Int)) := hP
   have HI : Hid (IntsIn wr (gp + 1) w2.heap.size a2 (reachTo l l.length)) := hi
   have hBs : w.heap.size <= wr.heap.size := hb.size
   clear hb hr hP hi
   obtain ⟨ao, co, rfl, hwn⟩ := ho.form
   have HO : Hid (Ap2.Own wr w.heap.size (.slice ao (((reachTo l l.length).take j).map fun p => remap l (nth l p.toNat)).length co) (((reachTo l l.length).take j).map fun p => remap l (nth l p.toNat))) := ho
   have HNE : Hid (∀ x, (Value.slice ao (((reachTo l l.length).take j).map fun p => remap l (nth l p.toNat)).length co).ownBlock = some x -> x < gp \/ w2.heap.size <= x) := hne
   have HLJ : Hid ((((reachTo l l.length).take j).map fun p => remap l (nth l p.toNat)).length = j) := by
    show _ = _
    rw [List.length_map, List.length_take]; omega
   clear ho hne
   by_cases hlt : j < (reachTo l l.length).length
   ·have hjz : (j : Int) < ((reachTo l l.length).length : Int) := by omega
    clear hwn
    obtain ⟨x, hx, hxl, hxf, hxj⟩ := reach_at l l.length j hlt
    have HTK : Hid ((((reachTo l l.length).take (j + 1)).map fun p => remap l (nth l p.toNat)) = (((reachTo l l.length).take j).map fun p => remap l (nth l p.toNat)) ++ [remap l (nth l x)]) := by
     show _ = _
     rw [List.take_succ_eq_append_getElem hlt, List.map_append, hx]; simp
    generalize hL : (((reachTo l l.length).take j).map fun p => remap l (nth l p.toNat)) = L at HO HNE HLJ HTK
    clear hL
    rcases HI.out.2 with h0 | ⟨pb, po, rfl, hpB, hpU, hpc⟩
    ·omega
    have q0 := (hpc j hlt).1
    rw [hx] at q0
    clear hpc hx
    obtain ⟨c1, c3⟩ := HR.out x hxl
    have hxz : (x : Int) < (l.length : Int) := by omega
    have hgl : gp < wr.heap.size := by omega
    have HXF : Hid (flag (reachL l) x = true) := hxf
    have HXJ : Hid ((reachTo l x).length = j) := hxj
    clear hxf hxj
    have HRS : Hid (Row (wr.setCell ⟨gp, x, none⟩ (.int .i64 (L.length : Int))) gp l.length (fun i => .int .i64 ((fun i => if i = x then (L.length : Int) else P i) i))) := by
     refine (HR.out.set hxl _).congr (fun i hi => ?_)
     by_cases e : i = x
     ·simp [e]
     ·simp [e]
    have hKS : Kept (fun b => b = gp) wr (wr.setCell ⟨gp, x, none⟩ (.int .i64 (L.length : Int))) := (Kept.refl (fun b => b = gp) wr).setCell (p := ⟨gp, x, none⟩) rfl _
    have HOS : Hid (Ap2.Own (wr.setCell ⟨gp, x, none⟩ (.int .i64 (L.length : Int))) w.heap.size (.slice ao L.length co) L) := HO.out.kept hKS (fun b hb e => by have := HNE.out b hb; omega)
    have HIS : Hid (IntsIn (wr.setCell ⟨gp, x, none⟩ (.int .i64 (L.length : Int))) (gp + 1) w2.heap.size (some ⟨pb, po, none⟩) (reachTo l l.length)) := HI.out.kept hKS (fun b h1 h2 e => by omega)
    have HBS : Hid (Below w.heap.size w (wr.setCell ⟨gp, x, none⟩ (.int .i64 (L.length : Int)))) := HB.out.trans (hKS.below (fun b (hb : b = gp) => by have := HW1.out; omega) hBs)
    have hss : (wr.setCell ⟨gp, x, none⟩ (.int .i64 (L.length : Int))).heap.size = wr.heap.size := by simp [World.setCell]
    have HSS : Hid ((wr.setCell ⟨gp, x, none⟩ (.int .i64 (L.length : Int))).heap.size = wr.heap.size) := hss
    clear hss hKS
    rcases (HN.out.below HBS.out).2 with h0 | ⟨xb, xo, rfl, hc⟩
    ·omega
    obtain ⟨p0, p1, p2, p3, p4, p5⟩ := hc x hxl
    rw [nth_get hxl] at p0 p1 p2 p3 p4 p5
    clear hc
    have HPR : Hid (∀ p ∈ parts (nth l x), 0 <= p /\ p < (l.length : Int)) := by
     show ∀ _, _
     intro p hp
     have := down_of HTR.out x hxl p hp
     omega
    have HMV : Hid (mv (fun i => if i = x then (L.length : Int) else P i) (nth l x) = remap l (nth l x)) := by
     show _ = _
     have hq : ∀ p ∈ parts (nth l x), (if p.toNat = x then (L.length : Int) else P p.toNat) = plc l p := by
      intro p hp
      have hd := down_of HTR.out x hxl p hp
      have hf := reach_closed (down_of HTR.out) hxl HXF.out hp
      rw [if_neg (by omega)]
      have h1 := reachTo_lt l (a := p.toNat) (b := x) (by omega) hf
      rw [HXJ.out] at h1
      exact HP.out p.toNat (by omega) hf h1
     have hcp := cnt_parts (nth l x)
     generalize nth l x = n at hq hcp
     unfold mv remap
     rw [hcp]
     have ha : 0 < cnt n.op -> n.a ∈ parts n := by
      intro h
      rcases parts_cases n with e | e | e | e
      ·rw [e] at hcp; simp at hcp; omega
      ·rw [e]; simp
      ·rw [e]; simp
      ·rw [e]; simp
     have hb : 1 < cnt n.op -> n.b ∈ parts n := by
      intro h
      rcases parts_cases n with e | e | e | e
      ·rw [e] at hcp; simp at hcp; omega
      ·rw [e] at hcp; simp at hcp; omega
      ·rw [e]; simp
      ·rw [e]; simp
     have hc : 2 < cnt n.op -> n.c ∈ parts n := by
      intro h
      rcases parts_cases n with e | e | e | e
      ·rw [e] at hcp; simp at hcp; omega
      ·rw [e] at hcp; simp at hcp; omega
      ·rw [e] at hcp; simp at hcp; omega
      ·rw [e]; simp
     congr 1
     ·by_cases h : 0 < cnt n.op
      ·rw [if_pos h, if_pos h]; exact hq _ (ha h)
      ·rw [if_neg h, if_neg h]
     ·by_cases h : 1 < cnt n.op
      ·rw [if_pos h, if_pos h]; exact hq _ (hb h)
      ·rw [if_neg h, if_neg h]
     ·by_cases h : 2 < cnt n.op
      ·rw [if_pos h, if_pos h]; exact hq _ (hc h)
      ·rw [if_neg h, if_neg h]
    go_wp2_with fail
    generalize wr.setCell ⟨gp, x, none⟩ (.int .i64 (L.length : Int)) = ws at HRS HOS HIS HBS HSS p0 p1 p2 p3 p4 p5 ⊢
    refine (iMoved (nth l x) _ gp l.length l.length _ HRS.out HPR.out hl2).mono ?_
    rintro e w4 ⟨rfl, hb4⟩
    rw [HMV.out]
    have HO4 : Hid (Ap2.Own w4 w.heap.size (.slice ao L.length co) L) := HOS.out.kept (S := fun _ => False) (Kept.ofBelow hb4) (fun _ _ h => h)
    have HI4 : Hid (IntsIn w4 (gp + 1) w2.heap.size (some ⟨pb, po, none⟩) (reachTo l l.length)) := HIS.out.kept (S := fun _ => False) (Kept.ofBelow hb4) (fun _ _ _ h => h)
    have HR4 : Hid (Row w4 gp l.length (fun i => .int .i64 ((fun i => if i = x then (L.length : Int) else P i) i))) := HRS.out.below hb4
    have HB4 : Hid (Below w.heap.size w w4) := HBS.out.trans (hb4.mono HBS.out.size)
    have hs4 : wr.heap.size <= w4.heap.size := by have := hb4.size; have := HSS.out; omega
    have hB4 : w.heap.size <= w4.heap.size := by omega
    have hLl : L.length <= 1048576 := by have := HLJ.out; omega
    clear hb4 p0 p1 p2 p3 p4 p5 c1 c3
    generalize hy : remap l (nth l x) = y at HTK
    clear hy HMV
    go_wp2_with (at_builtin; go_must (refine app_node _ rfl _ _ rfl w.heap.size (.slice ao L.length co) L y rfl _ rfl rfl HO4.out hB4 hLl ?_; intro g5 cp5 w5 ho5 hk5 hg5))
    have HO5 : Hid (Ap2.Own w5 w.heap.size (.slice (some ⟨g5, 0, none⟩) (L.length + 1) cp5) (L ++ [y])) := ho5
    have HK5 : Hid (Kept (fun k => (Value.slice ao L.length co).ownBlock = some k) w4 w5) := hk5
    have HG5 : Hid ((Value.slice ao L.length co).ownBlock = some g5 \/ w4.heap.size <= g5) := hg5
    clear ho5 hk5 hg5
    go_wp2
    go_roundw
    case rel =>
     refine ⟨j + 1, by omega, by go_num, by rw [HTK.out]; exact HO5.out, HB4.out.trans (HK5.out.below (fun b hb => (HO4.out.lt b hb).1) hB4), ⟨_, HR4.out.kept HK5.out (fun e => by have := HNE.out gp e; omega), fun p hp hf hpj => ?_⟩, HI4.out.kept HK5.out (fun b h1 h2 e => by have := HNE.out b e; omega), by have := HK5.out.size; omega, fun b hb => ?_⟩
     ·by_cases e : p = x
      ·subst e
       rw [if_pos rfl, HLJ.out, HXJ.out]
      ·rw [if_neg e]
       refine HP.out p hp hf ?_
       rcases Nat.lt_or_ge (reachTo l p).length j with h | h
       ·exact h
       ·exact absurd (reachTo_inj l hf HXF.out (by rw [HXJ.out]; omega)) e
     ·cases hb
      rcases HG5.out with e | e
      ·exact HNE.out _ e
      ·exact .inr (by show _ <= g5; omega)
    case measure => simp [intOf]; omega
   ·have e2 : j = (reachTo l l.length).length := by omega
    have HPE : Hid (pruneL l = ((reachTo l l.length).take j).map fun p => remap l (nth l p.toNat)) := by
     show _ = _
     unfold pruneL; rw [HTR.out, if_pos rfl, prune_map, List.take_of_length_le (by omega)]
    have HCO : Hid ((((reachTo l l.length).take j).map fun p => remap l (nth l p.toNat)).length <= co) := own_room HO.out
    have HW : Hid (WNodes wr w.heap.size ao (((reachTo l l.length).take j).map fun p => remap l (nth l p.toNat))) := hwn
    have hjz : ¬ (j : Int) < ((reachTo l l.length).length : Int) := by omega
    clear hwn HO HNE HLJ e2
    generalize (((reachTo l l.length).take j).map fun p => remap l (nth l p.toNat)) = L at HPE HW HCO ⊢
    go_wp2
    go_ret
    rw [HPE.out]
    exact ⟨⟨ao, co, rfl, HW.out, HCO.out⟩, HB.out⟩
end Pg11
namespace Pv6
open Go.RowKit Go.Shelf
open Pl1 Vl1 Vl2
open Pg1 (iWordOk)
attribute [local go_sem] Oper.semAt_some
theorem iEach (b : Int) (w : World) :
 Calls Tryz.prog 75 #[.int .i64 b] w fun e w' => e = .returned (.func (.func 104) #[] #[.pointer (some ⟨w.heap.size, 0, none⟩)]) /\ w' = w.alloc (.cells #[.int .i64 b] 3) := by
 go_enter Tryz.func75, Tryz.ntmps75
 go_wp2
 go_ret
 exact ⟨rfl, rfl⟩
theorem fin_take {M j : Nat} (h : j < M) : (List.finRange M).take (j + 1) = (List.finRange M).take j ++ [⟨j, h⟩] := by
 rw [List.take_succ_eq_append_getElem (by simp; exact h)]
 simp
theorem wok_lt {b : Int} (h1 : 1 <= b) (h8 : b <= 8) (j : Nat) : wok b (j : Int) = decide (j < 2 ^ b.toNat) := by
 rw [Bool.eq_iff_iff, wok_iff, decide_eq_true_iff, p2_nat]
 omega
theorem words_stops (n n₀ Bn : Nat) (b : Int) (h1 : 1 <= b) (h8 : b <= 8) (w : World) (hB : Bn < n₀) (hn : n₀ <= w.heap.size) (hc : w.cell? ⟨Bn, 0, none⟩ = some (.int .i64 b)) :
 SeqStopsK Fence.wide n Tryz.prog 104 #[.pointer (some ⟨Bn, 0, none⟩)] (fun k : Fin (2 ^ b.toNat) => #[Value.int .i64 (k.val : Int)]) (Below n₀) (fun xs => xs = List.finRange (2 ^ b.toNat)) (fun _ => True) (2 ^ b.toNat) w := fun l J Jx W hW hJ hJx hY h0 => by
 have hcW : W.cell? ⟨Bn, 0, none⟩ = some (.int .i64 b) := (hW.cell (p := ⟨Bn, 0, none⟩) (show Bn < w.heap.size by omega)).trans hc
 have hw : ∀ j : Nat, wok b (j : Int) = decide (j < 2 ^ b.toNat) := fun j => wok_lt h1 h8 j
 have hM : 2 ^ b.toNat <= 256 := Nat.pow_le_pow_right (n := 2) (by omega) (show b.toNat <= 8 by omega)
 generalize 2 ^ b.toNat = M at *
 refine callsIn_of_wp Tryz.func104 rfl trivial ?_ rfl
 simp only [Tryz.ntmps104, List.size_toArray, List.length_cons, List.length_nil, Nat.reduceAdd, Nat.reduceSub, Array.replicate_succ, Array.replicate_zero, List.push_toArray, List.append_toArray, List.nil_append, List.cons_append]
 gi_wp2
 gi_loopw [3] (fun q wr => ∃ j : Nat, j <= M /\ q = .int .i64 (j : Int) /\ J ((List.finRange M).take j) wr /\ Below n₀ W wr) (fun q _ => M - (intOf q).toNat)
 case atStart => exact ⟨0, Nat.zero_le _, rfl, h0, Below.refl _ _⟩
 case round =>
  obtain ⟨j, hj, rfl, hJs, hBe⟩ := hrel
  have HJS : Hid (J ((List.finRange M).take j) wr) := hJs
  have HBE : Hid (Below n₀ W wr) := hBe
  have hcr : wr.cell? ⟨Bn, 0, none⟩ = some (.int .i64 b) := (hBe.cell (p := ⟨Bn, 0, none⟩) hB).trans hcW
  have hwj := hw j
  by_cases hlt : j < M
  ·rw [decide_eq_true hlt] at hwj
   obtain ⟨fn, tmps, assign, body, hy, hR⟩ := hY ((List.finRange M).take j) ⟨j, hlt⟩ wr hJs (by simp; omega)
   have hjz : (j : Int) <= 255 := by omega
   clear hw hY hJs hBe
   gi_wp2_with (refine ⟨trivial, (fun h => absurd h (by decide)), ?_⟩; gi_at_call 9; refine (callsIn_wide.2 (iWordOk _ _ _)).mono ?_; rintro e wr ⟨rfl, rfl⟩; rw [hwj])
   refine ⟨(fun h => absurd h (by decide)), hR.mono ?_⟩
   rintro e W3 (⟨rfl, hJ3, hk3⟩ | ⟨rfl, hJx3⟩)
   ·have HJ3 : Hid (J ((List.finRange M).take (j + 1)) W3) := by rw [fin_take hlt]; exact hJ3
    have HB3 : Hid (Below n₀ W W3) := HBE.out.trans hk3
    clear hJ3 hk3
    gi_wp2
    go_roundw
    case rel => exact ⟨j + 1, by omega, by go_num, HJ3.out, HB3.out⟩
    case measure => simp [intOf]; omega
   ·have HJ3 : Hid (Jx ((List.finRange M).take j ++ [⟨j, hlt⟩]) W3) := hJx3
    clear hJx3
    gi_wp2
    refine bodyPost_ret (results_none rfl _ _ _) rfl ?_
    exact ⟨⟨_, rfl⟩, .inr ⟨_, trivial, HJ3.out⟩⟩
  ·rw [decide_eq_false hlt] at hwj
   have HJE : Hid (j = M) := by
    show _ = _
    omega
   clear hw hY hJs hBe
   gi_wp2_with (refine ⟨trivial, (fun h => absurd h (by decide)), ?_⟩; gi_at_call 9; refine (callsIn_wide.2 (iWordOk _ _ _)).mono ?_; rintro e wr ⟨rfl, rfl⟩; rw [hwj])
   go_end0
   exact ⟨⟨_, rfl⟩, .inl ⟨_, rfl, by have h9 := HJS.out; rw [HJE.out, List.take_of_length_le (by simp)] at h9; exact h9⟩⟩
end Pv6
namespace Lift
open Go.RowKit
variable {l n : Nat} {P : Program} {ops : Array Oper} {Q : Exit -> Act -> World -> Prop} {md : Region.Mode}
theorem op_lift {o : Oper} {a : Act} {w : World} {K : Act -> World -> Prop} (hd : ∀ c, o.op ≠ .defer c) (h : o.wp P a w K Q) : o.wpIn (Fence.wide.inRound l) n P a w K Q := by
 refine ⟨fun f _ => trivial, ?_⟩
 show o.uponIn (Fence.wide.inRound l) n P a K Q ((o.semAt (some l) a.eval).run P w)
 rw [Oper.semAt_some l a.eval o hd]
 unfold Oper.wp at h
 generalize (execOp a.eval o).run P w = r at h ⊢
 cases r with
 | ok x w' =>
   cases x <;> simp only [Oper.upon] at h <;> simp only [Oper.uponIn]
   all_goals first
    | exact h
    | exact ⟨(fun h0 => Bool.noConfusion (show false = true from h0)), CallsIn.inRound l (callsIn_wide.2 h)⟩
    | exact ⟨(fun h0 => Bool.noConfusion (show false = true from h0)), (fun c cs _ => by
     obtain ⟨v, w', r, s⟩ := h c cs
     exact ⟨v, w', r, stepsIn_wide.2 s⟩)⟩
 | halt x w' => cases x <;> simp only [Oper.upon] at h <;> simp only [Oper.uponIn] <;> exact h
theorem any_lift (hL : ¬ LetsOut Q) (hd : ∀ (i : Nat) (o : Oper), ops[i]? = some o -> ∀ c, o.op ≠ .defer c) : ∀ (fuel : Nat) (listed : Array Bool) (a : Act) (w : World), wpAny P md ops Q fuel listed a w -> wpAnyIn (Fence.wide.inRound l) n P md ops Q fuel listed a w := by
 intro fuel
 induction fuel with
 | zero => intro listed a w h; exact h
 | succ fuel ih =>
   intro listed a w h
   refine ⟨h.1, fun i hi => ?_⟩
   have h2 := h.2 i hi
   unfold wpOp at h2
   unfold wpOpIn
   cases ho : ops[i]? with
   | none => rw [ho] at h2; exact ih _ _ _ h2
   | some o =>
     rw [ho] at h2
     dsimp only at h2 ⊢
     split
     ·rename_i hw
      rw [if_pos hw] at h2
      rcases h2 with h3 | h3
      ·exact op_lift (hd i o ho) (Oper.wp_mono (fun a w h => ih _ _ _ h) h3)
      ·exact absurd h3.2 hL
     ·rename_i hw
      rw [if_neg hw] at h2
      exact ⟨fun f _ => trivial, ih _ _ _ h2⟩
def noDefer (ops : Array Oper) : Bool := ops.toList.all fun o => match o.op with
 | .defer _ => false
 | _ => true
theorem noDefer_of (h : noDefer ops = true) : ∀ (i : Nat) (o : Oper), ops[i]? = some o -> ∀ c, o.op ≠ .defer c := by
 intro i o ho c hc
 have h2 := List.all_eq_true.1 h o (by
  obtain ⟨hi, rfl⟩ := Array.getElem?_eq_some_iff.1 ho
  simp)
 rw [hc] at h2
 cases h2
theorem region_lift {S : World -> Prop} {id : Nat} {a : Act} {w : World} (hm : P.follows .mixedOrders = true) (hL : ¬ LetsOut Q) (hd : noDefer ops = true)
 (hS : S w.drew) (h : S w.drew -> wpAnyH P .any ops Q S ops.size (Array.replicate ops.size false) a w.drew) : (Code.region id ops true).wpIn (Fence.wide.inRound l) n P Q a w :=
 wpIn_region_any hm (any_lift hL (noDefer_of hd) _ _ _ _ (wpAny_of_held _ _ _ _ (h hS)))
end Lift
namespace Vm2
open Nd0 Pl1 Pl2 Tm0 Tm1 Tm3 Tm5 Tm6 Tm8 Tm11 Tm13 Tm14 Tr0 Vl1 Vl2 Vm0 Vm1
def FitN (l : List Nd) (i : Nat) (e : List Int) : Prop := ∃ r, needT (tr l i) = some r /\ Fits r e
theorem FitN.part {l : List Nd} (hD : Down l) {i : Nat} (hi : i < l.length) {e : List Int} (h : FitN l i e) (hq : quant (nth l i).op = false) {p : Int} (hp : p ∈ parts (nth l i)) : FitN l p.toNat e := by
 obtain ⟨r, hr, hF⟩ := h
 rw [tr_at hD hi] at hr
 generalize nth l i = n at hp hq hr
 have hq2 : ¬ n.op = 19 /\ ¬ n.op = 20 := by simpa [quant] using hq
 by_cases h1 : n.op = 2 \/ n.op = 17 \/ n.op = 19 \/ n.op = 20
 ·rw [mk_one h1] at hr
  rw [parts_one h1] at hp
  simp only [List.mem_cons, List.not_mem_nil, or_false] at hp
  subst hp
  simp only [needT] at hr
  cases hn : needT (tr l n.a.toNat) with
  | none => rw [hn] at hr; cases hr
  | some s =>
    rw [hn] at hr
    simp only [Option.bind_some, hq, Bool.false_eq_true, if_false] at hr
    cases hr
    exact ⟨_, hn, hF⟩
 ·by_cases h2 : 3 <= n.op /\ n.op <= 16
  ·rw [mk_two h2] at hr
   rw [parts_two h2] at hp
   simp only [List.mem_cons, List.not_mem_nil, or_false] at hp
   simp only [needT] at hr
   cases hx : needT (tr l n.a.toNat) with
   | none => rw [hx] at hr; cases hr
   | some s =>
     cases hy : needT (tr l n.b.toNat) with
     | none => rw [hx, hy] at hr; cases hr
     | some t =>
       rw [hx, hy] at hr
       simp only [Option.bind_some] at hr
       cases hr
       rcases hp with rfl | rfl
       ·exact ⟨s, hx, hF.left⟩
       ·exact ⟨t, hy, hF.right⟩
  ·by_cases h3 : n.op = 18
   ·rw [mk_three h3] at hr
    rw [parts_three h3] at hp
    simp only [List.mem_cons, List.not_mem_nil, or_false] at hp
    simp only [needT] at hr
    cases hx : needT (tr l n.a.toNat) with
    | none => rw [hx] at hr; cases hr
    | some s =>
      cases hy : needT (tr l n.b.toNat) with
      | none => rw [hx, hy] at hr; cases hr
      | some t =>
        cases hz : needT (tr l n.c.toNat) with
        | none => rw [hx, hy, hz] at hr; cases hr
        | some u =>
          rw [hx, hy, hz] at hr
          simp only [Option.bind_some] at hr
          cases hr
          rcases hp with rfl | rfl | rfl
          ·exact ⟨s, hx, hF.left.left⟩
          ·exact ⟨t, hy, hF.left.right⟩
          ·exact ⟨u, hz, hF.right⟩
   ·rw [parts_none h1 h2 h3] at hp
    cases hp
theorem FitN.below {l : List Nd} (hD : Down l) {i : Nat} (hi : i < l.length) (hN : nodeOk l i = true) {e : List Int} (he : e.length = 8) (h : FitN l i e) (hq : quant (nth l i).op = true) {k : Nat} (hk : k < 2 ^ (nth l i).b.toNat) : FitN l (nth l i).a.toNat (e.set (nth l i).k.toNat (k : Int)) := by
 obtain ⟨r, hr, hF⟩ := h
 have hkk := shape_var hN (.inr hq)
 have hbb := quant_b hN hq
 rw [tr_at hD hi] at hr
 generalize nth l i = n at hq hr hkk hbb hk
 have hq2 : n.op = 19 \/ n.op = 20 := by simpa [quant] using hq
 rw [mk_one (by omega)] at hr
 simp only [needT] at hr
 cases hn : needT (tr l n.a.toNat) with
 | none => rw [hn] at hr; cases hr
 | some s =>
   rw [hn] at hr
   simp only [Option.bind_some, hq, if_true] at hr
   by_cases hc : s.getD n.k.toNat 0 ≠ 0 /\ s.getD n.k.toNat 0 ≠ 2 ^ n.b.toNat
   ·rw [if_pos hc] at hr; cases hr
   ·rw [if_neg hc] at hr
    cases hr
    exact ⟨s, hn, Fits.below (need_len _ _ hn) he hkk hbb hk hc hF⟩
theorem FitN.word {l : List Nd} (hT : termOk l = true) {i : Nat} (hi : i < l.length) {e : List Int} (he : e.length = 8) (h : FitN l i e) : wok (nth l i).w (vT (tr l i) e) = true := by
 obtain ⟨r, hr, hF⟩ := h
 have h2 := rt_all (down_of hT) (fun k hk => term_node hT hk) i hi
 have := value_word _ r e h2.1 hr he hF
 rw [h2.2] at this
 exact this
def hitB (l : List Nd) (e : List Int) (n : Nd) (x : Int) : Bool := (List.range (2 ^ n.b.toNat)).any fun (k : Nat) => vT (tr l n.a.toNat) (e.set n.k.toNat (k : Int)) == x
theorem hit_iff {l : List Nd} {e : List Int} {n : Nd} {x : Int} : hitB l e n x = true ↔ ∃ k : Nat, k < 2 ^ n.b.toNat /\ vT (tr l n.a.toNat) (e.set n.k.toNat (k : Int)) = x := by
 unfold hitB
 rw [List.any_eq_true]
 constructor
 ·rintro ⟨k, h1, h2⟩; exact ⟨k, List.mem_range.1 h1, by simpa using h2⟩
 ·rintro ⟨k, h1, h2⟩; exact ⟨k, List.mem_range.2 h1, by simpa using h2⟩
theorem vT_hit {l : List Nd} (hT : termOk l = true) {i : Nat} (hi : i < l.length) {e : List Int} (he : e.length = 8) (h : FitN l i e) (hq : quant (nth l i).op = true) :
 vT (tr l i) e = if (nth l i).op = 19 then (if (!hitB l e (nth l i) 0) then 1 else 0) else (if hitB l e (nth l i) 1 then 1 else 0) := by
 have hD := down_of hT
 have hq2 : (nth l i).op = 19 \/ (nth l i).op = 20 := by simpa [quant] using hq
 have haa := hD i hi (nth l i).a (by rw [parts_one (by omega)]; simp)
 have hw1 : (nth l (nth l i).a.toNat).w = 1 := by
  have h2 := (rt_all hD (fun k hk => term_node hT hk) i hi).1
  rw [tr_at hD hi, mk_one (by omega)] at h2
  have h3 := h2.2.2.2
  have h4 := (rt_all hD (fun k hk => term_node hT hk) (nth l i).a.toNat (by omega)).2
  rcases h3 with h5 | h5 | h5
  ·omega
  ·omega
  ·rw [<- h4]; exact h5.2.1
 have hbit : ∀ k : Nat, k < 2 ^ (nth l i).b.toNat -> vT (tr l (nth l i).a.toNat) (e.set (nth l i).k.toNat (k : Int)) = 0 \/ vT (tr l (nth l i).a.toNat) (e.set (nth l i).k.toNat (k : Int)) = 1 := fun k hk => by
  have h2 := FitN.word hT (by omega) (by rw [List.length_set]; exact he) (h.below hD hi (term_node hT hi) he hq hk)
  rw [hw1] at h2
  have h3 := wok_iff.1 h2
  have h4 : p2 (1 : Int).toNat = 2 := rfl
  rw [h4] at h3
  omega
 rw [vT_quant hD hi e hq]
 by_cases h19 : (nth l i).op = 19
 ·rw [if_pos h19, if_pos h19]
  cases hh : hitB l e (nth l i) 0
  ·simp only [Bool.not_false, if_true]
   refine allN_one.2 (fun k hk => ?_)
   rcases hbit k hk with h5 | h5
   ·rw [hit_iff.2 ⟨k, hk, h5⟩] at hh; cases hh
   ·exact h5
  ·obtain ⟨k, hk, h5⟩ := hit_iff.1 hh
   simp only [Bool.not_true, Bool.false_eq_true, if_false]
   rcases allN_bit (fun i_1 => vT (tr l (nth l i).a.toNat) (e.set (nth l i).k.toNat (i_1 : Int))) (2 ^ (nth l i).b.toNat) with h6 | h6
   ·exact h6
   ·have h7 := allN_one.1 h6 k hk
    rw [h5] at h7; cases h7
 ·rw [if_neg h19, if_neg h19]
  cases hh : hitB l e (nth l i) 1
  ·simp only [Bool.false_eq_true, if_false]
   rcases anyN_bit (fun i_1 => vT (tr l (nth l i).a.toNat) (e.set (nth l i).k.toNat (i_1 : Int))) (2 ^ (nth l i).b.toNat) with h6 | h6
   ·exact h6
   ·rw [hit_iff.2 (anyN_one.1 h6)] at hh; cases hh
  ·simp only [if_true]
   exact anyN_one.2 (hit_iff.1 hh)
end Vm2
end Go.Proofs.YtiaimhgfimhepaaGreatDoor
