import Derived.Deep.RegionHeld
import Derived.Test.YtjajkmdoggbicaaGreatDoorPkSV48
import Derived.Test.YtjajkmdoggbicaaGreatDoorPkSV18
namespace Go.Proofs.YtjajkmdoggbicaaGreatDoor
set_option maxRecDepth 100000
set_option maxHeartbeats 8000000
set_option linter.unusedVariables false
namespace Zl7
open Go.RowKit
open Nd0 (Kept Ints WInts IntsIn At lt_of_cell)
open Mm0 (Mc Mb Mr Mok mval)
open Mx0 (Mf Mz)
open Mi3 (iCounts)
open Ss0 (bs bs_size)
open Ss1 (tl tl_bs bs_tl tl_length)
open Zt0 (TabZ)
open Zl0 Zl1
open Zl5 (RnO iNums)
theorem sk {w:World} {g q o j:Nat} {v:Value} {c:Option Value} (h:w.cell? ⟨g,o,none⟩=c) (hgq:¬ g=q):(w.setCell ⟨q,j,none⟩ v).cell? ⟨g,o,none⟩=c:=by
 rw [Nd0.set_other (by simp)]
 exact h
theorem rd_counts (m:Mc) (b:List UInt8):rd m b 6=match numsP b with
 | some [x,y,z]=>some { m with steps:=x,looks:=y,hits:=z }
 | _=>none:=rfl
theorem r6 (W:World) (q:Nat) (m:Mc) (ra va ma:Option Addr) (rc vc mc u1 u2:Nat) (h:Ld W q m ra va ma rc vc mc u1 u2) (b:List UInt8) (hb:b.length<=400000) (hT:TabZ W) :
 Calls Tryz.prog 143 #[.pointer (some ⟨q,0,none⟩),.string (bs b)] W (RdO W q ma (rd m b 6)):=by
 have HL:Hid (Ld W q m ra va ma rc vc mc u1 u2):=h
 have HN:Hid _:=iNums b W hT hb
 clear h hT hb
 go_enter Tryz.func143,Tryz.ntmps143
 go_wp2_with fail
 refine Calls.mono HN.out ?_
 rintro e w1 ⟨hy,hn,hb1⟩
 have HB:Hid (Below W.heap.size W w1):=hb1
 have HL1:Hid (Ld w1 q m ra va ma rc vc mc u1 u2):=HL.out.below hb1
 clear hb1
 cases ho:numsP b with
 | none =>
   obtain ⟨a,n,c,rfl⟩:=hn ho
   have HR:Hid (rd m b 6=none):=by show _=_;rw [rd_counts,ho]
   clear hy hn ho
   go_wp2
   go_ret
   exact ⟨by rw [HR.out];rfl,fun m' hm'=>(by rw [HR.out] at hm';cases hm'),Kept.ofBelow HB.out⟩
 | some l =>
   obtain ⟨a,c,rfl,hI⟩:=hy l ho
   have HI:Hid (WInts w1 W.heap.size a l):=hI
   have HRD:Hid (rd m b 6=match some l with
    | some [x,y,z]=>some { m with steps:=x,looks:=y,hits:=z }
    | _=>none):=by show _=_;rw [rd_counts,ho]
   clear hy hn ho hI
   obtain ⟨c0,c1,c2,c3,c4,c5,c6,c7,c8,c9,c10,z0,z1,z2,z3,z4,z5,z6,z7,z8,z9,z10⟩:=HL1.out.mf.all
   have hq:=HL1.out.lt
   have HCO:Hid (∀ w,Calls Tryz.prog 60 #[mval m ra va ma rc vc mc] w fun e w'=>e=.returned (.agg #[.int .i64 m.steps,.int .i64 m.looks,.int .i64 m.hits])/\Below w.heap.size w w'):=fun w=>iCounts w m ra va ma rc vc mc
   by_cases h3:l.length=3
   rotate_left
   ·have hne:((l.length:Int) != 3)=true:=bne_iff_ne.2 (by omega)
    have HR:Hid (rd m b 6=none):=by
     show _=_
     rw [HRD.out]
     match l,h3 with
     | [],_=>rfl
     | [_],_=>rfl
     | [_,_],_=>rfl
     | [_,_,_],h=>exact absurd rfl h
     | _ :: _ :: _ :: _ :: _,_=>rfl
    clear h3
    go_wp2_with (go_at_call 60;refine (HCO.out _).mono ?_;rintro e w2 ⟨rfl,hb2⟩;have HB2:Hid (Below W.heap.size W w2):=HB.out.trans (hb2.mono HB.out.size);clear hb2)
    go_ret
    exact ⟨by rw [HR.out];rfl,fun m' hm'=>(by rw [HR.out] at hm';cases hm'),Kept.ofBelow HB2.out⟩
   ·obtain ⟨x,y,z,rfl⟩:∃ x y z,l=[x,y,z]:=by
     match l,h3 with
     | [x,y,z],_=>exact ⟨x,y,z,rfl⟩
    have HR:Hid (rd m b 6=some { m with steps:=x,looks:=y,hits:=z }):=HRD.out
    obtain ⟨g,o,ha,hc⟩:∃ g o,a=some ⟨g,o,none⟩/\W.heap.size<=g/\(w1.cell? ⟨g,o,none⟩=some (.int .i64 x)/\w1.cell? ⟨g,o+1,none⟩=some (.int .i64 y)/\w1.cell? ⟨g,o+2,none⟩=some (.int .i64 z)):=by
     rcases HI.out.2 with e|⟨g,o,e,hB,hc⟩
     ·simp at e
     ·exact ⟨g,o,e,hB,(hc 0 (by simp)).1,(hc 1 (by simp)).1,(hc 2 (by simp)).1⟩
    subst ha
    obtain ⟨hWg,n0,n1,n2⟩:=hc
    have hgq:¬ g=q:=by have:=HL.out.lt;omega
    have hgl:=lt_of_cell n0
    clear h3 HRD
    go_wp2_with (go_at_call 60;refine (HCO.out _).mono ?_;rintro e w2 ⟨rfl,hb2⟩;have HB2:Hid (Below W.heap.size W w2):=HB.out.trans (hb2.mono HB.out.size);have HL2:Hid (Ld w2 q m ra va ma rc vc mc u1 u2):=HL1.out.below hb2;have e0:w2.cell? ⟨g,o,none⟩=some (.int .i64 x):=(by rw [hb2.cell (p:=⟨g,o,none⟩) hgl];exact n0);have e1:w2.cell? ⟨g,o+1,none⟩=some (.int .i64 y):=(by rw [hb2.cell (p:=⟨g,o+1,none⟩) hgl];exact n1);have e2:w2.cell? ⟨g,o+2,none⟩=some (.int .i64 z):=(by rw [hb2.cell (p:=⟨g,o+2,none⟩) hgl];exact n2);clear hb2)
    refine wp_region_held_drew (S:=(fun v=>v.cell? ⟨g,o,none⟩=some (.int .i64 x)/\v.cell? ⟨g,o+1,none⟩=some (.int .i64 y)/\v.cell? ⟨g,o+2,none⟩=some (.int .i64 z))) (by kernel_rfl) ⟨e0,e1,e2⟩ (fun hHeld=>?_)
    refine wpAnyH_take (i:=0) (v:=?_) rfl (by kernel_rfl) (by kernel_rfl) (by kernel_rfl) (fun _ _ _ h=>h) (Or.inl ⟨by rfl,?_⟩) hHeld ?_
    rotate_left
    ·(intro v9 hS9;obtain ⟨y0,y1,y2⟩:=hS9;go_simp;try with_reducible rfl)
    try simp only [Act.put,List.setIfInBounds_toArray,List.set_cons_zero,List.set_cons_succ,List.getElem_toArray,List.getElem_cons_zero]
    refine wpAnyH_take (i:=1) (v:=?_) rfl (by kernel_rfl) (by kernel_rfl) (by kernel_rfl) (fun _ _ _ h=>h) (Or.inl ⟨by rfl,?_⟩) hHeld ?_
    rotate_left
    ·(intro v9 hS9;obtain ⟨y0,y1,y2⟩:=hS9;go_simp;try with_reducible rfl)
    try simp only [Act.put,List.setIfInBounds_toArray,List.set_cons_zero,List.set_cons_succ,List.getElem_toArray,List.getElem_cons_zero,List.getElem_cons_succ]
    refine wpAnyH_take (i:=2) (v:=?_) rfl (by kernel_rfl) (by kernel_rfl) (by kernel_rfl) (fun _ _ _ h=>h) (Or.inl ⟨by rfl,?_⟩) hHeld ?_
    rotate_left
    ·(intro v9 hS9;obtain ⟨y0,y1,y2⟩:=hS9;go_simp;try with_reducible rfl)
    try simp only [Act.put,List.setIfInBounds_toArray,List.set_cons_zero,List.set_cons_succ,List.getElem_toArray,List.getElem_cons_zero,List.getElem_cons_succ]
    refine wpAnyH_take (i:=3) (v:=?_) rfl (by kernel_rfl) (by kernel_rfl) (by kernel_rfl) (fun _ _ _ h=>h) (Or.inl ⟨by rfl,?_⟩) hHeld ?_
    rotate_left
    ·(intro v9 hS9;obtain ⟨y0,y1,y2⟩:=hS9;go_simp;try with_reducible rfl)
    try simp only [Act.put,List.setIfInBounds_toArray,List.set_cons_zero,List.set_cons_succ,List.getElem_toArray,List.getElem_cons_zero,List.getElem_cons_succ]
    refine wpAnyH_take (i:=4) (v:=?_) rfl (by kernel_rfl) (by kernel_rfl) (by kernel_rfl) (fun _ _ _ h=>h) (Or.inl ⟨by rfl,?_⟩) hHeld ?_
    rotate_left
    ·(intro v9 hS9;obtain ⟨y0,y1,y2⟩:=hS9;go_simp;try with_reducible rfl)
    try simp only [Act.put,List.setIfInBounds_toArray,List.set_cons_zero,List.set_cons_succ,List.getElem_toArray,List.getElem_cons_zero,List.getElem_cons_succ]
    refine wpAnyH_take (i:=5) (v:=?_) rfl (by kernel_rfl) (by kernel_rfl) (by kernel_rfl) (fun _ _ _ h=>h) (Or.inl ⟨by rfl,?_⟩) hHeld ?_
    rotate_left
    ·(intro v9 hS9;obtain ⟨y0,y1,y2⟩:=hS9;go_simp;try with_reducible rfl)
    try simp only [Act.put,List.setIfInBounds_toArray,List.set_cons_zero,List.set_cons_succ,List.getElem_toArray,List.getElem_cons_zero,List.getElem_cons_succ]
    refine wpAnyH_take (i:=6) (v:=?_) rfl (by kernel_rfl) (by kernel_rfl) (by kernel_rfl) (fun _ _ _ h=>h) (Or.inl ⟨by rfl,?_⟩) hHeld ?_
    rotate_left
    ·(intro v9 hS9;obtain ⟨y0,y1,y2⟩:=hS9;go_simp;try with_reducible rfl)
    try simp only [Act.put,List.setIfInBounds_toArray,List.set_cons_zero,List.set_cons_succ,List.getElem_toArray,List.getElem_cons_zero,List.getElem_cons_succ]
    refine wpAnyH_take (i:=7) (v:=?_) rfl (by kernel_rfl) (by kernel_rfl) (by kernel_rfl) (fun _ _ _ h=>h) (Or.inl ⟨by rfl,?_⟩) hHeld ?_
    rotate_left
    ·(intro v9 hS9;obtain ⟨y0,y1,y2⟩:=hS9;go_simp;try with_reducible rfl)
    try simp only [Act.put,List.setIfInBounds_toArray,List.set_cons_zero,List.set_cons_succ,List.getElem_toArray,List.getElem_cons_zero,List.getElem_cons_succ]
    refine wpAnyH_take (i:=8) (v:=?_) rfl (by kernel_rfl) (by kernel_rfl) (by kernel_rfl) (fun _ _ _ h=>h) (Or.inl ⟨by rfl,?_⟩) hHeld ?_
    rotate_left
    ·(intro v9 hS9;obtain ⟨y0,y1,y2⟩:=hS9;go_simp;try with_reducible rfl)
    try simp only [Act.put,List.setIfInBounds_toArray,List.set_cons_zero,List.set_cons_succ,List.getElem_toArray,List.getElem_cons_zero,List.getElem_cons_succ]
    refine wpAnyH_take (i:=9) (v:=?_) rfl (by kernel_rfl) (by kernel_rfl) (by kernel_rfl) (fun _ _ _ h=>h) (Or.inl ⟨by rfl,?_⟩) hHeld ?_
    rotate_left
    ·(intro v9 hS9;obtain ⟨y0,y1,y2⟩:=hS9;go_simp;try with_reducible rfl)
    try simp only [Act.put,List.setIfInBounds_toArray,List.set_cons_zero,List.set_cons_succ,List.getElem_toArray,List.getElem_cons_zero,List.getElem_cons_succ]
    refine wpAnyH_take (i:=10) (v:=?_) rfl (by kernel_rfl) (by kernel_rfl) (by kernel_rfl) (fun _ _ _ h=>h) (Or.inl ⟨by rfl,?_⟩) hHeld ?_
    rotate_left
    ·(intro v9 hS9;obtain ⟨y0,y1,y2⟩:=hS9;go_simp;try with_reducible rfl)
    try simp only [Act.put,List.setIfInBounds_toArray,List.set_cons_zero,List.set_cons_succ,List.getElem_toArray,List.getElem_cons_zero,List.getElem_cons_succ]
    refine wpAnyH_take (i:=11) (v:=?_) rfl (by kernel_rfl) (by kernel_rfl) (by kernel_rfl) (fun _ _ _ h=>h) (Or.inl ⟨by rfl,?_⟩) hHeld ?_
    rotate_left
    ·(intro v9 hS9;obtain ⟨y0,y1,y2⟩:=hS9;go_simp;try with_reducible rfl)
    try simp only [Act.put,List.setIfInBounds_toArray,List.set_cons_zero,List.set_cons_succ,List.getElem_toArray,List.getElem_cons_zero,List.getElem_cons_succ]
    refine wpAnyH_take (i:=12) (v:=?_) rfl (by kernel_rfl) (by kernel_rfl) (by kernel_rfl) (fun _ _ _ h=>h) (Or.inl ⟨by rfl,?_⟩) hHeld ?_
    rotate_left
    ·(intro v9 hS9;obtain ⟨y0,y1,y2⟩:=hS9;go_simp;try with_reducible rfl)
    try simp only [Act.put,List.setIfInBounds_toArray,List.set_cons_zero,List.set_cons_succ,List.getElem_toArray,List.getElem_cons_zero,List.getElem_cons_succ]
    refine wpAnyH_take (i:=13) (v:=?_) rfl (by kernel_rfl) (by kernel_rfl) (by kernel_rfl) (fun _ _ _ h=>h) (Or.inl ⟨by rfl,?_⟩) hHeld ?_
    rotate_left
    ·(intro v9 hS9;obtain ⟨y0,y1,y2⟩:=hS9;go_simp;try with_reducible rfl)
    try simp only [Act.put,List.setIfInBounds_toArray,List.set_cons_zero,List.set_cons_succ,List.getElem_toArray,List.getElem_cons_zero,List.getElem_cons_succ]
    have m0:=HL2.out.mf
    have m1:=m0.set 7 (.int .i64 x)
    have m2:=m1.set 8 (.int .i64 y)
    have m3:=m2.set 9 (.int .i64 z)
    have HM0:Hid (Mf w2 q _):=m0
    have HM1:Hid (Mf (w2.setCell ⟨q,7,none⟩ (.int .i64 x)) q _):=m1
    have HM2:Hid (Mf ((w2.setCell ⟨q,7,none⟩ (.int .i64 x)).setCell ⟨q,8,none⟩ (.int .i64 y)) q _):=m2
    have HM3:Hid (Mf (((w2.setCell ⟨q,7,none⟩ (.int .i64 x)).setCell ⟨q,8,none⟩ (.int .i64 y)).setCell ⟨q,9,none⟩ (.int .i64 z)) q _):=m3
    clear m0 m1 m2 m3
    have HS0:Hid (w2.cell? ⟨g,o,none⟩=some (.int .i64 x)/\w2.cell? ⟨g,o+1,none⟩=some (.int .i64 y)/\w2.cell? ⟨g,o+2,none⟩=some (.int .i64 z)):=⟨e0,e1,e2⟩
    have HS1:Hid ((w2.setCell ⟨q,7,none⟩ (.int .i64 x)).cell? ⟨g,o,none⟩=some (.int .i64 x)/\(w2.setCell ⟨q,7,none⟩ (.int .i64 x)).cell? ⟨g,o+1,none⟩=some (.int .i64 y)/\(w2.setCell ⟨q,7,none⟩ (.int .i64 x)).cell? ⟨g,o+2,none⟩=some (.int .i64 z)):=⟨sk HS0.out.1 hgq,sk HS0.out.2.1 hgq,sk HS0.out.2.2 hgq⟩
    have HS2:Hid (((w2.setCell ⟨q,7,none⟩ (.int .i64 x)).setCell ⟨q,8,none⟩ (.int .i64 y)).cell? ⟨g,o,none⟩=some (.int .i64 x)/\((w2.setCell ⟨q,7,none⟩ (.int .i64 x)).setCell ⟨q,8,none⟩ (.int .i64 y)).cell? ⟨g,o+1,none⟩=some (.int .i64 y)/\((w2.setCell ⟨q,7,none⟩ (.int .i64 x)).setCell ⟨q,8,none⟩ (.int .i64 y)).cell? ⟨g,o+2,none⟩=some (.int .i64 z)):=⟨sk HS1.out.1 hgq,sk HS1.out.2.1 hgq,sk HS1.out.2.2 hgq⟩
    have HS3:Hid ((((w2.setCell ⟨q,7,none⟩ (.int .i64 x)).setCell ⟨q,8,none⟩ (.int .i64 y)).setCell ⟨q,9,none⟩ (.int .i64 z)).cell? ⟨g,o,none⟩=some (.int .i64 x)/\(((w2.setCell ⟨q,7,none⟩ (.int .i64 x)).setCell ⟨q,8,none⟩ (.int .i64 y)).setCell ⟨q,9,none⟩ (.int .i64 z)).cell? ⟨g,o+1,none⟩=some (.int .i64 y)/\(((w2.setCell ⟨q,7,none⟩ (.int .i64 x)).setCell ⟨q,8,none⟩ (.int .i64 y)).setCell ⟨q,9,none⟩ (.int .i64 z)).cell? ⟨g,o+2,none⟩=some (.int .i64 z)):=⟨sk HS2.out.1 hgq,sk HS2.out.2.1 hgq,sk HS2.out.2.2 hgq⟩
    have HF0:Hid (w2.drew.cell? ⟨q,7,none⟩=some (.int .i64 m.steps)/\w2.drew.frozen? ⟨q,7,none⟩=false):=HM0.out 7 (by simp)
    have HF1:Hid ((w2.setCell ⟨q,7,none⟩ (.int .i64 x)).drew.cell? ⟨q,8,none⟩=some (.int .i64 m.looks)/\(w2.setCell ⟨q,7,none⟩ (.int .i64 x)).drew.frozen? ⟨q,8,none⟩=false):=HM1.out 8 (by simp)
    have HF2:Hid (((w2.setCell ⟨q,7,none⟩ (.int .i64 x)).setCell ⟨q,8,none⟩ (.int .i64 y)).drew.cell? ⟨q,9,none⟩=some (.int .i64 m.hits)/\((w2.setCell ⟨q,7,none⟩ (.int .i64 x)).setCell ⟨q,8,none⟩ (.int .i64 y)).drew.frozen? ⟨q,9,none⟩=false):=HM2.out 9 (by simp)
    obtain ⟨cc,ff⟩:=HF0.out
    refine wpAnyH_ready (rs:=[14]) (by kernel_rfl) (by simp) ?_
    refine AllReadyH.cons rfl (fun K hK=>?_) AllReadyH.nil
    go_simp
    refine hK.out _ _ HS1.out (fun hNext=>?_)
    clear hK K hHeld cc ff
    have hHeld:=hNext
    clear hNext
    refine wpAnyH_take (i:=15) (v:=?_) rfl (by kernel_rfl) (by kernel_rfl) (by kernel_rfl) (fun _ _ _ h=>h) (Or.inl ⟨by rfl,?_⟩) hHeld ?_
    rotate_left
    ·(intro v9 hS9;clear hS9;go_simp;try with_reducible rfl)
    try simp only [Act.put,List.setIfInBounds_toArray,List.set_cons_zero,List.set_cons_succ,List.getElem_toArray,List.getElem_cons_zero,List.getElem_cons_succ]
    refine wpAnyH_take (i:=16) (v:=?_) rfl (by kernel_rfl) (by kernel_rfl) (by kernel_rfl) (fun _ _ _ h=>h) (Or.inl ⟨by rfl,?_⟩) hHeld ?_
    rotate_left
    ·(intro v9 hS9;clear hS9;go_simp;try with_reducible rfl)
    try simp only [Act.put,List.setIfInBounds_toArray,List.set_cons_zero,List.set_cons_succ,List.getElem_toArray,List.getElem_cons_zero,List.getElem_cons_succ]
    obtain ⟨cc,ff⟩:=HF1.out
    refine wpAnyH_ready (rs:=[17]) (by kernel_rfl) (by simp) ?_
    refine AllReadyH.cons rfl (fun K hK=>?_) AllReadyH.nil
    go_simp
    refine hK.out _ _ HS2.out (fun hNext=>?_)
    clear hK K hHeld cc ff
    have hHeld:=hNext
    clear hNext
    refine wpAnyH_take (i:=18) (v:=?_) rfl (by kernel_rfl) (by kernel_rfl) (by kernel_rfl) (fun _ _ _ h=>h) (Or.inl ⟨by rfl,?_⟩) hHeld ?_
    rotate_left
    ·(intro v9 hS9;clear hS9;go_simp;try with_reducible rfl)
    try simp only [Act.put,List.setIfInBounds_toArray,List.set_cons_zero,List.set_cons_succ,List.getElem_toArray,List.getElem_cons_zero,List.getElem_cons_succ]
    refine wpAnyH_take (i:=19) (v:=?_) rfl (by kernel_rfl) (by kernel_rfl) (by kernel_rfl) (fun _ _ _ h=>h) (Or.inl ⟨by rfl,?_⟩) hHeld ?_
    rotate_left
    ·(intro v9 hS9;clear hS9;go_simp;try with_reducible rfl)
    try simp only [Act.put,List.setIfInBounds_toArray,List.set_cons_zero,List.set_cons_succ,List.getElem_toArray,List.getElem_cons_zero,List.getElem_cons_succ]
    obtain ⟨cc,ff⟩:=HF2.out
    refine wpAnyH_ready (rs:=[20]) (by kernel_rfl) (by simp) ?_
    refine AllReadyH.cons rfl (fun K hK=>?_) AllReadyH.nil
    go_simp
    refine hK.out _ _ HS3.out (fun hNext=>?_)
    clear hK K hHeld cc ff
    have hHeld:=hNext
    clear hNext
    refine wpAnyH_done (by kernel_rfl) ?_ _
    go_wp2
    go_ret
    have K:Kept (fun b=>b=q) w2 (((w2.setCell ⟨q,7,none⟩ (.int .i64 x)).setCell ⟨q,8,none⟩ (.int .i64 y)).setCell ⟨q,9,none⟩ (.int .i64 z)):=(((Kept.refl (fun b=>b=q) w2).setCell (p:=⟨q,7,none⟩) rfl _).setCell (p:=⟨q,8,none⟩) rfl _).setCell (p:=⟨q,9,none⟩) rfl _
    have KD:Kept (fun b=>b=q) w2 (((w2.setCell ⟨q,7,none⟩ (.int .i64 x)).setCell ⟨q,8,none⟩ (.int .i64 y)).setCell ⟨q,9,none⟩ (.int .i64 z)).drew:=K.drew
    refine ⟨by rw [HR.out];rfl,fun m' hm'=>?_,(Kept.ofBelow HB2.out).trans (KD.mono (fun b hb=>.inl hb))⟩
    rw [HR.out] at hm'
    cases hm'
    have L:=HL2.out
    exact ⟨ra,va,ma,rc,vc,mc,u1,u2,HM3.out,L.h1,L.h2,Nat.le_trans L.h3 KD.size,L.row.kept KD (fun b h1 h2=>by omega),L.vals.kept KD (fun b h1 h2=>by have:=L.h1;omega),L.memo.kept KD (fun g o n c e=>by have:=(L.memo.lt g o n c e).1;have:=L.h1;have:=L.h2;omega),L.nm⟩
end Zl7
end Go.Proofs.YtjajkmdoggbicaaGreatDoor
