import Derived.Test.YtfhdbcfhhbdiiaaWr1
import Derived.Test.YtfhdbcfhhbdiiaaDp5
import Derived.Test.YtfhdbcfhhbdiiaaWp15
namespace Go.Proofs.Ytfhdbcfhhbdiiaa
set_option maxRecDepth 100000
set_option maxHeartbeats 8000000
set_option linter.unusedVariables false
namespace Wr2
open Go.RowKit
open Nd0 (Kept Ints WInts IntsIn At Ats marks marks_length lt_of_cell set_same set_other)
open Nd6 (Bools)
open Tc2 (tv)
open Tc5 (Lay)
open Ta1 (tab)
open Ss0 (bs)
open Op6 (Pk PkAt Pks)
open Dp5 (chV iChoose)
open Ap0 Wp0 Wp7 Wq0 Wr0 Wr1
open Wp15 (ptr)
set_option linter.unusedSimpArgs false
theorem slr {W:World} {ra:Option Addr} {row:List Bool} {rc lo:Nat} (h:Bools W ra row) (hc:row.length<=rc) (hl:lo<=row.length) :
 ∃ ra' c',(∀ w:World,(Instr.slice 24 (.slice ra row.length rc) (some (.int .i64 (lo:Int))) none none).run Try.prog w=.ok (.slice ra' (row.length - lo) c') w)/\Bools W ra' (row.drop lo):=by
 by_cases h0:lo=0
 ·subst h0
  refine ⟨ra,rc,fun w=>?_,by rw [List.drop_zero];exact h⟩
  rw [run_slice_l w 24 _ _ _ Try.underlying24 .i64 ((0:Nat):Int) (by omega) (by omega)]
  cases ra<;>by_cases e:rc=0<;>simp [go_sem,e,sliced]
 ·rcases h.2 with e0|⟨b,o,rfl,hx⟩
  ·omega
  ·by_cases e:rc=lo
   ·have e2:row.length=lo:=by omega
    refine ⟨some ⟨b,o,none⟩,0,fun w=>?_,by rw [List.drop_of_length_le (by omega)];exact ⟨Nat.zero_le _,.inl rfl⟩⟩
    rw [run_slice_l w 24 _ _ _ Try.underlying24 .i64 (lo:Int) (by omega) (by omega)]
    simp [go_sem,e,e2,sliced]
   ·refine ⟨some ⟨b,o+lo,none⟩,rc - lo,fun w=>?_,by rw [List.length_drop];have:=h.1;omega,?_⟩
    ·rw [run_slice_l w 24 _ _ _ Try.underlying24 .i64 (lo:Int) (by omega) (by omega)]
     simp [go_sem,e,sliced]
    ·refine .inr ⟨b,o+lo,rfl,fun i hi=>?_⟩
     have hi2:lo+i < row.length:=by rw [List.length_drop] at hi;omega
     rw [List.getElem_drop,show o+lo+i=o+(lo+i) by omega]
     exact hx (lo+i) hi2
theorem iWin1 (W:World) (B g cap ml mr:Nat) (qs:List Pq) (ra:Option Addr) (row:List Bool) (rc:Nat) (va:Option Addr) (vs:List Int) (vc n:Nat) (F:Nat->Bool) (X:Int)
 (hml:W.cell? ⟨ml,0,none⟩=some (.slice (some ⟨g,0,none⟩) qs.length cap)) (hfl:W.frozen? ⟨ml,0,none⟩=false) (hmr:W.cell? ⟨mr,0,none⟩=some (.slice ra row.length rc)) (hR:Bools W ra row) (hrc:row.length<=rc) (hL:Lq W B g cap qs) (hI:Ints W va vs)
 (h1:ml≠g) (h2:∀ q∈qs,¬ q.own ml) (h3:mr≠ml) (h4:mr≠g) (hn:vs.length+n=row.length) (hn1:1<=n) (hn2:row.length<=12) (hq:qs.length<=1000000) (hX:X=chV (row.drop vs.length) n F) :
 Calls Try.prog 30 #[.slice va vs.length vc,tv (n:Int) (bs (tab n F)),ptr mr,ptr ml] W fun e w'=>e=.returned (.tuple #[.int .i64 X,.bool true])/\∃ g' cap' q,q.l=vs/\q.v=X/\w'.cell? ⟨ml,0,none⟩=some (.slice (some ⟨g',0,none⟩) (qs.length+1) cap')/\w'.frozen? ⟨ml,0,none⟩=false/\Lq w' B g' cap' (qs++[q])/\Kept (fun i=>i=ml\/i=g) W w'/\(g'=g\/W.heap.size<=g')/\∀ i,q.own i->W.heap.size<=i:=by
 obtain ⟨ra',c',hsl,hbo⟩:=slr (lo:=vs.length) hR hrc (by omega)
 rw [show row.length - vs.length=n by omega] at hsl
 obtain ⟨X0,hX0⟩:∃ X,X=W.alloc (.cells #[.int .i64 (n:Int),.string (bs (tab n F))] 26):=⟨_,rfl⟩
 have b0:Below W.heap.size W X0:=by rw [hX0];exact (Below.refl _ _).alloc (Nat.le_refl _) _
 have HB0:Hid (Below W.heap.size W X0):=b0
 have HL0:Hid (Lay X0 W.heap.size (.int .i64 (n:Int)) (.string (bs (tab n F)))):=by rw [hX0];exact Lay.made _ _ _ _
 have hE:W.alloc (.cells #[.int .i64 (n:Int),.string (bs (tab n F))] 26)=X0:=hX0.symm
 have HCH:Hid (∀ W',Below W.heap.size W W'->Calls Try.prog 31 #[.slice ra' n c',tv (n:Int) (bs (tab n F))] W' fun e w'=>e=.returned (.tuple #[.int .i64 X,.bool true])/\Below W'.heap.size W' w'):=fun W' hb=>by
  rw [hX]
  exact iChoose n F ra' (row.drop vs.length) c' W' (by omega) hn1 (by rw [List.length_drop];omega) (hbo.below hb)
 have HLQ:Hid (Lq W B g cap qs):=hL
 have HIN:Hid (Ints W va vs):=hI
 have HC:Hid (W.cell? ⟨ml,0,none⟩=some (.slice (some ⟨g,0,none⟩) qs.length cap)/\W.frozen? ⟨ml,0,none⟩=false/\W.cell? ⟨mr,0,none⟩=some (.slice ra row.length rc)):=⟨hml,hfl,hmr⟩
 have hlm:=lt_of_cell hmr
 have HMR:Hid (X0.cell? ⟨mr,0,none⟩=some (.slice ra row.length rc)):=by show _=_;rw [b0.cell (p:=⟨mr,0,none⟩) hlm];exact hmr
 have hvr:(vs.length:Int)<=(row.length:Int):=by omega
 clear hX0 b0 hml hfl hmr hR hL hI hbo hX hlm
 generalize bs (tab n F)=S at *
 go_enter Try.func30,Try.ntmps30
 go_upto_region 1 with fail
 clear hE
 have dd:Below X0.heap.size X0 X0.drew:=(Below.refl _ _).drew
 have HBD:Hid (Below W.heap.size W X0.drew):=HB0.out.drew
 have LD:Lay X0.drew W.heap.size (.int .i64 (n:Int)) (.string S):=HL0.out.below dd
 have CD:Hid (X0.drew.cell? ⟨mr,0,none⟩=some (.slice ra row.length rc)):=HMR.out
 clear dd
 go_region_held3 (fun w'=>w'.cell? ⟨mr,0,none⟩=some (.slice ra row.length rc)/\w'.cell? ⟨W.heap.size,0,none⟩=some (.int .i64 (n:Int))/\w'.cell? ⟨W.heap.size,1,none⟩=some (.string S)) ((first|(with_reducible exact ⟨CD.out,LD.c0,LD.c1⟩)|(with_reducible exact ⟨CE.out,LE.c0,LE.c1⟩))) ((go_at_call 31;(with_reducible refine Calls.mono (HCH.out _ HBD.out) ?_);rintro e w1 ⟨rfl,hb1⟩;have CE:Hid (w1.cell? ⟨mr,0,none⟩=some (.slice ra row.length rc)):=(by show _=_;rw [hb1.cell (p:=⟨mr,0,none⟩) (lt_of_cell CD.out)];exact CD.out);have LE:=LD.below hb1;have HB1:Hid (Below W.heap.size W w1):=HBD.out.trans (hb1.mono HBD.out.size);clear hb1))
 clear hsl HB0 HL0 HCH HMR HBD LD CD LE CE
 have m0:w1.cell? ⟨ml,0,none⟩=some (.slice (some ⟨g,0,none⟩) qs.length cap):=by rw [HB1.out.cell (p:=⟨ml,0,none⟩) (lt_of_cell HC.out.1)];exact HC.out.1
 have m1:=lt_of_cell m0
 have hal:Below w1.heap.size w1 (w1.alloc (.cells #[.slice va vs.length vc,.int .i64 X] 61)):=(Below.refl _ _).alloc (Nat.le_refl _) _
 have HAL:Hid (Below W.heap.size W (w1.alloc (.cells #[.slice va vs.length vc,.int .i64 X] 61))):=HB1.out.trans (hal.mono HB1.out.size)
 have HWP:Hid _:=iWithPicks (w1.alloc (.cells #[.slice va vs.length vc,.int .i64 X] 61)) B g cap w1.heap.size qs va vs vc X (HLQ.out.below HAL.out) (Pb.made _ _ _ _ _ _) (HIN.out.below HAL.out) (by omega) hq (Nat.le_trans (Nat.le_of_lt (Nat.lt_of_le_of_lt HLQ.out.lt.1 HLQ.out.lt.2)) HAL.out.size)
 have c0:(w1.alloc (.cells #[.slice va vs.length vc,.int .i64 X] 61)).cell? ⟨ml,0,none⟩=some (.slice (some ⟨g,0,none⟩) qs.length cap):=by rw [HAL.out.cell (p:=⟨ml,0,none⟩) (lt_of_cell HC.out.1)];exact HC.out.1
 have f0:(w1.alloc (.cells #[.slice va vs.length vc,.int .i64 X] 61)).frozen? ⟨ml,0,none⟩=false:=by rw [HAL.out.frozen (p:=⟨ml,0,none⟩) (lt_of_cell HC.out.1)];exact HC.out.2.1
 have HC2:Hid (_/\_):=⟨c0,f0⟩
 clear hal c0 f0
 go_upto_region 2 with fail
 go_wp2_with fail
 clear m0 m1
 refine Calls.mono HWP.out ?_
 rintro e w2 ⟨g',cap',q,rfl,hq1,hq2,hq3,hq4,hq5,hq6⟩
 have c2:w2.cell? ⟨ml,0,none⟩=some (.slice (some ⟨g,0,none⟩) qs.length cap):=by rw [hq4.cell (p:=⟨ml,0,none⟩) (lt_of_cell HC2.out.1) h1];exact HC2.out.1
 have f2:w2.frozen? ⟨ml,0,none⟩=false:=by rw [hq4.frozen (p:=⟨ml,0,none⟩) (lt_of_cell HC2.out.1) h1];exact HC2.out.2
 have l2:=lt_of_cell c2
 have HQ:Hid (q.l=vs/\q.v=X/\Lq w2 B g' cap' (qs++[q])/\Kept (fun i=>i=g) (w1.alloc (.cells #[.slice va vs.length vc,.int .i64 X] 61)) w2/\(g'=g\/(w1.alloc (.cells #[.slice va vs.length vc,.int .i64 X] 61)).heap.size<=g')/\∀ i,q.own i->(w1.alloc (.cells #[.slice va vs.length vc,.int .i64 X] 61)).heap.size<=i):=⟨hq1,hq2,hq3,hq4,hq5,hq6⟩
 have HC3:Hid (_/\_):=⟨c2,f2⟩
 clear hq1 hq2 hq3 hq4 hq5 hq6
 go_wp2
 go_ret2
 clear c2 f2 l2
 obtain ⟨hq1,hq2,hq3,hq4,hq5,hq6⟩:=HQ.out
 have hlm:ml < W.heap.size:=lt_of_cell HC.out.1
 have hsz:=HAL.out.size
 obtain ⟨Y,hY⟩:∃ Y,Y=w2.setCell ⟨ml,0,none⟩ (.slice (some ⟨g',0,none⟩) (qs.length+1) cap'):=⟨_,rfl⟩
 have KY:Kept (fun i=>i=ml) w2 Y:=by rw [hY];exact (Kept.refl (fun i=>i=ml) w2).setCell (p:=⟨ml,0,none⟩) rfl _
 rw [<- hY]
 refine ⟨rfl,g',cap',q,hq1,hq2,by rw [hY];exact set_same HC3.out.1,by rw [hY,World.frozen?_setCell];exact HC3.out.2,hq3.kept KY (fun e=>?_) (fun p hp i hi e=>?_),((Kept.ofBelow HAL.out).trans (hq4.mono fun i h=>.inr h)).trans (KY.mono fun i h=>.inl h),hq5.imp id fun h=>by omega,fun i hi=>by have:=hq6 i hi;omega⟩
 ·rcases hq5 with h|h
  ·exact h1 (by omega)
  ·omega
 ·rw [e] at hi
  rcases List.mem_append.1 hp with h|h
  ·exact h2 p h hi
  ·rw [List.mem_singleton.1 h] at hi
   have:=hq6 ml hi
   omega
end Wr2
end Go.Proofs.Ytfhdbcfhhbdiiaa
