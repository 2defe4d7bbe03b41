import Derived.Deep.CutBlock
import Derived.Deep.CutRange
import Derived.Lib.QuietBelow
import Derived.Test.YtjajkmdoggbicaaGreatDoorRows
import Derived.SizedLaws
import Derived.LaidHandle
import Derived.Stop.Joined
import Derived.Lay
import Derived.Test.YtjajkmdoggbicaaGreatDoorPkST49
import Derived.Test.YtjajkmdoggbicaaGreatDoorPkST50
import Derived.Test.YtjajkmdoggbicaaGreatDoorPkST51
import Derived.Test.YtjajkmdoggbicaaGreatDoorPkST47
namespace Go.Proofs.YtjajkmdoggbicaaGreatDoor
set_option maxRecDepth 100000
set_option maxHeartbeats 8000000
set_option linter.unusedVariables false
namespace Lst1
open Go.RowKit
open Nd0 (Kept lt_of_cell)
open Nd6 (Bools)
open Dr0 (Bytes)
open Ta1 Tc2 Tc5 Mm0 Mx0 Mu6 Mu8 Sq1 Sq3
open De0 (dc)
open Qc0 (Sn Sns SnAt)
open Zs7 (TabE)
open Dp4 (iDecide)
open Lat (lat3)
open Lw0 (lbig)
open Ss0 (bs bs_size)
open Go.Sort (grow)
/-- The end of a row of flags. -/
theorem slr {W:World} {ra:Option Addr} {row:List Bool} {rc lo:Nat} (h:Bools W ra row) (hc:row.length<=rc) (hl:lo<=row.length) :
 ∃ ra' c',(∀ w:World,(Instr.slice 24 (.slice ra row.length rc) (some (.int .i64 (lo:Int))) none none).run Tryz.prog w=.ok (.slice ra' (row.length - lo) c') w)/\Bools W ra' (row.drop lo):=by
 by_cases h0:lo=0
 ·subst h0
  refine ⟨ra,rc,fun w=>?_,by rw [List.drop_zero];exact h⟩
  rw [run_slice_l w 24 _ _ _ Tryz.underlying24 .i64 ((0:Nat):Int) (by omega) (by omega)]
  cases ra<;>by_cases e:rc=0<;>simp [go_sem,e,sliced]
 ·rcases h.2 with e0|⟨b,o,rfl,hx⟩
  ·omega
  ·by_cases e:rc=lo
   ·have e2:row.length=lo:=by omega
    refine ⟨some ⟨b,o,none⟩,0,fun w=>?_,by rw [List.drop_of_length_le (by omega)];exact ⟨Nat.zero_le _,.inl rfl⟩⟩
    rw [run_slice_l w 24 _ _ _ Tryz.underlying24 .i64 (lo:Int) (by omega) (by omega)]
    simp [go_sem,e,e2,sliced]
   ·refine ⟨some ⟨b,o+lo,none⟩,rc - lo,fun w=>?_,by rw [List.length_drop];have:=h.1;omega,?_⟩
    ·rw [run_slice_l w 24 _ _ _ Tryz.underlying24 .i64 (lo:Int) (by omega) (by omega)]
     simp [go_sem,e,sliced]
    ·refine .inr ⟨b,o+lo,rfl,fun i hi=>?_⟩
     have hi2:lo+i < row.length:=by rw [List.length_drop] at hi;omega
     rw [List.getElem_drop,show o+lo+i=o+(lo+i) by omega]
     exact hx (lo+i) hi2
theorem lawSteps (w:World) (hT:TabE w) (a:Option Addr) (len cap:Nat) (hb:Bytes w a len) :
 Calls Tryz.prog 3 #[.slice a len cap] w fun e w'=>e=.returned (.bool true)/\Below w.heap.size w w':=by
 have HB:Hid (Bytes w a len):=hb
 have HT:Hid (TabE w):=hT
 clear hb hT
 by_cases hs:1048576 < len
 ·go_enter Tryz.func3,Tryz.ntmps3
  go_wp2_with fail
  refine (lbig _ a len cap true (by simp;omega)).mono ?_
  rintro e w' ⟨rfl,rfl⟩
  go_wp2
  go_ret
  exact ⟨rfl,Below.refl _ _⟩
 have hsl:len<=1048576:=by omega
 obtain ⟨y3,hy0,hy1,hAt3⟩:=lat3 w a len cap 3 (by omega) (by omega) HB.out hsl
 obtain ⟨y4,hz0,hz1,hAt4⟩:=lat3 w a len cap 4 (by omega) (by omega) HB.out hsl
 have HA3:Hid (∀ W:World,Below w.heap.size w W->Calls Tryz.prog 7 #[.slice a len cap,.int .i64 3] W fun e w'=>e=.returned (.int .i64 y3)/\w'=W):=hAt3
 have HA4:Hid (∀ W:World,Below w.heap.size w W->Calls Tryz.prog 7 #[.slice a len cap,.int .i64 4] W fun e w'=>e=.returned (.int .i64 y4)/\w'=W):=hAt4
 obtain ⟨N,hN⟩:∃ N:Nat,y3 % 40=(N:Int):=⟨(y3 % 40).toNat,by omega⟩
 have hN40:N<=39:=by omega
 obtain ⟨K,hK⟩:∃ K:Nat,y4 % ((N:Int)+1)=(K:Int):=⟨(y4 % ((N:Int)+1)).toNat,by have:=Int.emod_nonneg y4 (show ((N:Int)+1)≠0 by omega);omega⟩
 have hKN:K<=N:=by have:=Int.emod_lt_of_pos y4 (show 0 < ((N:Int)+1) by omega);omega
 have HNE:Hid (y3 % 40=(N:Int)):=hN
 have HKE:Hid (y4 % ((N:Int)+1)=(K:Int)):=hK
 clear hAt3 hAt4 hN hK
 go_enter Tryz.func3,Tryz.ntmps3
 go_wp2_with fail
 refine (lbig _ a len cap false (by simp;omega)).mono ?_
 rintro e w0 ⟨rfl,hw0⟩
 have hw0':=hw0.symm
 clear hw0
 subst hw0'
 go_wp2_with fail
 refine (drawRun _ a len cap HB.out).mono ?_
 rintro e w1 ⟨n,F,m,ra,va,ma,rc,vc,mc,rfl,hrn,hmr,hb1⟩
 obtain ⟨row,H,O,E,X,hsg⟩:=sg_of hrn (N:=N) (K:=K) (by omega) hKN
 have hor:=hsg.orow
 subst hor
 have hol:=hsg.olen
 subst hol
 have HSG:Hid (Sg O.row.length O.row m H O E N K X):=hsg
 have HR1:Hid (Mr w1 m ra va ma):=hmr
 have HB1:Hid (Below w.heap.size w w1):=hb1
 have hn6:O.row.length<=6:=hrn.n6
 clear hrn hmr hb1 hsg
 have heX:(X.toList != X.toList)=false:=by simp
 go_upto_region 4 with fail
 obtain ⟨w2,hw2⟩:∃ y,y=w1.alloc (.cells #[.slice ra m.row.length rc,.int .i64 m.N,.string m.S,.int .i64 m.room,.slice va m.vals.length vc,.int .i64 m.ret,.bool m.over,.int .i64 m.steps,.int .i64 m.looks,.int .i64 m.hits,.slice ma m.memo.length mc] 30):=⟨_,rfl⟩
 obtain ⟨p,hp⟩:∃ p,p=w1.heap.size:=⟨_,rfl⟩
 have HM2:Hid (Mb w2 p m ra va ma rc vc mc):=by rw [hw2,hp];exact Mb.made _ _ _ _ _ _ _ _ _
 have hb12:Below w1.heap.size w1 w2:=by rw [hw2];exact (Below.refl _ _).alloc (Nat.le_refl _) _
 have HB2:Hid (Below w.heap.size w w2):=HB1.out.trans (hb12.mono HB1.out.size)
 have HR2:Hid (Mr w2 m ra va ma):=HR1.out.below hb12
 rw [<- hw2,<- hp]
 clear hw2 hp hb12 HB1 HR1
 go_wp2_with fail
 refine (HA3.out _ HB2.out).mono ?_
 rintro e w' ⟨rfl,hz⟩
 have hz':=hz.symm
 clear hz
 subst hz'
 go_upto_region 5 with fail
 rw [HNE.out]
 clear hy0 hy1
 have hNz:(0:Int)<=(N:Int):=by omega
 have hN1:((N:Int)+1==0)=false:=by simp;omega
 go_wp2_with fail
 refine (HA4.out _ HB2.out).mono ?_
 rintro e w' ⟨rfl,hz⟩
 have hz':=hz.symm
 clear hz
 subst hz'
 go_upto_region 6 with fail
 rw [HKE.out]
 clear hz0 hz1 hN1
 obtain ⟨c0,c1,c2,c3,c4,c5,c6,c7,c8,c9,c10⟩:=HM2.out
 go_wp2_with fail
 clear c0 c1 c2 c3 c4 c5 c6 c7 c8 c9 c10
 refine (HSG.out.run1 w2 ra va ma rc vc mc (HT.out.below HB2.out) HR2.out).mono ?_
 rintro e w3 ⟨⟨rb,vb,mb,rd,vd,md,rfl,hq3,hrd⟩,hb3⟩
 have HRD:Hid (O.row.length<=rd):=hrd
 have HM3:Hid (Mb w3 p m ra va ma rc vc mc):=HM2.out.below hb3
 have HB3:Hid (Below w.heap.size w w3):=HB2.out.trans (hb3.mono HB2.out.size)
 have HR3:Hid (Mr w3 m ra va ma):=HR2.out.below hb3
 have HQ3:Hid (Mr w3 O rb vb mb):=hq3
 clear hb3 hq3 hrd HM2 HB2 HR2
 go_upto_region 7 with fail
 obtain ⟨w4,hw4⟩:∃ y,y=w3.alloc (.cells #[.slice rb O.row.length rd,.int .i64 O.N,.string O.S,.int .i64 O.room,.slice vb O.vals.length vd,.int .i64 O.ret,.bool O.over,.int .i64 O.steps,.int .i64 O.looks,.int .i64 O.hits,.slice mb O.memo.length md] 30):=⟨_,rfl⟩
 obtain ⟨q,hq⟩:∃ q,q=w3.heap.size:=⟨_,rfl⟩
 have hb34:Below w3.heap.size w3 w4:=by rw [hw4];exact (Below.refl _ _).alloc (Nat.le_refl _) _
 have HO4:Hid (Mb w4 q O rb vb mb rd vd md):=by rw [hw4,hq];exact Mb.made _ _ _ _ _ _ _ _ _
 have HM4:Hid (Mb w4 p m ra va ma rc vc mc):=HM3.out.below hb34
 have HB4:Hid (Below w.heap.size w w4):=HB3.out.trans (hb34.mono HB3.out.size)
 have HR4:Hid (Mr w4 m ra va ma):=HR3.out.below hb34
 have HQ4:Hid (Mr w4 O rb vb mb):=HQ3.out.below hb34
 rw [<- hw4,<- hq]
 clear hw4 hq hb34 HM3 HB3 HR3 HQ3
 obtain ⟨c0,c1,c2,c3,c4,c5,c6,c7,c8,c9,c10⟩:=HM4.out
 go_wp2_with fail
 clear c0 c1 c2 c3 c4 c5 c6 c7 c8 c9 c10
 refine (HSG.out.runK w4 ra va ma rc vc mc (HT.out.below HB4.out) HR4.out).mono ?_
 rintro e w5 ⟨⟨rh,vh,mh,rch,vch,mch,rfl,hh5⟩,hb5⟩
 have HO5:Hid (Mb w5 q O rb vb mb rd vd md):=HO4.out.below hb5
 have HM5:Hid (Mb w5 p m ra va ma rc vc mc):=HM4.out.below hb5
 have HB5:Hid (Below w.heap.size w w5):=HB4.out.trans (hb5.mono HB4.out.size)
 have HR5:Hid (Mr w5 m ra va ma):=HR4.out.below hb5
 have HQ5:Hid (Mr w5 O rb vb mb):=HQ4.out.below hb5
 have HH5:Hid (Mr w5 H rh vh mh):=hh5
 clear hb5 hh5 HO4 HM4 HB4 HR4 HQ4
 go_wp2_with fail
 refine (HSG.out.runR w5 rh vh mh rch vch mch (HT.out.below HB5.out) HH5.out).mono ?_
 rintro e w6 ⟨⟨ri,vi,mi,rci,vci,mci,rfl,hi6⟩,hb6⟩
 have HO6:Hid (Mb w6 q O rb vb mb rd vd md):=HO5.out.below hb6
 have HM6:Hid (Mb w6 p m ra va ma rc vc mc):=HM5.out.below hb6
 have HB6:Hid (Below w.heap.size w w6):=HB5.out.trans (hb6.mono HB5.out.size)
 have HR6:Hid (Mr w6 m ra va ma):=HR5.out.below hb6
 have HQ6:Hid (Mr w6 O rb vb mb):=HQ5.out.below hb6
 have HI6:Hid (Mr w6 O ri vi mi):=hi6
 clear hb6 hi6 HO5 HM5 HB5 HR5 HQ5 HH5
 go_upto_region 8 with fail
 obtain ⟨w7,hw7⟩:∃ y,y=w6.alloc (.cells #[.slice ri O.row.length rci,.int .i64 O.N,.string O.S,.int .i64 O.room,.slice vi O.vals.length vci,.int .i64 O.ret,.bool O.over,.int .i64 O.steps,.int .i64 O.looks,.int .i64 O.hits,.slice mi O.memo.length mci] 30):=⟨_,rfl⟩
 obtain ⟨q2,hq2⟩:∃ q,q=w6.heap.size:=⟨_,rfl⟩
 have hb67:Below w6.heap.size w6 w7:=by rw [hw7];exact (Below.refl _ _).alloc (Nat.le_refl _) _
 have HP7:Hid (Mb w7 q2 O ri vi mi rci vci mci):=by rw [hw7,hq2];exact Mb.made _ _ _ _ _ _ _ _ _
 have HO7:Hid (Mb w7 q O rb vb mb rd vd md):=HO6.out.below hb67
 have HM7:Hid (Mb w7 p m ra va ma rc vc mc):=HM6.out.below hb67
 have HB7:Hid (Below w.heap.size w w7):=HB6.out.trans (hb67.mono HB6.out.size)
 have HR7:Hid (Mr w7 m ra va ma):=HR6.out.below hb67
 have HQ7:Hid (Mr w7 O rb vb mb):=HQ6.out.below hb67
 have HI7:Hid (Mr w7 O ri vi mi):=HI6.out.below hb67
 rw [<- hw7,<- hq2]
 clear hw7 hq2 hb67 HO6 HM6 HB6 HR6 HQ6 HI6
 obtain ⟨c0,c1,c2,c3,c4,c5,c6,c7,c8,c9,c10⟩:=HM7.out
 go_wp2_with fail
 clear c0 c1 c2 c3 c4 c5 c6 c7 c8 c9 c10
 refine (HSG.out.srun w7 ra va ma rc vc mc HR7.out).mono ?_
 rintro e w8 ⟨⟨rj,vj,mj,rcj,vcj,mcj,rfl,hj8⟩,hb8⟩
 have HP8:Hid (Mb w8 q2 O ri vi mi rci vci mci):=HP7.out.below hb8
 have HO8:Hid (Mb w8 q O rb vb mb rd vd md):=HO7.out.below hb8
 have HB8:Hid (Below w.heap.size w w8):=HB7.out.trans (hb8.mono HB7.out.size)
 have HQ8:Hid (Mr w8 O rb vb mb):=HQ7.out.below hb8
 have HI8:Hid (Mr w8 O ri vi mi):=HI7.out.below hb8
 have HJ8:Hid (Mr w8 O rj vj mj):=hj8
 clear hb8 hj8 HO7 HM7 HB7 HR7 HQ7 HI7 HP7
 go_upto_region 9 with fail
 obtain ⟨w9,hw9⟩:∃ y,y=w8.alloc (.cells #[.slice rj O.row.length rcj,.int .i64 O.N,.string O.S,.int .i64 O.room,.slice vj O.vals.length vcj,.int .i64 O.ret,.bool O.over,.int .i64 O.steps,.int .i64 O.looks,.int .i64 O.hits,.slice mj O.memo.length mcj] 30):=⟨_,rfl⟩
 obtain ⟨q3,hq3⟩:∃ q,q=w8.heap.size:=⟨_,rfl⟩
 have hb89:Below w8.heap.size w8 w9:=by rw [hw9];exact (Below.refl _ _).alloc (Nat.le_refl _) _
 have HW9:Hid (Mb w9 q3 O rj vj mj rcj vcj mcj):=by rw [hw9,hq3];exact Mb.made _ _ _ _ _ _ _ _ _
 have HP9:Hid (Mb w9 q2 O ri vi mi rci vci mci):=HP8.out.below hb89
 have HO9:Hid (Mb w9 q O rb vb mb rd vd md):=HO8.out.below hb89
 have HB9:Hid (Below w.heap.size w w9):=HB8.out.trans (hb89.mono HB8.out.size)
 have HQ9:Hid (Mr w9 O rb vb mb):=HQ8.out.below hb89
 have HI9:Hid (Mr w9 O ri vi mi):=HI8.out.below hb89
 have HJ9:Hid (Mr w9 O rj vj mj):=HJ8.out.below hb89
 rw [<- hw9,<- hq3]
 clear hw9 hq3 hb89 HO8 HB8 HQ8 HI8 HJ8 HP8
 obtain ⟨c0,c1,c2,c3,c4,c5,c6,c7,c8,c9,c10⟩:=HO9.out
 go_wp2_with fail
 clear c0 c1 c2 c3 c4 c5 c6 c7 c8 c9 c10
 refine (HSG.out.save w9 rb vb mb rd vd md (HT.out.below HB9.out) HQ9.out).mono ?_
 rintro e wa ⟨rfl,hba⟩
 have HWa:Hid (Mb wa q3 O rj vj mj rcj vcj mcj):=HW9.out.below hba
 have HPa:Hid (Mb wa q2 O ri vi mi rci vci mci):=HP9.out.below hba
 have HOa:Hid (Mb wa q O rb vb mb rd vd md):=HO9.out.below hba
 have HBa:Hid (Below w.heap.size w wa):=HB9.out.trans (hba.mono HB9.out.size)
 have HQa:Hid (Mr wa O rb vb mb):=HQ9.out.below hba
 have HIa:Hid (Mr wa O ri vi mi):=HI9.out.below hba
 have HJa:Hid (Mr wa O rj vj mj):=HJ9.out.below hba
 clear hba HW9 HP9 HO9 HB9 HQ9 HI9 HJ9
 obtain ⟨c0,c1,c2,c3,c4,c5,c6,c7,c8,c9,c10⟩:=HPa.out
 go_wp2_with fail
 clear c0 c1 c2 c3 c4 c5 c6 c7 c8 c9 c10
 refine (HSG.out.save wa ri vi mi rci vci mci (HT.out.below HBa.out) HIa.out).mono ?_
 rintro e wb ⟨rfl,hbb⟩
 have HWb:Hid (Mb wb q3 O rj vj mj rcj vcj mcj):=HWa.out.below hbb
 have HOb:Hid (Mb wb q O rb vb mb rd vd md):=HOa.out.below hbb
 have HBb:Hid (Below w.heap.size w wb):=HBa.out.trans (hbb.mono HBa.out.size)
 have HQb:Hid (Mr wb O rb vb mb):=HQa.out.below hbb
 have HJb:Hid (Mr wb O rj vj mj):=HJa.out.below hbb
 clear hbb HWa HPa HOa HBa HQa HIa HJa
 obtain ⟨c0,c1,c2,c3,c4,c5,c6,c7,c8,c9,c10⟩:=HWb.out
 go_wp2_with fail
 clear c0 c1 c2 c3 c4 c5 c6 c7 c8 c9 c10
 refine (HSG.out.ssave wb rj vj mj rcj vcj mcj HJb.out).mono ?_
 rintro e wc ⟨rfl,hbc⟩
 have HOc:Hid (Mb wc q O rb vb mb rd vd md):=HOb.out.below hbc
 have HBc:Hid (Below w.heap.size w wc):=HBb.out.trans (hbc.mono HBb.out.size)
 have HQc:Hid (Mr wc O rb vb mb):=HQb.out.below hbc
 clear hbc HWb HOb HBb HQb HJb
 obtain ⟨c0,c1,c2,c3,c4,c5,c6,c7,c8,c9,c10⟩:=HOc.out
 go_wp2_with fail
 clear c0 c1 c2 c3 c4 c5 c6 c7 c8 c9 c10 heX
 refine (HSG.out.ok wc rb vb mb rd vd md HQc.out).mono ?_
 rintro e wd ⟨rfl,hbd⟩
 have HOd:Hid (Mb wd q O rb vb mb rd vd md):=HOc.out.below hbd
 have HBd:Hid (Below w.heap.size w wd):=HBc.out.trans (hbd.mono HBc.out.size)
 have HQd:Hid (Mr wd O rb vb mb):=HQc.out.below hbd
 clear hbd HOc HBc HQc
 have hm63:O.memo.length<=maxLen:=HQd.out.memo.1
 unfold maxLen at hm63
 go_upto_region 14 with fail
 go_wp2_with fail
 go_loopw [15] (fun i wr=>∃ j:Nat,j<=O.memo.length/\i=.int .i64 (j:Int)/\Below wd.heap.size wd wr) (fun i _=>O.memo.length - (intOf i).toNat)
 case atStart=>exact ⟨0,Nat.zero_le _,rfl,Below.refl _ _⟩
 case round =>
  obtain ⟨j,hj,rfl,hbr⟩:=hrel
  have HBR:Hid (Below wd.heap.size wd wr):=hbr
  have HOr:Hid (Mb wr q O rb vb mb rd vd md):=HOd.out.below hbr
  have HBr:Hid (Below w.heap.size w wr):=HBd.out.trans (hbr.mono HBd.out.size)
  have HQr:Hid (Mr wr O rb vb mb):=HQd.out.below hbr
  clear hbr
  by_cases hlt:j < O.memo.length
  ·have hlz:(j:Int) < (O.memo.length:Int):=by omega
   obtain ⟨e,G,hej,hrk,hxr⟩:=HSG.out.memo O.memo[j] (List.getElem_mem hlt)
   rcases HQr.out.memo.2 with h0|⟨sb,so,rfl,hsn⟩
   ·omega
   have s0:=(hsn j hlt).c0
   have HSN:Hid (wr.cell? ⟨sb,so+j*2+1,none⟩=some (.int .i64 ((dc (O.row.drop (O.row.length - e)) G).toNat:Int))):=by rw [<- hxr];exact (hsn j hlt).c1
   have HRK:Hid (∀ (W:World),TabE W->Calls Tryz.prog 13 #[.string O.memo[j].k] W fun x w'=>x=.returned (.tuple #[tv (e:Int) (bs (tab e G)),.bool true])/\Below W.heap.size W w'):=hrk
   obtain ⟨kk,hkk⟩:∃ kk,kk=O.memo[j].k:=⟨_,rfl⟩
   rw [<- hkk] at s0 HRK
   clear hsn hrk hxr hkk
   obtain ⟨ra',c',hsl',hbo'⟩:=slr (lo:=O.row.length - e) HQr.out.row HRD.out (Nat.sub_le _ _)
   have hlo:((O.row.length - e:Nat):Int)=(O.row.length:Int) - (e:Int):=by omega
   rw [hlo,show O.row.length - (O.row.length - e)=e by omega] at hsl'
   have HBO:Hid (Bools wr ra' (O.row.drop (O.row.length - e))):=hbo'
   have HDE:Hid (∀ W,Below wr.heap.size wr W->Calls Tryz.prog 14 #[.slice ra' e c',tv (e:Int) (bs (tab e G))] W fun x w'=>x=.returned (.tuple #[.int .i64 ((dc (O.row.drop (O.row.length - e)) G).toNat:Int),.bool true])/\Below W.heap.size W w'):=fun W hW=>iDecide e G ra' (O.row.drop (O.row.length - e)) c' W (by omega) (by rw [List.length_drop];omega) (HBO.out.below hW)
   have hez:¬ (O.row.length:Int) < (e:Int):=by omega
   have hwr:IntKind.i64.wrap ((O.row.length:Int) - (e:Int))=(O.row.length:Int) - (e:Int):=by rw [IntKind.wrap_i64]<;>omega
   have hee:(e:Int)<=6:=by omega
   clear hbo' hlo
   generalize (dc (O.row.drop (O.row.length - e)) G).toNat=V at HSN HDE
   generalize bs (tab e G)=TS at HRK HDE
   obtain ⟨c0,c1,c2,c3,c4,c5,c6,c7,c8,c9,c10⟩:=HOr.out
   go_wp2_with fail
   clear c0 c1 c2 c3 c4 c5 c6 c7 c8 c9 c10 s0
   refine (HRK.out wr (HT.out.below HBr.out)).mono ?_
   rintro x we ⟨rfl,hbe⟩
   go_upto_region 18 with fail
   obtain ⟨wf,hwf⟩:∃ y,y=we.alloc (.cells #[.int .i64 (e:Int),.string TS] 26):=⟨_,rfl⟩
   obtain ⟨qt,hqt⟩:∃ y,y=we.heap.size:=⟨_,rfl⟩
   have hbf:Below wr.heap.size wr wf:=by rw [hwf];exact hbe.alloc hbe.size _
   have HLf:Hid (Lay wf qt (.int .i64 (e:Int)) (.string TS)):=by rw [hwf,hqt];exact Lay.made _ _ _ _
   have HBRf:Hid (Below wr.heap.size wr wf):=hbf
   have HOf:Hid (Mb wf q O rb vb (some ⟨sb,so,none⟩) rd vd md):=HOr.out.below hbf
   rw [<- hwf,<- hqt]
   clear hwf hqt hbe hbf
   have r0:=HOf.out.c0
   obtain ⟨d0,d1,_,_⟩:=HLf.out
   go_upto_region 20 with fail
   have x0:∀ d os,(grow (redrawn wf d) os).cell? ⟨q,0,none⟩=some (.slice rb O.row.length rd):=fun d os=>cell_regrown r0 d os
   have x1:∀ d os,(grow (redrawn wf d) os).cell? ⟨qt,0,none⟩=some (.int .i64 (e:Int)):=fun d os=>cell_regrown d0 d os
   have x2:∀ d os,(grow (redrawn wf d) os).cell? ⟨qt,1,none⟩=some (.string TS):=fun d os=>cell_regrown d1 d os
   have HDQ:Hid (∀ d os,Calls Tryz.prog 14 #[.slice ra' e c',tv (e:Int) TS] (grow (redrawn wf d) os) fun x w''=>x=.returned (.tuple #[.int .i64 (V:Int),.bool true])/\∃ p:Regrown,w''=grow (redrawn wf p.d) p.os):=fun d os=>Calls.regrown_of (HDE.out _ (HBRf.out.trans ((below_regrown wf d os).mono HBRf.out.size)))
   clear r0 d0 d1
   refine wp_region_quiet_below (by kernel_rfl) (by kernel_rfl) ?_
   iterate 16 (go_big_quiet_step ((go_at_call 14;exact HDQ.out _ _)))
   refine wpQuiet_nil ?_
   intro wg hwg
   have hbg:Below wf.heap.size wf wg:=by obtain ⟨pp,hw8⟩:=hwg;subst hw8;exact below_regrown wf pp.d pp.os
   have HBRg:Hid (Below wr.heap.size wr wg):=HBRf.out.trans (hbg.mono HBRf.out.size)
   have HOg:Hid (Mb wg q O rb vb (some ⟨sb,so,none⟩) rd vd md):=HOf.out.below hbg
   have s1:wg.cell? ⟨sb,so+j*2+1,none⟩=some (.int .i64 (V:Int)):=by rw [HBRg.out.cell (p:=⟨sb,_,none⟩) (lt_of_cell HSN.out)];exact HSN.out
   have m10:=HOg.out.c10
   clear hwg hbg x0 x1 x2 HDQ hsl'
   go_wp2_with fail
   go_roundw
   case rel=>exact ⟨j+1,by omega,by go_num,HBR.out.trans (HBRg.out.mono HBR.out.size)⟩
   case measure=>simp [intOf];omega
  ·have hlz:¬ (j:Int) < (O.memo.length:Int):=by omega
   clear HOd HBd HQd HBR
   obtain ⟨c0,c1,c2,c3,c4,c5,c6,c7,c8,c9,c10⟩:=HOr.out
   go_wp2_with fail
   clear c0 c1 c2 c3 c4 c5 c6 c7 c8 c9 c10
   refine (HSG.out.left wr rb vb mb rd vd md HQr.out).mono ?_
   rintro x we ⟨⟨TL,rfl⟩,hbe⟩
   go_upto_region 24 with fail
   obtain ⟨wf,hwf⟩:∃ y,y=we.alloc (.cells #[.int .i64 ((O.row.length:Int) - (O.vals.length:Int)),.string TL] 26):=⟨_,rfl⟩
   obtain ⟨qt,hqt⟩:∃ y,y=we.heap.size:=⟨_,rfl⟩
   have hbf:Below wr.heap.size wr wf:=by rw [hwf];exact hbe.alloc hbe.size _
   have HLf:Hid (Lay wf qt (.int .i64 ((O.row.length:Int) - (O.vals.length:Int))) (.string TL)):=by rw [hwf,hqt];exact Lay.made _ _ _ _
   have HOf:Hid (Mb wf q O rb vb mb rd vd md):=HOr.out.below hbf
   have HBf:Hid (Below w.heap.size w wf):=HBr.out.trans (hbf.mono HBr.out.size)
   have HQf:Hid (Mr wf O rb vb mb):=HQr.out.below hbf
   rw [<- hwf,<- hqt]
   clear hwf hqt hbe hbf HOr HBr HQr
   obtain ⟨c0,c1,c2,c3,c4,c5,c6,c7,c8,c9,c10⟩:=HOf.out
   go_wp2_with fail
   clear c0 c1 c2 c3 c4 c5 c6 c7 c8 c9 c10
   refine (HSG.out.run5 wf rb vb mb rd vd md (HT.out.below HBf.out) HQf.out).mono ?_
   rintro x wg ⟨⟨rk,vk,mk,rck,vck,mck,rfl,hk9⟩,hbg⟩
   go_upto_region 25 with fail
   obtain ⟨wh,hwh⟩:∃ y,y=wg.alloc (.cells #[.slice rk E.row.length rck,.int .i64 E.N,.string E.S,.int .i64 E.room,.slice vk E.vals.length vck,.int .i64 E.ret,.bool E.over,.int .i64 E.steps,.int .i64 E.looks,.int .i64 E.hits,.slice mk E.memo.length mck] 30):=⟨_,rfl⟩
   obtain ⟨q4,hq4⟩:∃ y,y=wg.heap.size:=⟨_,rfl⟩
   have hby:Below wg.heap.size wg wh:=by rw [hwh];exact (Below.refl _ _).alloc (Nat.le_refl _) _
   have hbh:Below wf.heap.size wf wh:=hbg.trans (hby.mono hbg.size)
   have HEh:Hid (Mb wh q4 E rk vk mk rck vck mck):=by rw [hwh,hq4];exact Mb.made _ _ _ _ _ _ _ _ _
   have HLh:Hid (Lay wh qt (.int .i64 ((O.row.length:Int) - (O.vals.length:Int))) (.string TL)):=HLf.out.below hbh
   have HOh:Hid (Mb wh q O rb vb mb rd vd md):=HOf.out.below hbh
   have HBh:Hid (Below w.heap.size w wh):=HBf.out.trans (hbh.mono HBf.out.size)
   have HXh:Hid (Mr wh E rk vk mk):=hk9.below hby
   rw [<- hwh,<- hq4]
   clear hwh hq4 hby hbh hbg hk9 HLf HOf HBf HQf
   obtain ⟨c0,c1,c2,c3,c4,c5,c6,c7,c8,c9,c10⟩:=HEh.out
   go_wp2_with fail
   clear c0 c1 c2 c3 c4 c5 c6 c7 c8 c9 c10
   refine (HSG.out.step wh rk vk mk rck vck mck (HT.out.below HBh.out) HXh.out).mono ?_
   rintro x wi ⟨⟨rl,vl,ml,rcl,vcl,mcl,rfl,hl9⟩,hbi⟩
   go_upto_region 26 with fail
   obtain ⟨wj,hwj⟩:∃ y,y=wi.alloc (.cells #[.slice rl E.row.length rcl,.int .i64 E.N,.string E.S,.int .i64 E.room,.slice vl E.vals.length vcl,.int .i64 E.ret,.bool E.over,.int .i64 E.steps,.int .i64 E.looks,.int .i64 E.hits,.slice ml E.memo.length mcl] 30):=⟨_,rfl⟩
   obtain ⟨q5,hq5⟩:∃ y,y=wi.heap.size:=⟨_,rfl⟩
   have hbj:Below wh.heap.size wh wj:=by rw [hwj];exact hbi.alloc hbi.size _
   have HZj:Hid (Mb wj q5 E rl vl ml rcl vcl mcl):=by rw [hwj,hq5];exact Mb.made _ _ _ _ _ _ _ _ _
   have HEj:Hid (Mb wj q4 E rk vk mk rck vck mck):=HEh.out.below hbj
   have HLj:Hid (Lay wj qt (.int .i64 ((O.row.length:Int) - (O.vals.length:Int))) (.string TL)):=HLh.out.below hbj
   have HOj:Hid (Mb wj q O rb vb mb rd vd md):=HOh.out.below hbj
   have HBj:Hid (Below w.heap.size w wj):=HBh.out.trans (hbj.mono HBh.out.size)
   rw [<- hwj,<- hq5]
   clear hwj hq5 hbj hbi hl9 HEh HLh HOh HBh HXh
   have o1:=HOj.out.c1
   rw [HSG.out.oN] at o1
   have o4:=HOj.out.c4
   have e6:=HEj.out.c6
   rw [HSG.out.over] at e6
   have e7:=HEj.out.c7
   have z7:=HZj.out.c7
   obtain ⟨d0,d1,_,_⟩:=HLj.out
   have hvl:=HSG.out.ovals
   have hwv:IntKind.i64.wrap ((O.row.length:Int) - (O.vals.length:Int))=(O.row.length:Int) - (O.vals.length:Int):=by rw [IntKind.wrap_i64]<;>omega
   go_wp2_with fail
   go_ret
   exact ⟨rfl,HBj.out⟩
end Lst1
namespace Hs0
variable {H:Type} {enc:TypeId × Value->H}
theorem andShaped {C:Checked} {os:Os} {f:FuncId} {fn:Func} {s:ChangeSpec} {apart fresh handsOn again:Bool} {X:World->Array Value->Prop}
 (hX:∀ (w w':World) (args:Array Value),w.heap=w'.heap->X w args->X w' args)
 (own:ownKnob C.prog.godebug=none) (started:os.Started) (noInit:C.prog.inits.idxOf? f=none) (hfn:C.prog.funcs[f]? = some fn)
 (witness:∃ (w:World) (tape:Tape) (i:Input),w.os=os/\(w.forCall tape i).Shaped C.prog/\i.vars=[]/\Input.okWide C.prog (w.forCall tape i) .any w.heap.size f i /\
  ((s.pre enc C.prog fn [] apart (w.forCall tape i).memory i.args/\X (w.forCall tape i).memory i.args)/\sizedMet enc C.prog fn (OpenSpec.ofChange s) apart (w.forCall tape i).memory i.args)/\({}:Assume).holds C.prog (lone (Frame.enter C.prog f i.args .normal) [] (w.forCall tape i)))
 (walk:∀ (W:World) (base:Nat) (args:Array Value) (ds gs:List (DataW H)) (before:List MemPlace),
  (∀ (j:Nat) t v,fn.params[j]? = some t->args[j]? = some v->Value.okWide C.prog W .any base t v) ->
  DataW.Whole enc C.prog fn.params.toList s.vars apart W args.toList ds gs before->X W args->W.ShapedOpen C.prog ->
  Calls C.prog f args W fun e W'=>∃ v,e=.returned v/\s.post enc C.prog fn apart fresh handsOn again W args v W') :
 ReturnsInHanded {} C os f .any (fun w args=>(s.pre enc C.prog fn [] apart w args/\X w args)/\sizedMet enc C.prog fn (OpenSpec.ofChange s) apart w args) (s.post enc C.prog fn apart fresh handsOn again):=by
 refine returnsInHanded_of_calls own started noInit witness ?_
 intro w tape i _ hsh _ hok hpre _
 obtain ⟨_,_,_,fn',hfn',_,_,_,_,hval⟩:=hok
 obtain rfl:fn'=fn:=Option.some.inj (hfn'.symm.trans hfn)
 obtain ⟨⟨⟨ds,gs,before,hw,hc⟩,hx⟩,hz⟩:=hpre
 have hw':=DataW.Whole.of_heap (w':=w.forCall tape i) (by rfl) hw
 refine (walk (w.forCall tape i) w.heap.size i.args ds gs before hval hw' (hX (w.forCall tape i).memory (w.forCall tape i) _ rfl hx) hsh).mono fun e W' ⟨v,he,hp⟩=>?_
 subst he
 exact ChangeSpec.post_blind hp
end Hs0
namespace Zt1
open Go.RowKit
open Zs7 (TabE)
open Zt0 (tabz_of_laid)
theorem split {P:Program} {laid:List (String × DataW Unit)} {w:World} (h:laidMetH P laid w):laidMet P (laid.filter fun x=>x.2.handleName?.isNone) w/\handlesMet P (laid.filter fun x=>x.2.handleName?.isSome) w:=by
 unfold laidMetH at h
 split at h
 ·rename_i e
  refine ⟨?_,by rw [e];intro x hx;cases hx⟩
  have:(laid.filter fun x=>x.2.handleName?.isNone)=laid:=by
   rw [List.filter_eq_self]
   intro x hx
   cases hn:x.2.handleName? with
   | none=>rfl
   | some s =>
     have:x∈laid.filter fun x=>x.2.handleName?.isSome:=List.mem_filter.2 ⟨hx,by rw [hn];rfl⟩
     rw [e] at this
     cases this
  rw [this]
  exact h
 ·rename_i hd tl e
  rw [e]
  exact h
theorem et:Tryz.prog.globalNamed "errors.errorType" = some 0:=by kernel_rfl
theorem rt:(Tryz.prog.cutTypes.find? (·.1 == "internal/reflectlite.rtype")).map (·.2)=some 165:=by kernel_rfl
theorem oneRow:((List.range 248).filter fun t=>Tryz.prog.rowNamed t [101,114,114,111,114])=[63]:=by kernel_rfl
theorem size:Tryz.prog.types.size=248:=by kernel_rfl
theorem tabe_of_laid {W:World} {laid:List (String × DataW Unit)} (hH:laidMetH Tryz.prog laid W)
 (h1:("internal/strconv.uint64pow10",Rows.laid_internal_strconv_uint64pow10)∈laid) (h2:("strconv.ErrSyntax",Rows.laid_strconv_ErrSyntax)∈laid) (h3:("strconv.ErrRange",Rows.laid_strconv_ErrRange)∈laid) (h4:W.ShapedOpen Tryz.prog) (h5:("errors.errorType",Rows.laid_errors_errorType)∈laid):TabE W:=by
 obtain ⟨hP,hh⟩:=split hH
 refine ⟨tabz_of_laid hP (List.mem_filter.2 ⟨h1,by kernel_rfl⟩) (List.mem_filter.2 ⟨h2,by kernel_rfl⟩) (List.mem_filter.2 ⟨h3,by kernel_rfl⟩) h4,?_⟩
 have h6:=hh _ (List.mem_filter.2 ⟨h5,by kernel_rfl⟩)
 obtain ⟨name,u,ty,e1,e2,e3,e4,e5⟩:=h6
 have en:name=[101,114,114,111,114]:=(Option.some.inj e1).symm
 subst en
 obtain rfl:=Option.some.inj (rt.symm.trans e2)
 have hm:ty∈(List.range 248).filter fun t=>Tryz.prog.rowNamed t [101,114,114,111,114]:=List.mem_filter.2 ⟨List.mem_range.2 (by rw [<- size];exact e3),e4⟩
 rw [oneRow] at hm
 obtain rfl:=List.mem_singleton.1 hm
 have hT:typeHandle Tryz.prog 63=.pointer (some ⟨9,63,none⟩):=by kernel_rfl
 rw [hT] at e5
 simpa using World.var?_cell et e5 0
end Zt1
namespace Zt2
/-- The settled world, errors.errorType laid. -/
noncomputable def w0h (os:Os):World :=
 let w0:=World.holding Tryz.prog os ⟨#[],#[],[]⟩
 { w0 with heap:=w0.heap.modify 0 fun
  | .cells _ t frozen=>.cells #[.iface 165 (.agg #[.pointer (some ⟨9,63,none⟩)])] t frozen
  | o=>o }
/-- All that a row lists, laid. -/
noncomputable def laidW (os:Os) (laid:List (String × DataW Unit)):World:=(w0h os).layVars Tryz.prog (laid.filter fun x=>x.2.handleName?.isNone)
theorem laidW_os (os:Os) (laid:List (String × DataW Unit)):(laidW os laid).os=os:=(World.layVars_os _ _ _).trans rfl
theorem laidW_met {os:Os} {laid:List (String × DataW Unit)} (args:Array Value)
 (hf:(w0h os).layFits Tryz.prog (laid.filter fun x=>x.2.handleName?.isNone) []=true)
 (hi:(w0h os).layIfaces Tryz.prog (laid.filter fun x=>x.2.handleName?.isNone) (laidW os laid)=true) :
 laidMet Tryz.prog (laid.filter fun x=>x.2.handleName?.isNone) ((laidW os laid).forCall (fun _ _=>0) ⟨#[],args,[]⟩).memory:=by
 obtain ⟨l,hl⟩:∃ l,l=laid.filter fun x=>x.2.handleName?.isNone:=⟨_,rfl⟩
 have e1:(l.filter fun x=>(l.map (·.1)).contains x.1)=l:=List.filter_eq_self.2 fun x hx=>List.contains_iff_mem.2 (List.mem_map.2 ⟨x,hx,rfl⟩)
 have e2:(l.filter fun x => !(l.map (·.1)).contains x.1)=[]:=List.filter_eq_nil_iff.2 fun x hx=>by rw [List.contains_iff_mem.2 (List.mem_map.2 ⟨x,hx,rfl⟩)];simp
 rw [<- hl] at hf hi ⊢
 have h:laidMet Tryz.prog l (laidW os laid):=laidMet_layVars (w0:=w0h os) (l.map (·.1)) [] (by rw [e1];unfold laidW;rw [<- hl]) (by rw [e1];exact hf) (by rw [e1];exact hi) (by rw [e2];exact LaidIn.none)
 exact h.of_heap (by simp [World.memory,World.forCall,Input.heap])
theorem fits (os:Os):(w0h os).layFits Tryz.prog (Rows.fnStepsRow.laid.filter fun x=>x.2.handleName?.isNone) []=true:=by kernel_rfl
theorem ifaces (os:Os):(w0h os).layIfaces Tryz.prog (Rows.fnStepsRow.laid.filter fun x=>x.2.handleName?.isNone) (laidW os Rows.fnStepsRow.laid)=true:=by kernel_rfl
theorem met (os:Os) (args:Array Value):laidMetH Tryz.prog Rows.fnStepsRow.laid ((laidW os Rows.fnStepsRow.laid).forCall (fun _ _=>0) ⟨#[],args,[]⟩).memory :=
 laidMetH_of_parts3 (fuel:=8) (laidW_met args (fits os) (ifaces os)) (by kernel_rfl) (by kernel_rfl)
theorem shape (os:Os) (args:Array Value):((laidW os Rows.fnStepsRow.laid).forCall (fun _ _=>0) ⟨#[],args,[]⟩).Shaped Tryz.prog:=World.shaped_of_ZipB (by kernel_rfl) (by kernel_rfl)
end Zt2
end Go.Proofs.YtjajkmdoggbicaaGreatDoor
