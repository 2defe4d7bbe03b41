import Derived.Deep.CutBlock
import Derived.Deep.CutRange
import Derived.Test.YtjajkmdoggbicaaGreatDoorRows
import Derived.SizedLaws
import Derived.LaidHandle
import Derived.Stop.Joined
import Derived.Lay
import Derived.Test.YtjajkmdoggbicaaGreatDoorPkSV30
import Derived.Test.YtjajkmdoggbicaaGreatDoorPkSV43
import Derived.Test.YtjajkmdoggbicaaGreatDoorPkSV45
import Derived.Test.YtjajkmdoggbicaaGreatDoorZm1
import Derived.Test.YtjajkmdoggbicaaGreatDoorPkSV52
import Derived.Test.YtjajkmdoggbicaaGreatDoorPkSV22
namespace Go.Proofs.YtjajkmdoggbicaaGreatDoor
set_option maxRecDepth 100000
set_option maxHeartbeats 8000000
set_option linter.unusedVariables false
namespace Lsv1
open Go.RowKit
open Nd0 (Kept lt_of_cell)
open Nd6 (Bools)
open Dr0 (Bytes)
open Ta1 Mm0 Mx0 Mu6 Mu8 Zl1 Zl2 Zl11 Mw19 Mw20 Rdp Sq0 Sq1
open Zl0 (mc0)
open Qc0 (Sn)
open Zs0 (svS svB savT)
open Zs7 (SvP TabE iSave)
open Zm1 (sSave)
open Za0 (rowT iRowText rowT_le)
open Za1 (rrB rrL rr_row iReadRow)
open Lat (lat3)
open Lw0 (lbig)
open Ss0 (bs bs_size)
open Ss1 (tl tl_bs)
theorem mb_cells {W:World} {p:Nat} {m:Mc} {ra va ma:Option Addr} {rc vc mc:Nat} (h:Mb W p m ra va ma rc vc mc):W.cell? ⟨p,0,none⟩=some (.slice ra m.row.length rc)/\W.cell? ⟨p,10,none⟩=some (.slice ma m.memo.length mc):=by
 obtain ⟨c0,c1,c2,c3,c4,c5,c6,c7,c8,c9,c10⟩:=h
 exact ⟨c0,c10⟩
/-- What the law asks of a machine m that is run N steps on, to M. -/
structure Sv (m M:Mc) (N:Nat) (S T:ByteArray):Prop where
 save:∀ (W:World) ra va ma rc vc mc,TabE W->Mr W m ra va ma->Calls Tryz.prog 10 #[mval m ra va ma rc vc mc] W fun e w'=>e=.returned (.tuple #[.string S,.bool true])/\Below W.heap.size W w'
 save2:∀ (W:World) ra va ma rc vc mc,TabE W->Mr W M ra va ma->Calls Tryz.prog 10 #[mval M ra va ma rc vc mc] W fun e w'=>e=.returned (.tuple #[.string T,.bool true])/\Below W.heap.size W w'
 ssave:∀ (W:World) ra va ma rc vc mc,Mr W m ra va ma->Calls Tryz.prog 11 #[mval m ra va ma rc vc mc] W fun e w'=>e=.returned (.tuple #[.string S,.bool true])/\Below W.heap.size W w'
 ssave2:∀ (W:World) ra va ma rc vc mc,Mr W M ra va ma->Calls Tryz.prog 11 #[mval M ra va ma rc vc mc] W fun e w'=>e=.returned (.tuple #[.string T,.bool true])/\Below W.heap.size W w'
 load:∀ (W:World),TabE W->Calls Tryz.prog 17 #[.string S] W fun e w'=>(∃ ra va ma rc vc mc,e=.returned (.tuple #[mval m ra va ma rc vc mc,.bool true])/\Mr w' m ra va ma)/\Below W.heap.size W w'
 cut:∀ (W:World) (j:Nat),j < S.size->TabE W->Calls Tryz.prog 17 #[.string (S.extract 0 j)] W fun e w'=>(∃ m':Mc,∃ ra va ma rc vc mc,∃ c:Bool,e=.returned (.tuple #[mval m' ra va ma rc vc mc,.bool c])/\(c=true->0 < m.memo.length))/\Below W.heap.size W w'
 run:∀ (W:World) ra va ma rc vc mc,TabE W->Mr W m ra va ma->Calls Tryz.prog 8 #[mval m ra va ma rc vc mc,.int .i64 (N:Int)] W fun e w'=>(∃ ra va ma rc vc mc,e=.returned (mval M ra va ma rc vc mc)/\Mr w' M ra va ma)/\Below W.heap.size W w'
 text:∀ (W:World) ra rc,Bools W ra m.row->Calls Tryz.prog 19 #[.slice ra m.row.length rc] W fun e w'=>e=.returned (.string (bs (rowT m.row)))/\Below W.heap.size W w'
 read:∀ (W:World),Calls Tryz.prog 18 #[.string (bs (rowT m.row))] W fun e w'=>(∃ a c,e=.returned (.tuple #[.slice a m.row.length c,.bool true]))/\Below W.heap.size W w'
 pos:1<=S.size
 len:S.size<=400000
theorem sv_of {n:Nat} {F:Nat->Bool} {m:Mc} (h:Rn n F m) {N:Nat} (hN:N<=255):Sv m (runM n F N m) N (bs (savT m)) (bs (savT (runM n F N m))):=by
 obtain ⟨row,room,k,hrl,hro,hk,hm,hIv⟩:=h.is
 have h6:=h.n6
 have hIM:=iv_run N hIv
 obtain ⟨s1,s2,s3⟩:=sv_run h6 hIv.ok hIv.keys
 obtain ⟨t1,t2,t3⟩:=sv_run h6 hIM.ok hIM.keys
 have hsv:∀ {m:Mc},svB m=true->svS m=bs (savT m):=fun h=>by unfold svS;rw [h,if_pos rfl]
 have hlen:=(sv_mok s1).2.2
 have hrow:m.row.length<=12:=by have:=hIv.ok.row;have:=hIv.hN;omega
 have hkm:∀ x∈m.memo,x.k.size<=maxLen:=fun x hx=>Nat.le_trans (s3 x hx) (by unfold maxLen;omega)
 have hfirst:1<=(savT m).length:=by
  unfold savT
  rw [show 7+m.memo.length=(6+m.memo.length)+1 by omega,Zs0.linTo_next,List.flatten_append,List.length_append,List.flatten_cons,List.flatten_nil,List.append_nil]
  have:=Zl0.lin_pos m (6+m.memo.length)
  omega
 refine ⟨fun W ra va ma rc vc mc hT hR=>?_,fun W ra va ma rc vc mc hT hR=>?_,fun W ra va ma rc vc mc hR=>?_,fun W ra va ma rc vc mc hR=>?_,fun W hT=>?_,fun W j hj hT=>?_,fun W ra va ma rc vc mc hT hR=>?_,fun W ra rc hB=>?_,fun W=>?_,by rw [bs_size];exact hfirst,by rw [bs_size];exact hlen⟩
 ·refine (iSave m ra va ma rc vc mc W hR s2 s3 hT).mono ?_
  rintro e w' ⟨hp,hb⟩
  unfold SvP at hp
  rw [hsv s1,s1] at hp
  exact ⟨hp,hb⟩
 ·refine (iSave _ ra va ma rc vc mc W hR t2 t3 hT).mono ?_
  rintro e w' ⟨hp,hb⟩
  unfold SvP at hp
  rw [hsv t1,t1] at hp
  exact ⟨hp,hb⟩
 ·refine (sSave m ra va ma rc vc mc W hR s2 s3).mono ?_
  rintro e w' ⟨hp,hb⟩
  unfold SvP at hp
  rw [hsv s1,s1] at hp
  exact ⟨hp,hb⟩
 ·refine (sSave _ ra va ma rc vc mc W hR t2 t3).mono ?_
  rintro e w' ⟨hp,hb⟩
  unfold SvP at hp
  rw [hsv t1,t1] at hp
  exact ⟨hp,hb⟩
 ·refine (iLoad (savT m) W (by omega) hT).mono ?_
  rintro e w' ⟨hl,hb⟩
  obtain ⟨q,ra,va,ma,rc,vc,mc,u1,u2,he,_,hD⟩:=hl.1 m (ld_run s1)
  exact ⟨⟨ra,va,ma,rc,vc,mc,he,hD.mr⟩,hb⟩
 ·rw [bs_size] at hj
  rw [Ss0.bs_ext,List.drop_zero]
  refine (iLoad ((savT m).take j) W (by rw [List.length_take];omega) hT).mono ?_
  rintro e w' ⟨hl,hb⟩
  refine ⟨?_,hb⟩
  cases hd:ldP ((savT m).take j) with
  | none=>exact ⟨mc0,none,none,none,0,0,0,false,hl.2 hd,fun h=>by cases h⟩
  | some m' =>
    obtain ⟨q,ra,va,ma,rc,vc,mc,u1,u2,he,_,hD⟩:=hl.1 m' hd
    refine ⟨m',ra,va,ma,rc,vc,mc,true,he,fun _=>?_⟩
    rcases Nat.eq_zero_or_pos m.memo.length with h0|h0
    ·rw [cut_none s1 (List.eq_nil_of_length_eq_zero h0) hj] at hd
     cases hd
    ·exact h0
 ·refine (iRun n F m ra va ma rc vc mc N W (by omega) ⟨hIv.hN,hIv.hS,hIv.ok⟩ (by omega) hR hkm hT.tab.pow).mono ?_
  rintro e w' ⟨ra,va,ma,rc,vc,mc,he,hP,hb⟩
  exact ⟨⟨ra,va,ma,rc,vc,mc,he,hP.mr⟩,hb⟩
 ·exact iRowText W ra m.row rc hB (by omega)
 ·refine (iReadRow (bs (rowT m.row)) W (by rw [bs_size];have:=rowT_le m.row;omega)).mono ?_
  rw [tl_bs,(rr_row m.row hrow).1,(rr_row m.row hrow).2]
  rintro e w' ⟨v,he,ho,hb⟩
  obtain ⟨a,c,hv,_⟩:=ho.form
  exact ⟨⟨a,c,by rw [he,hv]⟩,hb⟩
theorem lawSave (w:World) (hT:TabE w) (a:Option Addr) (len cap:Nat) (hb:Bytes w a len) :
 Calls Tryz.prog 4 #[.slice a len cap] w fun e w'=>e=.returned (.bool true)/\Below w.heap.size w w':=by
 have HB:Hid (Bytes w a len):=hb
 have HT:Hid (TabE w):=hT
 clear hb hT
 by_cases hs:1048576 < len
 ·go_enter Tryz.func4,Tryz.ntmps4
  go_wp2_with fail
  refine (lbig _ a len cap true (by simp;omega)).mono ?_
  rintro e w' ⟨rfl,rfl⟩
  go_wp2
  go_ret
  exact ⟨rfl,Below.refl _ _⟩
 have hsl:len<=1048576:=by omega
 obtain ⟨y3,hy0,hy1,hAt3⟩:=lat3 w a len cap 3 (by omega) (by omega) HB.out hsl
 obtain ⟨y4,hz0,hz1,hAt4⟩:=lat3 w a len cap 4 (by omega) (by omega) HB.out hsl
 obtain ⟨N,rfl⟩:=Int.eq_ofNat_of_zero_le hy0
 obtain ⟨J,rfl⟩:=Int.eq_ofNat_of_zero_le hz0
 have HA3:Hid (∀ W:World,Below w.heap.size w W->Calls Tryz.prog 7 #[.slice a len cap,.int .i64 3] W fun e w'=>e=.returned (.int .i64 (N:Int))/\w'=W):=hAt3
 have HA4:Hid (∀ W:World,Below w.heap.size w W->Calls Tryz.prog 7 #[.slice a len cap,.int .i64 4] W fun e w'=>e=.returned (.int .i64 (J:Int))/\w'=W):=hAt4
 clear hAt3 hAt4 hy0 hz0
 go_enter Tryz.func4,Tryz.ntmps4
 go_wp2_with fail
 refine (lbig _ a len cap false (by simp;omega)).mono ?_
 rintro e w0 ⟨rfl,hw0⟩
 have hw0':=hw0.symm
 clear hw0
 subst hw0'
 go_wp2_with fail
 refine (drawRun _ a len cap HB.out).mono ?_
 rintro e w1 ⟨n,F,m,ra,va,ma,rc,vc,mc,rfl,hrn,hmr,hb1⟩
 have hsv:=sv_of hrn (N:=N) (by omega)
 obtain ⟨M,hM⟩:∃ M,M=runM n F N m:=⟨_,rfl⟩
 obtain ⟨S,hS⟩:∃ S,S=bs (savT m):=⟨_,rfl⟩
 obtain ⟨T,hT⟩:∃ T,T=bs (savT (runM n F N m)):=⟨_,rfl⟩
 rw [<- hS,<- hT,<- hM] at hsv
 have HSV:Hid (Sv m M N S T):=hsv
 have hpos:(1:Int)<=(S.size:Int):=by have:=hsv.pos;omega
 have hmx:(S.size:Int)<=400000:=by have:=hsv.len;omega
 have HR1:Hid (Mr w1 m ra va ma):=hmr
 have HB1:Hid (Below w.heap.size w w1):=hb1
 clear hrn hmr hb1 hM hS hT hsv
 have heS:(S.toList != S.toList)=false:=by simp
 have heT:(T.toList==T.toList)=true:=by simp
 go_upto_region 4 with fail
 obtain ⟨w2,hw2⟩:∃ y,y=w1.alloc (.cells #[.slice ra m.row.length rc,.int .i64 m.N,.string m.S,.int .i64 m.room,.slice va m.vals.length vc,.int .i64 m.ret,.bool m.over,.int .i64 m.steps,.int .i64 m.looks,.int .i64 m.hits,.slice ma m.memo.length mc] 30):=⟨_,rfl⟩
 obtain ⟨p,hp⟩:∃ p,p=w1.heap.size:=⟨_,rfl⟩
 have HM2:Hid (Mb w2 p m ra va ma rc vc mc):=by rw [hw2,hp];exact Mb.made _ _ _ _ _ _ _ _ _
 have hb12:Below w1.heap.size w1 w2:=by rw [hw2];exact (Below.refl _ _).alloc (Nat.le_refl _) _
 have HB2:Hid (Below w.heap.size w w2):=HB1.out.trans (hb12.mono HB1.out.size)
 have HR2:Hid (Mr w2 m ra va ma):=HR1.out.below hb12
 rw [<- hw2,<- hp]
 clear hw2 hp hb12 HB1 HR1
 obtain ⟨c0,c1,c2,c3,c4,c5,c6,c7,c8,c9,c10⟩:=HM2.out
 go_wp2_with fail
 clear c0 c1 c2 c3 c4 c5 c6 c7 c8 c9 c10
 refine (HSV.out.save w2 ra va ma rc vc mc (HT.out.below HB2.out) HR2.out).mono ?_
 rintro e w3 ⟨rfl,hb3⟩
 have HM3:Hid (Mb w3 p m ra va ma rc vc mc):=HM2.out.below hb3
 have HB3:Hid (Below w.heap.size w w3):=HB2.out.trans (hb3.mono HB2.out.size)
 have HR3:Hid (Mr w3 m ra va ma):=HR2.out.below hb3
 clear hb3 HM2 HB2 HR2
 go_wp2_with fail
 refine (HSV.out.load w3 (HT.out.below HB3.out)).mono ?_
 rintro e w4 ⟨⟨rb,vb,mb,rd,vd,md,rfl,hq4⟩,hb4⟩
 have HM4:Hid (Mb w4 p m ra va ma rc vc mc):=HM3.out.below hb4
 have HB4:Hid (Below w.heap.size w w4):=HB3.out.trans (hb4.mono HB3.out.size)
 have HR4:Hid (Mr w4 m ra va ma):=HR3.out.below hb4
 have HQ4:Hid (Mr w4 m rb vb mb):=hq4
 clear hb4 hq4 HM3 HB3 HR3
 go_upto_region 6 with fail
 obtain ⟨w5,hw5⟩:∃ y,y=w4.alloc (.cells #[.slice rb m.row.length rd,.int .i64 m.N,.string m.S,.int .i64 m.room,.slice vb m.vals.length vd,.int .i64 m.ret,.bool m.over,.int .i64 m.steps,.int .i64 m.looks,.int .i64 m.hits,.slice mb m.memo.length md] 30):=⟨_,rfl⟩
 obtain ⟨q,hq⟩:∃ q,q=w4.heap.size:=⟨_,rfl⟩
 have hb45:Below w4.heap.size w4 w5:=by rw [hw5];exact (Below.refl _ _).alloc (Nat.le_refl _) _
 have HN5:Hid (Mb w5 q m rb vb mb rd vd md):=by rw [hw5,hq];exact Mb.made _ _ _ _ _ _ _ _ _
 have HM5:Hid (Mb w5 p m ra va ma rc vc mc):=HM4.out.below hb45
 have HB5:Hid (Below w.heap.size w w5):=HB4.out.trans (hb45.mono HB4.out.size)
 have HR5:Hid (Mr w5 m ra va ma):=HR4.out.below hb45
 have HQ5:Hid (Mr w5 m rb vb mb):=HQ4.out.below hb45
 rw [<- hw5,<- hq]
 clear hw5 hq hb45 HM4 HB4 HR4 HQ4
 obtain ⟨c0,c1,c2,c3,c4,c5,c6,c7,c8,c9,c10⟩:=HM5.out
 go_wp2_with fail
 clear c0 c1 c2 c3 c4 c5 c6 c7 c8 c9 c10
 refine (HSV.out.ssave w5 ra va ma rc vc mc HR5.out).mono ?_
 rintro e w6 ⟨rfl,hb6⟩
 have HN6:Hid (Mb w6 q m rb vb mb rd vd md):=HN5.out.below hb6
 have HM6:Hid (Mb w6 p m ra va ma rc vc mc):=HM5.out.below hb6
 have HB6:Hid (Below w.heap.size w w6):=HB5.out.trans (hb6.mono HB5.out.size)
 have HR6:Hid (Mr w6 m ra va ma):=HR5.out.below hb6
 have HQ6:Hid (Mr w6 m rb vb mb):=HQ5.out.below hb6
 clear hb6 HN5 HM5 HB5 HR5 HQ5
 go_wp2_with fail
 clear heS
 refine (HA3.out _ HB6.out).mono ?_
 rintro e w' ⟨rfl,hz⟩
 have hz':=hz.symm
 clear hz
 subst hz'
 obtain ⟨c0,c1,c2,c3,c4,c5,c6,c7,c8,c9,c10⟩:=HM6.out
 go_wp2_with fail
 clear c0 c1 c2 c3 c4 c5 c6 c7 c8 c9 c10
 refine (HSV.out.run w6 ra va ma rc vc mc (HT.out.below HB6.out) HR6.out).mono ?_
 rintro e w7 ⟨⟨r7,v7,m7,rc7,vc7,mc7,rfl,hr7⟩,hb7⟩
 have HN7:Hid (Mb w7 q m rb vb mb rd vd md):=HN6.out.below hb7
 have HM7:Hid (Mb w7 p m ra va ma rc vc mc):=HM6.out.below hb7
 have HB7:Hid (Below w.heap.size w w7):=HB6.out.trans (hb7.mono HB6.out.size)
 have HR7:Hid (Mr w7 m ra va ma):=HR6.out.below hb7
 have HQ7:Hid (Mr w7 m rb vb mb):=HQ6.out.below hb7
 have HX7:Hid (Mr w7 M r7 v7 m7):=hr7
 clear hb7 hr7 HN6 HM6 HB6 HR6 HQ6
 go_wp2_with fail
 refine (HSV.out.save2 w7 r7 v7 m7 rc7 vc7 mc7 (HT.out.below HB7.out) HX7.out).mono ?_
 rintro e w8 ⟨rfl,hb8⟩
 have HN8:Hid (Mb w8 q m rb vb mb rd vd md):=HN7.out.below hb8
 have HM8:Hid (Mb w8 p m ra va ma rc vc mc):=HM7.out.below hb8
 have HB8:Hid (Below w.heap.size w w8):=HB7.out.trans (hb8.mono HB7.out.size)
 have HR8:Hid (Mr w8 m ra va ma):=HR7.out.below hb8
 have HQ8:Hid (Mr w8 m rb vb mb):=HQ7.out.below hb8
 clear hb8 HN7 HM7 HB7 HR7 HQ7 HX7
 obtain ⟨c0,c1,c2,c3,c4,c5,c6,c7,c8,c9,c10⟩:=HN8.out
 go_wp2_with fail
 clear c0 c1 c2 c3 c4 c5 c6 c7 c8 c9 c10
 refine (HSV.out.run w8 rb vb mb rd vd md (HT.out.below HB8.out) HQ8.out).mono ?_
 rintro e w9 ⟨⟨r9,v9,m9,rc9,vc9,mc9,rfl,hr9⟩,hb9⟩
 have HM9:Hid (Mb w9 p m ra va ma rc vc mc):=HM8.out.below hb9
 have HB9:Hid (Below w.heap.size w w9):=HB8.out.trans (hb9.mono HB8.out.size)
 have HR9:Hid (Mr w9 m ra va ma):=HR8.out.below hb9
 have HX9:Hid (Mr w9 M r9 v9 m9):=hr9
 clear hb9 hr9 HN8 HM8 HB8 HR8 HQ8
 go_wp2_with fail
 refine (HSV.out.save2 w9 r9 v9 m9 rc9 vc9 mc9 (HT.out.below HB9.out) HX9.out).mono ?_
 rintro e wa ⟨rfl,hba⟩
 have HMa:Hid (Mb wa p m ra va ma rc vc mc):=HM9.out.below hba
 have HBa:Hid (Below w.heap.size w wa):=HB9.out.trans (hba.mono HB9.out.size)
 have HRa:Hid (Mr wa m ra va ma):=HR9.out.below hba
 clear hba HM9 HB9 HR9 HX9
 go_wp2_with fail
 refine (HA4.out _ HBa.out).mono ?_
 rintro e w' ⟨rfl,hz⟩
 have hz':=hz.symm
 clear hz
 subst hz'
 have hj0:(0:Int)<=(J:Int) % (S.size:Int):=Int.emod_nonneg _ (by omega)
 have hj1:(J:Int) % (S.size:Int) < (S.size:Int):=Int.emod_lt_of_pos _ (by omega)
 have hj2:(J:Int) % (S.size:Int)<=(S.size:Int):=by omega
 have hne:((S.size:Int)==0)=false:=beq_eq_false_iff_ne.2 (by omega)
 go_wp2_with fail
 have hjn:((J:Int) % (S.size:Int)).toNat < S.size:=by omega
 refine Calls.mono (HSV.out.cut _ ((J:Int) % (S.size:Int)).toNat hjn (HT.out.below HBa.out)) ?_
 rintro e wb ⟨⟨m',r',v',m'',rc',vc',mc',c,rfl,hc⟩,hbb⟩
 have HCC:Hid (c=true->0 < m.memo.length):=hc
 have HMb:Hid (Mb wb p m ra va ma rc vc mc):=HMa.out.below hbb
 have HBb:Hid (Below w.heap.size w wb):=HBa.out.trans (hbb.mono HBa.out.size)
 have HRb:Hid (Mr wb m ra va ma):=HRa.out.below hbb
 clear hbb hc HMa HBa HRa hj0 hj1 hj2 hne hpos hmx
 go_upto_region 13 with fail
 generalize hwd:World.alloc wb _=wd
 have hbd:Below wb.heap.size wb wd:=by rw [<- hwd];exact (Below.refl _ _).alloc (Nat.le_refl _) _
 have HMd:Hid (Mb wd p m ra va ma rc vc mc):=HMb.out.below hbd
 have HBd:Hid (Below w.heap.size w wd):=HBb.out.trans (hbd.mono HBb.out.size)
 have HRd:Hid (Mr wd m ra va ma):=HRb.out.below hbd
 clear hwd hbd HMb HBb HRb
 have c0:=(mb_cells HMd.out).1
 go_wp2_with fail
 clear c0
 refine (HSV.out.text wd ra rc HRd.out.row).mono ?_
 rintro e we ⟨rfl,hbe⟩
 have HMe:Hid (Mb we p m ra va ma rc vc mc):=HMd.out.below hbe
 have HBe:Hid (Below w.heap.size w we):=HBd.out.trans (hbe.mono HBd.out.size)
 have HRe:Hid (Mr we m ra va ma):=HRd.out.below hbe
 clear hbe HMd HBd HRd
 go_wp2_with fail
 refine (HSV.out.read we).mono ?_
 rintro e wf ⟨⟨af,cf,rfl⟩,hbf⟩
 have HMf:Hid (Mb wf p m ra va ma rc vc mc):=HMe.out.below hbf
 have HBf:Hid (Below w.heap.size w wf):=HBe.out.trans (hbf.mono HBe.out.size)
 have HRf:Hid (Mr wf m ra va ma):=HRe.out.below hbf
 clear hbf HMe HBe HRe
 obtain ⟨c0,c1,c2,c3,c4,c5,c6,c7,c8,c9,c10⟩:=HMf.out
 go_wp2_with fail
 clear c0 c1 c2 c3 c4 c5 c6 c7 c8 c9 c10
 refine (HSV.out.run wf ra va ma rc vc mc (HT.out.below HBf.out) HRf.out).mono ?_
 rintro e wg ⟨⟨rg,vg,mg,rcg,vcg,mcg,rfl,hrg⟩,hbg⟩
 have HMg:Hid (Mb wg p m ra va ma rc vc mc):=HMf.out.below hbg
 have HBg:Hid (Below w.heap.size w wg):=HBf.out.trans (hbg.mono HBf.out.size)
 have HXg:Hid (Mr wg M rg vg mg):=hrg
 clear hrg hbg HMf HBf HRf
 go_wp2_with fail
 refine (HSV.out.ssave2 wg rg vg mg rcg vcg mcg HXg.out).mono ?_
 rintro e wh ⟨rfl,hbh⟩
 have HMh:Hid (Mb wh p m ra va ma rc vc mc):=HMg.out.below hbh
 have HBh:Hid (Below w.heap.size w wh):=HBg.out.trans (hbh.mono HBg.out.size)
 clear hbh HMg HBg HXg
 obtain ⟨c0,c10⟩:=mb_cells HMh.out
 cases c
 ·clear HCC
  go_wp2_with fail
  go_ret
  exact ⟨rfl,HBh.out⟩
 ·have hmn:0 < m.memo.length:=HCC.out rfl
  have hmem:(0:Int) < (m.memo.length:Int):=by omega
  have hmd:decide (0 < m.memo.length)=true:=decide_eq_true hmn
  go_wp2_with fail
  go_ret
  exact ⟨rfl,HBh.out⟩
end Lsv1
namespace Hs0
variable {H:Type} {enc:TypeId × Value->H}
theorem andShaped {C:Checked} {os:Os} {f:FuncId} {fn:Func} {s:ChangeSpec} {apart fresh handsOn again:Bool} {X:World->Array Value->Prop}
 (hX:∀ (w w':World) (args:Array Value),w.heap=w'.heap->X w args->X w' args)
 (own:ownKnob C.prog.godebug=none) (started:os.Started) (noInit:C.prog.inits.idxOf? f=none) (hfn:C.prog.funcs[f]? = some fn)
 (witness:∃ (w:World) (tape:Tape) (i:Input),w.os=os/\(w.forCall tape i).Shaped C.prog/\i.vars=[]/\Input.okWide C.prog (w.forCall tape i) .any w.heap.size f i /\
  ((s.pre enc C.prog fn [] apart (w.forCall tape i).memory i.args/\X (w.forCall tape i).memory i.args)/\sizedMet enc C.prog fn (OpenSpec.ofChange s) apart (w.forCall tape i).memory i.args)/\({}:Assume).holds C.prog (lone (Frame.enter C.prog f i.args .normal) [] (w.forCall tape i)))
 (walk:∀ (W:World) (base:Nat) (args:Array Value) (ds gs:List (DataW H)) (before:List MemPlace),
  (∀ (j:Nat) t v,fn.params[j]? = some t->args[j]? = some v->Value.okWide C.prog W .any base t v) ->
  DataW.Whole enc C.prog fn.params.toList s.vars apart W args.toList ds gs before->X W args->W.ShapedOpen C.prog ->
  Calls C.prog f args W fun e W'=>∃ v,e=.returned v/\s.post enc C.prog fn apart fresh handsOn again W args v W') :
 ReturnsInHanded {} C os f .any (fun w args=>(s.pre enc C.prog fn [] apart w args/\X w args)/\sizedMet enc C.prog fn (OpenSpec.ofChange s) apart w args) (s.post enc C.prog fn apart fresh handsOn again):=by
 refine returnsInHanded_of_calls own started noInit witness ?_
 intro w tape i _ hsh _ hok hpre _
 obtain ⟨_,_,_,fn',hfn',_,_,_,_,hval⟩:=hok
 obtain rfl:fn'=fn:=Option.some.inj (hfn'.symm.trans hfn)
 obtain ⟨⟨⟨ds,gs,before,hw,hc⟩,hx⟩,hz⟩:=hpre
 have hw':=DataW.Whole.of_heap (w':=w.forCall tape i) (by rfl) hw
 refine (walk (w.forCall tape i) w.heap.size i.args ds gs before hval hw' (hX (w.forCall tape i).memory (w.forCall tape i) _ rfl hx) hsh).mono fun e W' ⟨v,he,hp⟩=>?_
 subst he
 exact ChangeSpec.post_blind hp
end Hs0
namespace Zt1
open Go.RowKit
open Zs7 (TabE)
open Zt0 (tabz_of_laid)
theorem split {P:Program} {laid:List (String × DataW Unit)} {w:World} (h:laidMetH P laid w):laidMet P (laid.filter fun x=>x.2.handleName?.isNone) w/\handlesMet P (laid.filter fun x=>x.2.handleName?.isSome) w:=by
 unfold laidMetH at h
 split at h
 ·rename_i e
  refine ⟨?_,by rw [e];intro x hx;cases hx⟩
  have:(laid.filter fun x=>x.2.handleName?.isNone)=laid:=by
   rw [List.filter_eq_self]
   intro x hx
   cases hn:x.2.handleName? with
   | none=>rfl
   | some s =>
     have:x∈laid.filter fun x=>x.2.handleName?.isSome:=List.mem_filter.2 ⟨hx,by rw [hn];rfl⟩
     rw [e] at this
     cases this
  rw [this]
  exact h
 ·rename_i hd tl e
  rw [e]
  exact h
theorem et:Tryz.prog.globalNamed "errors.errorType" = some 0:=by kernel_rfl
theorem rt:(Tryz.prog.cutTypes.find? (·.1 == "internal/reflectlite.rtype")).map (·.2)=some 165:=by kernel_rfl
theorem oneRow:((List.range 248).filter fun t=>Tryz.prog.rowNamed t [101,114,114,111,114])=[63]:=by kernel_rfl
theorem size:Tryz.prog.types.size=248:=by kernel_rfl
theorem tabe_of_laid {W:World} {laid:List (String × DataW Unit)} (hH:laidMetH Tryz.prog laid W)
 (h1:("internal/strconv.uint64pow10",Rows.laid_internal_strconv_uint64pow10)∈laid) (h2:("strconv.ErrSyntax",Rows.laid_strconv_ErrSyntax)∈laid) (h3:("strconv.ErrRange",Rows.laid_strconv_ErrRange)∈laid) (h4:W.ShapedOpen Tryz.prog) (h5:("errors.errorType",Rows.laid_errors_errorType)∈laid):TabE W:=by
 obtain ⟨hP,hh⟩:=split hH
 refine ⟨tabz_of_laid hP (List.mem_filter.2 ⟨h1,by kernel_rfl⟩) (List.mem_filter.2 ⟨h2,by kernel_rfl⟩) (List.mem_filter.2 ⟨h3,by kernel_rfl⟩) h4,?_⟩
 have h6:=hh _ (List.mem_filter.2 ⟨h5,by kernel_rfl⟩)
 obtain ⟨name,u,ty,e1,e2,e3,e4,e5⟩:=h6
 have en:name=[101,114,114,111,114]:=(Option.some.inj e1).symm
 subst en
 obtain rfl:=Option.some.inj (rt.symm.trans e2)
 have hm:ty∈(List.range 248).filter fun t=>Tryz.prog.rowNamed t [101,114,114,111,114]:=List.mem_filter.2 ⟨List.mem_range.2 (by rw [<- size];exact e3),e4⟩
 rw [oneRow] at hm
 obtain rfl:=List.mem_singleton.1 hm
 have hT:typeHandle Tryz.prog 63=.pointer (some ⟨9,63,none⟩):=by kernel_rfl
 rw [hT] at e5
 simpa using World.var?_cell et e5 0
end Zt1
namespace Zt2
/-- The settled world, errors.errorType laid. -/
noncomputable def w0h (os:Os):World :=
 let w0:=World.holding Tryz.prog os ⟨#[],#[],[]⟩
 { w0 with heap:=w0.heap.modify 0 fun
  | .cells _ t frozen=>.cells #[.iface 165 (.agg #[.pointer (some ⟨9,63,none⟩)])] t frozen
  | o=>o }
/-- All that a row lists, laid. -/
noncomputable def laidW (os:Os) (laid:List (String × DataW Unit)):World:=(w0h os).layVars Tryz.prog (laid.filter fun x=>x.2.handleName?.isNone)
theorem laidW_os (os:Os) (laid:List (String × DataW Unit)):(laidW os laid).os=os:=(World.layVars_os _ _ _).trans rfl
theorem laidW_met {os:Os} {laid:List (String × DataW Unit)} (args:Array Value)
 (hf:(w0h os).layFits Tryz.prog (laid.filter fun x=>x.2.handleName?.isNone) []=true)
 (hi:(w0h os).layIfaces Tryz.prog (laid.filter fun x=>x.2.handleName?.isNone) (laidW os laid)=true) :
 laidMet Tryz.prog (laid.filter fun x=>x.2.handleName?.isNone) ((laidW os laid).forCall (fun _ _=>0) ⟨#[],args,[]⟩).memory:=by
 obtain ⟨l,hl⟩:∃ l,l=laid.filter fun x=>x.2.handleName?.isNone:=⟨_,rfl⟩
 have e1:(l.filter fun x=>(l.map (·.1)).contains x.1)=l:=List.filter_eq_self.2 fun x hx=>List.contains_iff_mem.2 (List.mem_map.2 ⟨x,hx,rfl⟩)
 have e2:(l.filter fun x => !(l.map (·.1)).contains x.1)=[]:=List.filter_eq_nil_iff.2 fun x hx=>by rw [List.contains_iff_mem.2 (List.mem_map.2 ⟨x,hx,rfl⟩)];simp
 rw [<- hl] at hf hi ⊢
 have h:laidMet Tryz.prog l (laidW os laid):=laidMet_layVars (w0:=w0h os) (l.map (·.1)) [] (by rw [e1];unfold laidW;rw [<- hl]) (by rw [e1];exact hf) (by rw [e1];exact hi) (by rw [e2];exact LaidIn.none)
 exact h.of_heap (by simp [World.memory,World.forCall,Input.heap])
theorem fits (os:Os):(w0h os).layFits Tryz.prog (Rows.fnSaveRow.laid.filter fun x=>x.2.handleName?.isNone) []=true:=by kernel_rfl
theorem ifaces (os:Os):(w0h os).layIfaces Tryz.prog (Rows.fnSaveRow.laid.filter fun x=>x.2.handleName?.isNone) (laidW os Rows.fnSaveRow.laid)=true:=by kernel_rfl
theorem met (os:Os) (args:Array Value):laidMetH Tryz.prog Rows.fnSaveRow.laid ((laidW os Rows.fnSaveRow.laid).forCall (fun _ _=>0) ⟨#[],args,[]⟩).memory :=
 laidMetH_of_parts3 (fuel:=8) (laidW_met args (fits os) (ifaces os)) (by kernel_rfl) (by kernel_rfl)
theorem shape (os:Os) (args:Array Value):((laidW os Rows.fnSaveRow.laid).forCall (fun _ _=>0) ⟨#[],args,[]⟩).Shaped Tryz.prog:=World.shaped_of_ZipB (by kernel_rfl) (by kernel_rfl)
end Zt2
end Go.Proofs.YtjajkmdoggbicaaGreatDoor
