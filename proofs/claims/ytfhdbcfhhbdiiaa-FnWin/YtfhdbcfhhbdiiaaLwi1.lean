import Derived.Test.YtfhdbcfhhbdiiaaWt4
import Derived.Test.YtfhdbcfhhbdiiaaPkWI4
namespace Go.Proofs.Ytfhdbcfhhbdiiaa
set_option maxRecDepth 100000
set_option maxHeartbeats 8000000
set_option linter.unusedVariables false
namespace Lwi1
open Go.RowKit
open Ta0 Ta1 Tc2 Tc5
open Nd0 (Kept Ints WInts lt_of_cell)
open Nd6 (Bools)
open Op6 (Pk PkAt Pks)
open Dr0 (Bytes)
open Ta2 (bitB atB)
open Ss0 (bs bs_size)
open Ss1 (tl bs_tl)
open De0 (dc)
open Dq1 (ownF)
open Dp4 (iDecide iRuled0 iRuled)
open Dm1 (sOkR)
open Dm3 (sDecide sDecide0)
open Wp10 (chk)
open Wp11 (sChecks0 sChecks)
open Wp22 (iChecks)
open Wp23 (iChecksN iChecksM)
open Ddr (drawCase)
open Lat (lat3)
open Lw0 (lbig)
open Ap0 Wp7 Wr0 Wr3 Wt0 Wt1
open Wr4 (iWin)
open Wt4 (tok_str drawChecks)
/-- Checks of both, and what a yes means. -/
theorem cChecks (row:List Bool) (N:Int) (S:ByteArray) (v:Int) (ps:List Pk) (hS:S.size<=1048576) (hw:∀ p∈ps,(Lit.int .i64 p.v).wf=true):∃ (b:Bool) (x:Int) (f:Bool),(b=true->f=true/\x=v) /\
 (∀ (W:World) (ra la:Option Addr) (c lc:Nat),Bools W ra row->row.length<=c->Pks W la ps->Calls Try.prog 13 #[.slice ra row.length c,tv N S,.int .i64 v,.slice la ps.length lc] W fun e w'=>e=.returned (.bool b)/\Below W.heap.size W w') /\
 (∀ (W:World) (ra la:Option Addr) (c lc:Nat),Bools W ra row->Pks W la ps->Calls Try.prog 9 #[.slice ra row.length c,tv N S,.int .i64 v,.slice la ps.length lc] W fun e w'=>e=.returned (.bool b)/\Below W.heap.size W w') /\
 (∀ (W:World) (ra:Option Addr) (c:Nat),Bools W ra row->row.length<=c->Calls Try.prog 8 #[.slice ra row.length c,tv N S] W fun e w'=>e=.returned (.tuple #[.int .i64 x,.bool f])/\Below W.heap.size W w'):=by
 by_cases h:tokB N (tl S)=true/\(row.length:Int)=N
 ·obtain ⟨h1,h2⟩:=h
  obtain ⟨n,F,hn,rfl,rfl⟩:=tok_str h1
  obtain rfl:n=row.length:=by omega
  have hd:∀ (W:World) (ra:Option Addr) (c:Nat),Bools W ra row->row.length<=c->Calls Try.prog 8 #[.slice ra row.length c,tv (row.length:Int) (bs (tab row.length F))] W fun e w'=>e=.returned (.tuple #[.int .i64 ((dc row F).toNat:Int),.bool true])/\Below W.heap.size W w':=fun W ra c hB hc=>sDecide row.length F ra row c W hn rfl hB hc
  by_cases hv:bitB v=true
  ·by_cases hl:ps.length<=5000
   ·refine ⟨_,((dc row F).toNat:Int),true,fun hb=>⟨rfl,chk_dc ps v row ?_ F [] hb⟩,fun W ra la c lc hB hc hP=>sChecks row F v ps ra la c lc W hn hB hc hv hl hP,fun W ra la c lc hB hP=>iChecks row F v ps ra la c lc W hn hB hv hl hP hw,hd⟩
    have:=Wp9.bit_in.1 hv
    omega
   ·exact ⟨false,((dc row F).toNat:Int),true,fun e=>(by cases e),fun W ra la c lc hB hc hP=>sChecks0 _ _ v ps ra la _ c lc W hS hP.1 (fun e=>hl e.2.2) (fun _ W'=>sOkR row.length F ra c W' hn),fun W ra la c lc hB hP=>iChecksM row F v ra la c _ lc W hn hB hv hl,hd⟩
  ·exact ⟨false,((dc row F).toNat:Int),true,fun e=>(by cases e),fun W ra la c lc hB hc hP=>sChecks0 _ _ v ps ra la _ c lc W hS hP.1 (fun e=>hv e.2.1) (fun _ W'=>sOkR row.length F ra c W' hn),fun W ra la c lc hB hP=>iChecksN _ _ v ra la _ c _ lc W (fun e=>hv e.2) fun W'=>⟨true,(fun _=>by simpa using hv),(iRuled row.length F ra c W' hn).mono fun e w' hh=>by
    obtain ⟨g,he,_,_,hb⟩:=hh
    exact ⟨_,_,_,_,_,_,_,he,hb⟩⟩,hd⟩
 ·exact ⟨false,0,false,fun e=>(by cases e),fun W ra la c lc hB hc hP=>sChecks0 _ _ v ps ra la _ c lc W hS hP.1 (fun e=>h e.1) (fun e=>absurd e h),fun W ra la c lc hB hP=>iChecksN _ _ v ra la _ c _ lc W (fun e=>h e.1) fun W'=>⟨false,(fun e=>by cases e),(iRuled0 ra _ c W' hS h).mono fun e w' hh=>by
   obtain ⟨he,hb⟩:=hh
   exact ⟨_,_,_,_,_,_,_,he,hb⟩⟩,fun W ra c hB hc=>sDecide0 ra _ c W hS h⟩
/-- What the law asks of the drawn row and table. -/
structure Wg (row:List Bool) (N:Int) (S:ByteArray) (m:Nat) (ps:List Pk) (v:Int):Prop where
 win:∀ (W:World) (ra:Option Addr) (c:Nat),Bools W ra row->row.length<=c->Calls Try.prog 7 #[.slice ra row.length c,tv N S] W fun e w'=>(∃ g cap,e=.returned (.tuple #[.slice (some ⟨g,0,none⟩) m cap,.int .i64 v,.bool true])/\Pks w' (some ⟨g,0,none⟩) ps)/\Below W.heap.size W w'
 dec:∀ (W:World) (ra:Option Addr) (c:Nat),Bools W ra row->row.length<=c->Calls Try.prog 8 #[.slice ra row.length c,tv N S] W fun e w'=>e=.returned (.tuple #[.int .i64 v,.bool true])/\Below W.heap.size W w'
 chk:∀ (W:World) (ra la:Option Addr) (c lc:Nat),Bools W ra row->Pks W la ps->Calls Try.prog 9 #[.slice ra row.length c,tv N S,.int .i64 v,.slice la m lc] W fun e w'=>e=.returned (.bool true)/\Below W.heap.size W w'
 play:∀ (W:World) (ra la ma:Option Addr) (c lc mc:Nat) (ml:List Int),Bools W ra row->Pks W la ps->Ints W ma ml->ml.length<=1000->Calls Try.prog 11 #[.slice ra row.length c,tv N S,.int .i64 v,.slice la m lc,.slice ma ml.length mc] W fun e w'=>e=.returned (.int .i64 v)/\Below W.heap.size W w'
theorem wg_of (row:List Bool) (F:Nat->Bool) (hn:row.length<=6):∃ (m:Nat) (ps:List Pk) (v:Int),Wg row (row.length:Int) (bs (tab row.length F)) m ps v:=by
 obtain ⟨d,hd⟩:∃ d,d=dc row F:=⟨_,rfl⟩
 have hwl:=wn_len (d.toNat:Int) row F []
 have hp:2 ^ row.length<=2 ^ 6:=Nat.pow_le_pow_right (by decide) hn
 have hv:bitB (d.toNat:Int)=true:=by cases d<;>rfl
 have hb:=wn_bits (d.toNat:Int) row F []
 refine ⟨(wn (d.toNat:Int) row F []).length,wn (d.toNat:Int) row F [],(d.toNat:Int),fun W ra c hB hc=>?_,fun W ra c hB hc=>?_,fun W ra la c lc hB hP=>?_,fun W ra la ma c lc mc ml hB hP hM hl=>?_⟩
 ·rw [hd]
  refine (iWin row F ra c W (by omega) hB hc).mono ?_
  rintro e w' ⟨g,cap,qs,rfl,hq,hL,hb⟩
  have h1:=hL.pks (by have:=congrArg List.length hq;rw [List.length_map] at this;rw [hd] at hwl;unfold maxLen;omega)
  rw [hq] at h1
  exact ⟨⟨g,cap,by rw [<- hq,List.length_map],h1⟩,hb⟩
 ·rw [hd]
  exact sDecide row.length F ra row c W (by omega) rfl hB hc
 ·have h1:=iChecks row F (d.toNat:Int) (wn (d.toNat:Int) row F []) ra la c lc W (by omega) hB hv (by omega) hP (fun p hp=>Wt3.bit_wf (hb p hp))
  rw [wn_chk (d.toNat:Int) row F [] d hd.symm rfl] at h1
  exact h1
 ·have h1:=iPlay row F (d.toNat:Int) (wn (d.toNat:Int) row F []) ml ra la ma c lc mc W (by omega) hB hv (by omega) hP hb hM hl
  rw [win_plays hd.symm (by omega) (mvB ml) (mvB_bit ml)] at h1
  exact h1
theorem lawWin (w:World) (a:Option Addr) (len cap:Nat) (hb:Bytes w a len) :
 Calls Try.prog 3 #[.slice a len cap] w fun e w'=>e=.returned (.bool true)/\Below w.heap.size w w':=by
 have HB:Hid (Bytes w a len):=hb
 clear hb
 by_cases hs:1048576 < len
 ·go_enter Try.func3,Try.ntmps3
  go_wp2_with fail
  refine (lbig _ a len cap true (by simp;omega)).mono ?_
  rintro e w' ⟨rfl,rfl⟩
  go_wp2
  go_ret
  exact ⟨rfl,Below.refl _ _⟩
 have hsl:len<=1048576:=by omega
 have HAT:Hid (∀ i:Nat,i<=1000->∃ y:Int,0<=y/\y<=255/\∀ W:World,Below w.heap.size w W->Calls Try.prog 10 #[.slice a len cap,.int .i64 (i:Int)] W fun e w'=>e=.returned (.int .i64 y)/\w'=W):=fun i hi=>lat3 w a len cap (i:Int) (by omega) (by omega) HB.out hsl
 go_enter Try.func3,Try.ntmps3
 go_wp2_with fail
 refine (lbig _ a len cap false (by simp;omega)).mono ?_
 rintro e w0 ⟨rfl,hw0⟩
 have hw0':=hw0.symm
 clear hw0
 subst hw0'
 go_wp2_with fail
 refine (drawCase _ a len cap HB.out).mono ?_
 rintro e w1 ⟨⟨n,F,row,ra,c,hn6,rfl,hrc,rfl,hrow⟩,hb1⟩
 obtain ⟨m,ps,v,hwg⟩:=wg_of row F hn6
 have HWG:Hid (Wg row (row.length:Int) (bs (tab row.length F)) m ps v):=hwg
 have HR1:Hid (Bools w1 ra row):=hrow
 have HB1:Hid (Below w.heap.size w w1):=hb1
 clear hwg hrow hb1
 generalize bs (tab row.length F)=S at *
 go_upto_region 4 with fail
 obtain ⟨w2,hw2⟩:∃ z,z=w1.alloc (.cells #[.int .i64 (row.length:Int),.string S] 26):=⟨_,rfl⟩
 obtain ⟨qt,hqt⟩:∃ z,z=w1.heap.size:=⟨_,rfl⟩
 have hb2:Below w1.heap.size w1 w2:=by rw [hw2];exact (Below.refl _ _).alloc (Nat.le_refl _) _
 have HT2:Hid (Lay w2 qt (.int .i64 (row.length:Int)) (.string S)):=by rw [hw2,hqt];exact Lay.made _ _ _ _
 have HB2:Hid (Below w.heap.size w w2):=HB1.out.trans (hb2.mono HB1.out.size)
 have HR2:Hid (Bools w2 ra row):=HR1.out.below hb2
 rw [<- hw2,<- hqt]
 clear hw2 hqt hb2 HB1 HR1
 obtain ⟨t0,t1,_,_⟩:=HT2.out
 have tl0:=lt_of_cell t0
 go_wp2_with fail
 clear t0 t1 tl0
 refine (HWG.out.win w2 ra c HR2.out hrc).mono ?_
 rintro e w3 ⟨⟨g,cp,rfl,hp3⟩,hb3⟩
 have HP3:Hid (Pks w3 (some ⟨g,0,none⟩) ps):=hp3
 have HT3:Hid (Lay w3 qt (.int .i64 (row.length:Int)) (.string S)):=HT2.out.below hb3
 have HB3:Hid (Below w.heap.size w w3):=HB2.out.trans (hb3.mono HB2.out.size)
 have HR3:Hid (Bools w3 ra row):=HR2.out.below hb3
 clear hp3 hb3 HT2 HB2 HR2
 obtain ⟨t0,t1,_,_⟩:=HT3.out
 have tl0:=lt_of_cell t0
 go_wp2_with fail
 clear t0 t1 tl0
 refine (HWG.out.dec w3 ra c HR3.out hrc).mono ?_
 rintro e w4 ⟨rfl,hb4⟩
 have HP4:Hid (Pks w4 (some ⟨g,0,none⟩) ps):=pks_below HP3.out hb4
 have HT4:Hid (Lay w4 qt (.int .i64 (row.length:Int)) (.string S)):=HT3.out.below hb4
 have HB4:Hid (Below w.heap.size w w4):=HB3.out.trans (hb4.mono HB3.out.size)
 have HR4:Hid (Bools w4 ra row):=HR3.out.below hb4
 clear hb4 HP3 HT3 HB3 HR3
 have hvv:(v != v)=false:=by simp
 obtain ⟨t0,t1,_,_⟩:=HT4.out
 have tl0:=lt_of_cell t0
 go_wp2_with fail
 clear t0 t1 tl0
 refine (HWG.out.chk w4 ra _ c cp HR4.out HP4.out).mono ?_
 rintro e w5 ⟨rfl,hb5⟩
 have HP5:Hid (Pks w5 (some ⟨g,0,none⟩) ps):=pks_below HP4.out hb5
 have HT5:Hid (Lay w5 qt (.int .i64 (row.length:Int)) (.string S)):=HT4.out.below hb5
 have HB5:Hid (Below w.heap.size w w5):=HB4.out.trans (hb5.mono HB4.out.size)
 have HR5:Hid (Bools w5 ra row):=HR4.out.below hb5
 clear hb5 HP4 HT4 HB4 HR4
 obtain ⟨w6,hw6⟩:∃ z,z=w5.alloc (.cells #[] 3):=⟨_,rfl⟩
 have hb6:Below w5.heap.size w5 w6:=by rw [hw6];exact (Below.refl _ _).alloc (Nat.le_refl _) _
 have HO6:Hid (Ows w6 w5.heap.size (.slice (some ⟨w5.heap.size,0,none⟩) 0 0) []):=by rw [hw6];exact Ows.lit w5 _ (Nat.le_refl _)
 have HB56:Hid (Below w5.heap.size w5 w6):=hb6
 clear hb6
 go_upto_region 9 with fail
 rw [<- hw6]
 clear hw6
 go_wp2_with fail
 go_loopw [10,11] (fun z i wr=>∃ ml:List Int,ml.length<=row.length/\i=.int .i64 (ml.length:Int)/\Ows wr w5.heap.size z ml/\Below w5.heap.size w5 wr) (fun _ i _=>row.length - (intOf i).toNat)
 case atStart=>exact ⟨[],Nat.zero_le _,rfl,HO6.out,HB56.out⟩
 case round =>
  obtain ⟨ml,hml,rfl,hows,hbr⟩:=hrel
  obtain ⟨va,vc,rfl,hwi⟩:=hows.form
  have HOR:Hid (Ows wr w5.heap.size (.slice va ml.length vc) ml):=hows
  have HVI:Hid (Ints wr va ml):=hwi.ints
  have HBR:Hid (Below w5.heap.size w5 wr):=hbr
  have HBW:Hid (Below w.heap.size w wr):=HB5.out.trans (hbr.mono HB5.out.size)
  have HTR:Hid (Lay wr qt (.int .i64 (row.length:Int)) (.string S)):=HT5.out.below hbr
  have hsz:=hbr.size
  clear hows hwi hbr
  by_cases hlt:ml.length < row.length
  ·have hlz:(ml.length:Int) < (row.length:Int):=by omega
   obtain ⟨y,hy0,hy1,hat⟩:=HAT.out (ml.length+2) (by omega)
   rw [show ((ml.length+2:Nat):Int)=(ml.length:Int)+2 by omega] at hat
   have HAY:Hid (∀ W:World,Below w.heap.size w W->Calls Try.prog 10 #[.slice a len cap,.int .i64 ((ml.length:Int)+2)] W fun e w'=>e=.returned (.int .i64 y)/\w'=W):=hat
   clear hat
   obtain ⟨t0,t1,_,_⟩:=HTR.out
   have tl0:=lt_of_cell t0
   go_wp2_with fail
   clear t0 t1 tl0
   refine (HAY.out _ HBW.out).mono ?_
   rintro e w' ⟨rfl,hq⟩
   have hq':=hq.symm
   clear hq
   subst hq'
   go_upto_region 11 with (at_builtin;go_must (refine app_int _ rfl _ _ rfl w5.heap.size (.slice va ml.length vc) ml _ rfl rfl HOR.out (by omega) (by omega) ?_;intro g7 cp7 w7 ho7 hk7 hg7;have HK7:Hid (Kept (fun b=>((.slice va ml.length vc):Value).ownBlock=some b) wr w7):=hk7;have HO7:Hid (∃ l7:List Int,l7.length=ml.length+1/\Ows w7 w5.heap.size (.slice (some ⟨g7,0,none⟩) (ml.length+1) cp7) l7):=⟨_,by rw [List.length_append];rfl,ho7⟩;clear ho7 hk7 hg7))
   go_wp2
   go_roundw
   case rel =>
    obtain ⟨l7,h7,h8⟩:=HO7.out
    exact ⟨l7,by omega,by rw [h7];go_num,h8,HBR.out.trans (HK7.out.below (fun b hb=>(HOR.out.lt b hb).1) (by omega))⟩
   case measure=>simp [intOf];omega
  ·have hlz:¬ (ml.length:Int) < (row.length:Int):=by omega
   have HPR:Hid (Pks wr (some ⟨g,0,none⟩) ps):=pks_below HP5.out HBR.out
   have HRR:Hid (Bools wr ra row):=HR5.out.below HBR.out
   clear HOR
   obtain ⟨t0,t1,_,_⟩:=HTR.out
   have tl0:=lt_of_cell t0
   go_wp2_with fail
   clear t0 t1 tl0
   refine (HWG.out.play wr ra _ va c cp vc ml HRR.out HPR.out HVI.out (by omega)).mono ?_
   rintro e w8 ⟨rfl,hb8⟩
   have HP8:Hid (Pks w8 (some ⟨g,0,none⟩) ps):=pks_below HPR.out hb8
   have HT8:Hid (Lay w8 qt (.int .i64 (row.length:Int)) (.string S)):=HTR.out.below hb8
   have HB8:Hid (Below w.heap.size w w8):=HBW.out.trans (hb8.mono HBW.out.size)
   have HR8:Hid (Bools w8 ra row):=HRR.out.below hb8
   clear hb8 HPR HTR HBW HRR HVI HBR
   obtain ⟨t0,t1,_,_⟩:=HT8.out
   have tl0:=lt_of_cell t0
   go_wp2_with fail
   clear t0 t1 tl0
   refine (HWG.out.play w8 ra _ none c cp 0 [] HR8.out HP8.out ⟨Nat.zero_le _,.inl rfl⟩ (by simp)).mono ?_
   rintro e w9 ⟨rfl,hb9⟩
   have HB9:Hid (Below w.heap.size w w9):=HB8.out.trans (hb9.mono HB8.out.size)
   clear hb9 HP8 HT8 HB8 HR8
   go_wp2_with fail
   refine (drawChecks w9 a len cap (HB.out.below HB9.out)).mono ?_
   rintro e wa ⟨⟨N2,S2,row2,ra2,c2,v2,la2,ps2,lc2,hS2,_,hrc2,rfl,hr2,hp2,hw2⟩,hba⟩
   obtain ⟨b2,x2,f2,himp,hsp,him,hde⟩:=cChecks row2 N2 S2 v2 ps2 (by omega) hw2
   have HIMP:Hid (b2=true->f2=true/\x2=v2):=himp
   have HSP:Hid _:=hsp
   have HIM:Hid _:=him
   have HDE:Hid _:=hde
   obtain ⟨wb,hwb⟩:∃ z,z=wa.alloc (.cells #[.int .i64 N2,.string S2] 26):=⟨_,rfl⟩
   obtain ⟨qu,hqu⟩:∃ z,z=wa.heap.size:=⟨_,rfl⟩
   have hbb:Below wa.heap.size wa wb:=by rw [hwb];exact (Below.refl _ _).alloc (Nat.le_refl _) _
   have HTb:Hid (Lay wb qu (.int .i64 N2) (.string S2)):=by rw [hwb,hqu];exact Lay.made _ _ _ _
   have HBb:Hid (Below w.heap.size w wb):=(HB9.out.trans (hba.mono HB9.out.size)).trans (hbb.mono (Nat.le_trans HB9.out.size hba.size))
   have HRb:Hid (Bools wb ra2 row2):=hr2.below hbb
   have HPb:Hid (Pks wb la2 ps2):=pks_below hp2 hbb
   go_upto_region 16 with fail
   rw [<- hwb,<- hqu]
   clear hwb hqu hbb hba hr2 hp2 hw2 himp hsp him hde HB9
   obtain ⟨t0,t1,_,_⟩:=HTb.out
   have tl0:=lt_of_cell t0
   go_wp2_with fail
   clear t0 t1 tl0
   refine (HIM.out wb ra2 la2 c2 lc2 HRb.out HPb.out).mono ?_
   rintro e wc ⟨rfl,hbc⟩
   have HTc:Hid (Lay wc qu (.int .i64 N2) (.string S2)):=HTb.out.below hbc
   have HBc:Hid (Below w.heap.size w wc):=HBb.out.trans (hbc.mono HBb.out.size)
   have HRc:Hid (Bools wc ra2 row2):=HRb.out.below hbc
   have HPc:Hid (Pks wc la2 ps2):=pks_below HPb.out hbc
   clear hbc HTb HBb HRb HPb
   have hbb2:(b2 != b2)=false:=by simp
   obtain ⟨t0,t1,_,_⟩:=HTc.out
   have tl0:=lt_of_cell t0
   go_wp2_with fail
   clear t0 t1 tl0
   refine (HSP.out wc ra2 la2 c2 lc2 HRc.out hrc2 HPc.out).mono ?_
   rintro e wd ⟨rfl,hbd⟩
   have HTd:Hid (Lay wd qu (.int .i64 N2) (.string S2)):=HTc.out.below hbd
   have HBd:Hid (Below w.heap.size w wd):=HBc.out.trans (hbd.mono HBc.out.size)
   have HRd:Hid (Bools wd ra2 row2):=HRc.out.below hbd
   clear hbd HTc HBc HRc HPc
   obtain ⟨t0,t1,_,_⟩:=HTd.out
   have tl0:=lt_of_cell t0
   go_wp2_with fail
   clear t0 t1 tl0
   refine (HDE.out wd ra2 c2 HRd.out hrc2).mono ?_
   rintro e we ⟨rfl,hbe⟩
   have HBe:Hid (Below w.heap.size w we):=HBd.out.trans (hbe.mono HBd.out.size)
   clear hbe HTd HBd HRd
   have hv2:(v2==v2)=true:=by simp
   cases b2
   ·go_wp2
    go_ret
    exact ⟨rfl,HBe.out⟩
   ·obtain ⟨h1,h2⟩:=HIMP.out rfl
    subst h1 h2
    go_wp2
    go_ret
    exact ⟨rfl,HBe.out⟩
end Lwi1
end Go.Proofs.Ytfhdbcfhhbdiiaa
