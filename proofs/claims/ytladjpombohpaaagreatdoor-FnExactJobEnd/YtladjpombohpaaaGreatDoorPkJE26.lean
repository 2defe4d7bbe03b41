import Derived.Test.YtladjpombohpaaaGreatDoorPkJE25
namespace Go.Proofs.YtladjpombohpaaaGreatDoor
set_option maxRecDepth 100000
set_option maxHeartbeats 8000000
set_option linter.unusedVariables false
namespace Mw2
open Go.RowKit
open Nd0 (Kept Ints lt_of_cell At)
open Ap0 Mm0 Mx0 Mu2 Mu4 Mw0 Ms0
def b01 (b:Bool):Int:=if b then 1 else 0
theorem iOneIf (b:Bool) (w:World):Calls Tryz.prog 291 #[.bool b] w fun e w'=>e=.returned (.int .i64 (b01 b))/\w'=w:=by
 cases b
 ·go_enter Tryz.func291,Tryz.ntmps291
  go_wp2
  go_ret
  exact ⟨rfl,rfl⟩
 ·go_enter Tryz.func291,Tryz.ntmps291
  go_wp2
  go_ret
  exact ⟨rfl,rfl⟩
theorem iSettled (vl:List Int) (x:Int) (d:Bool) (w:World) (p:Nat) (m:Mc) (ra va ma:Option Addr) (rc vc mc bm:Nat) (hv:m.vals=vl++[x]) (hl:vl.length<=12) (hrl:vl.length < m.row.length) (hd:m.row[vl.length]=d) (hI:Ints w va m.vals) (hB:Nd6.Bools w ra m.row) (h:Sb w p m ra va ma rc vc mc bm) :
 Calls Tryz.prog 262 #[.pointer (some ⟨p,0,none⟩)] w fun e w'=>e=.returned (.bool ((m.ret==b01 (!d))||(x==1)))/\∃ q,w'=w.drewN q:=by
 have hvl:m.vals.length=vl.length+1:=by rw [hv,List.length_append];rfl
 obtain ⟨g,o,hva,hc1⟩:∃ g o,va=some ⟨g,o,none⟩/\w.cell? ⟨g,o+vl.length,none⟩=some (.int .i64 x):=by
  rcases hI.2 with e|⟨g,o,e,hc⟩
  ·omega
  ·refine ⟨g,o,e,(hc vl.length (by omega)).trans ?_⟩
   simp [hv]
 obtain ⟨xb,xo,hra,hc2⟩:∃ xb xo,ra=some ⟨xb,xo,none⟩/\w.cell? ⟨xb,xo+vl.length,none⟩=some (.bool d):=by
  rcases hB.2 with e|⟨xb,xo,e,hc⟩
  ·omega
  ·exact ⟨xb,xo,e,by rw [<- hd];exact hc _ hrl⟩
 have c4:w.cell? ⟨p,4,none⟩=some (.slice va m.vals.length vc):=h.all.c4
 have c0:w.cell? ⟨p,0,none⟩=some (.slice ra m.row.length rc):=h.all.c0
 have c5:w.cell? ⟨p,5,none⟩=some (.int .i64 m.ret):=h.all.c5
 have hp:=h.lt
 rw [hvl,hva] at c4
 rw [hra] at c0
 have hrz:(vl.length:Int) < (m.row.length:Int):=by omega
 have hg:=lt_of_cell hc1
 have hx:=lt_of_cell hc2
 clear h hI hB hv hvl hva hra hd
 cases ht:(m.ret==b01 (!d))<;>cases hx1:(x==1)<;>cases d
 all_goals
  simp only [Bool.not_true,Bool.not_false] at ht
  go_enter Tryz.func262,Tryz.ntmps262
  go_wp2_with fail
  go_quiet ((go_at_call 291;exact Calls.quiet_of_same (iOneIf _ _)))
  go_wp2
  go_ret
  exact ⟨rfl,_,rfl⟩
end Mw2
namespace Mw3
open Go.RowKit
open Nd0 (Kept Ints lt_of_cell At)
open Mm0 Mx0 Mu2 Mw0 Ms0 Mi5 Te1 Tk0
open Ta1 Ta2 Tc2 Tc5 Td1 Mc0 Mm1
open Ss0 (bs)
/-- What a machine on its way down is at. -/
def atD (kn:Int) (s:Option Int):Int:=if bitB kn=true then 0 else if s.isSome=true then 1 else 2
theorem iAtDown (n:Nat) (F:Nat->Bool) (vb:List Bool) (w:World) (p c:Nat) (f:ByteArray->Option Int) (m:Mc) (ra va ma:Option Addr) (rc vc mc bm:Nat) (hn:n<=12) (hN:m.N=(n:Int)) (hS:m.S=bs (tab n F)) (hv:m.vals=vb.map bi) (hk:vb.length<=n) (hks:(bs (keyL (n - vb.length) (tab (n - vb.length) (lft n F vb)))).size<=maxLen) (hI:Ints w va m.vals) (hM:Ms w bm c f) (hT:TabK w) (h:Sb w p m ra va ma rc vc mc bm) :
 Calls Tryz.prog 261 #[.pointer (some ⟨p,0,none⟩)] w fun e w'=>e=.returned (.int .i64 (atD (knw (n - vb.length) (lft n F vb)) (f (bs (keyL (n - vb.length) (tab (n - vb.length) (lft n F vb)))))))/\Below w.heap.size w w':=by
 have H_w:Hid (Sb w p m ra va ma rc vc mc bm):=h
 have HMS_w:Hid (Ms w bm c f):=hM
 have HT_w:Hid (TabK w):=hT
 have HB_w:Hid (Below w.heap.size w w):=Below.refl _ _
 have HLF:Hid (∀ W,Below w.heap.size w W->Calls Tryz.prog 258 #[mval m ra va ma rc vc mc] W fun e w'=>e=.returned (tv ((n - vb.length:Nat):Int) (bs (tab (n - vb.length) (lft n F vb))))/\Below W.heap.size W w'):=fun W hb=>iLeft n F vb m ra va ma rc vc mc W hn hN hS hv hk (hI.below hb)
 have HKN:Hid (∀ W,Calls Tryz.prog 257 #[tv ((n - vb.length:Nat):Int) (bs (tab (n - vb.length) (lft n F vb)))] W fun e w'=>e=.returned (.int .i64 (knw (n - vb.length) (lft n F vb)))/\Below W.heap.size W w'):=fun W=>iKnown _ _ W (by omega)
 have HKY:Hid (∀ W,TabK W->Calls Tryz.prog 259 #[tv ((n - vb.length:Nat):Int) (bs (tab (n - vb.length) (lft n F vb)))] W fun e w'=>e=.returned (.string (bs (keyL (n - vb.length) (tab (n - vb.length) (lft n F vb)))))/\Below W.heap.size W w'):=fun W ht=>iKey _ _ W (by omega) ht
 have HKS:Hid ((bs (keyL (n - vb.length) (tab (n - vb.length) (lft n F vb)))).size<=maxLen):=hks
 clear h hM hT hN hS hv hk hI hn hks
 generalize knw (n - vb.length) (lft n F vb)=kn at *
 generalize bs (keyL (n - vb.length) (tab (n - vb.length) (lft n F vb)))=KEY at *
 generalize bs (tab (n - vb.length) (lft n F vb))=T at *
 generalize n - vb.length=e at *
 have HBO:Hid (∀ W,Calls Tryz.prog 181 #[.int .i64 kn] W fun e w'=>e=.returned (.bool (bitB kn))/\w'=W):=fun W=>iBitOk kn W
 obtain ⟨c0,c1,c2,c3,c4,c5,c6,c7,c8,c9,c10,c11,z0,z1,z2,z3,z4,z5,z6,z7,z8,z9,z10,z11⟩:=H_w.out.all
 have hp:=H_w.out.lt
 go_enter Tryz.func261,Tryz.ntmps261
 go_wp2_with fail
 clear c0 c1 c2 c3 c4 c5 c6 c7 c8 c9 c10 c11 z0 z1 z2 z3 z4 z5 z6 z7 z8 z9 z10 z11 hp
 refine (HLF.out _ (Below.refl _ _)).mono ?_
 rintro _ x1 ⟨rfl,hb⟩
 have HB_x1:Hid (Below w.heap.size w x1):=HB_w.out.trans (hb.mono HB_w.out.size)
 have H_x1:Hid (Sb x1 p m ra va ma rc vc mc bm):=H_w.out.below hb
 have HMS_x1:Hid (Ms x1 bm c f):=HMS_w.out.below hb
 have HT_x1:Hid (TabK x1):=HT_w.out.below hb
 clear hb
 go_upto_region 2 with fail
 obtain ⟨X1,hX1⟩:∃ X,X=x1.alloc (.cells #[.int .i64 (e:Int),.string T] 32):=⟨_,rfl⟩
 obtain ⟨q3,hq3⟩:∃ q,q=x1.heap.size:=⟨_,rfl⟩
 have hb:Below x1.heap.size x1 X1:=by rw [hX1];exact (Below.refl _ _).alloc (Nat.le_refl _) _
 have HL_X1:Hid (Lay X1 q3 (.int .i64 (e:Int)) (.string T)):=by rw [hX1,hq3];exact Lay.made _ _ _ _
 rw [<- hX1,<- hq3]
 have HB_X1:Hid (Below w.heap.size w X1):=HB_x1.out.trans (hb.mono HB_x1.out.size)
 have H_X1:Hid (Sb X1 p m ra va ma rc vc mc bm):=H_x1.out.below hb
 have HMS_X1:Hid (Ms X1 bm c f):=HMS_x1.out.below hb
 have HT_X1:Hid (TabK X1):=HT_x1.out.below hb
 clear hb hX1 hq3
 obtain ⟨t0,t1,_,_⟩:=HL_X1.out
 go_wp2_with fail
 clear t0 t1
 refine (HKN.out _).mono ?_
 rintro _ x2 ⟨rfl,hb⟩
 have HB_x2:Hid (Below w.heap.size w x2):=HB_X1.out.trans (hb.mono HB_X1.out.size)
 have H_x2:Hid (Sb x2 p m ra va ma rc vc mc bm):=H_X1.out.below hb
 have HMS_x2:Hid (Ms x2 bm c f):=HMS_X1.out.below hb
 have HT_x2:Hid (TabK x2):=HT_X1.out.below hb
 have HL_x2:Hid (Lay x2 q3 (.int .i64 (e:Int)) (.string T)):=HL_X1.out.below hb
 clear hb
 cases hbk:bitB kn
 rotate_left
 ·have HD:Hid (atD kn (f KEY)=0):=by show _=_;unfold atD;rw [if_pos hbk]
  rw [hbk] at HBO
  clear hbk
  go_wp2_with (go_at_call 181;refine (HBO.out _).mono ?_;rintro e w9 ⟨rfl,hw9⟩;(have hw8:=hw9.symm);clear hw9;subst hw8)
  go_ret
  exact ⟨congrArg (fun z=>Ending.returned (.int .i64 z)) HD.out.symm,HB_x2.out⟩
 have HD:Hid (atD kn (f KEY)=if (f KEY).isSome=true then 1 else 2):=by show _=_;unfold atD;rw [hbk];rfl
 rw [hbk] at HBO
 clear hbk
 have c11:x2.cell? ⟨p,11,none⟩=some (.map (some bm)):=H_x2.out.all.c11
 have t0:=HL_x2.out.c0
 have t1:=HL_x2.out.c1
 have hp2:=H_x2.out.lt
 go_upto_region 4 with (go_at_call 181;refine (HBO.out _).mono ?_;rintro e w9 ⟨rfl,hw9⟩;(have hw8:=hw9.symm);clear hw9;subst hw8)
 clear c11 t0 t1
 have hb:Below x2.heap.size x2 x2.drew:=(Below.refl _ _).drew
 have HB_d:Hid (Below w.heap.size w x2.drew):=HB_x2.out.trans (hb.mono HB_x2.out.size)
 have H_d:Hid (Sb x2.drew p m ra va ma rc vc mc bm):=H_x2.out.below hb
 have HMS_d:Hid (Ms x2.drew bm c f):=HMS_x2.out.below hb
 have HT_d:Hid (TabK x2.drew):=HT_x2.out.below hb
 have HL_d:Hid (Lay x2.drew q3 (.int .i64 (e:Int)) (.string T)):=HL_x2.out.below hb
 clear hb
 go_region_held3 (fun w'=>w'.cell? ⟨p,11,none⟩=some (.map (some bm))/\w'.cell? ⟨q3,0,none⟩=some (.int .i64 (e:Int))/\w'.cell? ⟨q3,1,none⟩=some (.string T)) ((first|(with_reducible exact ⟨H_d.out.all.c11,HL_d.out.c0,HL_d.out.c1⟩)|exact ⟨H_x3.out.all.c11,HL_x3.out.c0,HL_x3.out.c1⟩|exact ⟨H_d.out.all.c11,HL_d.out.c0,HL_d.out.c1⟩)) ((go_at_call 259;(with_reducible refine (HKY.out _ HT_d.out).mono ?_);rintro _ x3 ⟨rfl,hb⟩;have HB_x3:Hid (Below w.heap.size w x3):=HB_d.out.trans (hb.mono HB_d.out.size);have H_x3:Hid (Sb x3 p m ra va ma rc vc mc bm):=H_d.out.below hb;have HL_x3:Hid (Lay x3 q3 (.int .i64 (e:Int)) (.string T)):=HL_d.out.below hb;have hlk:=(HMS_d.out.below hb).look HKS.out;clear hb))
 clear hlk HMS_w HMS_x1 HMS_X1 HMS_x2 HMS_d
 obtain ⟨s,hs⟩:∃ s,s=f KEY:=⟨_,rfl⟩
 have HSF:Hid (s=f KEY):=hs
 rw [<- hs]
 clear hs
 cases s
 ·go_wp2
  go_ret
  exact ⟨congrArg (fun z=>Ending.returned (.int .i64 z)) (by rw [HD.out,<- HSF.out];rfl),HB_x3.out⟩
 ·go_wp2
  go_ret
  exact ⟨congrArg (fun z=>Ending.returned (.int .i64 z)) (by rw [HD.out,<- HSF.out];rfl),HB_x3.out⟩
end Mw3
namespace Mw4
open Go.RowKit
open Nd0 (Kept Ints lt_of_cell At)
open Mm0 Mx0 Mu2 Mw0 Mw2 Mw3 Ms0 Mi5 Te1 Tk0
open Ta1 Ta2 Tc2 Tc5 Td1 Mc0 Mm1
open Ss0 (bs)
theorem iAtD (n:Nat) (F:Nat->Bool) (vb:List Bool) (w:World) (p c:Nat) (f:ByteArray->Option Int) (m:Mc) (ra va ma:Option Addr) (rc vc mc bm:Nat) (hn:n<=12) (hN:m.N=(n:Int)) (hS:m.S=bs (tab n F)) (hv:m.vals=vb.map bi) (hk:vb.length<=n) (hks:(bs (keyL (n - vb.length) (tab (n - vb.length) (lft n F vb)))).size<=maxLen) (hI:Ints w va m.vals) (hM:Ms w bm c f) (hT:TabK w) (hr:m.ret = -1) (h:Sb w p m ra va ma rc vc mc bm) :
 Calls Tryz.prog 208 #[.pointer (some ⟨p,0,none⟩)] w fun e w'=>e=.returned (.int .i64 (atD (knw (n - vb.length) (lft n F vb)) (f (bs (keyL (n - vb.length) (tab (n - vb.length) (lft n F vb)))))))/\Below w.heap.size w w':=by
 have HAD:Hid _:=iAtDown n F vb w p c f m ra va ma rc vc mc bm hn hN hS hv hk hks hI hM hT h
 have c5:w.cell? ⟨p,5,none⟩=some (.int .i64 m.ret):=h.all.c5
 have hp:=h.lt
 have hrb:(m.ret == -1)=true:=by rw [hr];rfl
 clear hn hN hS hv hk hks hI hM hT h hr
 generalize atD (knw (n - vb.length) (lft n F vb)) (f (bs (keyL (n - vb.length) (tab (n - vb.length) (lft n F vb)))))=k at *
 go_enter Tryz.func208,Tryz.ntmps208
 go_wp2_with fail
 refine Calls.mono HAD.out ?_
 rintro _ x1 ⟨rfl,hb⟩
 have HB:Hid (Below w.heap.size w x1):=hb
 clear hb c5
 go_wp2
 go_ret
 exact ⟨rfl,HB.out⟩
theorem iAtTop (w:World) (p:Nat) (m:Mc) (ra va ma:Option Addr) (rc vc mc bm:Nat) (hr:¬ m.ret = -1) (hv:m.vals=[]) (h:Sb w p m ra va ma rc vc mc bm) :
 Calls Tryz.prog 208 #[.pointer (some ⟨p,0,none⟩)] w fun e w'=>e=.returned (.int .i64 3)/\w'=w:=by
 have c5:w.cell? ⟨p,5,none⟩=some (.int .i64 m.ret):=h.all.c5
 have c4:w.cell? ⟨p,4,none⟩=some (.slice va m.vals.length vc):=h.all.c4
 have hp:=h.lt
 have hrb:(m.ret == -1)=false:=beq_eq_false_iff_ne.2 hr
 have hvl:m.vals.length=0:=by rw [hv];rfl
 rw [hvl] at c4
 clear h hr hv hvl
 go_enter Tryz.func208,Tryz.ntmps208
 go_wp2
 go_ret
 exact ⟨rfl,rfl⟩
theorem iAtUp (vl:List Int) (x:Int) (d:Bool) (w:World) (p:Nat) (m:Mc) (ra va ma:Option Addr) (rc vc mc bm:Nat) (hr:¬ m.ret = -1) (hv:m.vals=vl++[x]) (hl:vl.length<=12) (hrl:vl.length < m.row.length) (hd:m.row[vl.length]=d) (hI:Ints w va m.vals) (hB:Nd6.Bools w ra m.row) (h:Sb w p m ra va ma rc vc mc bm) :
 Calls Tryz.prog 208 #[.pointer (some ⟨p,0,none⟩)] w fun e w'=>e=.returned (.int .i64 (if ((m.ret==b01 (!d))||(x==1))=true then 4 else 5))/\∃ q,w'=w.drewN q:=by
 have HST:Hid _:=iSettled vl x d w p m ra va ma rc vc mc bm hv hl hrl hd hI hB h
 have c5:w.cell? ⟨p,5,none⟩=some (.int .i64 m.ret):=h.all.c5
 have c4:w.cell? ⟨p,4,none⟩=some (.slice va m.vals.length vc):=h.all.c4
 have hp:=h.lt
 have hrb:(m.ret == -1)=false:=beq_eq_false_iff_ne.2 hr
 have hvl:m.vals.length=vl.length+1:=by rw [hv,List.length_append];rfl
 rw [hvl] at c4
 have hne:((vl.length:Int)+1==0)=false:=beq_eq_false_iff_ne.2 (by omega)
 clear h hr hv hvl hI hB hd
 generalize ((m.ret==b01 (!d))||(x==1))=sb at *
 cases sb
 all_goals
  go_enter Tryz.func208,Tryz.ntmps208
  go_wp2_with fail
  refine Calls.mono HST.out ?_
  rintro _ x1 ⟨rfl,q,rfl⟩
  clear c4 c5
  go_wp2
  go_ret
  exact ⟨rfl,_,rfl⟩
end Mw4
namespace Mw5
open Go.RowKit Go.Maps Go.WideMaps Go.ChangeMaps
open Nd0 (Kept Ints lt_of_cell At)
open Mm0 Mx0 Mu2 Mw0 Mw2 Mw3 Mw4 Ms0 Mi5 Te1 Tk0
open Ta1 Ta2 Tc2 Tc5 Td1 Mc0 Mm1
open Ss0 (bs)
theorem Ms.get {w:World} {bm c:Nat} {f:ByteArray->Option Int} (h:Ms w bm c f) {x:ByteArray} (hx:x.size<=maxLen) {v:Int} (hv:f x=some v) :
 (Instr.lookup 198 (.map (some bm)) (.string x) false).run Tryz.prog w=.ok (.int .i64 v) w:=by
 obtain ⟨D,ho,_,hp⟩:=h
 obtain ⟨k,hrun,hat,_⟩:=ho.lookup_int law Tryz.underlying198 Tryz.underlying3 (zeroInt w) (key_eq hx)
 rw [(hp x hx).2 v _ hv] at hat
 rw [hrun]
 cases hat
 rfl
theorem Ms.drop {w:World} {bm c:Nat} {f:ByteArray->Option Int} (h:Ms w bm (c+1) f) {x:ByteArray} (hx:x.size<=maxLen) (hv:(f x).isSome=true) (ty:TypeId) :
 ∃ w',(Builtin.delete_ #[198,9] ty #[.map (some bm),.string x]).run Tryz.prog w=.ok (.tuple #[]) w'/\Ms w' bm c (delF f x)/\Kept (fun k=>k=bm) w w':=by
 obtain ⟨D,ho,hc,hpp⟩:=h
 obtain ⟨w',hrun,ho',hg⟩:=ho.drop law Tryz.underlying198 (key_eq hx) ty
 have hsz:=Maps.size_del (ho.tidy law) (k:=keyS x)
 rw [(hpp x hx).1,hv,hc,if_pos rfl] at hsz
 have hsz2:Maps.size (D.del (keyS x))=c:=by omega
 have hgr:=hg.grown
 have hown:w'.ownsMap Tryz.prog 9 (plainElem Tryz.prog 3) bm c (D.del (keyS x)):=by
  obtain ⟨es,clock,h1,h2,h3,h4⟩:=ho'
  refine ⟨es,clock,h1,h2,?_,h4⟩
  have e1:Maps.size (DataW.map ((es.toList.map (WideElems.rg Tryz.prog 9 (plainElem (H:=Unit) Tryz.prog 3))).foldr DataW.insert []))=es.size:=by simp [Maps.size,length_sorted]
  rw [<- h4,hsz2] at e1
  omega
 refine ⟨w',hrun,⟨_,hown,hsz2,fun y hy=>?_⟩,⟨hgr.os,hgr.tape,hgr.output,hgr.size,fun i hi hne=>hgr.block i hi (fun e=>hne (by cases e;rfl))⟩⟩
 unfold delF
 by_cases e:y=x
 ·subst e
  rw [if_pos rfl]
  exact ⟨Maps.has_del_same,fun u z hu=>by cases hu⟩
 ·rw [if_neg e]
  have hk:=key_ne hy hx e
  obtain ⟨h1,h2⟩:=hpp y hy
  exact ⟨by rw [Maps.has_del_other hk];exact h1,fun u z hu=>by rw [Maps.atKey_del_other hk];exact h2 u z hu⟩
theorem iRecall (n:Nat) (F:Nat->Bool) (vb:List Bool) (w:World) (p c:Nat) (f:ByteArray->Option Int) (m:Mc) (ra va ma:Option Addr) (rc vc mc bm:Nat) (hn:n<=12) (hN:m.N=(n:Int)) (hS:m.S=bs (tab n F)) (hv:m.vals=vb.map bi) (hk:vb.length<=n) (hks:(bs (keyL (n - vb.length) (tab (n - vb.length) (lft n F vb)))).size<=maxLen) (hI:Ints w va m.vals) (hM:Ms w bm c f) (hT:TabK w) (v:Int) (hf:f (bs (keyL (n - vb.length) (tab (n - vb.length) (lft n F vb))))=some v) (hhi:0<=m.hits/\m.hits<=1000000000) (h:Sb w p m ra va ma rc vc mc bm) :
 Calls Tryz.prog 203 #[.pointer (some ⟨p,0,none⟩)] w fun e w'=>e=.returned (.tuple #[])/\Sb w' p { m with ret:=v,hits:=m.hits+1 } ra va ma rc vc mc bm/\Kept (fun b=>b=p) w w':=by
 have HLF:Hid (∀ W,Below w.heap.size w W->Calls Tryz.prog 258 #[mval m ra va ma rc vc mc] W fun e w'=>e=.returned (tv ((n - vb.length:Nat):Int) (bs (tab (n - vb.length) (lft n F vb))))/\Below W.heap.size W w'):=fun W hb=>iLeft n F vb m ra va ma rc vc mc W hn hN hS hv hk (hI.below hb)
 have HKY:Hid (∀ W,TabK W->Calls Tryz.prog 259 #[tv ((n - vb.length:Nat):Int) (bs (tab (n - vb.length) (lft n F vb)))] W fun e w'=>e=.returned (.string (bs (keyL (n - vb.length) (tab (n - vb.length) (lft n F vb)))))/\Below W.heap.size W w'):=fun W ht=>iKey _ _ W (by omega) ht
 have HKS:Hid ((bs (keyL (n - vb.length) (tab (n - vb.length) (lft n F vb)))).size<=maxLen):=hks
 have HFV:Hid (f (bs (keyL (n - vb.length) (tab (n - vb.length) (lft n F vb))))=some v):=hf
 have dd:Below w.heap.size w w.drew:=(Below.refl _ _).drew
 have HD:Hid (Sb w.drew p m ra va ma rc vc mc bm):=h.below dd
 have HMD:Hid (Ms w.drew bm c f):=hM.below dd
 have HTD:Hid (TabK w.drew):=hT.below dd
 have HBD:Hid (Below w.heap.size w w.drew):=dd
 obtain ⟨c0,c1,c2,c3,c4,c5,c6,c7,c8,c9,c10,c11,z0,z1,z2,z3,z4,z5,z6,z7,z8,z9,z10,z11⟩:=h.all
 have hp:=h.lt
 clear h hM hT hN hS hv hk hI hn hks hf dd z0 z1 z2 z3 z4 z5 z6 z7 z8 z9 z10 z11
 generalize bs (keyL (n - vb.length) (tab (n - vb.length) (lft n F vb)))=KEY at *
 generalize tv ((n - vb.length:Nat):Int) (bs (tab (n - vb.length) (lft n F vb)))=TT at *
 go_enter Tryz.func203,Tryz.ntmps203
 go_wp2_with fail
 go_region_with ((first|(go_at_call 258;(with_reducible refine (HLF.out _ HBD.out).mono ?_);rintro _ x1 ⟨rfl,hb⟩;have HB1:Hid (Below w.heap.size w x1):=HBD.out.trans (hb.mono HBD.out.size);have H1:Hid (Sb x1 p m ra va ma rc vc mc bm):=HD.out.below hb;have HM1:Hid (Ms x1 bm c f):=HMD.out.below hb;have HT1:Hid (TabK x1):=HTD.out.below hb;have n11:x1.cell? ⟨p,11,none⟩=some (.map (some bm)):=H1.out.all.c11;clear hb)|(go_at_call 259;(with_reducible refine (HKY.out _ HT1.out).mono ?_);rintro _ x2 ⟨rfl,hb⟩;have HB2:Hid (Below w.heap.size w x2):=HB1.out.trans (hb.mono HB1.out.size);have H2:Hid (Sb x2 p m ra va ma rc vc mc bm):=H1.out.below hb;have k11:x2.cell? ⟨p,11,none⟩=some (.map (some bm)):=H2.out.all.c11;have k5:x2.cell? ⟨p,5,none⟩=some (.int .i64 m.ret):=H2.out.all.c5;have z5:x2.frozen? ⟨p,5,none⟩=false:=H2.out.all.z5;have hlk:=Ms.get (HM1.out.below hb) HKS.out HFV.out;clear hb)))
 all_goals
  clear k11 k5 z5 hlk n11 c0 c1 c2 c3 c4 c5 c6 c7 c8 c9 c10 c11
  obtain ⟨Y,hY⟩:∃ Y,Y=x2.setCell ⟨p,5,none⟩ (.int .i64 v):=⟨_,rfl⟩
  rw [<- hY]
  have KY:Kept (fun b=>b=p) x2 Y:=by rw [hY];exact (Kept.refl (fun b=>b=p) x2).setCell (p:=⟨p,5,none⟩) rfl _
  have HKY2:Hid (Kept (fun b=>b=p) x2 Y):=KY
  have HSY:Hid (Sb Y p { m with ret:=v } ra va ma rc vc mc bm):=by rw [hY];exact H2.out.set 5 (.int .i64 v)
  clear KY hY hp
  have e9:Y.cell? ⟨p,9,none⟩=some (.int .i64 m.hits):=HSY.out.all.c9
  have f9:Y.frozen? ⟨p,9,none⟩=false:=HSY.out.all.z9
  have hp:=HSY.out.lt
  go_wp2
  exact bodyPost_end (v:=.tuple #[]) (by simp [results,Tryz.results203,go_sem]) rfl ⟨rfl,HSY.out.set 9 (.int .i64 (m.hits+1)),((Kept.ofBelow HB2.out:Kept (fun b=>b=p) w x2).trans HKY2.out).setCell (p:=⟨p,9,none⟩) rfl _⟩
end Mw5
namespace Mw6
open Go.RowKit
open Nd0 (Kept Ints lt_of_cell)
open Mm0 Mx0 Mw0 Mi3
/-- Whether a number is among others. -/
def inB (l:List Int) (x:Int):Bool:=l.contains x
theorem iIndex (w:World) (a:Option Addr) (l:List Int) (c:Nat) (x:Int) (h:Ints w a l) :
 Calls Tryz.prog 256 #[.slice a l.length c,.int .i64 x] w fun e w'=>(∃ k:Int,e=.returned (.int .i64 k)/\(0<=k↔inB l x=true) /\ -1<=k)/\w'=w:=by
 have H:Hid (Ints w a l):=h
 have hm:=h.1
 unfold maxLen at hm
 clear h
 go_enter Tryz.func256,Tryz.ntmps256
 go_wp2
 go_loop [8] (fun i=>∃ j:Nat,j<=l.length/\i=.int .i64 j/\∀ t (ht:t < l.length),t < j->l[t]≠x) (fun i=>l.length - (intOf i).toNat)
 case atStart=>exact ⟨0,Nat.zero_le _,rfl,fun t _ h=>by omega⟩
 case round =>
  obtain ⟨j,hj,rfl,hn⟩:=hrel
  have HN:Hid (∀ t (ht:t < l.length),t < j->l[t]≠x):=hn
  clear hn
  by_cases hlt:j < l.length
  ·have hjz:(j:Int) < (l.length:Int):=by omega
   rcases H.out.2 with h0|⟨xb,xo,rfl,hc⟩
   ·omega
   have p0:=hc j hlt
   clear hc
   have HIN:Hid (l[j]=x->inB l x=true):=fun e=>by show l.contains x=true;rw [<- e];simp
   have HNX:Hid (l[j]≠x->∀ t (ht:t < l.length),t < j+1->l[t]≠x):=fun e t ht h2=>by
    by_cases e2:t=j
    ·subst e2;exact e
    ·exact HN.out t ht (by omega)
   generalize l[j]=y at *
   by_cases hy:y=x
   ·have hb:(x==y)=true:=by rw [hy];simp
    have HC:Hid (inB l x=true):=HIN.out hy
    clear hy
    go_wp2
    go_ret
    exact ⟨⟨(j:Int),rfl,⟨fun _=>HC.out,fun _=>by omega⟩,by omega⟩,rfl⟩
   ·have hb:(x==y)=false:=beq_eq_false_iff_ne.2 (fun e=>hy e.symm)
    have HC:Hid (∀ t (ht:t < l.length),t < j+1->l[t]≠x):=HNX.out hy
    clear hy
    go_wp2
    go_round
    case rel=>exact ⟨j+1,by omega,by go_num,HC.out⟩
    case measure=>simp [intOf];omega
  ·have hjz:¬ (j:Int) < (l.length:Int):=by omega
   have HC:Hid (inB l x=false):=by
    show l.contains x=false
    rw [Bool.eq_false_iff]
    intro e
    have hx:x∈l:=by simpa using e
    obtain ⟨t,ht,he⟩:=List.getElem_of_mem hx
    exact HN.out t ht (by omega) he
   go_wp2
   go_ret
   exact ⟨⟨-1,rfl,⟨fun h=>by omega,fun h=>by rw [HC.out] at h;cases h⟩,by omega⟩,rfl⟩
theorem iContains (w:World) (a:Option Addr) (l:List Int) (c:Nat) (x:Int) (h:Ints w a l) :
 Calls Tryz.prog 201 #[.slice a l.length c,.int .i64 x] w fun e w'=>e=.returned (.bool (inB l x))/\w'=w:=by
 have HX:Hid _:=iIndex w a l c x h
 clear h
 generalize inB l x=b at *
 go_enter Tryz.func201,Tryz.ntmps201
 go_wp2_with fail
 refine Calls.mono HX.out ?_
 rintro _ w1 ⟨⟨k,rfl,hk,_⟩,hw⟩
 have hw':=hw.symm
 clear hw
 subst hw'
 clear HX
 cases b
 ·have hd:decide (0<=k)=false:=decide_eq_false (fun e=>by have:=hk.1 e;cases this)
  clear hk
  go_wp2
  go_ret
  exact ⟨rfl,rfl⟩
 ·have hd:decide (0<=k)=true:=decide_eq_true (hk.2 rfl)
  clear hk
  go_wp2
  go_ret
  exact ⟨rfl,rfl⟩
/-- Whether a machine has stopped. -/
def stopB (m:Mc):Bool:=m.over||inB [m.steps,m.looks,m.hits] 1000000000
theorem iStopped (w:World) (p:Nat) (m:Mc) (ra va ma:Option Addr) (rc vc mc bm:Nat) (h:Sb w p m ra va ma rc vc mc bm) :
 Calls Tryz.prog 163 #[.pointer (some ⟨p,0,none⟩)] w fun e w'=>e=.returned (.bool (stopB m))/\Below w.heap.size w w':=by
 have H:Hid (Sb w p m ra va ma rc vc mc bm):=h
 have HCN:Hid (∀ W,Calls Tryz.prog 149 #[mval m ra va ma rc vc mc] W fun e w'=>e=.returned (.agg #[.int .i64 m.steps,.int .i64 m.looks,.int .i64 m.hits])/\Below W.heap.size W w'):=fun W=>iCounts W m ra va ma rc vc mc
 obtain ⟨c0,c1,c2,c3,c4,c5,c6,c7,c8,c9,c10,c11,z0,z1,z2,z3,z4,z5,z6,z7,z8,z9,z10,z11⟩:=h.all
 have hp:=h.lt
 clear h
 go_enter Tryz.func163,Tryz.ntmps163
 go_wp2_with fail
 clear c0 c1 c2 c3 c4 c5 c6 c7 c8 c9 c10 c11 z0 z1 z2 z3 z4 z5 z6 z7 z8 z9 z10 z11 hp
 refine (HCN.out _).mono ?_
 rintro _ x1 ⟨rfl,hb⟩
 have H1:Hid (Sb x1 p m ra va ma rc vc mc bm):=H.out.below hb
 have HB1:Hid (Below w.heap.size w x1):=hb
 clear hb
 go_upto_region 2 with fail
 obtain ⟨X1,hX1⟩:∃ X,X=x1.alloc (.cells #[.int .i64 m.steps,.int .i64 m.looks,.int .i64 m.hits] 192):=⟨_,rfl⟩
 obtain ⟨q3,hq3⟩:∃ q,q=x1.heap.size:=⟨_,rfl⟩
 have hb:Below x1.heap.size x1 X1:=by rw [hX1];exact (Below.refl _ _).alloc (Nat.le_refl _) _
 have HI:Hid (Ints X1 (some ⟨q3,0,none⟩) [m.steps,m.looks,m.hits]):=by
  refine ⟨by simp [maxLen],.inr ⟨q3,0,rfl,fun i hi=>?_⟩⟩
  rw [hX1,hq3,World.cell?_alloc_new]
  have hi2:i=0\/i=1\/i=2:=by simp at hi;omega
  rcases hi2 with rfl|rfl|rfl<;>rfl
 have H2:Hid (Sb X1 p m ra va ma rc vc mc bm):=H1.out.below hb
 have HB2:Hid (Below w.heap.size w X1):=HB1.out.trans (hb.mono HB1.out.size)
 have hq:q3 < X1.heap.size:=by rw [hX1,hq3];simp
 rw [<- hX1,<- hq3]
 clear hb hX1 hq3
 have c6:X1.cell? ⟨p,6,none⟩=some (.bool m.over):=H2.out.all.c6
 have hp:=H2.out.lt
 have HCT:Hid (∀ W:World,Ints W (some ⟨q3,0,none⟩) [m.steps,m.looks,m.hits]->Calls Tryz.prog 201 #[.slice (some ⟨q3,0,none⟩) 3 3,.int .i64 1000000000] W fun e w'=>e=.returned (.bool (inB [m.steps,m.looks,m.hits] 1000000000))/\w'=W):=fun W hi=>iContains W _ _ 3 _ hi
 cases ho:m.over
 ·have HD:Hid (stopB m=inB [m.steps,m.looks,m.hits] 1000000000):=by show _=_;unfold stopB;rw [ho];rfl
  rw [ho] at c6
  clear ho
  go_wp2_with fail
  refine (HCT.out _ HI.out).mono ?_
  rintro _ x2 ⟨rfl,hw⟩
  have hw':=hw.symm
  clear hw
  subst hw'
  clear c6
  generalize inB [m.steps,m.looks,m.hits] 1000000000=kb at *
  go_wp2
  go_ret
  exact ⟨congrArg (fun z=>Ending.returned (.bool z)) HD.out.symm,HB2.out⟩
 ·have HD:Hid (stopB m=true):=by show _=_;unfold stopB;rw [ho];rfl
  rw [ho] at c6
  clear ho
  go_wp2
  go_ret
  exact ⟨congrArg (fun z=>Ending.returned (.bool z)) HD.out.symm,HB2.out⟩
end Mw6
end Go.Proofs.YtladjpombohpaaaGreatDoor
