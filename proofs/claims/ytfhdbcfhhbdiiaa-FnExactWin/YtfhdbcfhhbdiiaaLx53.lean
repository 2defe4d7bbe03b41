import Derived.Test.YtfhdbcfhhbdiiaaWr7
namespace Go.Proofs.Ytfhdbcfhhbdiiaa
set_option maxRecDepth 100000
set_option maxHeartbeats 8000000
set_option linter.unusedVariables false
namespace Lx53
open Go.RowKit
open Nd0 Nd1 Nd6 Ap1 Dqa
open Ta0 Ta1 Tc2
open Tc3 (Tbx szTable toTable)
open Ss0 (bs bs_size)
open Ss1 (tl bs_tl)
open De0 (dc)
open Op6 (Pk Pks)
open Wp7 (eqPickS pks_below)
open Wr0 (Pq Lq Mk pre pre_succ pre_le wi_own)
open Wr3 (wn wn_len wn_vals)
open Wr4 (iWin)
open Wr5 (iWinN)
open Wr7 (sWin sWinN WP)
theorem tok_str {N:Int} {S:ByteArray} (h:tokB N (tl S)=true):∃ (n:Nat) (F:Nat->Bool),n<=12/\N=(n:Int)/\S=bs (tab n F):=by
 obtain ⟨n,F,h1,h2,h3⟩:=tok_tab h
 exact ⟨n,F,h1,h2,by rw [<- bs_tl S,h3]⟩
theorem toBoolE (w:World) (a:Option Addr) (l:List Bool) (c:Nat) (h:Bools w a l) (hl:l.length<=1048576) :
 Calls Try.prog 16 #[.slice a l.length c] w fun e w'=>∃ g,e=.returned (.slice (some ⟨g,0,none⟩) l.length l.length)/\w.heap.size<=g/\WBools w' w.heap.size (some ⟨g,0,none⟩) l/\Below w.heap.size w w' :=
 (toBoolS w a l c h hl).mono fun e w' h=>⟨w.heap.size,h.1,Nat.le_refl _,h.2.1,h.2.2⟩
theorem Tbx.drew {W:World} {g:Nat} {N:Int} {S:ByteArray} (h:Tbx W g N S):Tbx W.drew g N S:=⟨h.c0,h.c1⟩
theorem pre_few {qs:List Pq} {m:Nat} (h:∀ q∈qs,q.l.length<=m):∀ i,i<=qs.length->pre qs i<=i*(m+1):=by
 intro i
 induction i with
 | zero=>exact fun _=>Nat.zero_le _
 | succ i ih =>
   intro hi
   have h1:=ih (by omega)
   have h2:=h qs[i] (List.getElem_mem (by omega))
   rw [pre_succ (by omega),Nat.succ_mul]
   omega
/-- What Win gives: m picks. -/
def WM (m:Nat) (ps:List Pk) (v:Int) (ok:Bool) (W:World) (e:Ending) (w':World):Prop:=∃ g cap qs,e=.returned (.tuple #[.slice (some ⟨g,0,none⟩) m cap,.int .i64 v,.bool ok])/\qs.map Pq.pk=ps/\qs.length=m/\Lq w' W.heap.size g cap qs/\Below W.heap.size W w'
theorem WP.wm {ps:List Pk} {v:Int} {ok:Bool} {W:World} {e:Ending} {w':World} (h:WP ps v ok W e w'):WM ps.length ps v ok W e w':=by
 obtain ⟨g,cap,qs,he,hq,hL,hb⟩:=h
 have hl:qs.length=ps.length:=by rw [<- hq,List.length_map]
 exact ⟨g,cap,qs,by rw [he,hl],hq,hl,hL,hb⟩
theorem bWin (row:List Bool) (N:Int) (S:ByteArray) (hS:S.size<=1048576):∃ (ps:List Pk) (v:Int) (ok:Bool),ps.length<=5000/\(∀ qs:List Pq,qs.map Pq.pk=ps->pre qs qs.length<=1000000) /\
 (∀ (W:World) (ra:Option Addr) (c:Nat),Bools W ra row->row.length<=c->Calls Try.prog 15 #[.slice ra row.length c,tv N S] W (WM ps.length ps v ok W)) /\
 (∀ (W:World) (ra:Option Addr) (c:Nat),Bools W ra row->row.length<=c->Calls Try.prog 7 #[.slice ra row.length c,tv N S] W (WM ps.length ps v ok W)):=by
 by_cases h:tokB N (tl S)=true/\(row.length:Int)=N
 ·obtain ⟨h1,h2⟩:=h
  obtain ⟨n,F,hn,rfl,rfl⟩:=tok_str h1
  obtain rfl:n=row.length:=by omega
  have hp:2 ^ row.length<=2 ^ 12:=Nat.pow_le_pow_right (by decide) hn
  have hl:=wn_len ((dc row F).toNat:Int) row F []
  refine ⟨wn ((dc row F).toNat:Int) row F [],((dc row F).toNat:Int),true,by omega,fun qs hq=>?_,fun W ra c hB hc=>(sWin row F ra c W hn hB hc).mono fun e w' h=>WP.wm h,fun W ra c hB hc=>(iWin row F ra c W hn hB hc).mono fun e w' h=>WP.wm h⟩
  have hql:qs.length<=4096:=by
   have:=congrArg List.length hq
   rw [List.length_map] at this
   omega
  have hv:∀ q∈qs,q.l.length<=12:=fun q hqm=>by
   have h9:q.pk∈wn ((dc row F).toNat:Int) row F []:=by rw [<- hq];exact List.mem_map_of_mem hqm
   have:=wn_vals _ row F [] _ h9
   have h8:q.pk.l.length=q.l.length:=rfl
   simp only [List.length_nil] at this
   omega
  have:=pre_few hv qs.length (Nat.le_refl _)
  omega
 ·refine ⟨[],0,false,by simp,fun qs hq=>?_,fun W ra c hB hc=>(sWinN N S ra row.length c W hS h).mono fun e w' h=>WP.wm h,fun W ra c hB hc=>(iWinN N S ra row.length c W hS h).mono fun e w' h=>WP.wm h⟩
  have:qs=[]:=List.map_eq_nil_iff.1 hq
  subst this
  exact Nat.zero_le _
theorem exWin (w:World) (a0:Option Addr) (l0:List Bool) (c0:Nat) (N:Int) (S:ByteArray) (hN0:Bools w a0 l0) (hS:S.size<=maxLen) :
 Calls Try.prog 4 #[.slice a0 l0.length c0,tv N S] w fun e w'=>e=.returned (.bool true)/\Below w.heap.size w w':=by
 have HN0:Hid (Bools w a0 l0):=hN0
 have hm0:=hN0.1
 clear hN0
 have HA:Hid (Below w.heap.size w (w.alloc (.cells #[.int .i64 N,.string S] 40))):=(Below.refl _ _).alloc (Nat.le_refl _) _
 have HT:Hid (Tbx (w.alloc (.cells #[.int .i64 N,.string S] 40)) w.heap.size N S):=Tbx.made _ _ _ _
 by_cases hl0:l0.length<=1048576
 rotate_left
 ·have hlz:(1048576:Int) < (l0.length:Int):=by omega
  go_enter Try.func4,Try.ntmps4
  go_wp2
  go_ret
  exact ⟨rfl,HA.out⟩
 have hlz:¬ (1048576:Int) < (l0.length:Int):=by omega
 by_cases hs0:S.size<=1048576
 rotate_left
 ·go_enter Try.func4,Try.ntmps4
  go_wp2_with fail
  refine (szTable N S _ _ (by omega) (by omega) hS).mono ?_
  rw [if_neg (by omega)]
  rintro e x1 ⟨rfl,hb⟩
  have HB1:Hid (Below w.heap.size w x1):=HA.out.trans (hb.mono HA.out.size)
  clear hb
  go_wp2
  go_ret
  exact ⟨rfl,HB1.out⟩
 obtain ⟨ps,v,ok,hpl,hpp,hsp,him⟩:=bWin l0 N S hs0
 obtain ⟨m,hm⟩:∃ m,m=ps.length:=⟨_,rfl⟩
 rw [<- hm] at hsp him hpl
 have HSP:Hid (∀ (W:World) (ra:Option Addr) (c:Nat),Bools W ra l0->l0.length<=c->Calls Try.prog 15 #[.slice ra l0.length c,tv N S] W (WM m ps v ok W)):=hsp
 have HIM:Hid (∀ (W:World) (ra:Option Addr) (c:Nat),Bools W ra l0->l0.length<=c->Calls Try.prog 7 #[.slice ra l0.length c,tv N S] W (WM m ps v ok W)):=him
 have HEQ:Hid (∀ (W:World) (a a':Option Addr) (c c':Nat),Pks W a ps->Pks W a' ps->Calls Try.prog 18 #[.slice a m c,.slice a' m c'] W fun e w'=>e=.returned (.bool true)/\Below W.heap.size W w'):=fun W a a' c c' h h'=>by
  rw [hm]
  exact eqPickS W a a' ps c c' h h'
 have HPP:Hid (∀ qs:List Pq,qs.map Pq.pk=ps->pre qs qs.length<=1000000):=hpp
 have hvv:(v != v)=false:=by simp
 have hok:(ok != ok)=false:=by cases ok<;>rfl
 clear hsp him hm hpp
 obtain ⟨x0,hx0⟩:∃ x0,x0=w.alloc (.cells #[.int .i64 N,.string S] 40):=⟨_,rfl⟩
 have HB0:Hid (Below w.heap.size w x0):=by rw [hx0];exact HA.out
 have HX0:Hid (Tbx x0 w.heap.size N S):=by rw [hx0];exact HT.out
 have HE0:Hid (w.alloc (.cells #[.int .i64 N,.string S] 40)=x0):=hx0.symm
 clear hx0 HA HT
 go_enter Try.func4,Try.ntmps4
 go_upto_region 4 with fail
 rw [HE0.out]
 clear HE0
 obtain ⟨c0T,c1T⟩:=HX0.out
 go_wp2_with fail
 refine (szTable N S _ _ (by omega) (by omega) hS).mono ?_
 rw [if_pos (by omega)]
 rintro e x1 ⟨rfl,hb⟩
 have HB1:Hid (Below w.heap.size w x1):=HB0.out.trans (hb.mono HB0.out.size)
 have HX1:Hid (Tbx x1 w.heap.size N S):=HX0.out.below hb
 clear hb c0T c1T HB0 HX0
 have hp0:¬ (1048576:Int) - (S.size:Int) < 0:=by omega
 clear hS
 go_upto_region 7 with fail
 go_cut [6,7,8] from 27 to 35 (fun s6 s7 s8 wc=>∃ g cap,s6=.slice (some ⟨g,0,none⟩) m cap/\s7=.int .i64 v/\s8=.bool ok/\Pks wc (some ⟨g,0,none⟩) ps/\Tbx wc w.heap.size N S/\Below w.heap.size w wc)
 case first =>
  obtain ⟨c0T,c1T⟩:=HX1.out
  have DX:Tbx x1.drew w.heap.size N S:=Tbx.drew HX1.out
  have HBD:Hid (Below w.heap.size w x1.drew):=HB1.out.drew
  go_region_held3 (fun w'=>w'.cell? ⟨w.heap.size,0,none⟩=some (.int .i64 N)/\w'.cell? ⟨w.heap.size,1,none⟩=some (.string S)) ((first|exact ⟨EX.c0,EX.c1⟩|exact ⟨DX.c0,DX.c1⟩)) ((first|(go_at_call 16;(first|with_reducible refine (toBoolE _ a0 l0 c0 (HN0.out.below HBE.out) hl0).mono ?_|with_reducible refine (toBoolE _ a0 l0 c0 (HN0.out.below HBD.out) hl0).mono ?_);rintro e w5 ⟨gr,rfl,hg,hw,hb⟩;have EX:Tbx w5 w.heap.size N S:=(by first|exact EX.below hb|exact DX.below hb);have HBE:Hid (Below w.heap.size w w5):=(by first|exact HBE.out.trans (hb.mono HBE.out.size)|exact HBD.out.trans (hb.mono HBD.out.size));have ER:Hid (Bools w5 (some ⟨gr,0,none⟩) l0):=WBools.plain hw;clear hg hw hb)|(go_at_call 15;(with_reducible refine (HSP.out _ _ l0.length ER.out (Nat.le_refl _)).mono ?_);rintro e w5 ⟨gw,cw,qw,rfl,hq1,hq2,hq3,hb⟩;have EX:Tbx w5 w.heap.size N S:=(by first|exact EX.below hb|exact DX.below hb);have HBE:Hid (Below w.heap.size w w5):=(by first|exact HBE.out.trans (hb.mono HBE.out.size)|exact HBD.out.trans (hb.mono HBD.out.size));have EP:Hid (Pks w5 (some ⟨gw,0,none⟩) ps):=(by have h:=hq3.pks (by rw [hq2];unfold maxLen;omega);rw [hq1] at h;exact h);clear hb hq1 hq2 hq3)|(go_at_call 17;(with_reducible refine (toTable N S _).mono ?_);rintro e w5 ⟨rfl,hb⟩;(try have ER:Hid (Bools w5 (some ⟨gr,0,none⟩) l0):=ER.out.below hb);have EX:Tbx w5 w.heap.size N S:=(by first|exact EX.below hb|exact DX.below hb);have HBE:Hid (Below w.heap.size w w5):=(by first|exact HBE.out.trans (hb.mono HBE.out.size)|exact HBD.out.trans (hb.mono HBD.out.size));clear hb)))
  all_goals
   go_wp2_with fail
   go_meet
   case rel=>exact ⟨gw,cw,rfl,rfl,rfl,EP.out,EX,HBE.out⟩
 case rest =>
  obtain ⟨gw,cw,rfl,rfl,rfl,hpw,hxw,hbw⟩:=hcut
  have HPW:Hid (Pks wc (some ⟨gw,0,none⟩) ps):=hpw
  have HB2:Hid (Below w.heap.size w wc):=hbw
  have HX2:Hid (Tbx wc w.heap.size N S):=hxw
  have HW2:Hid (w.heap.size < wc.heap.size):=lt_of_cell hxw.c0
  clear hpw hxw hbw HB1 HX1 HSP
  generalize wc=x2 at *
  go_wp2_with fail
  refine (toBoolE _ a0 l0 c0 (HN0.out.below HB2.out) hl0).mono ?_
  rintro e x3 ⟨gx,rfl,hg,hw,hb⟩
  have HZ3:Hid (Below x2.heap.size x2 x3):=hb
  have HX3:Hid (Tbx x3 w.heap.size N S):=HX2.out.below hb
  have Hx_3:Hid (BoolsIn x3 x2.heap.size x3.heap.size (some ⟨gx,0,none⟩) l0):=WBools.within hw
  clear hb hw hg HX2
  obtain ⟨c0T,c1T⟩:=HX3.out
  go_wp2_with fail
  refine (toTable N S _).mono ?_
  rintro e x4 ⟨rfl,hb⟩
  have HZ4:Hid (Below x2.heap.size x2 x4):=HZ3.out.trans (hb.mono HZ3.out.size)
  have HX4:Hid (Tbx x4 w.heap.size N S):=HX3.out.below hb
  have Hx_4:Hid (BoolsIn x4 x2.heap.size x3.heap.size (some ⟨gx,0,none⟩) l0):=Hx_3.out.below hb
  have hz4:x3.heap.size<=x4.heap.size:=hb.size
  clear hb c0T c1T HX3 Hx_3 HZ3
  go_wp2_with fail
  refine (HIM.out _ _ l0.length Hx_4.out.plain (Nat.le_refl _)).mono ?_
  rintro e x5 ⟨gg,cg,qs,rfl,hq1,hq2,hq3,hb⟩
  have HQ1:Hid (qs.map Pq.pk=ps):=hq1
  have HQ2:Hid (qs.length=m):=hq2
  have HL5:Hid (Lq x5 x4.heap.size gg cg qs):=hq3
  have HZ5:Hid (Below x2.heap.size x2 x5):=HZ4.out.trans (hb.mono HZ4.out.size)
  have HX5:Hid (Tbx x5 w.heap.size N S):=HX4.out.below hb
  have Hx_5:Hid (BoolsIn x5 x2.heap.size x3.heap.size (some ⟨gx,0,none⟩) l0):=Hx_4.out.below hb
  have HZ2:Hid (x2.heap.size<=x4.heap.size):=HZ4.out.size
  have HPK:Hid (∀ W,Lq W x4.heap.size gg cg qs->Pks W (some ⟨gg,0,none⟩) ps):=fun W h=>by
   have h1:=h.pks (by rw [HQ2.out];unfold maxLen;omega)
   rw [HQ1.out] at h1
   exact h1
  have HPB:Hid (pre qs qs.length<=1000000):=HPP.out qs HQ1.out
  clear hb hq1 hq2 hq3 HX4 Hx_4 HZ4
  go_wp2_with fail
  refine (HEQ.out _ _ _ cg cw (HPK.out _ HL5.out) (pks_below HPW.out HZ5.out)).mono ?_
  rintro e x6 ⟨rfl,hb⟩
  have HL6:Hid (Lq x6 x4.heap.size gg cg qs):=HL5.out.below hb
  have HZ6:Hid (Below x2.heap.size x2 x6):=HZ5.out.trans (hb.mono HZ5.out.size)
  have HX6:Hid (Tbx x6 w.heap.size N S):=HX5.out.below hb
  have Hx_6:Hid (BoolsIn x6 x2.heap.size x3.heap.size (some ⟨gx,0,none⟩) l0):=Hx_5.out.below hb
  clear hb HL5 HZ5 HX5 Hx_5
  go_wp2_with fail
  refine (toBoolE _ a0 l0 c0 (HN0.out.below (HB2.out.trans (HZ6.out.mono HB2.out.size))) hl0).mono ?_
  rintro e x7 ⟨gy,rfl,hg,hw,hb⟩
  have HL7:Hid (Lq x7 x4.heap.size gg cg qs):=HL6.out.below hb
  have HZ7:Hid (Below x2.heap.size x2 x7):=HZ6.out.trans (hb.mono HZ6.out.size)
  have HX7:Hid (Tbx x7 w.heap.size N S):=HX6.out.below hb
  have Hx_7:Hid (BoolsIn x7 x2.heap.size x3.heap.size (some ⟨gx,0,none⟩) l0):=Hx_6.out.below hb
  have Hy_7:Hid (Bools x7 (some ⟨gy,0,none⟩) l0):=WBools.plain hw
  clear hb hw hg HL6 HZ6 HX6 Hx_6
  go_wp2_with fail
  refine (eqBoolS _ _ _ l0 _ _ Hx_7.out.plain Hy_7.out).mono ?_
  rintro e x8 ⟨rfl,hb⟩
  have HL8:Hid (Lq x8 x4.heap.size gg cg qs):=HL7.out.below hb
  have HZ8:Hid (Below x2.heap.size x2 x8):=HZ7.out.trans (hb.mono HZ7.out.size)
  have HX8:Hid (Tbx x8 w.heap.size N S):=HX7.out.below hb
  have Hx_8:Hid (BoolsIn x8 x2.heap.size x3.heap.size (some ⟨gx,0,none⟩) l0):=Hx_7.out.below hb
  clear hb HL7 HZ7 HX7 Hx_7 Hy_7
  have hml:¬ (1:Int)+(l0.length:Int) < 0:=by omega
  go_wp2_with fail
  refine (markBoolS _ x2.heap.size _ l0 l0.length Hx_8.out.wr 1 (by omega) (by omega) hl0).mono ?_
  rintro e x9 ⟨rfl,_,hk⟩
  have HKB:Hid (Kept (Ats l0.length (some ⟨gx,0,none⟩)) x8 x9):=hk
  have hats:∀ b,Ats l0.length (some ⟨gx,0,none⟩) b->x2.heap.size<=b/\b < x3.heap.size:=fun b hb=>Hx_8.out.ats hb
  have HL9:Hid (Lq x9 x4.heap.size gg cg qs):=HL8.out.kept hk (fun h=>by have:=hats _ h;have:=HL8.out.lt.1;omega) (fun q hq b hb h=>by have:=hats _ h;have:=(wi_own (HL8.out.ins q hq) hb).1;omega)
  have HZ9:Hid (Below x2.heap.size x2 x9):=HZ8.out.trans (hk.below (fun b hb=>(hats b hb).1) HZ8.out.size)
  have HX9:Hid (Tbx x9 w.heap.size N S):=by
   have h9:=HW2.out
   exact ⟨by rw [HKB.out.cell (p:=⟨w.heap.size,0,none⟩) (lt_of_cell HX8.out.c0) (fun h=>by have:=hats w.heap.size h;omega)];exact HX8.out.c0,by rw [HKB.out.cell (p:=⟨w.heap.size,1,none⟩) (lt_of_cell HX8.out.c1) (fun h=>by have:=hats w.heap.size h;omega)];exact HX8.out.c1⟩
  clear hk hats HL8 HZ8 HX8 Hx_8 HKB
  obtain ⟨M,hM⟩:∃ M,M=pre qs qs.length:=⟨_,rfl⟩
  have HMK:Hid (∀ W,Lq W x4.heap.size gg cg qs->Calls Try.prog 21 #[.slice (some ⟨gg,0,none⟩) m cg,.int .i64 1] W fun e w'=>e=.returned (.int .i64 (1+(M:Int)))/\Mk w' x4.heap.size gg qs 1 qs.length/\Kept (fun b=>b=gg\/∃ q∈qs,q.own b) W w'):=fun W h=>by
   rw [hM,<- HQ2.out]
   exact Wr0.markPickS W x4.heap.size gg cg qs h (by rw [HQ2.out];omega) HPB.out
  have HHD:Hid (∀ W,Mk W x4.heap.size gg qs 1 qs.length->Calls Try.prog 22 #[.slice (some ⟨gg,0,none⟩) m cg,.int .i64 1] W fun e w'=>e=.returned (.int .i64 (1+(M:Int)))/\w'=W):=fun W h=>by
   rw [hM,<- HQ2.out]
   exact Wr0.heldPickS W x4.heap.size gg cg qs h (by rw [HQ2.out];omega) HPB.out
  have hM0:¬ (1:Int)+(M:Int) < 0:=by omega
  have hMM:((1:Int)+(M:Int) != 1+(M:Int))=false:=by simp
  clear hM HPB HPP
  go_wp2_with fail
  refine (HEQ.out _ _ _ cg cw (HPK.out _ HL9.out) (pks_below HPW.out HZ9.out)).mono ?_
  rintro e xa ⟨rfl,hb⟩
  have HLa:Hid (Lq xa x4.heap.size gg cg qs):=HL9.out.below hb
  have HZa:Hid (Below x2.heap.size x2 xa):=HZ9.out.trans (hb.mono HZ9.out.size)
  have HXa:Hid (Tbx xa w.heap.size N S):=HX9.out.below hb
  clear hb HL9 HZ9 HX9 hml
  go_wp2_with fail
  refine (HMK.out _ HLa.out).mono ?_
  rintro e xb ⟨rfl,hmk,hk⟩
  have hfar:∀ b,(b=gg\/∃ q∈qs,q.own b)->x4.heap.size<=b:=fun b hb=>by
   rcases hb with h|⟨q,hq,h⟩
   ·rw [h];exact HLa.out.lt.1
   ·exact (wi_own (HLa.out.ins q hq) h).1
  have HMb:Hid (Mk xb x4.heap.size gg qs 1 qs.length):=hmk
  have HZb:Hid (Below x2.heap.size x2 xb):=HZa.out.trans (hk.below (fun b hb=>Nat.le_trans HZ2.out (hfar b hb)) HZa.out.size)
  have HXb:Hid (Tbx xb w.heap.size N S):=by
   have h9:=HW2.out
   have h8:=HZ2.out
   exact ⟨by rw [hk.cell (p:=⟨w.heap.size,0,none⟩) (lt_of_cell HXa.out.c0) (fun h=>by have:=hfar w.heap.size h;omega)];exact HXa.out.c0,by rw [hk.cell (p:=⟨w.heap.size,1,none⟩) (lt_of_cell HXa.out.c1) (fun h=>by have:=hfar w.heap.size h;omega)];exact HXa.out.c1⟩
  have HBb:Hid (Below w.heap.size w xb):=HB2.out.trans (HZb.out.mono HB2.out.size)
  have HMS:Hid (∀ q∈qs,∀ b,q.own b->b < xb.heap.size):=fun q hq b hb=>Nat.lt_of_lt_of_le (wi_own (HLa.out.ins q hq) hb).2 hk.size
  clear hmk hk hfar HLa HZa HXa HMK
  go_wp2_with fail
  refine (HHD.out _ HMb.out).mono ?_
  rintro e w' ⟨rfl,hz⟩
  have hz':=hz.symm
  clear hz
  subst hz'
  go_upto_region 26 with fail
  go_cut [16,17,18] from 97 to 105 (fun s6 s7 s8 wc=>∃ g cap,s6=.slice (some ⟨g,0,none⟩) m cap/\s7=.int .i64 v/\s8=.bool ok/\Pks wc (some ⟨g,0,none⟩) ps/\Below xb.heap.size xb wc)
  case first =>
   have DX:Tbx xb.drew w.heap.size N S:=Tbx.drew HXb.out
   have HBD:Hid (Below xb.heap.size xb xb.drew):=(Below.refl _ _).drew
   have HNB:Hid (∀ W,Below xb.heap.size xb W->Bools W a0 l0):=fun W hb=>HN0.out.below (HBb.out.trans (hb.mono HBb.out.size))
   go_region_held3 (fun w'=>w'.cell? ⟨w.heap.size,0,none⟩=some (.int .i64 N)/\w'.cell? ⟨w.heap.size,1,none⟩=some (.string S)) ((first|exact ⟨EX.c0,EX.c1⟩|exact ⟨DX.c0,DX.c1⟩)) ((first|(go_at_call 16;(first|with_reducible refine (toBoolE _ a0 l0 c0 (HNB.out _ HBE.out) hl0).mono ?_|with_reducible refine (toBoolE _ a0 l0 c0 (HNB.out _ HBD.out) hl0).mono ?_);rintro e w5 ⟨gr,rfl,hg,hw,hb⟩;have EX:Tbx w5 w.heap.size N S:=(by first|exact EX.below hb|exact DX.below hb);have HBE:Hid (Below xb.heap.size xb w5):=(by first|exact HBE.out.trans (hb.mono HBE.out.size)|exact HBD.out.trans (hb.mono HBD.out.size));have ER:Hid (Bools w5 (some ⟨gr,0,none⟩) l0):=WBools.plain hw;clear hg hw hb)|(go_at_call 7;(with_reducible refine (HIM.out _ _ l0.length ER.out (Nat.le_refl _)).mono ?_);rintro e w5 ⟨gh,ch,qw,rfl,hq1,hq2,hq3,hb⟩;have EX:Tbx w5 w.heap.size N S:=(by first|exact EX.below hb|exact DX.below hb);have HBE:Hid (Below xb.heap.size xb w5):=(by first|exact HBE.out.trans (hb.mono HBE.out.size)|exact HBD.out.trans (hb.mono HBD.out.size));have EP:Hid (Pks w5 (some ⟨gh,0,none⟩) ps):=(by have h:=hq3.pks (by rw [hq2];unfold maxLen;omega);rw [hq1] at h;exact h);clear hb hq1 hq2 hq3)|(go_at_call 17;(with_reducible refine (toTable N S _).mono ?_);rintro e w5 ⟨rfl,hb⟩;(try have ER:Hid (Bools w5 (some ⟨gr,0,none⟩) l0):=ER.out.below hb);have EX:Tbx w5 w.heap.size N S:=(by first|exact EX.below hb|exact DX.below hb);have HBE:Hid (Below xb.heap.size xb w5):=(by first|exact HBE.out.trans (hb.mono HBE.out.size)|exact HBD.out.trans (hb.mono HBD.out.size));clear hb)))
   all_goals
    go_wp2_with fail
    go_meet
    case rel=>exact ⟨gh,ch,rfl,rfl,rfl,EP.out,HBE.out⟩
  case rest =>
   obtain ⟨gh,ch,rfl,rfl,rfl,hph,hbh⟩:=hcut
   have HPH:Hid (Pks wc (some ⟨gh,0,none⟩) ps):=hph
   have HBH:Hid (Below xb.heap.size xb wc):=hbh
   clear hph hbh HXb
   go_wp2_with fail
   refine (HEQ.out _ _ _ ch cw HPH.out (pks_below HPW.out (HZb.out.trans (HBH.out.mono HZb.out.size)))).mono ?_
   rintro e xd ⟨rfl,hb⟩
   have HBd:Hid (Below xb.heap.size xb xd):=HBH.out.trans (hb.mono HBH.out.size)
   have HMd:Hid (Mk xd x4.heap.size gg qs 1 qs.length):=HMb.out.kept (S:=fun _=>False) (Kept.ofBelow HBd.out) (fun h=>h) (fun _ _ _ _ h=>h)
   clear hb HBH HPH
   go_wp2_with fail
   refine (HHD.out _ HMd.out).mono ?_
   rintro e w' ⟨rfl,hz⟩
   have hz':=hz.symm
   clear hz
   subst hz'
   go_wp2
   go_ret
   exact ⟨rfl,HBb.out.trans (HBd.out.mono HBb.out.size)⟩
end Lx53
end Go.Proofs.Ytfhdbcfhhbdiiaa
