import Derived.Deep.RegionWith
import Derived.Lib.QuietBelow
import Derived.Deep.Upon
import Derived.Deep.RegionHeld
import Derived.Deep.WholeRow
import Derived.Test.YtebejleeadofcaaGreatPkFR49
import Derived.Test.YtebejleeadofcaaGreatPkFR30
import Derived.Test.YtebejleeadofcaaGreatPkFR45
import Derived.Test.YtebejleeadofcaaGreatPkFR32
import Derived.Test.YtebejleeadofcaaGreatPkFR17
import Derived.Test.YtebejleeadofcaaGreatPkFR38
import Derived.Test.YtebejleeadofcaaGreatPkFR26
import Derived.Test.YtebejleeadofcaaGreatSv1
namespace Go.Proofs.YtebejleeadofcaaGreat
set_option maxRecDepth 100000
set_option maxHeartbeats 8000000
set_option linter.unusedVariables false
namespace Pg5
open Go.RowKit
open Nd0 Tm0 Tm5 Pl1 Ap0 Pg1 Pg2 Pg3 Pg4
open Ws1 (ret_int ret_bool)
theorem part_cell {w:World} {xb xo:Nat} {l:List Nd} {i:Nat} {p:Int} (hc:∀ i (h:i < l.length),NodeAt w xb (xo+i*6) l[i]) (hi:i<=l.length) (hw:∀ j,j < i->1<=(nth l j).w/\(nth l j).w<=8) (hp:0<=p/\p < i) :
 ∃ j:Nat,p=(j:Int)/\j < l.length/\w.cell? ⟨xb,xo+j*6+1,none⟩=some (.int .i64 (width l p))/\1<=width l p/\width l p<=8:=by
 obtain ⟨j,rfl⟩:=Int.eq_ofNat_of_zero_le hp.1
 have hj:j < l.length:=by omega
 refine ⟨j,rfl,hj,?_,?_⟩
 ·have h9:=(hc j hj).c1
  rw [nth_get hj] at h9
  exact h9
 ·exact hw j (by omega)
theorem iFits (w:World) (a:Option Addr) (l:List Nd) (c:Nat) (n:Nd) (i:Nat) (hN:Nodes w a l) (hl:l.length<=80) (hi:i<=l.length) (hA:pahead n i=true) (hw:∀ j,j < i->1<=(nth l j).w/\(nth l j).w<=8) (hm:1<=n.w/\n.w<=8) :
 Calls Tryz.prog 74 #[.slice a l.length c,.agg #[.int .i64 n.op,.int .i64 n.w,.int .i64 n.k,.int .i64 n.a,.int .i64 n.b,.int .i64 n.c]] w fun e w' =>
  e=.returned (.bool (fitsB n ((parts n).map (width l))))/\Below w.heap.size w w':=by
 have hall:∀ p∈parts n,0<=p/\p < (i:Int):=by
  unfold pahead at hA
  rw [List.all_eq_true] at hA
  intro p hp
  simpa using hA p hp
 clear hA
 obtain ⟨op,m,k,x,b,d⟩:=n
 simp only at hm
 by_cases hop:op < 0\/20 < op
 ·have hp:parts ⟨op,m,k,x,b,d⟩=[]:=parts_none (by simp only;omega) (by simp only;omega) (by simp only;omega)
  rw [hp]
  exact fitsN w a l.length c op m k x b d hop
 by_cases h0:op=0
 ·subst h0;exact fitsC w a l.length c 0 m k x b d (.inl rfl)
 by_cases h1:op=1
 ·subst h1;exact fitsC w a l.length c 1 m k x b d (.inr rfl)
 have hne:∃ p,p∈parts ⟨op,m,k,x,b,d⟩:=by
  by_cases q1:op=2\/op=17\/op=19\/op=20
  ·rw [parts_one q1];exact ⟨x,by simp⟩
  ·by_cases q2:3<=op/\op<=16
   ·rw [parts_two q2];exact ⟨x,by simp⟩
   ·rw [parts_three (by simp only;omega)];exact ⟨x,by simp⟩
 obtain ⟨p9,hp9⟩:=hne
 have h9:=hall p9 hp9
 rcases hN.2 with hz|⟨xb,xo,rfl,hc⟩
 ·omega
 by_cases q1:op=2\/op=17\/op=19\/op=20
 ·rw [parts_one q1] at hall ⊢
  obtain ⟨ja,rfl,hj,hcell,hwd⟩:=part_cell hc hi hw (hall x (by simp))
  exact fitsA w xb xo l.length c op m k b d _ hl ja hj hcell hwd hm q1
 by_cases q2:3<=op/\op<=16
 ·rw [parts_two q2] at hall ⊢
  obtain ⟨ja,rfl,hj,hcell,hwd⟩:=part_cell hc hi hw (hall x (by simp))
  obtain ⟨jb,rfl,hj',hcell',hwd'⟩:=part_cell hc hi hw (hall b (by simp))
  have q3:op=3\/op=4\/op=5\/op=6\/op=7\/op=8\/op=9\/op=10\/op=11\/op=12\/op=13\/op=14\/op=15\/op=16:=by omega
  exact fitsB2 w xb xo l.length c op m k d _ _ hl ja jb hj hj' hcell hwd hcell' hwd' hm q3
 have q4:op=18:=by omega
 subst q4
 rw [parts_three rfl] at hall ⊢
 obtain ⟨ja,rfl,hj,hcell,hwd⟩:=part_cell hc hi hw (hall x (by simp))
 obtain ⟨jb,rfl,hj',hcell',hwd'⟩:=part_cell hc hi hw (hall b (by simp))
 obtain ⟨jc,rfl,hj'',hcell'',hwd''⟩:=part_cell hc hi hw (hall d (by simp))
 exact fits18 w xb xo l.length c 18 m k _ _ _ hl ja jb jc hj hj' hj'' hcell hwd hcell' hwd' hcell'' hwd'' hm rfl
def usedOk (n:Nd):Bool:=decide (n.k=(used n).k/\n.a=(used n).a/\n.b=(used n).b/\n.c=(used n).c)
theorem shape_split (n:Nd) (ws:List Int):shapeOk n ws=(usedOk n&&fitsB n ws):=by
 obtain ⟨op,m,k,x,b,d⟩:=n
 by_cases hop:op < 0\/20 < op
 ·have e1:shapeOk ⟨op,m,k,x,b,d⟩ ws=false:=by
   unfold shapeOk;dsimp only;rw [if_neg (by omega),if_neg (by omega),if_neg (by omega),if_neg (by omega),if_neg (by omega),if_neg (by omega),if_neg (by omega),if_neg (by omega),if_neg (by omega)]
  have e2:fitsB ⟨op,m,k,x,b,d⟩ ws=false:=by
   unfold fitsB;dsimp only;rw [if_neg (by omega),if_neg (by omega),if_neg (by omega),if_neg (by omega),if_neg (by omega),if_neg (by omega),if_neg (by omega),if_neg (by omega),if_neg (by omega)]
  rw [e1,e2,Bool.and_false]
 have q3:op=0\/op=1\/op=2\/op=3\/op=4\/op=5\/op=6\/op=7\/op=8\/op=9\/op=10\/op=11\/op=12\/op=13\/op=14\/op=15\/op=16\/op=17\/op=18\/op=19\/op=20:=by omega
 clear hop
 generalize ws.getD 0 0=x0 at *
 rcases q3 with rfl|rfl|rfl|rfl|rfl|rfl|rfl|rfl|rfl|rfl|rfl|rfl|rfl|rfl|rfl|rfl|rfl|rfl|rfl|rfl|rfl
 all_goals
  rw [Bool.eq_iff_iff]
  simp [shapeOk,fitsB,usedOk,used,cnt,numbered,quant]
  try generalize ws[0]?.getD 0=x0
  try generalize ws[1]?.getD 0=x1
  try generalize ws[2]?.getD 0=x2
  first|omega|(constructor<;>intro h<;>simp_all)
theorem node_split (l:List Nd) (i:Nat):nodeOk l i=(decide (1<=(nth l i).w/\(nth l i).w<=8)&&usedOk (nth l i)&&pahead (nth l i) i&&fitsB (nth l i) ((parts (nth l i)).map (width l))):=by
 simp only [nodeOk,shape_split,pahead]
 generalize decide (1<=(nth l i).w/\(nth l i).w<=8)=x
 generalize usedOk (nth l i)=y
 generalize (parts (nth l i)).all _=z
 generalize fitsB _ _=u
 cases x<;>cases y<;>cases z<;>cases u<;>rfl
end Pg5
namespace Pg6
open Go.RowKit
open Nd0 Tm0 Tm5 Pl1 Ap0 Pg1 Pg2 Pg3 Pg4 Pg5
open Ws1 (ret_int ret_bool)
open Go.Sort (grow)
open Lx1 (ITermOk)
abbrev av (n:Nd):Value:=.agg #[.int .i64 n.op,.int .i64 n.w,.int .i64 n.k,.int .i64 n.a,.int .i64 n.b,.int .i64 n.c]
theorem node_eql (o w k a b c k' a' b' c':Int) (W:World):(binOp .eql 58 (.agg #[.int .i64 o,.int .i64 w,.int .i64 k,.int .i64 a,.int .i64 b,.int .i64 c]) (.agg #[.int .i64 o,.int .i64 w,.int .i64 k',.int .i64 a',.int .i64 b',.int .i64 c'])).run Tryz.prog W=.ok (.bool (decide (k=k'/\a=a'/\b=b'/\c=c'))) W:=by
 by_cases e0:k=k'
 ·by_cases e1:a=a'
  ·by_cases e2:b=b'
   ·by_cases e3:c=c'
    ·subst e0 e1 e2 e3;go_simp
    ·subst e0 e1 e2;go_simp<;>simp [e3]
   ·subst e0 e1;go_simp<;>simp [e2]
  ·subst e0;go_simp<;>simp [e1]
 ·go_simp<;>simp [e0]
def rightB (l:List Nd) (n:Nd):Bool:=decide (1<=n.w/\n.w<=8)&&usedOk n&&pahead n l.length&&fitsB n ((parts n).map (width l))
theorem nth_take {l:List Nd} {k j:Nat} (hj:j < k):nth (l.take k) j=nth l j:=by
 unfold nth
 rw [List.getD_eq_getElem?_getD,List.getD_eq_getElem?_getD,List.getElem?_take,if_pos hj]
theorem nodes_take6 {w:World} {a:Option Addr} {L:List Nd} (h:Nodes w a L) {m:Nat} (hm:m<=L.length):Nodes w a (L.take m):=by
 have e:(L.take m).length=m:=by rw [List.length_take];omega
 refine ⟨by rw [e];have:=h.1;omega,?_⟩
 rcases h.2 with h0|⟨b,o,rfl,hc⟩
 ·left;omega
 ·refine .inr ⟨b,o,rfl,fun i hi=>?_⟩
  rw [List.getElem_take]
  exact hc i (by omega)
theorem right_take {l:List Nd} {k:Nat} (hk:k < l.length):rightB (l.take k) (nth l k)=nodeOk l k:=by
 rw [node_split l k]
 unfold rightB
 have e:(l.take k).length=k:=by rw [List.length_take];omega
 rw [e]
 cases hp:pahead (nth l k) k
 ·simp
 ·have hq:(parts (nth l k)).map (width (l.take k))=(parts (nth l k)).map (width l):=by
   apply List.map_congr_left
   intro p hp'
   unfold pahead at hp
   rw [List.all_eq_true] at hp
   have h9:=of_decide_eq_true (hp p hp')
   unfold width
   rw [nth_take (by omega)]
  rw [hq]
theorem box_cells (w:World) (n:Nd) (T:Nat) (W:World) (hW:W=w.alloc (.cells #[.int .i64 n.op,.int .i64 n.w,.int .i64 n.k,.int .i64 n.a,.int .i64 n.b,.int .i64 n.c] T)) :
 (∀ d os,(grow (redrawn W d) os).cell? ⟨w.heap.size,0,none⟩=some (.int .i64 n.op))/\(∀ d os,(grow (redrawn W d) os).cell? ⟨w.heap.size,1,none⟩=some (.int .i64 n.w))/\(∀ d os,(grow (redrawn W d) os).cell? ⟨w.heap.size,2,none⟩=some (.int .i64 n.k))/\(∀ d os,(grow (redrawn W d) os).cell? ⟨w.heap.size,3,none⟩=some (.int .i64 n.a))/\(∀ d os,(grow (redrawn W d) os).cell? ⟨w.heap.size,4,none⟩=some (.int .i64 n.b))/\(∀ d os,(grow (redrawn W d) os).cell? ⟨w.heap.size,5,none⟩=some (.int .i64 n.c)):=by
 subst hW
 refine ⟨?_,?_,?_,?_,?_,?_⟩<;>exact fun d os=>cell_regrown (by rw [World.cell?_alloc_new];rfl) d os
theorem iRight (w:World) (a:Option Addr) (l:List Nd) (c m:Nat) (hm:l.length=m) (n:Nd) (hN:Nodes w a l) (hl:l.length<=80) (hw:∀ j,j < l.length->1<=(nth l j).w/\(nth l j).w<=8) :
 Calls Tryz.prog 51 #[.slice a m c,.agg #[.int .i64 n.op,.int .i64 n.w,.int .i64 n.k,.int .i64 n.a,.int .i64 n.b,.int .i64 n.c]] w fun e w'=>e=.returned (.bool (rightB l n))/\Below w.heap.size w w':=by
 subst hm
 obtain ⟨W,hW⟩:∃ W:World,W=w.alloc (.cells #[.int .i64 n.op,.int .i64 n.w,.int .i64 n.k,.int .i64 n.a,.int .i64 n.b,.int .i64 n.c] 58):=⟨_,rfl⟩
 have HB0:Hid (Below w.heap.size w W):=by rw [hW];exact (Below.refl _ _).alloc (Nat.le_refl _) _
 obtain ⟨x0,x1,x2,x3,x4,x5⟩:=box_cells w n _ W hW
 have HQ1:Hid (∀ d os,Calls Tryz.prog 50 #[.int .i64 n.w] (grow (redrawn W d) os) fun e w''=>e=.returned (.bool (decide (1<=n.w/\n.w<=8)))/\∃ p:Regrown,w''=grow (redrawn W p.d) p.os):=fun d os=>Calls.regrown_of ((iWidthOk n.w _).mono (by rintro e w' ⟨rfl,rfl⟩;exact ⟨rfl,Below.refl _ _⟩))
 have HQ2:Hid (∀ d os,Calls Tryz.prog 72 #[av n] (grow (redrawn W d) os) fun e w''=>e=.returned (av (used n))/\∃ p:Regrown,w''=grow (redrawn W p.d) p.os):=fun d os=>Calls.regrown_of (iUsed n _)
 have HQ3:Hid (∀ d os,Calls Tryz.prog 73 #[av n,.int .i64 (l.length:Int)] (grow (redrawn W d) os) fun e w''=>e=.returned (.bool (pahead n l.length))/\∃ p:Regrown,w''=grow (redrawn W p.d) p.os):=fun d os=>Calls.regrown_of (iAhead n l.length _)
 have HQ4:Hid (decide (1<=n.w/\n.w<=8)=true->pahead n l.length=true->∀ d os,Calls Tryz.prog 74 #[.slice a l.length c,av n] (grow (redrawn W d) os) fun e w''=>e=.returned (.bool (fitsB n ((parts n).map (width l))))/\∃ p:Regrown,w''=grow (redrawn W p.d) p.os):=fun h1 h3 d os=>Calls.regrown_of (iFits _ a l c n l.length ((hN.below HB0.out).below (below_regrown W d os)) hl (Nat.le_refl _) h3 hw (of_decide_eq_true h1))
 have hE:∀ V:World,(binOp .eql 58 (.agg #[.int .i64 n.op,.int .i64 n.w,.int .i64 n.k,.int .i64 n.a,.int .i64 n.b,.int .i64 n.c]) (.agg #[.int .i64 (used n).op,.int .i64 (used n).w,.int .i64 (used n).k,.int .i64 (used n).a,.int .i64 (used n).b,.int .i64 (used n).c])).run Tryz.prog V=.ok (.bool (usedOk n)) V:=fun V=>by
  exact node_eql n.op n.w n.k n.a n.b n.c (used n).k (used n).a (used n).b (used n).c V
 have HSP:Hid (rightB l n=(decide (1<=n.w/\n.w<=8)&&usedOk n&&pahead n l.length&&fitsB n ((parts n).map (width l)))):=rfl
 have hbs:=HB0.out.size
 clear hN hw
 generalize decide (1<=n.w/\n.w<=8)=B1 at HQ1 HQ4 HSP
 generalize usedOk n=B2 at hE HSP
 generalize pahead n l.length=B3 at HQ3 HQ4 HSP
 generalize fitsB n ((parts n).map (width l))=B4 at HQ4 HSP
 generalize rightB l n=R at HSP ⊢
 generalize used n=u at HQ2 hE
 cases B1<;>cases B2<;>cases B3
 all_goals
  go_enter Tryz.func51,Tryz.ntmps51
  go_upto_region 1 with fail
  rw [<- hW]
  clear hW
  refine wp_region_quiet_below (by kernel_rfl) (by kernel_rfl) ?_
  iterate 21 (go_big_quiet_step ((first|(go_at_call 50;exact HQ1.out _ _)|(go_at_call 72;exact HQ2.out _ _)|(go_at_call 73;exact HQ3.out _ _)|(go_at_call 74;exact HQ4.out rfl rfl _ _))))
  refine wpQuiet_nil ?_
  intro w4 hw9
  have HB4:Hid (Below w.heap.size w w4):=by obtain ⟨pp,hw8⟩:=hw9;subst hw8;exact HB0.out.trans ((below_regrown W pp.d pp.os).mono hbs)
  clear hw9 x0 x1 x2 x3 x4 x5 hE HQ1 HQ2 HQ3 HQ4 HB0
  go_wp2
  go_ret
  exact ⟨by rw [HSP.out];rfl,HB4.out⟩
theorem iTermOk:ITermOk:=by
 intro w a l c hN hcap hlen
 have HN:Hid (Nodes w a l):=hN
 have HC:Hid (l.length<=c):=hcap
 clear hN hcap
 by_cases hl:1<=l.length/\l.length<=80
 ·obtain ⟨hl1,hl2⟩:=hl
  have g1:¬ (l.length:Int) < 1:=by omega
  have g2:¬ (80:Int) < (l.length:Int):=by omega
  go_enter Tryz.func25,Tryz.ntmps25
  go_wp2
  clear g1 g2
  go_loopw [15] (fun q wr=>∃ k:Nat,k<=l.length/\q=.int .i64 k/\Below w.heap.size w wr/\∀ j,j < k->nodeOk l j=true) (fun q _=>l.length - (intOf q).toNat)
  case atStart=>exact ⟨0,Nat.zero_le _,rfl,Below.refl _ _,fun j hj=>by omega⟩
  case round =>
   obtain ⟨k,hk,rfl,hb,hall⟩:=hrel
   have HB:Hid (Below w.heap.size w wr):=hb
   have HA:Hid (∀ j,j < k->nodeOk l j=true):=hall
   clear hb hall
   by_cases hlt:k < l.length
   ·have hlz:(k:Int) < (l.length:Int):=by omega
    have hcz:(k:Int)<=(c:Int):=by have:=HC.out;omega
    rcases (HN.out.below HB.out).2 with h0|⟨xb,xo,rfl,hc⟩
    ·omega
    have HNr:Hid (Nodes wr (some ⟨xb,xo,none⟩) l):=HN.out.below HB.out
    obtain ⟨p0,p1,p2,p3,p4,p5⟩:=hc k hlt
    rw [nth_get hlt] at p0 p1 p2 p3 p4 p5
    have HW:Hid (∀ j,j < (l.take k).length->1<=(nth (l.take k) j).w/\(nth (l.take k) j).w<=8):=fun j hj=>by
     rw [List.length_take] at hj
     rw [nth_take (by omega)]
     exact node_width (HA.out j (by omega))
    have HSP:Hid (rightB (l.take k) (nth l k)=nodeOk l k):=right_take hlt
    have HTK:Hid ((l.take k).length=k):=by show _=_;rw [List.length_take];omega
    clear hc
    generalize nth l k=n at p0 p1 p2 p3 p4 p5 HSP
    obtain ⟨W,hW⟩:∃ W:World,W=wr.alloc (.cells #[.int .i64 n.op,.int .i64 n.w,.int .i64 n.k,.int .i64 n.a,.int .i64 n.b,.int .i64 n.c] 58):=⟨_,rfl⟩
    have hbw:Below wr.heap.size wr W:=by rw [hW];exact (Below.refl _ _).alloc (Nat.le_refl _) _
    have HBW:Hid (Below w.heap.size w W):=HB.out.trans (hbw.mono HB.out.size)
    obtain ⟨x0,x1,x2,x3,x4,x5⟩:=box_cells wr n _ W hW
    have HQ1:Hid (∀ d os,Calls Tryz.prog 51 #[.slice (some ⟨xb,xo,none⟩) k c,av n] (grow (redrawn W d) os) fun e w''=>e=.returned (.bool (nodeOk l k))/\∃ p:Regrown,w''=grow (redrawn W p.d) p.os):=fun d os=>by
     have h9:=iRight (grow (redrawn W d) os) (some ⟨xb,xo,none⟩) (l.take k) c k HTK.out n (nodes_take6 ((HNr.out.below hbw).below (below_regrown W d os)) (by omega)) (by have:=HTK.out;omega) HW.out
     rw [HSP.out] at h9
     exact Calls.regrown_of h9
    have hbs:=HBW.out.size
    cases hd1:nodeOk l k
    all_goals
     rw [hd1] at HQ1
     go_upto_region 6 with fail
     rw [<- hW]
     clear hW p0 p1 p2 p3 p4 p5
     refine wp_region_quiet_below (by kernel_rfl) (by kernel_rfl) ?_
     iterate 6 (go_big_quiet_step ((go_at_call 51;exact HQ1.out _ _)))
     refine wpQuiet_nil ?_
     intro w4 hw9
     have HB4:Hid (Below w.heap.size w w4):=by obtain ⟨pp,hw8⟩:=hw9;subst hw8;exact HBW.out.trans ((below_regrown W pp.d pp.os).mono hbs)
     clear hw9 x0 x1 x2 x3 x4 x5 HQ1 hbw HBW
    ·have HNO:Hid (termOk l=false):=term_bad k hlt hd1
     clear hd1
     go_wp2
     go_ret
     exact ⟨ret_bool HNO.out.symm,HB4.out⟩
    ·have HOK:Hid (nodeOk l k=true):=hd1
     clear hd1
     go_wp2
     go_roundw
     case rel =>
      refine ⟨k+1,by omega,by go_num,HB4.out,fun j hj=>?_⟩
      by_cases e:j=k
      ·subst e;exact HOK.out
      ·exact HA.out j (by omega)
     case measure=>simp [intOf];omega
   ·have HT:Hid (termOk l=true):=term_good ⟨hl1,hl2⟩ (fun j hj=>HA.out j (by omega))
    go_wp2
    go_ret
    exact ⟨ret_bool HT.out.symm,HB.out⟩
 ·have HT:Hid (termOk l=false):=term_long hl
  by_cases hl1:l.length < 1
  ·have g1:(l.length:Int) < 1:=by omega
   go_enter Tryz.func25,Tryz.ntmps25
   go_wp2
   go_ret
   exact ⟨ret_bool HT.out.symm,Below.refl _ _⟩
  ·have g1:¬ (l.length:Int) < 1:=by omega
   have g2:(80:Int) < (l.length:Int):=by omega
   go_enter Tryz.func25,Tryz.ntmps25
   go_wp2
   go_ret
   exact ⟨ret_bool HT.out.symm,Below.refl _ _⟩
end Pg6
namespace Pv16
open Go.RowKit
open Nd0 Pl1 Tm0 Tm6 Rw0 Vl1 Vl5 Ic4
open Pg11 (makeInts noughts noughts_get)
open Pg14 (iSentence)
open Lx1 (ITermOk)
open Lx2 (IReached)
theorem iHolds (hTO:ITermOk) (hRE:IReached) (hV:IValue):IHolds:=by
 intro w a l c hN hcap hlen
 have HN:Hid (Nodes w a l):=hN
 have HTO:Hid ITermOk:=hTO
 have HRE:Hid IReached:=hRE
 have HVA:Hid IValue:=hV
 have HCAP:Hid (l.length<=c):=hcap
 obtain ⟨V,hV⟩:∃ V,V=holdsL l:=⟨_,rfl⟩
 rw [<- hV]
 have HV:Hid (V=holdsL l):=hV
 clear hN hTO hcap hRE hV
 cases hS:sentB l
 ·have HVN:Hid (V=none):=by
   show _=_
   rw [HV.out];unfold holdsL;rw [hS];rfl
  go_enter Tryz.func15,Tryz.ntmps15
  go_wp2_with (go_at_call 20;refine (iSentence HTO.out HRE.out w a l c HN.out HCAP.out hlen).mono ?_;rintro e0 w1 ⟨rfl,hb1⟩;rw [hS])
  go_ret2
  rw [HVN.out]
  exact ⟨rfl,hb1⟩
 ·have HVS:Hid (V=valueL l (List.replicate 8 0)):=by
   show _=_
   rw [HV.out];unfold holdsL;rw [hS];rfl
  have hmk:∀ w:World,(Instr.makeSlice 39 (.int .i64 8) (.int .i64 8)).run Tryz.prog w=.ok (.slice (some ⟨w.heap.size,0,none⟩) 8 8) (w.alloc (.cells (noughts 8) 3)):=fun w=>makeInts 8 (by omega) w
  go_enter Tryz.func15,Tryz.ntmps15
  go_wp2_with (go_at_call 20;refine (iSentence HTO.out HRE.out w a l c HN.out HCAP.out hlen).mono ?_;rintro e0 w1 ⟨rfl,hb1⟩;rw [hS];have HB1:Hid (Below w.heap.size w w1):=hb1;clear hb1)
  clear hmk
  have hAl:Below w1.heap.size w1 (w1.alloc (.cells (noughts 8) 3)):=(Below.refl _ _).alloc (Nat.le_refl _) _
  have hB2:Below w.heap.size w (w1.alloc (.cells (noughts 8) 3)):=HB1.out.trans (hAl.mono HB1.out.size)
  have hI:Ints (w1.alloc (.cells (noughts 8) 3)) (some ⟨w1.heap.size,0,none⟩) (List.replicate 8 0):=by
   refine ⟨by decide,.inr ⟨w1.heap.size,0,rfl,fun i hi=>?_⟩⟩
   rw [Nat.zero_add,World.cell?_alloc_new,List.getElem_replicate]
   exact noughts_get _ _ (by simpa using hi)
  have hcall:=HVA.out _ a (some ⟨w1.heap.size,0,none⟩) l (List.replicate 8 0) c 8 (HN.out.below hB2) HCAP.out hlen hI (by simp)
  rw [List.length_replicate] at hcall
  refine hcall.mono ?_
  rintro x0 w3 ⟨rfl,hb3⟩
  rw [<- HVS.out]
  have HB3:Hid (Below w.heap.size w w3):=hB2.trans (hb3.mono hB2.size)
  clear hcall hI hB2 hAl hb3
  go_wp2
  go_ret2
  exact ⟨rfl,HB3.out⟩
end Pv16
namespace Pv1
open Go.RowKit
open Nd0 Pl1 Pl2 Vl1 Vl2 Bt0 Wd1 Wd2 Wd3 Wd4 Wd5 Ic4
open Sv1 (Rg below1)
theorem wr64 (n:Int) (h : -9223372036854775808<=n/\n<=9223372036854775807):wrap64 n=n:=by unfold wrap64;omega
def tab:Array Value := #[.func (.func 109) #[] #[],.nilFunc,.func (.func 110) #[] #[],.func (.func 112) #[] #[],.func (.func 113) #[] #[],.func (.func 114) #[] #[],.func (.func 115) #[] #[],.func (.func 117) #[] #[],.func (.func 119) #[] #[],.func (.func 121) #[] #[],.func (.func 123) #[] #[],.func (.func 125) #[] #[],.func (.func 127) #[] #[],.func (.func 129) #[] #[],.func (.func 130) #[] #[],.func (.func 132) #[] #[],.func (.func 134) #[] #[],.func (.func 135) #[] #[],.func (.func 137) #[] #[]]
def Clo (f:Nat) (n:Nd) (W a b c:Int) (v:Int):Prop:=∀ w:World,
 Calls Tryz.prog f #[.agg #[.int .i64 n.op,.int .i64 n.w,.int .i64 n.k,.int .i64 n.a,.int .i64 n.b,.int .i64 n.c],.int .i64 W,.int .i64 a,.int .i64 b,.int .i64 c] w fun e w'=>e=.returned (.int .i64 v)/\Below w.heap.size w w'
theorem c0 (n:Nd) (W a b c:Int):Clo 109 n W a b c (n.k):=by
 intro w
 go_enter Tryz.func109,Tryz.ntmps109
 go_wp2
 go_ret
 exact ⟨ret_int (by rfl),below1 _ _⟩
theorem c2 (n:Nd) (W a b c:Int):Clo 110 n W a b c (vFlip n.w a):=by
 intro w
 go_enter Tryz.func110,Tryz.ntmps110
 go_wp2_with (first|(go_at_call 111;refine (iFlip _ _ _).mono ?_;rintro e w' ⟨rfl,rfl⟩))
 go_ret
 exact ⟨ret_int (by rfl),below1 _ _⟩
theorem c3 (n:Nd) (W a b c:Int) (r3:0<=a/\a<=255) (r4:0<=b/\b<=255):Clo 112 n W a b c (nAnd a b):=by
 intro w
 have HB:Hid (bits .and .i64 a b=nAnd a b):=band r3 r4
 go_enter Tryz.func112,Tryz.ntmps112
 go_wp2
 go_ret
 exact ⟨ret_int (by exact HB.out),below1 _ _⟩
theorem c4 (n:Nd) (W a b c:Int) (r3:0<=a/\a<=255) (r4:0<=b/\b<=255):Clo 113 n W a b c (nOr a b):=by
 intro w
 have HB:Hid (bits .or .i64 a b=nOr a b):=bor r3 r4
 go_enter Tryz.func113,Tryz.ntmps113
 go_wp2
 go_ret
 exact ⟨ret_int (by exact HB.out),below1 _ _⟩
theorem c5 (n:Nd) (W a b c:Int) (r3:0<=a/\a<=255) (r4:0<=b/\b<=255):Clo 114 n W a b c (nXor a b):=by
 intro w
 have HB:Hid (bits .xor .i64 a b=nXor a b):=bxor r3 r4
 go_enter Tryz.func114,Tryz.ntmps114
 go_wp2
 go_ret
 exact ⟨ret_int (by exact HB.out),below1 _ _⟩
theorem c6 (n:Nd) (W a b c:Int):Clo 115 n W a b c (vAdd n.w a b):=by
 intro w
 go_enter Tryz.func115,Tryz.ntmps115
 go_wp2_with (first|(go_at_call 116;refine (iAdd _ _ _ _).mono ?_;rintro e w' ⟨rfl,rfl⟩))
 go_ret
 exact ⟨ret_int (by rfl),below1 _ _⟩
theorem c7 (n:Nd) (W a b c:Int):Clo 117 n W a b c (vSub n.w a b):=by
 intro w
 go_enter Tryz.func117,Tryz.ntmps117
 go_wp2_with (first|(go_at_call 118;refine (iSub _ _ _ _).mono ?_;rintro e w' ⟨rfl,rfl⟩))
 go_ret
 exact ⟨ret_int (by rfl),below1 _ _⟩
theorem c8 (n:Nd) (W a b c:Int):Clo 119 n W a b c (vMul n.w a b):=by
 intro w
 go_enter Tryz.func119,Tryz.ntmps119
 go_wp2_with (first|(go_at_call 120;refine (iMul _ _ _ _).mono ?_;rintro e w' ⟨rfl,rfl⟩))
 go_ret
 exact ⟨ret_int (by rfl),below1 _ _⟩
theorem c9 (n:Nd) (W a b c:Int):Clo 121 n W a b c (vDiv n.w a b):=by
 intro w
 go_enter Tryz.func121,Tryz.ntmps121
 go_wp2_with (first|(go_at_call 122;refine (iDiv _ _ _ _).mono ?_;rintro e w' ⟨rfl,rfl⟩))
 go_ret
 exact ⟨ret_int (by rfl),below1 _ _⟩
theorem c10 (n:Nd) (W a b c:Int):Clo 123 n W a b c (vRem n.w a b):=by
 intro w
 go_enter Tryz.func123,Tryz.ntmps123
 go_wp2_with (first|(go_at_call 124;refine (iRem _ _ _ _).mono ?_;rintro e w' ⟨rfl,rfl⟩))
 go_ret
 exact ⟨ret_int (by rfl),below1 _ _⟩
theorem c11 (n:Nd) (W a b c:Int):Clo 125 n W a b c (vShl n.w a b):=by
 intro w
 go_enter Tryz.func125,Tryz.ntmps125
 go_wp2_with (first|(go_at_call 126;refine (iShl _ _ _ _).mono ?_;rintro e w' ⟨rfl,rfl⟩))
 go_ret
 exact ⟨ret_int (by rfl),below1 _ _⟩
theorem c12 (n:Nd) (W a b c:Int):Clo 127 n W a b c (vShr n.w a b):=by
 intro w
 go_enter Tryz.func127,Tryz.ntmps127
 go_wp2_with (first|(go_at_call 128;refine (iShr _ _ _ _).mono ?_;rintro e w' ⟨rfl,rfl⟩))
 go_ret
 exact ⟨ret_int (by rfl),below1 _ _⟩
theorem c13 (n:Nd) (W a b c v:Int) (hv:v=if a=b then 1 else 0):Clo 129 n W a b c v:=by
 intro w
 cases hab:(a==b)
 ·have HV:Hid (v=0):=by
   show _=_
   rw [hv,if_neg (by simpa using hab)]
  clear hv
  go_enter Tryz.func129,Tryz.ntmps129
  go_wp2_with (go_at_call 37;refine (iOne _ _).mono ?_;rintro e w' ⟨rfl,rfl⟩)
  go_ret
  exact ⟨ret_int HV.out.symm,below1 _ _⟩
 ·have HV:Hid (v=1):=by
   show _=_
   rw [hv,if_pos (by simpa using hab)]
  clear hv
  go_enter Tryz.func129,Tryz.ntmps129
  go_wp2_with (go_at_call 37;refine (iOne _ _).mono ?_;rintro e w' ⟨rfl,rfl⟩)
  go_ret
  exact ⟨ret_int HV.out.symm,below1 _ _⟩
theorem c14 (n:Nd) (W a b c:Int):Clo 130 n W a b c (vLess W a b):=by
 intro w
 go_enter Tryz.func130,Tryz.ntmps130
 go_wp2_with (first|(go_at_call 131;refine (iLess _ _ _ _).mono ?_;rintro e w' ⟨rfl,rfl⟩))
 go_ret
 exact ⟨ret_int (by rfl),below1 _ _⟩
theorem c15 (n:Nd) (W a b c:Int):Clo 132 n W a b c (vLessSigned W a b):=by
 intro w
 go_enter Tryz.func132,Tryz.ntmps132
 go_wp2_with (first|(go_at_call 133;refine (iLessSigned _ _ _ _).mono ?_;rintro e w' ⟨rfl,rfl⟩))
 go_ret
 exact ⟨ret_int (by rfl),below1 _ _⟩
theorem c16 (n:Nd) (W a b c:Int) (r1:1<=n.w/\n.w<=8) (r2:1<=W/\W<=8) (r3:0<=a/\a<=255) (r4:0<=b/\b<=255) (v:Int) (hv:v=if n.w < W then b else a*p2 (n.w - W).toNat+b):Clo 134 n W a b c v:=by
 intro w
 by_cases hlt:n.w < W
 ·have HV:Hid (v=b):=hv.trans (if_pos hlt)
  clear hv
  go_enter Tryz.func134,Tryz.ntmps134
  go_wp2
  go_ret
  exact ⟨ret_int HV.out.symm,below1 _ _⟩
 ·have HV:Hid (v=a*p2 (n.w - W).toNat+b):=hv.trans (if_neg hlt)
  clear hv
  have hr:=p2_mono (show (n.w - W).toNat<=7 by omega)
  have hq:=p2_pos (n.w - W).toNat
  have hr7:p2 7=128:=rfl
  obtain ⟨hb1,hb2⟩:=mul_bd r3.1 r3.2 (show 0<=p2 (n.w - W).toNat by omega) (by omega)
  have hsh:0<=n.w - W:=by omega
  have HS:Hid (a*2 ^ (n.w - W).toNat=a*p2 (n.w - W).toNat):=by show _=_;simp [p2]
  go_enter Tryz.func134,Tryz.ntmps134
  go_wp2
  go_ret
  exact ⟨ret_int (by rw [HV.out,HS.out,wr64 (a*p2 (n.w - W).toNat) (by omega)];exact wr64 _ (by omega)),below1 _ _⟩
theorem c17 (n:Nd) (W a b c:Int) (hw:(Lit.int .i64 n.w).wf=true):Clo 135 n W a b c (vSlice W a n.k n.w):=by
 intro w
 go_enter Tryz.func135,Tryz.ntmps135
 go_wp2_with (first|(go_at_call 136;refine (iSlice _ _ _ _ _ hw).mono ?_;rintro e w' ⟨rfl,rfl⟩))
 go_ret
 exact ⟨ret_int (by rfl),below1 _ _⟩
theorem c18 (n:Nd) (W a b c v:Int) (hv:v=if a=1 then b else c):Clo 137 n W a b c v:=by
 intro w
 cases ha:(a==1)
 ·have HV:Hid (v=c):=hv.trans (if_neg (by simpa using ha))
  clear hv
  go_enter Tryz.func137,Tryz.ntmps137
  go_wp2
  go_ret
  exact ⟨ret_int HV.out.symm,below1 _ _⟩
 ·have HV:Hid (v=b):=hv.trans (if_pos (by simpa using ha))
  clear hv
  go_enter Tryz.func137,Tryz.ntmps137
  go_wp2
  go_ret
  exact ⟨ret_int HV.out.symm,below1 _ _⟩
theorem byteOk (x:Int) (w:World) :
 Calls Tryz.prog 105 #[.int .i64 x] w fun e w'=>e=.returned (.bool (decide (0<=x/\x<=255)))/\w'=w:=by
 by_cases h1:0<=x<;>by_cases h2:x<=255
 all_goals
  go_enter Tryz.func105,Tryz.ntmps105
  go_wp2
  go_ret
  exact ⟨ret_bool (by simp<;>omega),rfl⟩
theorem sizeTab:(Tryz.prog.info? 133).map (·.size)=some tab.size:=by kernel_rfl
theorem oneTab:tab.all (·.oneCell')=true:=by kernel_rfl
theorem store_new {ops:Array Oper} {rest:List Oper} {op:Oper} {a:Act} {Q:Exit->Act->World->Prop} (w:World) (hgd:op.guard=none) (ty:TypeId) (x y:Operand) (ho:op.op=.store ty x y)
 (c c':Array Value) (g:Nat) (hx:a.eval x=.pointer (some ⟨g,0,none⟩)) (hg:g=w.heap.size) (hy:a.eval y=.agg c') (hi:(Tryz.prog.info? ty).map (·.size)=some c'.size) (hs:c.size=c'.size) (h1:c'.all (·.oneCell')=true)
 (h:wpList Tryz.prog ops Q rest (a.put op.dst undef) (w.alloc (.cells c' ty))):wpList Tryz.prog ops Q (op :: rest) a (w.alloc (.cells c ty)) :=
 wpList_plain hgd fun _ hK=>by
  subst hg
  unfold Oper.wp execOp
  simp only [ho,hx,hy,Sem.run_bind,Sem.run_pure,run_storeAt_new w ty c c' hi hs h1,Result.andThen_ok]
  exact hK _ _ h
theorem operators (w:World) :
 Calls Tryz.prog 106 #[] w fun e w'=>e=.returned (.agg tab)/\w'=w.alloc (.cells tab 133):=by
 go_enter Tryz.func106,Tryz.ntmps106
 go_wp2_with (refine store_new _ rfl 133 (.tmp 0) (.tmp 1) rfl _ tab _ rfl rfl rfl sizeTab rfl oneTab ?_)
 refine bodyPost_ret (v:=.agg tab) ?_ rfl ⟨rfl,rfl⟩
 exact results_cell_row rfl _ _ w.heap.size _ tab _ _ rfl (heap_alloc_last w _) Tryz.underlying133 rfl sizeTab
end Pv1
end Go.Proofs.YtebejleeadofcaaGreat
