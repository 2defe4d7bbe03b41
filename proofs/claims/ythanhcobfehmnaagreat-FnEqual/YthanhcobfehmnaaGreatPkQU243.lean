import Derived.Lib.QuietBelow
import Derived.Test.YthanhcobfehmnaaGreatPkQU242
namespace Go.Proofs.YthanhcobfehmnaaGreat
set_option maxRecDepth 100000
set_option maxHeartbeats 8000000
set_option linter.unusedVariables false
namespace Pg4
open Go.RowKit
open Nd0 Tm0 Tm5 Pl1 Ap0 Pg1 Pg2 Pg3
open Ws1 (ret_int ret_bool)
theorem below_drewN {B:Nat} {u w:World} (h:Below B u w) (n:Nat):Below B u (w.drewN n):=⟨h.os,h.tape,h.output,h.size,h.block⟩
def fitsB (n:Nd) (ws:List Int):Bool :=
 if n.op=0 then wok n.w n.k
 else if n.op=1 then decide (0<=n.k/\n.k<=7)
 else if n.op=2 then decide (ws.getD 0 0=n.w)
 else if 3<=n.op/\n.op<=12 then decide (ws.getD 0 0=n.w/\ws.getD 1 0=n.w)
 else if 13<=n.op/\n.op<=15 then decide (ws.getD 0 0=ws.getD 1 0/\n.w=1)
 else if n.op=16 then decide (ws.getD 0 0+ws.getD 1 0=n.w)
 else if n.op=17 then decide (0<=n.k/\n.k<=ws.getD 0 0 - n.w)
 else if n.op=18 then decide (ws.getD 0 0=1/\ws.getD 1 0=n.w/\ws.getD 2 0=n.w)
 else if n.op=19\/n.op=20 then decide (0<=n.k/\n.k<=7/\1<=n.b/\n.b<=8/\ws.getD 0 0=1/\n.w=1)
 else false
theorem fitsA (w:World) (xb xo len c:Nat) (op m k b d x0:Int) (hl:len<=80) (ja:Nat) (hj:ja < len) (p0:w.cell? ⟨xb,xo+ja*6+1,none⟩=some (.int .i64 x0)) (hx0:1<=x0/\x0<=8) (hm:1<=m/\m<=8)  (h:op=2\/op=17\/op=19\/op=20) :
 Calls Tryz.prog 71 #[.slice (some ⟨xb,xo,none⟩) len c,.agg #[.int .i64 op,.int .i64 m,.int .i64 k,.int .i64 ja,.int .i64 b,.int .i64 d]] w fun e w' =>
  e=.returned (.bool (fitsB ⟨op,m,k,ja,b,d⟩ [x0]))/\Below w.heap.size w w':=by
 have hxb:xb < w.heap.size:=lt_of_cell (p:=⟨xb,_,none⟩) p0
 have hxn:¬ xb=w.heap.size:=by omega
 obtain ⟨hm1,hm2⟩:=hm
 have hjz:(ja:Int) < (len:Int):=by omega
 obtain ⟨hx1,hx2⟩:=hx0
 obtain ⟨F,hF⟩:∃ F,F=fitsB ⟨op,m,k,ja,b,d⟩ [x0]:=⟨_,rfl⟩
 rw [<- hF]
 rcases h with rfl|rfl|rfl|rfl
 all_goals
  simp [fitsB] at hF
  have HF:Hid (F=_):=hF
  clear hF
  go_enter Tryz.func71,Tryz.ntmps71
  go_wp2_with (first|(go_at_call 89;refine (iWordOk _ _ _).mono ?_;rintro e w' ⟨rfl,rfl⟩)|(go_at_call 104;refine (iVarOk _ _).mono ?_;rintro e w' ⟨rfl,rfl⟩)|(go_at_call 68;refine (iWidthOk _ _).mono ?_;rintro e w' ⟨rfl,rfl⟩))
  try
   refine wp_region_quiet_lit (by kernel_rfl) (by kernel_rfl) ?_
   repeat (any_goals (first|go_big_quiet_step (fail)|quiet_step (fail)|(refine wpQuiet_step (fun K hK=>?_);go_simp;split<;>(refine hK _ ?_;clear hK K))))
   all_goals (refine wpQuiet_nil ?_;intro _ hw';obtain ⟨nq,hw''⟩:=hw';subst hw'')
   all_goals go_wp2
  all_goals
   go_ret
   refine ⟨ret_bool ?_,by first|exact below_drewN ((Below.refl _ _).alloc (Nat.le_refl _) _) _|exact (Below.refl _ _).alloc (Nat.le_refl _) _⟩
   rw [HF.out,Bool.eq_iff_iff]
   first|(go_light;simp_all<;>omega)|(simp_all<;>omega)
theorem fitsB2 (w:World) (xb xo len c:Nat) (op m k d x0 x1:Int) (hl:len<=80) (ja jb:Nat) (hj:ja < len) (hj':jb < len) (p0:w.cell? ⟨xb,xo+ja*6+1,none⟩=some (.int .i64 x0)) (hx0:1<=x0/\x0<=8) (p1:w.cell? ⟨xb,xo+jb*6+1,none⟩=some (.int .i64 x1)) (hx1':1<=x1/\x1<=8) (hm:1<=m/\m<=8)  (h:op=3\/op=4\/op=5\/op=6\/op=7\/op=8\/op=9\/op=10\/op=11\/op=12\/op=13\/op=14\/op=15\/op=16) :
 Calls Tryz.prog 71 #[.slice (some ⟨xb,xo,none⟩) len c,.agg #[.int .i64 op,.int .i64 m,.int .i64 k,.int .i64 ja,.int .i64 jb,.int .i64 d]] w fun e w' =>
  e=.returned (.bool (fitsB ⟨op,m,k,ja,jb,d⟩ [x0,x1]))/\Below w.heap.size w w':=by
 have hxb:xb < w.heap.size:=lt_of_cell (p:=⟨xb,_,none⟩) p0
 have hxn:¬ xb=w.heap.size:=by omega
 obtain ⟨hm1,hm2⟩:=hm
 have hjz:(ja:Int) < (len:Int):=by omega
 obtain ⟨hx1,hx2⟩:=hx0
 have hjz':(jb:Int) < (len:Int):=by omega
 obtain ⟨hx3,hx4⟩:=hx1'
 obtain ⟨F,hF⟩:∃ F,F=fitsB ⟨op,m,k,ja,jb,d⟩ [x0,x1]:=⟨_,rfl⟩
 rw [<- hF]
 rcases h with rfl|rfl|rfl|rfl|rfl|rfl|rfl|rfl|rfl|rfl|rfl|rfl|rfl|rfl
 all_goals
  simp [fitsB] at hF
  have HF:Hid (F=_):=hF
  clear hF
  go_enter Tryz.func71,Tryz.ntmps71
  go_wp2_with (first|(go_at_call 89;refine (iWordOk _ _ _).mono ?_;rintro e w' ⟨rfl,rfl⟩)|(go_at_call 104;refine (iVarOk _ _).mono ?_;rintro e w' ⟨rfl,rfl⟩)|(go_at_call 68;refine (iWidthOk _ _).mono ?_;rintro e w' ⟨rfl,rfl⟩))
  try
   refine wp_region_quiet_lit (by kernel_rfl) (by kernel_rfl) ?_
   repeat (any_goals (first|go_big_quiet_step (fail)|quiet_step (fail)|(refine wpQuiet_step (fun K hK=>?_);go_simp;split<;>(refine hK _ ?_;clear hK K))))
   all_goals (refine wpQuiet_nil ?_;intro _ hw';obtain ⟨nq,hw''⟩:=hw';subst hw'')
   all_goals go_wp2
  all_goals
   go_ret
   refine ⟨ret_bool ?_,by first|exact below_drewN ((Below.refl _ _).alloc (Nat.le_refl _) _) _|exact (Below.refl _ _).alloc (Nat.le_refl _) _⟩
   rw [HF.out,Bool.eq_iff_iff]
   first|(go_light;simp_all<;>omega)|(simp_all<;>omega)
theorem fits18 (w:World) (xb xo len c:Nat) (op m k x0 x1 x2:Int) (hl:len<=80) (ja jb jc:Nat) (hj:ja < len) (hj':jb < len) (hj'':jc < len) (p0:w.cell? ⟨xb,xo+ja*6+1,none⟩=some (.int .i64 x0)) (hx0:1<=x0/\x0<=8) (p1:w.cell? ⟨xb,xo+jb*6+1,none⟩=some (.int .i64 x1)) (hx1':1<=x1/\x1<=8) (p2:w.cell? ⟨xb,xo+jc*6+1,none⟩=some (.int .i64 x2)) (hx2':1<=x2/\x2<=8) (hm:1<=m/\m<=8)  (h:op=18) :
 Calls Tryz.prog 71 #[.slice (some ⟨xb,xo,none⟩) len c,.agg #[.int .i64 op,.int .i64 m,.int .i64 k,.int .i64 ja,.int .i64 jb,.int .i64 jc]] w fun e w' =>
  e=.returned (.bool (fitsB ⟨op,m,k,ja,jb,jc⟩ [x0,x1,x2]))/\Below w.heap.size w w':=by
 have hxb:xb < w.heap.size:=lt_of_cell (p:=⟨xb,_,none⟩) p0
 have hxn:¬ xb=w.heap.size:=by omega
 obtain ⟨hm1,hm2⟩:=hm
 have hjz:(ja:Int) < (len:Int):=by omega
 obtain ⟨hx1,hx2⟩:=hx0
 have hjz':(jb:Int) < (len:Int):=by omega
 obtain ⟨hx3,hx4⟩:=hx1'
 have hjz'':(jc:Int) < (len:Int):=by omega
 obtain ⟨hx5,hx6⟩:=hx2'
 obtain ⟨F,hF⟩:∃ F,F=fitsB ⟨op,m,k,ja,jb,jc⟩ [x0,x1,x2]:=⟨_,rfl⟩
 rw [<- hF]
 subst h
 all_goals
  simp [fitsB] at hF
  have HF:Hid (F=_):=hF
  clear hF
  go_enter Tryz.func71,Tryz.ntmps71
  go_wp2_with (first|(go_at_call 89;refine (iWordOk _ _ _).mono ?_;rintro e w' ⟨rfl,rfl⟩)|(go_at_call 104;refine (iVarOk _ _).mono ?_;rintro e w' ⟨rfl,rfl⟩)|(go_at_call 68;refine (iWidthOk _ _).mono ?_;rintro e w' ⟨rfl,rfl⟩))
  try
   refine wp_region_quiet_lit (by kernel_rfl) (by kernel_rfl) ?_
   repeat (any_goals (first|go_big_quiet_step (fail)|quiet_step (fail)|(refine wpQuiet_step (fun K hK=>?_);go_simp;split<;>(refine hK _ ?_;clear hK K))))
   all_goals (refine wpQuiet_nil ?_;intro _ hw';obtain ⟨nq,hw''⟩:=hw';subst hw'')
   all_goals go_wp2
  all_goals
   go_ret
   refine ⟨ret_bool ?_,by first|exact below_drewN ((Below.refl _ _).alloc (Nat.le_refl _) _) _|exact (Below.refl _ _).alloc (Nat.le_refl _) _⟩
   rw [HF.out,Bool.eq_iff_iff]
   first|(go_light;simp_all<;>omega)|(simp_all<;>omega)
theorem fitsC (w:World) (a:Option Addr) (len c:Nat) (op m k x b d:Int)  (h:op=0\/op=1) :
 Calls Tryz.prog 71 #[.slice a len c,.agg #[.int .i64 op,.int .i64 m,.int .i64 k,.int .i64 x,.int .i64 b,.int .i64 d]] w fun e w' =>
  e=.returned (.bool (fitsB ⟨op,m,k,x,b,d⟩ []))/\Below w.heap.size w w':=by
 obtain ⟨F,hF⟩:∃ F,F=fitsB ⟨op,m,k,x,b,d⟩ []:=⟨_,rfl⟩
 rw [<- hF]
 rcases h with rfl|rfl
 all_goals
  simp [fitsB] at hF
  have HF:Hid (F=_):=hF
  clear hF
  go_enter Tryz.func71,Tryz.ntmps71
  go_wp2_with (first|(go_at_call 89;refine (iWordOk _ _ _).mono ?_;rintro e w' ⟨rfl,rfl⟩)|(go_at_call 104;refine (iVarOk _ _).mono ?_;rintro e w' ⟨rfl,rfl⟩)|(go_at_call 68;refine (iWidthOk _ _).mono ?_;rintro e w' ⟨rfl,rfl⟩))
  go_ret
  refine ⟨ret_bool ?_,(Below.refl _ _).alloc (Nat.le_refl _) _⟩
  rw [HF.out]
  first|done|simp
theorem fitsN (w:World) (a:Option Addr) (len c:Nat) (op m k x b d:Int) (hop:op < 0\/20 < op) :
 Calls Tryz.prog 71 #[.slice a len c,.agg #[.int .i64 op,.int .i64 m,.int .i64 k,.int .i64 x,.int .i64 b,.int .i64 d]] w fun e w' =>
  e=.returned (.bool (fitsB ⟨op,m,k,x,b,d⟩ []))/\Below w.heap.size w w':=by
 have HF:Hid (fitsB ⟨op,m,k,x,b,d⟩ []=false):=by
  show _=_
  unfold fitsB;dsimp only;rw [if_neg (by omega),if_neg (by omega),if_neg (by omega),if_neg (by omega),if_neg (by omega),if_neg (by omega),if_neg (by omega),if_neg (by omega),if_neg (by omega)]
 obtain ⟨t0,t1,t2,t3,t4,t5,t6,t7,t8,t9,t10⟩:(op==0)=false/\(op==1)=false/\(op==2)=false/\(op==3)=false/\(op==4)=false/\(op==5)=false/\(op==6)=false/\(op==7)=false/\(op==8)=false/\(op==9)=false/\(op==10)=false:=by simp;omega
 obtain ⟨t0,t1,t2,t3,t4,t5,t6,t7,t8,t9⟩:(op==11)=false/\(op==12)=false/\(op==13)=false/\(op==14)=false/\(op==15)=false/\(op==16)=false/\(op==17)=false/\(op==18)=false/\(op==19)=false/\(op==20)=false:=by simp;omega
 clear hop
 go_enter Tryz.func71,Tryz.ntmps71
 go_wp2_with (first|(go_at_call 89;refine (iWordOk _ _ _).mono ?_;rintro e w' ⟨rfl,rfl⟩)|(go_at_call 104;refine (iVarOk _ _).mono ?_;rintro e w' ⟨rfl,rfl⟩)|(go_at_call 68;refine (iWidthOk _ _).mono ?_;rintro e w' ⟨rfl,rfl⟩))
 go_ret
 refine ⟨ret_bool ?_,(Below.refl _ _).alloc (Nat.le_refl _) _⟩
 first|(rw [HF.out];done)|(rw [HF.out];simp)
end Pg4
namespace Pg5
open Go.RowKit
open Nd0 Tm0 Tm5 Pl1 Ap0 Pg1 Pg2 Pg3 Pg4
open Ws1 (ret_int ret_bool)
theorem part_cell {w:World} {xb xo:Nat} {l:List Nd} {i:Nat} {p:Int} (hc:∀ i (h:i < l.length),NodeAt w xb (xo+i*6) l[i]) (hi:i<=l.length) (hw:∀ j,j < i->1<=(nth l j).w/\(nth l j).w<=8) (hp:0<=p/\p < i) :
 ∃ j:Nat,p=(j:Int)/\j < l.length/\w.cell? ⟨xb,xo+j*6+1,none⟩=some (.int .i64 (width l p))/\1<=width l p/\width l p<=8:=by
 obtain ⟨j,rfl⟩:=Int.eq_ofNat_of_zero_le hp.1
 have hj:j < l.length:=by omega
 refine ⟨j,rfl,hj,?_,?_⟩
 ·have h9:=(hc j hj).c1
  rw [nth_get hj] at h9
  exact h9
 ·exact hw j (by omega)
theorem iFits (w:World) (a:Option Addr) (l:List Nd) (c:Nat) (n:Nd) (i:Nat) (hN:Nodes w a l) (hl:l.length<=80) (hi:i<=l.length) (hA:pahead n i=true) (hw:∀ j,j < i->1<=(nth l j).w/\(nth l j).w<=8) (hm:1<=n.w/\n.w<=8) :
 Calls Tryz.prog 71 #[.slice a l.length c,.agg #[.int .i64 n.op,.int .i64 n.w,.int .i64 n.k,.int .i64 n.a,.int .i64 n.b,.int .i64 n.c]] w fun e w' =>
  e=.returned (.bool (fitsB n ((parts n).map (width l))))/\Below w.heap.size w w':=by
 have hall:∀ p∈parts n,0<=p/\p < (i:Int):=by
  unfold pahead at hA
  rw [List.all_eq_true] at hA
  intro p hp
  simpa using hA p hp
 clear hA
 obtain ⟨op,m,k,x,b,d⟩:=n
 simp only at hm
 by_cases hop:op < 0\/20 < op
 ·have hp:parts ⟨op,m,k,x,b,d⟩=[]:=parts_none (by simp only;omega) (by simp only;omega) (by simp only;omega)
  rw [hp]
  exact fitsN w a l.length c op m k x b d hop
 by_cases h0:op=0
 ·subst h0;exact fitsC w a l.length c 0 m k x b d (.inl rfl)
 by_cases h1:op=1
 ·subst h1;exact fitsC w a l.length c 1 m k x b d (.inr rfl)
 have hne:∃ p,p∈parts ⟨op,m,k,x,b,d⟩:=by
  by_cases q1:op=2\/op=17\/op=19\/op=20
  ·rw [parts_one q1];exact ⟨x,by simp⟩
  ·by_cases q2:3<=op/\op<=16
   ·rw [parts_two q2];exact ⟨x,by simp⟩
   ·rw [parts_three (by simp only;omega)];exact ⟨x,by simp⟩
 obtain ⟨p9,hp9⟩:=hne
 have h9:=hall p9 hp9
 rcases hN.2 with hz|⟨xb,xo,rfl,hc⟩
 ·omega
 by_cases q1:op=2\/op=17\/op=19\/op=20
 ·rw [parts_one q1] at hall ⊢
  obtain ⟨ja,rfl,hj,hcell,hwd⟩:=part_cell hc hi hw (hall x (by simp))
  exact fitsA w xb xo l.length c op m k b d _ hl ja hj hcell hwd hm q1
 by_cases q2:3<=op/\op<=16
 ·rw [parts_two q2] at hall ⊢
  obtain ⟨ja,rfl,hj,hcell,hwd⟩:=part_cell hc hi hw (hall x (by simp))
  obtain ⟨jb,rfl,hj',hcell',hwd'⟩:=part_cell hc hi hw (hall b (by simp))
  have q3:op=3\/op=4\/op=5\/op=6\/op=7\/op=8\/op=9\/op=10\/op=11\/op=12\/op=13\/op=14\/op=15\/op=16:=by omega
  exact fitsB2 w xb xo l.length c op m k d _ _ hl ja jb hj hj' hcell hwd hcell' hwd' hm q3
 have q4:op=18:=by omega
 subst q4
 rw [parts_three rfl] at hall ⊢
 obtain ⟨ja,rfl,hj,hcell,hwd⟩:=part_cell hc hi hw (hall x (by simp))
 obtain ⟨jb,rfl,hj',hcell',hwd'⟩:=part_cell hc hi hw (hall b (by simp))
 obtain ⟨jc,rfl,hj'',hcell'',hwd''⟩:=part_cell hc hi hw (hall d (by simp))
 exact fits18 w xb xo l.length c 18 m k _ _ _ hl ja jb jc hj hj' hj'' hcell hwd hcell' hwd' hcell'' hwd'' hm rfl
def usedOk (n:Nd):Bool:=decide (n.k=(used n).k/\n.a=(used n).a/\n.b=(used n).b/\n.c=(used n).c)
theorem shape_split (n:Nd) (ws:List Int):shapeOk n ws=(usedOk n&&fitsB n ws):=by
 obtain ⟨op,m,k,x,b,d⟩:=n
 by_cases hop:op < 0\/20 < op
 ·have e1:shapeOk ⟨op,m,k,x,b,d⟩ ws=false:=by
   unfold shapeOk;dsimp only;rw [if_neg (by omega),if_neg (by omega),if_neg (by omega),if_neg (by omega),if_neg (by omega),if_neg (by omega),if_neg (by omega),if_neg (by omega),if_neg (by omega)]
  have e2:fitsB ⟨op,m,k,x,b,d⟩ ws=false:=by
   unfold fitsB;dsimp only;rw [if_neg (by omega),if_neg (by omega),if_neg (by omega),if_neg (by omega),if_neg (by omega),if_neg (by omega),if_neg (by omega),if_neg (by omega),if_neg (by omega)]
  rw [e1,e2,Bool.and_false]
 have q3:op=0\/op=1\/op=2\/op=3\/op=4\/op=5\/op=6\/op=7\/op=8\/op=9\/op=10\/op=11\/op=12\/op=13\/op=14\/op=15\/op=16\/op=17\/op=18\/op=19\/op=20:=by omega
 clear hop
 generalize ws.getD 0 0=x0 at *
 rcases q3 with rfl|rfl|rfl|rfl|rfl|rfl|rfl|rfl|rfl|rfl|rfl|rfl|rfl|rfl|rfl|rfl|rfl|rfl|rfl|rfl|rfl
 all_goals
  rw [Bool.eq_iff_iff]
  simp [shapeOk,fitsB,usedOk,used,cnt,numbered,quant]
  try generalize ws[0]?.getD 0=x0
  try generalize ws[1]?.getD 0=x1
  try generalize ws[2]?.getD 0=x2
  first|omega|(constructor<;>intro h<;>simp_all)
theorem node_split (l:List Nd) (i:Nat):nodeOk l i=(decide (1<=(nth l i).w/\(nth l i).w<=8)&&usedOk (nth l i)&&pahead (nth l i) i&&fitsB (nth l i) ((parts (nth l i)).map (width l))):=by
 simp only [nodeOk,shape_split,pahead]
 generalize decide (1<=(nth l i).w/\(nth l i).w<=8)=x
 generalize usedOk (nth l i)=y
 generalize (parts (nth l i)).all _=z
 generalize fitsB _ _=u
 cases x<;>cases y<;>cases z<;>cases u<;>rfl
end Pg5
namespace Pg6
open Go.RowKit
open Nd0 Tm0 Tm5 Pl1 Ap0 Pg1 Pg2 Pg3 Pg4 Pg5
open Ws1 (ret_int ret_bool)
open Go.Sort (grow)
open Lx1 (ITermOk)
abbrev av (n:Nd):Value:=.agg #[.int .i64 n.op,.int .i64 n.w,.int .i64 n.k,.int .i64 n.a,.int .i64 n.b,.int .i64 n.c]
theorem node_eql (o w k a b c k' a' b' c':Int) (W:World):(binOp .eql 44 (.agg #[.int .i64 o,.int .i64 w,.int .i64 k,.int .i64 a,.int .i64 b,.int .i64 c]) (.agg #[.int .i64 o,.int .i64 w,.int .i64 k',.int .i64 a',.int .i64 b',.int .i64 c'])).run Tryz.prog W=.ok (.bool (decide (k=k'/\a=a'/\b=b'/\c=c'))) W:=by
 by_cases e0:k=k'
 ·by_cases e1:a=a'
  ·by_cases e2:b=b'
   ·by_cases e3:c=c'
    ·subst e0 e1 e2 e3;go_simp
    ·subst e0 e1 e2;go_simp<;>simp [e3]
   ·subst e0 e1;go_simp<;>simp [e2]
  ·subst e0;go_simp<;>simp [e1]
 ·go_simp<;>simp [e0]
def rightB (l:List Nd) (n:Nd):Bool:=decide (1<=n.w/\n.w<=8)&&usedOk n&&pahead n l.length&&fitsB n ((parts n).map (width l))
theorem nth_take {l:List Nd} {k j:Nat} (hj:j < k):nth (l.take k) j=nth l j:=by
 unfold nth
 rw [List.getD_eq_getElem?_getD,List.getD_eq_getElem?_getD,List.getElem?_take,if_pos hj]
theorem nodes_take6 {w:World} {a:Option Addr} {L:List Nd} (h:Nodes w a L) {m:Nat} (hm:m<=L.length):Nodes w a (L.take m):=by
 have e:(L.take m).length=m:=by rw [List.length_take];omega
 refine ⟨by rw [e];have:=h.1;omega,?_⟩
 rcases h.2 with h0|⟨b,o,rfl,hc⟩
 ·left;omega
 ·refine .inr ⟨b,o,rfl,fun i hi=>?_⟩
  rw [List.getElem_take]
  exact hc i (by omega)
theorem right_take {l:List Nd} {k:Nat} (hk:k < l.length):rightB (l.take k) (nth l k)=nodeOk l k:=by
 rw [node_split l k]
 unfold rightB
 have e:(l.take k).length=k:=by rw [List.length_take];omega
 rw [e]
 cases hp:pahead (nth l k) k
 ·simp
 ·have hq:(parts (nth l k)).map (width (l.take k))=(parts (nth l k)).map (width l):=by
   apply List.map_congr_left
   intro p hp'
   unfold pahead at hp
   rw [List.all_eq_true] at hp
   have h9:=of_decide_eq_true (hp p hp')
   unfold width
   rw [nth_take (by omega)]
  rw [hq]
theorem box_cells (w:World) (n:Nd) (T:Nat) (W:World) (hW:W=w.alloc (.cells #[.int .i64 n.op,.int .i64 n.w,.int .i64 n.k,.int .i64 n.a,.int .i64 n.b,.int .i64 n.c] T)) :
 (∀ d os,(grow (redrawn W d) os).cell? ⟨w.heap.size,0,none⟩=some (.int .i64 n.op))/\(∀ d os,(grow (redrawn W d) os).cell? ⟨w.heap.size,1,none⟩=some (.int .i64 n.w))/\(∀ d os,(grow (redrawn W d) os).cell? ⟨w.heap.size,2,none⟩=some (.int .i64 n.k))/\(∀ d os,(grow (redrawn W d) os).cell? ⟨w.heap.size,3,none⟩=some (.int .i64 n.a))/\(∀ d os,(grow (redrawn W d) os).cell? ⟨w.heap.size,4,none⟩=some (.int .i64 n.b))/\(∀ d os,(grow (redrawn W d) os).cell? ⟨w.heap.size,5,none⟩=some (.int .i64 n.c)):=by
 subst hW
 refine ⟨?_,?_,?_,?_,?_,?_⟩<;>exact fun d os=>cell_regrown (by rw [World.cell?_alloc_new];rfl) d os
theorem iRight (w:World) (a:Option Addr) (l:List Nd) (c m:Nat) (hm:l.length=m) (n:Nd) (hN:Nodes w a l) (hl:l.length<=80) (hw:∀ j,j < l.length->1<=(nth l j).w/\(nth l j).w<=8) :
 Calls Tryz.prog 33 #[.slice a m c,.agg #[.int .i64 n.op,.int .i64 n.w,.int .i64 n.k,.int .i64 n.a,.int .i64 n.b,.int .i64 n.c]] w fun e w'=>e=.returned (.bool (rightB l n))/\Below w.heap.size w w':=by
 subst hm
 obtain ⟨W,hW⟩:∃ W:World,W=w.alloc (.cells #[.int .i64 n.op,.int .i64 n.w,.int .i64 n.k,.int .i64 n.a,.int .i64 n.b,.int .i64 n.c] 44):=⟨_,rfl⟩
 have HB0:Hid (Below w.heap.size w W):=by rw [hW];exact (Below.refl _ _).alloc (Nat.le_refl _) _
 obtain ⟨x0,x1,x2,x3,x4,x5⟩:=box_cells w n _ W hW
 have HQ1:Hid (∀ d os,Calls Tryz.prog 68 #[.int .i64 n.w] (grow (redrawn W d) os) fun e w''=>e=.returned (.bool (decide (1<=n.w/\n.w<=8)))/\∃ p:Regrown,w''=grow (redrawn W p.d) p.os):=fun d os=>Calls.regrown_of ((iWidthOk n.w _).mono (by rintro e w' ⟨rfl,rfl⟩;exact ⟨rfl,Below.refl _ _⟩))
 have HQ2:Hid (∀ d os,Calls Tryz.prog 69 #[av n] (grow (redrawn W d) os) fun e w''=>e=.returned (av (used n))/\∃ p:Regrown,w''=grow (redrawn W p.d) p.os):=fun d os=>Calls.regrown_of (iUsed n _)
 have HQ3:Hid (∀ d os,Calls Tryz.prog 70 #[av n,.int .i64 (l.length:Int)] (grow (redrawn W d) os) fun e w''=>e=.returned (.bool (pahead n l.length))/\∃ p:Regrown,w''=grow (redrawn W p.d) p.os):=fun d os=>Calls.regrown_of (iAhead n l.length _)
 have HQ4:Hid (decide (1<=n.w/\n.w<=8)=true->pahead n l.length=true->∀ d os,Calls Tryz.prog 71 #[.slice a l.length c,av n] (grow (redrawn W d) os) fun e w''=>e=.returned (.bool (fitsB n ((parts n).map (width l))))/\∃ p:Regrown,w''=grow (redrawn W p.d) p.os):=fun h1 h3 d os=>Calls.regrown_of (iFits _ a l c n l.length ((hN.below HB0.out).below (below_regrown W d os)) hl (Nat.le_refl _) h3 hw (of_decide_eq_true h1))
 have hE:∀ V:World,(binOp .eql 44 (.agg #[.int .i64 n.op,.int .i64 n.w,.int .i64 n.k,.int .i64 n.a,.int .i64 n.b,.int .i64 n.c]) (.agg #[.int .i64 (used n).op,.int .i64 (used n).w,.int .i64 (used n).k,.int .i64 (used n).a,.int .i64 (used n).b,.int .i64 (used n).c])).run Tryz.prog V=.ok (.bool (usedOk n)) V:=fun V=>by
  exact node_eql n.op n.w n.k n.a n.b n.c (used n).k (used n).a (used n).b (used n).c V
 have HSP:Hid (rightB l n=(decide (1<=n.w/\n.w<=8)&&usedOk n&&pahead n l.length&&fitsB n ((parts n).map (width l)))):=rfl
 have hbs:=HB0.out.size
 clear hN hw
 generalize decide (1<=n.w/\n.w<=8)=B1 at HQ1 HQ4 HSP
 generalize usedOk n=B2 at hE HSP
 generalize pahead n l.length=B3 at HQ3 HQ4 HSP
 generalize fitsB n ((parts n).map (width l))=B4 at HQ4 HSP
 generalize rightB l n=R at HSP ⊢
 generalize used n=u at HQ2 hE
 cases B1<;>cases B2<;>cases B3
 all_goals
  go_enter Tryz.func33,Tryz.ntmps33
  go_upto_region 1 with fail
  rw [<- hW]
  clear hW
  refine wp_region_quiet_below (by kernel_rfl) (by kernel_rfl) ?_
  iterate 21 (go_big_quiet_step ((first|(go_at_call 68;exact HQ1.out _ _)|(go_at_call 69;exact HQ2.out _ _)|(go_at_call 70;exact HQ3.out _ _)|(go_at_call 71;exact HQ4.out rfl rfl _ _))))
  refine wpQuiet_nil ?_
  intro w4 hw9
  have HB4:Hid (Below w.heap.size w w4):=by obtain ⟨pp,hw8⟩:=hw9;subst hw8;exact HB0.out.trans ((below_regrown W pp.d pp.os).mono hbs)
  clear hw9 x0 x1 x2 x3 x4 x5 hE HQ1 HQ2 HQ3 HQ4 HB0
  go_wp2
  go_ret
  exact ⟨by rw [HSP.out];rfl,HB4.out⟩
theorem iTermOk:ITermOk:=by
 intro w a l c hN hcap hlen
 have HN:Hid (Nodes w a l):=hN
 have HC:Hid (l.length<=c):=hcap
 clear hN hcap
 by_cases hl:1<=l.length/\l.length<=80
 ·obtain ⟨hl1,hl2⟩:=hl
  have g1:¬ (l.length:Int) < 1:=by omega
  have g2:¬ (80:Int) < (l.length:Int):=by omega
  go_enter Tryz.func15,Tryz.ntmps15
  go_wp2
  clear g1 g2
  go_loopw [15] (fun q wr=>∃ k:Nat,k<=l.length/\q=.int .i64 k/\Below w.heap.size w wr/\∀ j,j < k->nodeOk l j=true) (fun q _=>l.length - (intOf q).toNat)
  case atStart=>exact ⟨0,Nat.zero_le _,rfl,Below.refl _ _,fun j hj=>by omega⟩
  case round =>
   obtain ⟨k,hk,rfl,hb,hall⟩:=hrel
   have HB:Hid (Below w.heap.size w wr):=hb
   have HA:Hid (∀ j,j < k->nodeOk l j=true):=hall
   clear hb hall
   by_cases hlt:k < l.length
   ·have hlz:(k:Int) < (l.length:Int):=by omega
    have hcz:(k:Int)<=(c:Int):=by have:=HC.out;omega
    rcases (HN.out.below HB.out).2 with h0|⟨xb,xo,rfl,hc⟩
    ·omega
    have HNr:Hid (Nodes wr (some ⟨xb,xo,none⟩) l):=HN.out.below HB.out
    obtain ⟨p0,p1,p2,p3,p4,p5⟩:=hc k hlt
    rw [nth_get hlt] at p0 p1 p2 p3 p4 p5
    have HW:Hid (∀ j,j < (l.take k).length->1<=(nth (l.take k) j).w/\(nth (l.take k) j).w<=8):=fun j hj=>by
     rw [List.length_take] at hj
     rw [nth_take (by omega)]
     exact node_width (HA.out j (by omega))
    have HSP:Hid (rightB (l.take k) (nth l k)=nodeOk l k):=right_take hlt
    have HTK:Hid ((l.take k).length=k):=by show _=_;rw [List.length_take];omega
    clear hc
    generalize nth l k=n at p0 p1 p2 p3 p4 p5 HSP
    obtain ⟨W,hW⟩:∃ W:World,W=wr.alloc (.cells #[.int .i64 n.op,.int .i64 n.w,.int .i64 n.k,.int .i64 n.a,.int .i64 n.b,.int .i64 n.c] 44):=⟨_,rfl⟩
    have hbw:Below wr.heap.size wr W:=by rw [hW];exact (Below.refl _ _).alloc (Nat.le_refl _) _
    have HBW:Hid (Below w.heap.size w W):=HB.out.trans (hbw.mono HB.out.size)
    obtain ⟨x0,x1,x2,x3,x4,x5⟩:=box_cells wr n _ W hW
    have HQ1:Hid (∀ d os,Calls Tryz.prog 33 #[.slice (some ⟨xb,xo,none⟩) k c,av n] (grow (redrawn W d) os) fun e w''=>e=.returned (.bool (nodeOk l k))/\∃ p:Regrown,w''=grow (redrawn W p.d) p.os):=fun d os=>by
     have h9:=iRight (grow (redrawn W d) os) (some ⟨xb,xo,none⟩) (l.take k) c k HTK.out n (nodes_take6 ((HNr.out.below hbw).below (below_regrown W d os)) (by omega)) (by have:=HTK.out;omega) HW.out
     rw [HSP.out] at h9
     exact Calls.regrown_of h9
    have hbs:=HBW.out.size
    cases hd1:nodeOk l k
    all_goals
     rw [hd1] at HQ1
     go_upto_region 6 with fail
     rw [<- hW]
     clear hW p0 p1 p2 p3 p4 p5
     refine wp_region_quiet_below (by kernel_rfl) (by kernel_rfl) ?_
     iterate 6 (go_big_quiet_step ((go_at_call 33;exact HQ1.out _ _)))
     refine wpQuiet_nil ?_
     intro w4 hw9
     have HB4:Hid (Below w.heap.size w w4):=by obtain ⟨pp,hw8⟩:=hw9;subst hw8;exact HBW.out.trans ((below_regrown W pp.d pp.os).mono hbs)
     clear hw9 x0 x1 x2 x3 x4 x5 HQ1 hbw HBW
    ·have HNO:Hid (termOk l=false):=term_bad k hlt hd1
     clear hd1
     go_wp2
     go_ret
     exact ⟨ret_bool HNO.out.symm,HB4.out⟩
    ·have HOK:Hid (nodeOk l k=true):=hd1
     clear hd1
     go_wp2
     go_roundw
     case rel =>
      refine ⟨k+1,by omega,by go_num,HB4.out,fun j hj=>?_⟩
      by_cases e:j=k
      ·subst e;exact HOK.out
      ·exact HA.out j (by omega)
     case measure=>simp [intOf];omega
   ·have HT:Hid (termOk l=true):=term_good ⟨hl1,hl2⟩ (fun j hj=>HA.out j (by omega))
    go_wp2
    go_ret
    exact ⟨ret_bool HT.out.symm,HB.out⟩
 ·have HT:Hid (termOk l=false):=term_long hl
  by_cases hl1:l.length < 1
  ·have g1:(l.length:Int) < 1:=by omega
   go_enter Tryz.func15,Tryz.ntmps15
   go_wp2
   go_ret
   exact ⟨ret_bool HT.out.symm,Below.refl _ _⟩
  ·have g1:¬ (l.length:Int) < 1:=by omega
   have g2:(80:Int) < (l.length:Int):=by omega
   go_enter Tryz.func15,Tryz.ntmps15
   go_wp2
   go_ret
   exact ⟨ret_bool HT.out.symm,Below.refl _ _⟩
end Pg6
namespace Pg7
open Go.RowKit
open Nd0 Tm0 Tm1 Tm2 Ap0 Pg2 Rw0
open Lx1 (ITermOk)
open Lx2 (IReached)
open Ws1 (ret_int ret_bool)
theorem zeros:Tryz.zeroCells48=Array.replicate 80 (.bool false):=by kernel_rfl
theorem zeros_get (i:Nat) (h:i < 80):Tryz.zeroCells48[i]? = some (.bool false):=by
 rw [zeros,Array.getElem?_replicate,if_pos h]
theorem iReached (hTO:ITermOk) (w:World) (a:Option Addr) (l:List Nd) (c:Nat) (hN:Nodes w a l) (hcap:l.length<=c) (hlen:l.length<=1048576) :
 Calls Tryz.prog 85 #[.slice a l.length c] w fun e w'=>(∃ a' c',e=.returned (.slice a' (reachedL l).length c')/\WInts w' w.heap.size a' (reachedL l))/\Below w.heap.size w w':=by
 have HN:Hid (Nodes w a l):=hN
 have HTO:Hid ITermOk:=hTO
 have HCAP:Hid (l.length<=c):=hcap
 clear hcap hN hTO
 go_enter Tryz.func85,Tryz.ntmps85
 go_wp2_with fail
 refine (HTO.out _ a l c (HN.out.below ((Below.refl _ _).alloc (Nat.le_refl _) _)) HCAP.out hlen).mono ?_
 rintro e w1 ⟨rfl,hb1⟩
 have HB1:Hid (Below w.heap.size w w1):=((Below.refl _ _).alloc (Nat.le_refl _) _).trans (hb1.mono (by simp))
 have HL1:Hid (Ows w1 w.heap.size (.slice (some ⟨w.heap.size,0,none⟩) 0 0) []):=(Ows.lit w _ (Nat.le_refl _)).kept (S:=fun _=>False) (Kept.ofBelow hb1) (fun _ _ h=>h)
 clear hb1
 cases hT:termOk l
 ·go_wp2
  go_ret
  have e0:reachedL l=[]:=by unfold reachedL;rw [hT];rfl
  rw [e0]
  exact ⟨⟨_,_,rfl,Nat.zero_le _,.inl rfl⟩,HB1.out⟩
 ·have HT:Hid (termOk l=true):=hT
  obtain ⟨hl1,hl2⟩:=term_len hT
  have hz:=zeros_get (l.length - 1) (by omega)
  go_wp2
  clear hz hT
  have HR0:Hid (Row (w1.alloc (.cells (Tryz.zeroCells48.setIfInBounds (l.length - 1) (.bool true)) 48)) w1.heap.size l.length (fun i=>.bool (flag (reachInit l.length) i))):=by
   refine Row.new _ _ _ _ _ (fun i hi=>?_)
   rw [zeros,Array.getElem?_setIfInBounds,Array.getElem?_replicate]
   have e1:flag (reachInit l.length) i=(i+1==l.length):=by simp [flag,reachInit,List.getD,hi]
   by_cases e:l.length - 1=i
   ·rw [if_pos e,if_pos (by simp;omega),e1]
    have:(i+1==l.length)=true:=by simp;omega
    rw [this]
   ·rw [if_neg e,if_pos (by omega),e1]
    have:(i+1==l.length)=false:=by simp;omega
    rw [this]
  have HBA:Hid (Below w1.heap.size w1 (w1.alloc (.cells (Tryz.zeroCells48.setIfInBounds (l.length - 1) (.bool true)) 48))):=(Below.refl _ _).alloc (Nat.le_refl _) _
  obtain ⟨wa,hwa⟩:∃ wa:World,wa=w1.alloc (.cells (Tryz.zeroCells48.setIfInBounds (l.length - 1) (.bool true)) 48):=⟨_,rfl⟩
  rw [<- hwa] at HR0 HBA ⊢
  clear hwa
  obtain ⟨g,hg⟩:∃ g:Nat,g=w1.heap.size:=⟨_,rfl⟩
  rw [<- hg] at HR0 ⊢
  have HG:Hid (g=w1.heap.size):=hg
  clear hg
  go_loopw [5] (fun q wr=>∃ j:Nat,j<=l.length/\q=.int .i64 ((j:Int) - 1)/\∃ bs:List Bool,Row wr g l.length (fun i=>.bool (flag bs i))/\bs.length=l.length/\reachDown l j bs=reachL l/\Below w1.heap.size w1 wr) (fun q _=>(intOf q+1).toNat)
  case atStart=>exact ⟨l.length,Nat.le_refl _,rfl,_,HR0.out,reachInit_length _,rfl,HBA.out⟩
  case round =>
   clear HR0 HBA
   obtain ⟨j,hj,rfl,bs,hr,hbl,hrd,hbb⟩:=hrel
   have HRO:Hid (Row wr g l.length (fun i=>.bool (flag bs i))):=hr
   have HRD:Hid (reachDown l j bs=reachL l):=hrd
   have HBB:Hid (Below w1.heap.size w1 wr):=hbb
   have HBL:Hid (bs.length=l.length):=hbl
   clear hr hrd hbb hbl
   cases j with
   | zero =>
     have hneg:¬ (0:Int)<=((0:Nat):Int) - 1:=by omega
     have HRD0:Hid (bs=reachL l):=HRD.out
     have HRX:Hid (Row wr g l.length (fun i=>.bool (flag (reachL l) i))):=HRD0.out ▸ HRO.out
     have HL2:Hid (Ows wr w.heap.size (.slice (some ⟨w.heap.size,0,none⟩) 0 0) []):=HL1.out.kept (S:=fun _=>False) (Kept.ofBelow HBB.out) (fun _ _ h=>h)
     have HBW:Hid (Below w.heap.size w wr):=HB1.out.trans (HBB.out.mono HB1.out.size)
     obtain ⟨wz,rfl⟩:∃ wz:World,wz=wr:=⟨_,rfl⟩
     go_wp2
     go_loopw [3,43] (fun v q wr=>∃ k:Nat,k<=l.length/\q=.int .i64 k/\Ows wr w.heap.size v (reachTo l k)/\Below w.heap.size w wr/\Row wr g l.length (fun i=>.bool (flag (reachL l) i))/\(∀ x,v.ownBlock=some x->x≠g)) (fun _ q _=>l.length - (intOf q).toNat)
     case atStart =>
      refine ⟨0,Nat.zero_le _,rfl,HL2.out,HBW.out,HRX.out,fun x hx=>?_⟩
      have:=(HL1.out.lt x hx).2
      have:=HG.out
      omega
     case round =>
      clear HL2 HBW HRX
      obtain ⟨k,hk,rfl,ho,hb,hr,hne⟩:=hrel
      have HO:Hid (Ows wr w.heap.size u3 (reachTo l k)):=ho
      have HB:Hid (Below w.heap.size w wr):=hb
      have HR:Hid (Row wr g l.length (fun i=>.bool (flag (reachL l) i))):=hr
      have HNE:Hid (∀ x,u3.ownBlock=some x->x≠g):=hne
      have hBs:w.heap.size<=wr.heap.size:=hb.size
      have hrl:=reachTo_length l k
      clear hb hr hne
      by_cases hlt:k < l.length
      ·clear ho
       have hlz:(k:Int) < (l.length:Int):=by omega
       have hk80:(k:Int) < 80:=by omega
       have cI:wr.cell? ⟨g,k,none⟩=some (.bool (flag (reachL l) k)):=(HR.out k hlt).1
       have HTS:Hid (reachTo l (k+1)=if flag (reachL l) k then reachTo l k++[(k:Int)] else reachTo l k):=reachTo_succ l k
       cases hf:flag (reachL l) k
       ·rw [hf] at cI
        have HT2:Hid (reachTo l (k+1)=reachTo l k):=by
         show _=_
         rw [HTS.out,hf];rfl
        go_wp2
        go_roundw
        case rel=>exact ⟨k+1,by omega,by go_num,HT2.out.symm ▸ HO.out,HB.out,HR.out,HNE.out⟩
        case measure=>simp [intOf];omega
       ·rw [hf] at cI
        have HT2:Hid (reachTo l (k+1)=reachTo l k++[(k:Int)]):=by
         show _=_
         rw [HTS.out,hf];rfl
        go_wp2_with (at_builtin;go_must (refine app_int _ rfl _ _ rfl w.heap.size u3 (reachTo l k) (k:Int) rfl rfl HO.out hBs (by omega) ?_;intro g' cp w3 ho3 hk3 hg3))
        have HO3:Hid (Ows w3 w.heap.size (.slice (some ⟨g',0,none⟩) ((reachTo l k).length+1) cp) (reachTo l k++[(k:Int)])):=ho3
        have HK3:Hid (Kept (fun k=>u3.ownBlock=some k) wr w3):=hk3
        have HG3:Hid (u3.ownBlock=some g'\/wr.heap.size<=g'):=hg3
        clear ho3 hk3 hg3
        go_wp2
        go_roundw
        case rel =>
         refine ⟨k+1,by omega,by go_num,HT2.out.symm ▸ HO3.out,HB.out.trans (HK3.out.below (fun k hk=>(HO.out.lt k hk).1) hBs),HR.out.kept HK3.out (fun e=>HNE.out g e rfl),fun x hx=>?_⟩
         cases hx
         rcases HG3.out with e|e
         ·exact HNE.out _ e
         ·have:=HR.out.lt (by omega)
          show g'≠g
          omega
        case measure=>simp [intOf];omega
      ·have e2:k=l.length:=by omega
       subst e2
       obtain ⟨a9,c9,rfl,hw9⟩:=ho.form
       have HW9:Hid (WInts wr w.heap.size a9 (reachTo l l.length)):=hw9
       clear ho hw9 HO
       go_wp2
       go_ret
       have e0:reachedL l=reachTo l l.length:=by unfold reachedL;rw [HT.out];rfl
       rw [e0]
       exact ⟨⟨_,_,rfl,HW9.out⟩,HB.out⟩
   | succ i =>
     have hp:(0:Int)<=((i+1:Nat):Int) - 1:=by omega
     have hie:((i+1:Nat):Int) - 1=(i:Int):=by omega
     rw [hie]
     clear hie hp
     have hiz:(i:Int) < (l.length:Int):=by omega
     have hi80:(i:Int) < 80:=by omega
     have cI:wr.cell? ⟨g,i,none⟩=some (.bool (flag bs i)):=(HRO.out i (by omega)).1
     cases hfb:flag bs i
     ·rw [hfb] at cI
      have HST:Hid (reachDown l i bs=reachL l):=by
       show _=_
       rw [<- HRD.out]
       show _=reachDown l i (reachStep l bs i)
       unfold reachStep
       rw [hfb];rfl
      go_wp2
      go_roundw
      case rel=>exact ⟨i,by omega,by go_num,bs,HRO.out,HBL.out,HST.out,HBB.out⟩
      case measure=>simp [intOf]
     ·rw [hfb] at cI
      rcases ((HN.out.below HB1.out).below HBB.out).2 with h0|⟨xb,xo,rfl,hc⟩
      ·omega
      obtain ⟨p0,p1,p2,p3,p4,p5⟩:=hc i (by omega)
      rw [nth_get (by omega:i < l.length)] at p0 p1 p2 p3 p4 p5
      clear hc
      have HPO:=parts_ok (term_node HT.out (by omega:i < l.length))
      generalize hn:nth l i=n at p0 p1 p2 p3 p4 p5 HPO
      have HD:Hid (nth l i=n):=hn
      have HPO':Hid (∀ k (hk:k < (parts n).length),0<=(parts n)[k]/\(parts n)[k] < i):=HPO
      clear hn HPO
      obtain ⟨wb,rfl⟩:∃ wb:World,wb=wr:=⟨_,rfl⟩
      have hgb:g < wb.heap.size:=HRO.out.lt (by omega)
      go_wp2_with fail
      refine (iParts n _).mono ?_
      rintro e w2 ⟨⟨pa,pc,rfl,hpi⟩,hb2⟩
      have HP:Hid (IntsIn w2 wb.heap.size w2.heap.size pa (parts n)):=hpi.within
      have HRW:Hid (Row w2 g l.length (fun i=>.bool (flag bs i))):=HRO.out.below hb2
      have HB2:Hid (Below w1.heap.size w1 w2):=HBB.out.trans (hb2.mono HBB.out.size)
      clear hpi hb2 p0 p1 p2 p3 p4 p5 cI
      have hpl:=parts_le n
      go_wp2_with fail
      go_loopw [34] (fun q wr=>∃ k:Nat,k<=(parts n).length/\q=.int .i64 k/\∃ b3:List Bool,Row wr g l.length (fun i=>.bool (flag b3 i))/\b3.length=l.length/\markAll b3 ((parts n).drop k)=markAll bs (parts n)/\Kept (fun x=>x=g) w2 wr) (fun q _=>(parts n).length - (intOf q).toNat)
      case atStart=>exact ⟨0,Nat.zero_le _,rfl,bs,HRW.out,HBL.out,rfl,Kept.refl _ _⟩
      case round =>
       obtain ⟨k,hk,rfl,b3,hr3,hl3,hm3,hk3⟩:=hrel
       have HR3:Hid (Row wr g l.length (fun i=>.bool (flag b3 i))):=hr3
       have HL3:Hid (b3.length=l.length):=hl3
       have HM3:Hid (markAll b3 ((parts n).drop k)=markAll bs (parts n)):=hm3
       have HK3:Hid (Kept (fun x=>x=g) w2 wr):=hk3
       clear hr3 hl3 hm3 hk3
       by_cases hlt:k < (parts n).length
       ·have hlz:(k:Int) < ((parts n).length:Int):=by omega
        rcases (HP.out.kept HK3.out (fun b h1 h2 e=>by omega)).2 with h0|⟨pb,po,rfl,hpB,hpU,hpc⟩
        ·omega
        have q0:=(hpc k hlt).1
        obtain ⟨hx0,hx1⟩:=HPO'.out k hlt
        have HDR:Hid ((parts n).drop k=(parts n)[k] :: (parts n).drop (k+1)):=List.drop_eq_getElem_cons hlt
        clear hpc hpB hpU
        generalize (parts n)[k]=x at q0 hx0 hx1 HDR
        obtain ⟨jx,rfl⟩:=Int.eq_ofNat_of_zero_le hx0
        obtain ⟨c1,c2⟩:=HR3.out jx (by omega)
        have hxz:(jx:Int) < 80:=by omega
        go_wp2
        go_roundw
        case rel =>
         have hle:jx < b3.length:=by rw [HL3.out];omega
         refine ⟨k+1,by omega,by go_num,b3.set jx true,?_,by rw [List.length_set];exact HL3.out,?_,HK3.out.setCell rfl _⟩
         ·refine (HR3.out.set (by omega) _).congr (fun i hi=>?_)
          rw [flag_set hle]
          by_cases e:i=jx
          ·rw [if_pos e,if_pos e.symm]
          ·rw [if_neg e,if_neg (fun x=>e x.symm)]
         ·have h9:=HM3.out
          rw [HDR.out] at h9
          exact h9
        case measure=>simp [intOf];omega
       ·have HST:Hid (reachDown l i b3=reachL l):=by
         show _=_
         rw [<- HRD.out]
         show _=reachDown l i (reachStep l bs i)
         unfold reachStep
         rw [hfb,HD.out]
         have h9:=HM3.out
         rw [List.drop_of_length_le (by omega)] at h9
         exact congrArg _ h9
        go_wp2
        go_roundw
        case rel=>exact ⟨i,by omega,by go_num,b3,HR3.out,HL3.out,HST.out,HB2.out.trans (HK3.out.below (fun k hk=>by have:=HG.out;omega) HB2.out.size)⟩
        case measure=>simp [intOf]
end Pg7
end Go.Proofs.YthanhcobfehmnaaGreat
