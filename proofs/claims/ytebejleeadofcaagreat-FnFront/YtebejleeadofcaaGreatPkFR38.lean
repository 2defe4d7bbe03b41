import Derived.Test.YtebejleeadofcaaGreatRows
import Derived.Test.YtebejleeadofcaaGreatPv8
import Derived.Test.YtebejleeadofcaaGreatPkFR25
import Derived.Test.YtebejleeadofcaaGreatPkFR30
import Derived.Test.YtebejleeadofcaaGreatPkFR17
namespace Go.Proofs.YtebejleeadofcaaGreat
set_option maxRecDepth 100000
set_option maxHeartbeats 8000000
set_option linter.unusedVariables false
namespace Pv9
open Go.RowKit
open Nd0 Pl1 Tm0 Tm1 Tm5 Tm6 Tm8 Tr0 Rw0 Vl1 Vl2 Vm0 Vm1 Vm2 Kp1 Pv7
open Ws1 (ret_int ret_bool)
def PWork (l:List Nd) (i:Nat):Prop:=∀ (w:World) (s:Nat) (a:Option Addr) (c:Nat) (e:List Int) (K:Nat->Bool) (V:Nat->Int),Nodes w a l->(∀ x,a=some x->x.block≠s)->e.length=8->Sc w s a l c e K V->FitN l i e ->
 Calls Tryz.prog 81 #[.pointer (some ⟨s,0,none⟩),.agg #[.int .i64 (nth l i).op,.int .i64 (nth l i).w,.int .i64 (nth l i).k,.int .i64 (nth l i).a,.int .i64 (nth l i).b,.int .i64 (nth l i).c]] w fun x w'=>x=.returned (.int .i64 (vT (tr l i) e))/\(∃ K' V',Sc w' s a l c e K' V')/\Kept (fun b=>b=s) w w'
theorem Sc.learn {w:World} {s:Nat} {a:Option Addr} {l:List Nd} {c:Nat} {e:List Int} {K:Nat->Bool} {V:Nat->Int} (h:Sc w s a l c e K V) {i:Nat} (hi:i < 80) {x:Int} (hx:x=vT (tr l i) e) :
 Sc ((w.setCell ⟨s,89+i,none⟩ (.int .i64 x)).setCell ⟨s,9+i,none⟩ (.bool true)) s a l c e (fun j=>if j=i then true else K j) (fun j=>if j=i then x else V j):=by
 refine ⟨?_,fun j hj=>?_,fun j hj=>?_,fun j hj=>?_,fun j hj hk=>?_⟩
 ·rw [set_other (fun e=>by have:=congrArg Addr.off e;simp at this<;>omega),set_other (fun e=>by have:=congrArg Addr.off e;simp at this<;>omega)];exact h.c0
 ·rw [set_other (fun e=>by have:=congrArg Addr.off e;simp at this<;>omega),set_other (fun e=>by have:=congrArg Addr.off e;simp at this<;>omega)];exact h.cv j hj
 ·rw [World.frozen?_setCell,World.frozen?_setCell]
  by_cases e1:j=i
  ·subst e1
   refine ⟨?_,(h.ck j hj).2⟩
   rw [if_pos rfl]
   exact set_same (u:=.bool (K j)) (by rw [set_other (fun e=>by have:=congrArg Addr.off e;simp at this<;>omega)];exact (h.ck j hj).1)
  ·rw [if_neg e1,set_other (fun e=>by have:=congrArg Addr.off e;simp at this<;>omega),set_other (fun e=>by have:=congrArg Addr.off e;simp at this<;>omega)];exact h.ck j hj
 ·rw [World.frozen?_setCell,World.frozen?_setCell]
  by_cases e1:j=i
  ·subst e1
   refine ⟨?_,(h.cw j hj).2⟩
   rw [if_pos rfl,set_other (fun e=>by have:=congrArg Addr.off e;simp at this<;>omega)]
   exact set_same (h.cw j hj).1
  ·rw [if_neg e1,set_other (fun e=>by have:=congrArg Addr.off e;simp at this<;>omega),set_other (fun e=>by have:=congrArg Addr.off e;simp at this<;>omega)];exact h.cw j hj
 ·by_cases e1:j=i
  ·subst e1
   rw [if_pos rfl];exact hx
  ·rw [if_neg e1] at hk ⊢;exact h.ok j hj hk
theorem held7 {w w4:World} {s xb xo i c:Nat} {l:List Nd} {n:Nd} (hK:Kept (fun b=>b=s) w w4) (hxs:¬ xb=s) (h0:w4.cell? ⟨s,0,none⟩=some (.slice (some ⟨xb,xo,none⟩) l.length c)) (hn:NodeAt w xb (xo+i*6) n):w4.cell? ⟨s,0,none⟩=some (.slice (some ⟨xb,xo,none⟩) l.length c)/\w4.cell? ⟨xb,xo+i*6,none⟩=some (.int .i64 n.op)/\w4.cell? ⟨xb,xo+i*6+1,none⟩=some (.int .i64 n.w)/\w4.cell? ⟨xb,xo+i*6+2,none⟩=some (.int .i64 n.k)/\w4.cell? ⟨xb,xo+i*6+3,none⟩=some (.int .i64 n.a)/\w4.cell? ⟨xb,xo+i*6+4,none⟩=some (.int .i64 n.b)/\w4.cell? ⟨xb,xo+i*6+5,none⟩=some (.int .i64 n.c):=by
 have hl:=hn.lt
 obtain ⟨p0,p1,p2,p3,p4,p5⟩:=hn
 exact ⟨h0,(hK.cell (p:=⟨xb,xo+i*6,none⟩) hl hxs).trans p0,(hK.cell (p:=⟨xb,xo+i*6+1,none⟩) hl hxs).trans p1,(hK.cell (p:=⟨xb,xo+i*6+2,none⟩) hl hxs).trans p2,(hK.cell (p:=⟨xb,xo+i*6+3,none⟩) hl hxs).trans p3,(hK.cell (p:=⟨xb,xo+i*6+4,none⟩) hl hxs).trans p4,(hK.cell (p:=⟨xb,xo+i*6+5,none⟩) hl hxs).trans p5⟩
theorem held7s {w4:World} {s xb xo i c:Nat} {l:List Nd} {n:Nd} (hxs:¬ xb=s) (x:Value) (h:w4.cell? ⟨s,0,none⟩=some (.slice (some ⟨xb,xo,none⟩) l.length c)/\w4.cell? ⟨xb,xo+i*6,none⟩=some (.int .i64 n.op)/\w4.cell? ⟨xb,xo+i*6+1,none⟩=some (.int .i64 n.w)/\w4.cell? ⟨xb,xo+i*6+2,none⟩=some (.int .i64 n.k)/\w4.cell? ⟨xb,xo+i*6+3,none⟩=some (.int .i64 n.a)/\w4.cell? ⟨xb,xo+i*6+4,none⟩=some (.int .i64 n.b)/\w4.cell? ⟨xb,xo+i*6+5,none⟩=some (.int .i64 n.c)):(w4.setCell ⟨s,89+i,none⟩ x).cell? ⟨s,0,none⟩=some (.slice (some ⟨xb,xo,none⟩) l.length c)/\(w4.setCell ⟨s,89+i,none⟩ x).cell? ⟨xb,xo+i*6,none⟩=some (.int .i64 n.op)/\(w4.setCell ⟨s,89+i,none⟩ x).cell? ⟨xb,xo+i*6+1,none⟩=some (.int .i64 n.w)/\(w4.setCell ⟨s,89+i,none⟩ x).cell? ⟨xb,xo+i*6+2,none⟩=some (.int .i64 n.k)/\(w4.setCell ⟨s,89+i,none⟩ x).cell? ⟨xb,xo+i*6+3,none⟩=some (.int .i64 n.a)/\(w4.setCell ⟨s,89+i,none⟩ x).cell? ⟨xb,xo+i*6+4,none⟩=some (.int .i64 n.b)/\(w4.setCell ⟨s,89+i,none⟩ x).cell? ⟨xb,xo+i*6+5,none⟩=some (.int .i64 n.c):=by
 obtain ⟨y0,y1,y2,y3,y4,y5,y6⟩:=h
 exact ⟨(set_other (fun e=>by have:=congrArg Addr.off e;simp at this<;>omega)).trans y0,(set_other (fun e=>hxs (congrArg Addr.block e).symm)).trans y1,(set_other (fun e=>hxs (congrArg Addr.block e).symm)).trans y2,(set_other (fun e=>hxs (congrArg Addr.block e).symm)).trans y3,(set_other (fun e=>hxs (congrArg Addr.block e).symm)).trans y4,(set_other (fun e=>hxs (congrArg Addr.block e).symm)).trans y5,(set_other (fun e=>hxs (congrArg Addr.block e).symm)).trans y6⟩
theorem value_of {l:List Nd} {i:Nat} (hi:i < l.length) (h80:l.length<=80) (ih:PWork l i):PVal l i:=by
 intro w s a c e K V hN hag he hS hF
 obtain ⟨k1,k2⟩:=hS.ck i (by omega)
 obtain ⟨w1,w2⟩:=hS.cw i (by omega)
 have hiz:(i:Int) < 80:=by omega
 have hil:(i:Int) < (l.length:Int):=by omega
 have HS:Hid (Sc w s a l c e K V):=hS
 cases hk:K i
 ·rw [hk] at k1
  rcases hN.2 with h0|⟨xb,xo,rfl,hc⟩
  ·omega
  obtain ⟨p0,p1,p2,p3,p4,p5⟩:=hc i hi
  rw [nth_get hi] at p0 p1 p2 p3 p4 p5
  have hxs:¬ xb=s:=hag _ rfl
  have hcall:=ih w.drew s _ c e K V (hN.kept (Kept.refl (fun _=>False) w).drew (fun _ _ h=>h)) hag he (hS.kept (S:=fun _=>False) (Kept.refl _ _).drew (fun h=>h)) hF
  have hSS:w.cell? ⟨s,0,none⟩=some (.slice (some ⟨xb,xo,none⟩) l.length c)/\NodeAt w xb (xo+i*6) (nth l i):=⟨hS.c0,p0,p1,p2,p3,p4,p5⟩
  have hxl:xb < w.heap.size:=lt_of_cell p0
  have HCALL:Hid (Calls Tryz.prog 81 #[.pointer (some ⟨s,0,none⟩),.agg #[.int .i64 (nth l i).op,.int .i64 (nth l i).w,.int .i64 (nth l i).k,.int .i64 (nth l i).a,.int .i64 (nth l i).b,.int .i64 (nth l i).c]] w.drew fun x w'=>x=.returned (.int .i64 (vT (tr l i) e))/\(∃ K' V',Sc w' s (some ⟨xb,xo,none⟩) l c e K' V')/\Kept (fun b=>b=s) w.drew w'):=hcall
  generalize hn:nth l i=n at p0 p1 p2 p3 p4 p5 HCALL
  have c0:=hS.c0
  clear hcall hSS hc hN hn hS
  go_enter Tryz.func62,Tryz.ntmps62
  go_wp2
  have HNA:Hid (NodeAt w xb (xo+i*6) n):=⟨p0,p1,p2,p3,p4,p5⟩
  have HXS:Hid (¬ xb=s):=hxs
  go_region_held (fun w'=>w'.cell? ⟨s,0,none⟩=some (.slice (some ⟨xb,xo,none⟩) l.length c)/\w'.cell? ⟨xb,xo+i*6,none⟩=some (.int .i64 n.op)/\w'.cell? ⟨xb,xo+i*6+1,none⟩=some (.int .i64 n.w)/\w'.cell? ⟨xb,xo+i*6+2,none⟩=some (.int .i64 n.k)/\w'.cell? ⟨xb,xo+i*6+3,none⟩=some (.int .i64 n.a)/\w'.cell? ⟨xb,xo+i*6+4,none⟩=some (.int .i64 n.b)/\w'.cell? ⟨xb,xo+i*6+5,none⟩=some (.int .i64 n.c)) ((first|exact ⟨c0,p0,p1,p2,p3,p4,p5⟩|exact HST1.out|exact held7s HXS.out _ HST1.out)) ((go_at_call 81;refine HCALL.out.mono ?_;rintro x0 w4 ⟨rfl,⟨K',V',hS4⟩,hK4⟩;have u1:=(hS4.cw i (by omega)).1;have u2:=(hS4.cw i (by omega)).2;have HK4:Hid (Kept (fun b=>b=s) w w4):=(Kept.refl (fun b=>b=s) w).drew.trans hK4;have HST1:Hid (w4.cell? ⟨s,0,none⟩=some (.slice (some ⟨xb,xo,none⟩) l.length c)/\w4.cell? ⟨xb,xo+i*6,none⟩=some (.int .i64 n.op)/\w4.cell? ⟨xb,xo+i*6+1,none⟩=some (.int .i64 n.w)/\w4.cell? ⟨xb,xo+i*6+2,none⟩=some (.int .i64 n.k)/\w4.cell? ⟨xb,xo+i*6+3,none⟩=some (.int .i64 n.a)/\w4.cell? ⟨xb,xo+i*6+4,none⟩=some (.int .i64 n.b)/\w4.cell? ⟨xb,xo+i*6+5,none⟩=some (.int .i64 n.c)):=held7 HK4.out HXS.out hS4.c0 HNA.out;have HS4:Hid (Sc w4 s (some ⟨xb,xo,none⟩) l c e K' V'):=hS4;clear hS4 hK4))
  obtain ⟨z1,z2⟩:=HS4.out.ck i (by omega)
  obtain ⟨x,hx⟩:∃ x:Int,x=vT (tr l i) e:=⟨_,rfl⟩
  rw [<- hx]
  have HX:Hid (x=vT (tr l i) e):=hx
  have x1:(w4.setCell ⟨s,89+i,none⟩ (.int .i64 x)).cell? ⟨s,9+i,none⟩=some (.bool (K' i)):=(set_other (fun e=>by have:=congrArg Addr.off e;simp at this<;>omega)).trans z1
  have x2:(w4.setCell ⟨s,89+i,none⟩ (.int .i64 x)).frozen? ⟨s,9+i,none⟩=false:=by rw [World.frozen?_setCell];exact z2
  have x3:((w4.setCell ⟨s,89+i,none⟩ (.int .i64 x)).setCell ⟨s,9+i,none⟩ (.bool true)).cell? ⟨s,89+i,none⟩=some (.int .i64 x):=(set_other (fun e=>by have:=congrArg Addr.off e;simp at this<;>omega)).trans (set_same u1)
  have HW6:Hid (Sc ((w4.setCell ⟨s,89+i,none⟩ (.int .i64 x)).setCell ⟨s,9+i,none⟩ (.bool true)) s (some ⟨xb,xo,none⟩) l c e (fun j=>if j=i then true else K' j) (fun j=>if j=i then x else V' j)):=Sc.learn HS4.out (by omega) hx
  have HK6:Hid (Kept (fun b=>b=s) w ((w4.setCell ⟨s,89+i,none⟩ (.int .i64 x)).setCell ⟨s,9+i,none⟩ (.bool true))):=(HK4.out.setCell (p:=⟨s,89+i,none⟩) rfl _).setCell (p:=⟨s,9+i,none⟩) rfl _
  generalize w4.setCell ⟨s,89+i,none⟩ (.int .i64 x)=W5 at x1 x2 x3 HW6 HK6 ⊢
  clear hx z1 z2 u1 u2
  go_wp2
  go_ret
  exact ⟨ret_int HX.out,⟨_,_,HW6.out⟩,HK6.out⟩
 ·rw [hk] at k1
  have HV:Hid (V i=vT (tr l i) e):=hS.ok i hi hk
  clear hS hN
  go_enter Tryz.func62,Tryz.ntmps62
  go_wp2
  go_ret
  exact ⟨ret_int HV.out,⟨K,V,HS.out⟩,Kept.refl _ _⟩
end Pv9
namespace Pv10
open Go.RowKit
open Nd0 Pl1 Tm0 Tm1 Tm5 Tm6 Tm8 Tr0 Rw0 Vl1 Vl2 Vm0 Vm1 Vm2 Kp1 Pv7 Pv9
open Ws1 (ret_int ret_bool)
open Wd4 (iOne)
theorem work_var {l:List Nd} (hT:termOk l=true) {i:Nat} (hi:i < l.length) (h1:(nth l i).op=1):PWork l i:=by
 intro w s a c e K V hN hag he hS hF
 have HV:Hid (vT (tr l i) e=wd e (nth l i).k):=vT_var (down_of hT) hi e h1
 have hkk:=shape_var (term_node hT hi) (.inl h1)
 generalize nth l i=n at h1 hkk HV ⊢
 obtain ⟨nop,nw,nk,na,nb,nc⟩:=n
 simp only at h1 hkk HV ⊢
 subst h1
 obtain ⟨v,rfl⟩:∃ v:Nat,nk=(v:Int):=⟨nk.toNat,by omega⟩
 have hv8:v < 8:=by omega
 have hvz:(v:Int) < 8:=by omega
 have hsl:=hS.lt
 obtain ⟨w1,hw1⟩:∃ w1:World,w1=w.alloc (.cells #[.int .i64 1,.int .i64 nw,.int .i64 (v:Int),.int .i64 na,.int .i64 nb,.int .i64 nc] 58):=⟨_,rfl⟩
 have hB1:Below w.heap.size w w1:=by rw [hw1];exact (Below.refl _ _).alloc (Nat.le_refl _) _
 have HA1:NodeAt w1 w.heap.size 0 ⟨1,nw,v,na,nb,nc⟩:=by
  rw [hw1]
  exact Dw4.node_new w ⟨1,nw,v,na,nb,nc⟩ _ _ rfl 0 (by simp)
 have p2:=HA1.c2
 have k1:w1.cell? ⟨s,1+v,none⟩=some (.int .i64 (wd e (v:Int))):=(hB1.cell (p:=⟨s,1+v,none⟩) hsl).trans (hS.cv v hv8)
 have HS1:Hid (Sc w1 s a l c e K V):=hS.kept (S:=fun _=>False) (Kept.ofBelow hB1) (fun h=>h)
 have HK1:Hid (Kept (fun b=>b=s) w w1):=Kept.ofBelow hB1
 clear hS hN hB1 HA1
 go_enter Tryz.func81,Tryz.ntmps81
 go_wp2
 rw [<- hw1]
 clear hw1
 go_region_held (fun w'=>w'.cell? ⟨w.heap.size,2,none⟩=some (.int .i64 (v:Int))/\w'.cell? ⟨s,1+v,none⟩=some (.int .i64 (wd e (v:Int)))) (exact ⟨p2,k1⟩) (fail)
 go_wp2
 go_ret
 exact ⟨ret_int HV.out.symm,⟨K,V,HS1.out.kept (S:=fun _=>False) (Kept.refl _ _).drew (fun h=>h)⟩,HK1.out.drew⟩
theorem work_quant {l:List Nd} (hT:termOk l=true) {i:Nat} (hi:i < l.length) (hq:quant (nth l i).op=true) (ih:PCome l i):PWork l i:=by
 intro w s a c e K V hN hag he hS hF
 have HV:Hid (vT (tr l i) e=if (nth l i).op=19 then (if (!hitB l e (nth l i) 0) then 1 else 0) else (if hitB l e (nth l i) 1 then 1 else 0)):=vT_hit hT hi he hF hq
 have hq2:(nth l i).op=19\/(nth l i).op=20:=by simpa [quant] using hq
 have hB:∀ o:Obj,Below w.heap.size w (w.alloc o):=fun o=>(Below.refl _ _).alloc (Nat.le_refl _) _
 have hcall:∀ x (o:Obj),_:=fun x o=>ih (w.alloc o) s a c e K V x (hN.below (hB o)) hag he (hS.kept (S:=fun _=>False) (Kept.ofBelow (hB o)) (fun h=>h)) hF
 have HCALL:Hid (∀ (x:Int) (o:Obj),Calls Tryz.prog 89 #[.pointer (some ⟨s,0,none⟩),.int .i64 x,.agg #[.int .i64 (nth l i).op,.int .i64 (nth l i).w,.int .i64 (nth l i).k,.int .i64 (nth l i).a,.int .i64 (nth l i).b,.int .i64 (nth l i).c]] (w.alloc o) fun r w'=>r=.returned (.bool (hitB l e (nth l i) x))/\Below (w.alloc o).heap.size (w.alloc o) w'):=hcall
 have HS:Hid (Sc w s a l c e K V):=hS
 generalize nth l i=n at hq2 HV HCALL ⊢
 clear hcall hS hN hB ih
 rcases hq2 with h19|h20
 ·have HV2:Hid (vT (tr l i) e=if (!hitB l e n 0) then 1 else 0):=by
   show _=_
   rw [HV.out,if_pos h19]
  have HC:Hid (∀ o:Obj,Calls Tryz.prog 89 #[.pointer (some ⟨s,0,none⟩),.int .i64 0,.agg #[.int .i64 n.op,.int .i64 n.w,.int .i64 n.k,.int .i64 n.a,.int .i64 n.b,.int .i64 n.c]] (w.alloc o) fun r w'=>r=.returned (.bool (hitB l e n 0))/\Below (w.alloc o).heap.size (w.alloc o) w'):=HCALL.out 0
  have h1:(n.op==1)=false:=by simp;omega
  have h9:(n.op==19)=true:=by simp;omega
  clear h19 HCALL HV
  generalize hitB l e n 0=hb at HV2 HC
  have HBA:Hid (∀ o:Obj,Below w.heap.size w (w.alloc o)):=fun o=>(Below.refl _ _).alloc (Nat.le_refl _) _
  cases hb
  all_goals
   go_enter Tryz.func81,Tryz.ntmps81
   go_wp2_with (first|(go_at_call 89;refine (HC.out _).mono ?_;rintro e0 w4 ⟨rfl,hb4⟩;have HB4:Hid (Below w.heap.size w w4):=(HBA.out _).trans (hb4.mono (by simp));clear hb4)|(go_at_call 37;refine (iOne _ _).mono ?_;rintro e0 w4 ⟨rfl,rfl⟩))
   go_ret
   exact ⟨ret_int HV2.out.symm,⟨K,V,HS.out.kept (S:=fun _=>False) (Kept.ofBelow HB4.out) (fun h=>h)⟩,Kept.ofBelow HB4.out⟩
 ·have HV2:Hid (vT (tr l i) e=if hitB l e n 1 then 1 else 0):=by
   show _=_
   rw [HV.out,if_neg (by omega)]
  have HC:Hid (∀ o:Obj,Calls Tryz.prog 89 #[.pointer (some ⟨s,0,none⟩),.int .i64 1,.agg #[.int .i64 n.op,.int .i64 n.w,.int .i64 n.k,.int .i64 n.a,.int .i64 n.b,.int .i64 n.c]] (w.alloc o) fun r w'=>r=.returned (.bool (hitB l e n 1))/\Below (w.alloc o).heap.size (w.alloc o) w'):=HCALL.out 1
  have h1:(n.op==1)=false:=by simp;omega
  have h9:(n.op==19)=false:=by simp;omega
  have h8:(n.op==20)=true:=by simp;omega
  clear h20 HCALL HV
  generalize hitB l e n 1=hb at HV2 HC
  have HBA:Hid (∀ o:Obj,Below w.heap.size w (w.alloc o)):=fun o=>(Below.refl _ _).alloc (Nat.le_refl _) _
  cases hb
  all_goals
   go_enter Tryz.func81,Tryz.ntmps81
   go_wp2_with (first|(go_at_call 89;refine (HC.out _).mono ?_;rintro e0 w4 ⟨rfl,hb4⟩;have HB4:Hid (Below w.heap.size w w4):=(HBA.out _).trans (hb4.mono (by simp));clear hb4)|(go_at_call 37;refine (iOne _ _).mono ?_;rintro e0 w4 ⟨rfl,rfl⟩))
   go_ret
   exact ⟨ret_int HV2.out.symm,⟨K,V,HS.out.kept (S:=fun _=>False) (Kept.ofBelow HB4.out) (fun h=>h)⟩,Kept.ofBelow HB4.out⟩
end Pv10
namespace Ic4
open Go.RowKit
open Nd0 Nd3 Tm0 Vl1 Vl4 Vl5
def IApply:Prop:=∀ (n:Nd) (W a b c:Int) (w:World),(Lit.int .i64 n.k).wf=true ->
 Calls Tryz.prog 90 #[.agg #[.int .i64 n.op,.int .i64 n.w,.int .i64 n.k,.int .i64 n.a,.int .i64 n.b,.int .i64 n.c],.int .i64 W,.int .i64 a,.int .i64 b,.int .i64 c] w fun e w'=>e=.returned (.int .i64 (applyL n.op n.w n.k W a b c))/\Below w.heap.size w w'
def IValue:Prop:=∀ (w:World) (a ae:Option Addr) (l:List Nd) (e:List Int) (c ce:Nat),Nodes w a l->l.length<=c->l.length<=1048576->Ints w ae e->e.length<=ce ->
 Calls Tryz.prog 36 #[.slice a l.length c,.slice ae e.length ce] w fun x w'=>x=.returned (.tuple #[.int .i64 ((valueL l e).getD 0),.bool (valueL l e).isSome])/\Below w.heap.size w w'
def IHolds:Prop:=∀ (w:World) (a:Option Addr) (l:List Nd) (c:Nat),Nodes w a l->l.length<=c->l.length<=1048576 ->
 Calls Tryz.prog 15 #[.slice a l.length c] w fun x w'=>x=.returned (.tuple #[.int .i64 ((holdsL l).getD 0),.bool (holdsL l).isSome])/\Below w.heap.size w w'
end Ic4
end Go.Proofs.YtebejleeadofcaaGreat
