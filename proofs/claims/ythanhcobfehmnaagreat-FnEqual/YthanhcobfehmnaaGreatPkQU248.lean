import Derived.Test.YthanhcobfehmnaaGreatPv8
namespace Go.Proofs.YthanhcobfehmnaaGreat
set_option maxRecDepth 100000
set_option maxHeartbeats 8000000
set_option linter.unusedVariables false
namespace Pv9
open Go.RowKit
open Nd0 Pl1 Tm0 Tm1 Tm5 Tm6 Tm8 Tr0 Rw0 Vl1 Vl2 Vm0 Vm1 Vm2 Kp1 Pv7
open Ws1 (ret_int ret_bool)
def PWork (l:List Nd) (i:Nat):Prop:=∀ (w:World) (s:Nat) (a:Option Addr) (c:Nat) (e:List Int) (K:Nat->Bool) (V:Nat->Int),Nodes w a l->(∀ x,a=some x->x.block≠s)->e.length=8->Sc w s a l c e K V->FitN l i e ->
 Calls Tryz.prog 48 #[.pointer (some ⟨s,0,none⟩),.agg #[.int .i64 (nth l i).op,.int .i64 (nth l i).w,.int .i64 (nth l i).k,.int .i64 (nth l i).a,.int .i64 (nth l i).b,.int .i64 (nth l i).c]] w fun x w'=>x=.returned (.int .i64 (vT (tr l i) e))/\(∃ K' V',Sc w' s a l c e K' V')/\Kept (fun b=>b=s) w w'
theorem Sc.learn {w:World} {s:Nat} {a:Option Addr} {l:List Nd} {c:Nat} {e:List Int} {K:Nat->Bool} {V:Nat->Int} (h:Sc w s a l c e K V) {i:Nat} (hi:i < 80) {x:Int} (hx:x=vT (tr l i) e) :
 Sc ((w.setCell ⟨s,89+i,none⟩ (.int .i64 x)).setCell ⟨s,9+i,none⟩ (.bool true)) s a l c e (fun j=>if j=i then true else K j) (fun j=>if j=i then x else V j):=by
 refine ⟨?_,fun j hj=>?_,fun j hj=>?_,fun j hj=>?_,fun j hj hk=>?_⟩
 ·rw [set_other (fun e=>by have:=congrArg Addr.off e;simp at this<;>omega),set_other (fun e=>by have:=congrArg Addr.off e;simp at this<;>omega)];exact h.c0
 ·rw [set_other (fun e=>by have:=congrArg Addr.off e;simp at this<;>omega),set_other (fun e=>by have:=congrArg Addr.off e;simp at this<;>omega)];exact h.cv j hj
 ·rw [World.frozen?_setCell,World.frozen?_setCell]
  by_cases e1:j=i
  ·subst e1
   refine ⟨?_,(h.ck j hj).2⟩
   rw [if_pos rfl]
   exact set_same (u:=.bool (K j)) (by rw [set_other (fun e=>by have:=congrArg Addr.off e;simp at this<;>omega)];exact (h.ck j hj).1)
  ·rw [if_neg e1,set_other (fun e=>by have:=congrArg Addr.off e;simp at this<;>omega),set_other (fun e=>by have:=congrArg Addr.off e;simp at this<;>omega)];exact h.ck j hj
 ·rw [World.frozen?_setCell,World.frozen?_setCell]
  by_cases e1:j=i
  ·subst e1
   refine ⟨?_,(h.cw j hj).2⟩
   rw [if_pos rfl,set_other (fun e=>by have:=congrArg Addr.off e;simp at this<;>omega)]
   exact set_same (h.cw j hj).1
  ·rw [if_neg e1,set_other (fun e=>by have:=congrArg Addr.off e;simp at this<;>omega),set_other (fun e=>by have:=congrArg Addr.off e;simp at this<;>omega)];exact h.cw j hj
 ·by_cases e1:j=i
  ·subst e1
   rw [if_pos rfl];exact hx
  ·rw [if_neg e1] at hk ⊢;exact h.ok j hj hk
theorem held7 {w w4:World} {s xb xo i c:Nat} {l:List Nd} {n:Nd} (hK:Kept (fun b=>b=s) w w4) (hxs:¬ xb=s) (h0:w4.cell? ⟨s,0,none⟩=some (.slice (some ⟨xb,xo,none⟩) l.length c)) (hn:NodeAt w xb (xo+i*6) n):w4.cell? ⟨s,0,none⟩=some (.slice (some ⟨xb,xo,none⟩) l.length c)/\w4.cell? ⟨xb,xo+i*6,none⟩=some (.int .i64 n.op)/\w4.cell? ⟨xb,xo+i*6+1,none⟩=some (.int .i64 n.w)/\w4.cell? ⟨xb,xo+i*6+2,none⟩=some (.int .i64 n.k)/\w4.cell? ⟨xb,xo+i*6+3,none⟩=some (.int .i64 n.a)/\w4.cell? ⟨xb,xo+i*6+4,none⟩=some (.int .i64 n.b)/\w4.cell? ⟨xb,xo+i*6+5,none⟩=some (.int .i64 n.c):=by
 have hl:=hn.lt
 obtain ⟨p0,p1,p2,p3,p4,p5⟩:=hn
 exact ⟨h0,(hK.cell (p:=⟨xb,xo+i*6,none⟩) hl hxs).trans p0,(hK.cell (p:=⟨xb,xo+i*6+1,none⟩) hl hxs).trans p1,(hK.cell (p:=⟨xb,xo+i*6+2,none⟩) hl hxs).trans p2,(hK.cell (p:=⟨xb,xo+i*6+3,none⟩) hl hxs).trans p3,(hK.cell (p:=⟨xb,xo+i*6+4,none⟩) hl hxs).trans p4,(hK.cell (p:=⟨xb,xo+i*6+5,none⟩) hl hxs).trans p5⟩
theorem held7s {w4:World} {s xb xo i c:Nat} {l:List Nd} {n:Nd} (hxs:¬ xb=s) (x:Value) (h:w4.cell? ⟨s,0,none⟩=some (.slice (some ⟨xb,xo,none⟩) l.length c)/\w4.cell? ⟨xb,xo+i*6,none⟩=some (.int .i64 n.op)/\w4.cell? ⟨xb,xo+i*6+1,none⟩=some (.int .i64 n.w)/\w4.cell? ⟨xb,xo+i*6+2,none⟩=some (.int .i64 n.k)/\w4.cell? ⟨xb,xo+i*6+3,none⟩=some (.int .i64 n.a)/\w4.cell? ⟨xb,xo+i*6+4,none⟩=some (.int .i64 n.b)/\w4.cell? ⟨xb,xo+i*6+5,none⟩=some (.int .i64 n.c)):(w4.setCell ⟨s,89+i,none⟩ x).cell? ⟨s,0,none⟩=some (.slice (some ⟨xb,xo,none⟩) l.length c)/\(w4.setCell ⟨s,89+i,none⟩ x).cell? ⟨xb,xo+i*6,none⟩=some (.int .i64 n.op)/\(w4.setCell ⟨s,89+i,none⟩ x).cell? ⟨xb,xo+i*6+1,none⟩=some (.int .i64 n.w)/\(w4.setCell ⟨s,89+i,none⟩ x).cell? ⟨xb,xo+i*6+2,none⟩=some (.int .i64 n.k)/\(w4.setCell ⟨s,89+i,none⟩ x).cell? ⟨xb,xo+i*6+3,none⟩=some (.int .i64 n.a)/\(w4.setCell ⟨s,89+i,none⟩ x).cell? ⟨xb,xo+i*6+4,none⟩=some (.int .i64 n.b)/\(w4.setCell ⟨s,89+i,none⟩ x).cell? ⟨xb,xo+i*6+5,none⟩=some (.int .i64 n.c):=by
 obtain ⟨y0,y1,y2,y3,y4,y5,y6⟩:=h
 exact ⟨(set_other (fun e=>by have:=congrArg Addr.off e;simp at this<;>omega)).trans y0,(set_other (fun e=>hxs (congrArg Addr.block e).symm)).trans y1,(set_other (fun e=>hxs (congrArg Addr.block e).symm)).trans y2,(set_other (fun e=>hxs (congrArg Addr.block e).symm)).trans y3,(set_other (fun e=>hxs (congrArg Addr.block e).symm)).trans y4,(set_other (fun e=>hxs (congrArg Addr.block e).symm)).trans y5,(set_other (fun e=>hxs (congrArg Addr.block e).symm)).trans y6⟩
theorem value_of {l:List Nd} {i:Nat} (hi:i < l.length) (h80:l.length<=80) (ih:PWork l i):PVal l i:=by
 intro w s a c e K V hN hag he hS hF
 obtain ⟨k1,k2⟩:=hS.ck i (by omega)
 obtain ⟨w1,w2⟩:=hS.cw i (by omega)
 have hiz:(i:Int) < 80:=by omega
 have hil:(i:Int) < (l.length:Int):=by omega
 have HS:Hid (Sc w s a l c e K V):=hS
 cases hk:K i
 ·rw [hk] at k1
  rcases hN.2 with h0|⟨xb,xo,rfl,hc⟩
  ·omega
  obtain ⟨p0,p1,p2,p3,p4,p5⟩:=hc i hi
  rw [nth_get hi] at p0 p1 p2 p3 p4 p5
  have hxs:¬ xb=s:=hag _ rfl
  have hcall:=ih w.drew s _ c e K V (hN.kept (Kept.refl (fun _=>False) w).drew (fun _ _ h=>h)) hag he (hS.kept (S:=fun _=>False) (Kept.refl _ _).drew (fun h=>h)) hF
  have hSS:w.cell? ⟨s,0,none⟩=some (.slice (some ⟨xb,xo,none⟩) l.length c)/\NodeAt w xb (xo+i*6) (nth l i):=⟨hS.c0,p0,p1,p2,p3,p4,p5⟩
  have hxl:xb < w.heap.size:=lt_of_cell p0
  have HCALL:Hid (Calls Tryz.prog 48 #[.pointer (some ⟨s,0,none⟩),.agg #[.int .i64 (nth l i).op,.int .i64 (nth l i).w,.int .i64 (nth l i).k,.int .i64 (nth l i).a,.int .i64 (nth l i).b,.int .i64 (nth l i).c]] w.drew fun x w'=>x=.returned (.int .i64 (vT (tr l i) e))/\(∃ K' V',Sc w' s (some ⟨xb,xo,none⟩) l c e K' V')/\Kept (fun b=>b=s) w.drew w'):=hcall
  generalize hn:nth l i=n at p0 p1 p2 p3 p4 p5 HCALL
  have c0:=hS.c0
  clear hcall hSS hc hN hn hS
  go_enter Tryz.func22,Tryz.ntmps22
  go_wp2
  have HNA:Hid (NodeAt w xb (xo+i*6) n):=⟨p0,p1,p2,p3,p4,p5⟩
  have HXS:Hid (¬ xb=s):=hxs
  go_region_held (fun w'=>w'.cell? ⟨s,0,none⟩=some (.slice (some ⟨xb,xo,none⟩) l.length c)/\w'.cell? ⟨xb,xo+i*6,none⟩=some (.int .i64 n.op)/\w'.cell? ⟨xb,xo+i*6+1,none⟩=some (.int .i64 n.w)/\w'.cell? ⟨xb,xo+i*6+2,none⟩=some (.int .i64 n.k)/\w'.cell? ⟨xb,xo+i*6+3,none⟩=some (.int .i64 n.a)/\w'.cell? ⟨xb,xo+i*6+4,none⟩=some (.int .i64 n.b)/\w'.cell? ⟨xb,xo+i*6+5,none⟩=some (.int .i64 n.c)) ((first|exact ⟨c0,p0,p1,p2,p3,p4,p5⟩|exact HST1.out|exact held7s HXS.out _ HST1.out)) ((go_at_call 48;refine HCALL.out.mono ?_;rintro x0 w4 ⟨rfl,⟨K',V',hS4⟩,hK4⟩;have u1:=(hS4.cw i (by omega)).1;have u2:=(hS4.cw i (by omega)).2;have HK4:Hid (Kept (fun b=>b=s) w w4):=(Kept.refl (fun b=>b=s) w).drew.trans hK4;have HST1:Hid (w4.cell? ⟨s,0,none⟩=some (.slice (some ⟨xb,xo,none⟩) l.length c)/\w4.cell? ⟨xb,xo+i*6,none⟩=some (.int .i64 n.op)/\w4.cell? ⟨xb,xo+i*6+1,none⟩=some (.int .i64 n.w)/\w4.cell? ⟨xb,xo+i*6+2,none⟩=some (.int .i64 n.k)/\w4.cell? ⟨xb,xo+i*6+3,none⟩=some (.int .i64 n.a)/\w4.cell? ⟨xb,xo+i*6+4,none⟩=some (.int .i64 n.b)/\w4.cell? ⟨xb,xo+i*6+5,none⟩=some (.int .i64 n.c)):=held7 HK4.out HXS.out hS4.c0 HNA.out;have HS4:Hid (Sc w4 s (some ⟨xb,xo,none⟩) l c e K' V'):=hS4;clear hS4 hK4))
  obtain ⟨z1,z2⟩:=HS4.out.ck i (by omega)
  obtain ⟨x,hx⟩:∃ x:Int,x=vT (tr l i) e:=⟨_,rfl⟩
  rw [<- hx]
  have HX:Hid (x=vT (tr l i) e):=hx
  have x1:(w4.setCell ⟨s,89+i,none⟩ (.int .i64 x)).cell? ⟨s,9+i,none⟩=some (.bool (K' i)):=(set_other (fun e=>by have:=congrArg Addr.off e;simp at this<;>omega)).trans z1
  have x2:(w4.setCell ⟨s,89+i,none⟩ (.int .i64 x)).frozen? ⟨s,9+i,none⟩=false:=by rw [World.frozen?_setCell];exact z2
  have x3:((w4.setCell ⟨s,89+i,none⟩ (.int .i64 x)).setCell ⟨s,9+i,none⟩ (.bool true)).cell? ⟨s,89+i,none⟩=some (.int .i64 x):=(set_other (fun e=>by have:=congrArg Addr.off e;simp at this<;>omega)).trans (set_same u1)
  have HW6:Hid (Sc ((w4.setCell ⟨s,89+i,none⟩ (.int .i64 x)).setCell ⟨s,9+i,none⟩ (.bool true)) s (some ⟨xb,xo,none⟩) l c e (fun j=>if j=i then true else K' j) (fun j=>if j=i then x else V' j)):=Sc.learn HS4.out (by omega) hx
  have HK6:Hid (Kept (fun b=>b=s) w ((w4.setCell ⟨s,89+i,none⟩ (.int .i64 x)).setCell ⟨s,9+i,none⟩ (.bool true))):=(HK4.out.setCell (p:=⟨s,89+i,none⟩) rfl _).setCell (p:=⟨s,9+i,none⟩) rfl _
  generalize w4.setCell ⟨s,89+i,none⟩ (.int .i64 x)=W5 at x1 x2 x3 HW6 HK6 ⊢
  clear hx z1 z2 u1 u2
  go_wp2
  go_ret
  exact ⟨ret_int HX.out,⟨_,_,HW6.out⟩,HK6.out⟩
 ·rw [hk] at k1
  have HV:Hid (V i=vT (tr l i) e):=hS.ok i hi hk
  clear hS hN
  go_enter Tryz.func22,Tryz.ntmps22
  go_wp2
  go_ret
  exact ⟨ret_int HV.out,⟨K,V,HS.out⟩,Kept.refl _ _⟩
end Pv9
namespace Pv10
open Go.RowKit
open Nd0 Pl1 Tm0 Tm1 Tm5 Tm6 Tm8 Tr0 Rw0 Vl1 Vl2 Vm0 Vm1 Vm2 Kp1 Pv7 Pv9
open Ws1 (ret_int ret_bool)
open Wd4 (iOne)
theorem work_var {l:List Nd} (hT:termOk l=true) {i:Nat} (hi:i < l.length) (h1:(nth l i).op=1):PWork l i:=by
 intro w s a c e K V hN hag he hS hF
 have HV:Hid (vT (tr l i) e=wd e (nth l i).k):=vT_var (down_of hT) hi e h1
 have hkk:=shape_var (term_node hT hi) (.inl h1)
 generalize nth l i=n at h1 hkk HV ⊢
 obtain ⟨nop,nw,nk,na,nb,nc⟩:=n
 simp only at h1 hkk HV ⊢
 subst h1
 obtain ⟨v,rfl⟩:∃ v:Nat,nk=(v:Int):=⟨nk.toNat,by omega⟩
 have hv8:v < 8:=by omega
 have hvz:(v:Int) < 8:=by omega
 have hsl:=hS.lt
 obtain ⟨w1,hw1⟩:∃ w1:World,w1=w.alloc (.cells #[.int .i64 1,.int .i64 nw,.int .i64 (v:Int),.int .i64 na,.int .i64 nb,.int .i64 nc] 44):=⟨_,rfl⟩
 have hB1:Below w.heap.size w w1:=by rw [hw1];exact (Below.refl _ _).alloc (Nat.le_refl _) _
 have HA1:NodeAt w1 w.heap.size 0 ⟨1,nw,v,na,nb,nc⟩:=by
  rw [hw1]
  exact Dw4.node_new w ⟨1,nw,v,na,nb,nc⟩ _ _ rfl 0 (by simp)
 have p2:=HA1.c2
 have k1:w1.cell? ⟨s,1+v,none⟩=some (.int .i64 (wd e (v:Int))):=(hB1.cell (p:=⟨s,1+v,none⟩) hsl).trans (hS.cv v hv8)
 have HS1:Hid (Sc w1 s a l c e K V):=hS.kept (S:=fun _=>False) (Kept.ofBelow hB1) (fun h=>h)
 have HK1:Hid (Kept (fun b=>b=s) w w1):=Kept.ofBelow hB1
 clear hS hN hB1 HA1
 go_enter Tryz.func48,Tryz.ntmps48
 go_wp2
 rw [<- hw1]
 clear hw1
 go_region_held (fun w'=>w'.cell? ⟨w.heap.size,2,none⟩=some (.int .i64 (v:Int))/\w'.cell? ⟨s,1+v,none⟩=some (.int .i64 (wd e (v:Int)))) (exact ⟨p2,k1⟩) (fail)
 go_wp2
 go_ret
 exact ⟨ret_int HV.out.symm,⟨K,V,HS1.out.kept (S:=fun _=>False) (Kept.refl _ _).drew (fun h=>h)⟩,HK1.out.drew⟩
theorem work_quant {l:List Nd} (hT:termOk l=true) {i:Nat} (hi:i < l.length) (hq:quant (nth l i).op=true) (ih:PCome l i):PWork l i:=by
 intro w s a c e K V hN hag he hS hF
 have HV:Hid (vT (tr l i) e=if (nth l i).op=19 then (if (!hitB l e (nth l i) 0) then 1 else 0) else (if hitB l e (nth l i) 1 then 1 else 0)):=vT_hit hT hi he hF hq
 have hq2:(nth l i).op=19\/(nth l i).op=20:=by simpa [quant] using hq
 have hB:∀ o:Obj,Below w.heap.size w (w.alloc o):=fun o=>(Below.refl _ _).alloc (Nat.le_refl _) _
 have hcall:∀ x (o:Obj),_:=fun x o=>ih (w.alloc o) s a c e K V x (hN.below (hB o)) hag he (hS.kept (S:=fun _=>False) (Kept.ofBelow (hB o)) (fun h=>h)) hF
 have HCALL:Hid (∀ (x:Int) (o:Obj),Calls Tryz.prog 91 #[.pointer (some ⟨s,0,none⟩),.int .i64 x,.agg #[.int .i64 (nth l i).op,.int .i64 (nth l i).w,.int .i64 (nth l i).k,.int .i64 (nth l i).a,.int .i64 (nth l i).b,.int .i64 (nth l i).c]] (w.alloc o) fun r w'=>r=.returned (.bool (hitB l e (nth l i) x))/\Below (w.alloc o).heap.size (w.alloc o) w'):=hcall
 have HS:Hid (Sc w s a l c e K V):=hS
 generalize nth l i=n at hq2 HV HCALL ⊢
 clear hcall hS hN hB ih
 rcases hq2 with h19|h20
 ·have HV2:Hid (vT (tr l i) e=if (!hitB l e n 0) then 1 else 0):=by
   show _=_
   rw [HV.out,if_pos h19]
  have HC:Hid (∀ o:Obj,Calls Tryz.prog 91 #[.pointer (some ⟨s,0,none⟩),.int .i64 0,.agg #[.int .i64 n.op,.int .i64 n.w,.int .i64 n.k,.int .i64 n.a,.int .i64 n.b,.int .i64 n.c]] (w.alloc o) fun r w'=>r=.returned (.bool (hitB l e n 0))/\Below (w.alloc o).heap.size (w.alloc o) w'):=HCALL.out 0
  have h1:(n.op==1)=false:=by simp;omega
  have h9:(n.op==19)=true:=by simp;omega
  clear h19 HCALL HV
  generalize hitB l e n 0=hb at HV2 HC
  have HBA:Hid (∀ o:Obj,Below w.heap.size w (w.alloc o)):=fun o=>(Below.refl _ _).alloc (Nat.le_refl _) _
  cases hb
  all_goals
   go_enter Tryz.func48,Tryz.ntmps48
   go_wp2_with (first|(go_at_call 91;refine (HC.out _).mono ?_;rintro e0 w4 ⟨rfl,hb4⟩;have HB4:Hid (Below w.heap.size w w4):=(HBA.out _).trans (hb4.mono (by simp));clear hb4)|(go_at_call 90;refine (iOne _ _).mono ?_;rintro e0 w4 ⟨rfl,rfl⟩))
   go_ret
   exact ⟨ret_int HV2.out.symm,⟨K,V,HS.out.kept (S:=fun _=>False) (Kept.ofBelow HB4.out) (fun h=>h)⟩,Kept.ofBelow HB4.out⟩
 ·have HV2:Hid (vT (tr l i) e=if hitB l e n 1 then 1 else 0):=by
   show _=_
   rw [HV.out,if_neg (by omega)]
  have HC:Hid (∀ o:Obj,Calls Tryz.prog 91 #[.pointer (some ⟨s,0,none⟩),.int .i64 1,.agg #[.int .i64 n.op,.int .i64 n.w,.int .i64 n.k,.int .i64 n.a,.int .i64 n.b,.int .i64 n.c]] (w.alloc o) fun r w'=>r=.returned (.bool (hitB l e n 1))/\Below (w.alloc o).heap.size (w.alloc o) w'):=HCALL.out 1
  have h1:(n.op==1)=false:=by simp;omega
  have h9:(n.op==19)=false:=by simp;omega
  have h8:(n.op==20)=true:=by simp;omega
  clear h20 HCALL HV
  generalize hitB l e n 1=hb at HV2 HC
  have HBA:Hid (∀ o:Obj,Below w.heap.size w (w.alloc o)):=fun o=>(Below.refl _ _).alloc (Nat.le_refl _) _
  cases hb
  all_goals
   go_enter Tryz.func48,Tryz.ntmps48
   go_wp2_with (first|(go_at_call 91;refine (HC.out _).mono ?_;rintro e0 w4 ⟨rfl,hb4⟩;have HB4:Hid (Below w.heap.size w w4):=(HBA.out _).trans (hb4.mono (by simp));clear hb4)|(go_at_call 90;refine (iOne _ _).mono ?_;rintro e0 w4 ⟨rfl,rfl⟩))
   go_ret
   exact ⟨ret_int HV2.out.symm,⟨K,V,HS.out.kept (S:=fun _=>False) (Kept.ofBelow HB4.out) (fun h=>h)⟩,Kept.ofBelow HB4.out⟩
end Pv10
namespace Pv11
open Go.RowKit
open Nd0 Pl1 Tm0 Tm1 Tm5 Tm6 Tm8 Tr0 Rw0 Vl1 Vl2 Vm0 Vm1 Vm2 Kp1 Pv7 Pv9 Ic4
open Ws1 (ret_int ret_bool)
open Pg1 (iCount cnt cnt_parts cnt_le)
theorem node_a {l:List Nd} (hT:termOk l=true) {i:Nat} (hi:i < l.length):0<=(nth l i).a/\(nth l i).a < (l.length:Int)/\(parts (nth l i)=[]->(nth l i).op=0\/(nth l i).op=1):=by
 have hD:=down_of hT i hi
 have hok:=term_node hT hi
 simp only [nodeOk,Bool.and_eq_true] at hok
 have hs:=hok.2
 generalize nth l i=n at hD hs
 by_cases h1:n.op=2\/n.op=17\/n.op=19\/n.op=20
 ·have:=hD n.a (by rw [parts_one h1];simp)
  exact ⟨by omega,by omega,fun h=>by rw [parts_one h1] at h;cases h⟩
 by_cases h2:3<=n.op/\n.op<=16
 ·have:=hD n.a (by rw [parts_two h2];simp)
  exact ⟨by omega,by omega,fun h=>by rw [parts_two h2] at h;cases h⟩
 by_cases h3:n.op=18
 ·have:=hD n.a (by rw [parts_three h3];simp)
  exact ⟨by omega,by omega,fun h=>by rw [parts_three h3] at h;cases h⟩
 unfold shapeOk at hs
 by_cases h0:n.op=0
 ·rw [if_pos h0] at hs
  simp only [Bool.and_eq_true] at hs
  have:=of_decide_eq_true hs.2
  exact ⟨by omega,by omega,fun _=>.inl h0⟩
 rw [if_neg h0] at hs
 by_cases hv:n.op=1
 ·rw [if_pos hv] at hs
  have:=of_decide_eq_true hs
  exact ⟨by omega,by omega,fun _=>.inr hv⟩
 rw [if_neg hv,if_neg (by omega),if_neg (by omega),if_neg (by omega),if_neg (by omega),if_neg (by omega),if_neg (by omega),if_neg (by omega)] at hs
 cases hs
theorem parts4 (n:Nd):parts n=[]\/parts n=[n.a]\/parts n=[n.a,n.b]\/parts n=[n.a,n.b,n.c]:=by
 by_cases h1:n.op=2\/n.op=17\/n.op=19\/n.op=20
 ·exact .inr (.inl (parts_one h1))
 by_cases h2:3<=n.op/\n.op<=16
 ·exact .inr (.inr (.inl (parts_two h2)))
 by_cases h3:n.op=18
 ·exact .inr (.inr (.inr (parts_three h3)))
 exact .inl (parts_none h1 h2 h3)
theorem parts_abc (n:Nd) {d:Nat} (h:d < (parts n).length):d < 3/\[n.a,n.b,n.c][d]? = some (parts n)[d]:=by
 rcases parts4 n with e|e|e|e
 ·rw [e] at h;simp at h
 all_goals
  have h2:=h
  rw [e] at h2
  simp only [List.length_cons,List.length_nil] at h2
  refine ⟨by omega,?_⟩
  have h3:([n.a,n.b,n.c]:List Int)[d]? = (parts n)[d]? := by
   rw [e]
   first
    | done
    | (rcases (show d=0\/d=1\/d=2 by omega) with q|q|q<;>subst q<;>first|rfl|(exfalso;omega))
  rw [h3,List.getElem?_eq_getElem h]
theorem vT_w {l:List Nd} (hT:termOk l=true) {i:Nat} (hi:i < l.length) (e:List Int) (h1:¬ (nth l i).op=1) (hq:quant (nth l i).op=false) :
 vT (tr l i) e=applyL (nth l i).op (nth l i).w (nth l i).k (nth l (nth l i).a.toNat).w ((pvs l e (nth l i)).getD 0 0) ((pvs l e (nth l i)).getD 1 0) ((pvs l e (nth l i)).getD 2 0):=by
 have hN:∀ k,k < l.length->nodeOk l k=true:=fun k hk=>term_node hT hk
 rw [vT_other (down_of hT) hN hi e h1 hq]
 obtain ⟨a0,a1,ap⟩:=node_a hT hi
 cases hp:parts (nth l i) with
 | nil =>
   have h0:(nth l i).op=0:=by
    rcases ap hp with h|h
    ·exact h
    ·exact absurd h h1
   have e1:pw l (nth l i)=1:=by unfold pw;rw [hp]
   have e2:pvs l e (nth l i)=[]:=by unfold pvs;rw [hp];rfl
   have hw:=node_width (hN i hi)
   have hw2:=node_width (hN (nth l i).a.toNat (by omega))
   rw [e1,e2,h0]
   show applyL 0 _ _ 1 0 0 0=applyL 0 _ _ _ 0 0 0
   rw [app_in hw ⟨by omega,by omega⟩ ⟨by omega,by omega⟩ ⟨by omega,by omega⟩ ⟨by omega,by omega⟩,app_in hw hw2 ⟨by omega,by omega⟩ ⟨by omega,by omega⟩ ⟨by omega,by omega⟩]
   rfl
 | cons p r =>
   have e1:pw l (nth l i)=(nth l p.toNat).w:=by unfold pw;rw [hp]
   have e2:p=(nth l i).a:=by
    rcases parts4 (nth l i) with h|h|h|h
    ·rw [h] at hp;cases hp
    ·rw [h] at hp;cases hp;rfl
    ·rw [h] at hp;cases hp;rfl
    ·rw [h] at hp;cases hp;rfl
   rw [e1,e2]
structure Works (w w3:World) (n:Nd):Prop where
 sz:w3.heap.size=w.heap.size+1+1+1
 below:Below w.heap.size w w3
 nd:NodeAt w3 w.heap.size 0 n
 pl:∀ d (h:d < 3),w3.cell? ⟨w.heap.size+1,d,none⟩=some (.int .i64 ([n.a,n.b,n.c][d]'(by simpa using h)))
 vals:Row w3 (w.heap.size+1+1) 3 (fun j=>.int .i64 ((fun _=>0) j))
theorem work_facts (w:World) (n:Nd) (t1 t2 t3:Nat) (w3:World) (h:w3=((w.alloc (.cells #[.int .i64 n.op,.int .i64 n.w,.int .i64 n.k,.int .i64 n.a,.int .i64 n.b,.int .i64 n.c] t1)).alloc (.cells #[.int .i64 n.a,.int .i64 n.b,.int .i64 n.c] t2)).alloc (.cells #[.int .i64 0,.int .i64 0,.int .i64 0] t3)):Works w w3 n:=by
 obtain ⟨wa,ha⟩:∃ wa,wa=w.alloc (.cells #[.int .i64 n.op,.int .i64 n.w,.int .i64 n.k,.int .i64 n.a,.int .i64 n.b,.int .i64 n.c] t1):=⟨_,rfl⟩
 obtain ⟨wb,hb⟩:∃ wb,wb=wa.alloc (.cells #[.int .i64 n.a,.int .i64 n.b,.int .i64 n.c] t2):=⟨_,rfl⟩
 rw [<- ha,<- hb] at h
 have sa:wa.heap.size=w.heap.size+1:=by rw [ha];simp
 have sb:wb.heap.size=w.heap.size+1+1:=by rw [hb];simp [sa]
 have s3:w3.heap.size=w.heap.size+1+1+1:=by rw [h];simp [sb]
 have ba:Below w.heap.size w wa:=by rw [ha];exact (Below.refl _ _).alloc (Nat.le_refl _) _
 have bb:Below wa.heap.size wa wb:=by rw [hb];exact (Below.refl _ _).alloc (Nat.le_refl _) _
 have b3:Below wb.heap.size wb w3:=by rw [h];exact (Below.refl _ _).alloc (Nat.le_refl _) _
 have bb3:Below wa.heap.size wa w3:=bb.trans (b3.mono (by omega))
 refine ⟨s3,ba.trans (bb3.mono (by omega)),?_,fun d hd=>?_,?_⟩
 ·refine NodeAt.below ?_ bb3 (show w.heap.size < _ by omega)
  rw [ha]
  exact Dw4.node_new w n t1 _ rfl 0 (by simp)
 ·rw [<- sa,b3.cell (p:=⟨wa.heap.size,d,none⟩) (show wa.heap.size < _ by omega),hb,World.cell?_alloc_new]
  match d,hd with
  | 0,_=>rfl
  | 1,_=>rfl
  | 2,_=>rfl
 ·rw [<- sb,h]
  exact Row.new wb #[.int .i64 0,.int .i64 0,.int .i64 0] t3 3 (fun _=>.int .i64 0) (fun j hj=>by
   match j,hj with
   | 0,_=>rfl
   | 1,_=>rfl
   | 2,_=>rfl)
theorem kept11 {W W':World} {b s x o t:Nat} {v0 v1 v2 v3 v4 v5 v6 v7 v8 v9 v10:Value}
 (h:W.cell? ⟨b,0,none⟩=some v0/\W.cell? ⟨b,1,none⟩=some v1/\W.cell? ⟨b,2,none⟩=some v2/\W.cell? ⟨b,3,none⟩=some v3/\W.cell? ⟨b,4,none⟩=some v4/\W.cell? ⟨b,5,none⟩=some v5/\W.cell? ⟨s,0,none⟩=some v6/\W.cell? ⟨x,o,none⟩=some v7/\W.cell? ⟨t,0,none⟩=some v8/\W.cell? ⟨t,1,none⟩=some v9/\W.cell? ⟨t,2,none⟩=some v10) (hb:Below W.heap.size W W') :
 W'.cell? ⟨b,0,none⟩=some v0/\W'.cell? ⟨b,1,none⟩=some v1/\W'.cell? ⟨b,2,none⟩=some v2/\W'.cell? ⟨b,3,none⟩=some v3/\W'.cell? ⟨b,4,none⟩=some v4/\W'.cell? ⟨b,5,none⟩=some v5/\W'.cell? ⟨s,0,none⟩=some v6/\W'.cell? ⟨x,o,none⟩=some v7/\W'.cell? ⟨t,0,none⟩=some v8/\W'.cell? ⟨t,1,none⟩=some v9/\W'.cell? ⟨t,2,none⟩=some v10:=by
 obtain ⟨h0,h1,h2,h3,h4,h5,h6,h7,h8,h9,h10⟩:=h
 exact ⟨(hb.cell (lt_of_cell h0)).trans h0,(hb.cell (lt_of_cell h1)).trans h1,(hb.cell (lt_of_cell h2)).trans h2,(hb.cell (lt_of_cell h3)).trans h3,(hb.cell (lt_of_cell h4)).trans h4,(hb.cell (lt_of_cell h5)).trans h5,(hb.cell (lt_of_cell h6)).trans h6,(hb.cell (lt_of_cell h7)).trans h7,(hb.cell (lt_of_cell h8)).trans h8,(hb.cell (lt_of_cell h9)).trans h9,(hb.cell (lt_of_cell h10)).trans h10⟩
theorem work_other (hIA:IApply) {l:List Nd} (hT:termOk l=true) {i:Nat} (hi:i < l.length) (h1:¬ (nth l i).op=1) (hq:quant (nth l i).op=false) (ih:∀ p∈parts (nth l i),PVal l p.toNat):PWork l i:=by
 intro w s a c e K V hN hag he hS hF
 have HV:Hid (vT (tr l i) e=applyL (nth l i).op (nth l i).w (nth l i).k (nth l (nth l i).a.toNat).w ((pvs l e (nth l i)).getD 0 0) ((pvs l e (nth l i)).getD 1 0) ((pvs l e (nth l i)).getD 2 0)):=vT_w hT hi e h1 hq
 have HWF:Hid ((Lit.int .i64 (nth l i).k).wf=true):=wf_small (node_k (down_of hT) (fun k hk=>term_node hT hk) hi)
 have HPD:Hid (∀ p∈parts (nth l i),0<=p/\p < (i:Int)):=down_of hT i hi
 have HFP:Hid (∀ p∈parts (nth l i),FitN l p.toNat e):=fun p hp=>hF.part (down_of hT) hi hq hp
 have HIH:Hid (∀ p∈parts (nth l i),PVal l p.toNat):=ih
 have HPV:Hid (pvs l e (nth l i)=(parts (nth l i)).map fun p=>vT (tr l p.toNat) e):=rfl
 obtain ⟨na0,na1,_⟩:=node_a hT hi
 have HCN:=cnt_parts (nth l i)
 have HIAH:Hid IApply:=hIA
 have hag':=hag
 rcases hN.2 with h0|⟨xb,xo,rfl,hc⟩
 ·omega
 have hxb:xb < w.heap.size:=(hc i hi).lt
 have HWD:Hid (∀ m,m < l.length->w.cell? ⟨xb,xo+m*6+1,none⟩=some (.int .i64 (nth l m).w)):=fun m hm=>by
  have:=(hc m hm).c1
  rw [nth_get hm] at this
  exact this
 have HN:Hid (Nodes w (some ⟨xb,xo,none⟩) l):=hN
 have HS:Hid (Sc w s (some ⟨xb,xo,none⟩) l c e K V):=hS
 have HAG:Hid (∀ x,some (⟨xb,xo,none⟩:Addr)=some x->x.block≠s):=hag
 have hsl:=hS.lt
 generalize pvs l e (nth l i)=pv at HV HPV
 have h19:¬ (nth l i).op=19/\¬ (nth l i).op=20:=by simpa [quant] using hq
 generalize nth l i=n at HV HWF HPD HFP HIH HPV na0 na1 HCN h1 h19 ⊢
 have t1:(n.op==1)=false:=by simpa using h1
 have t2:(n.op==19)=false:=by simpa using h19.1
 have t3:(n.op==20)=false:=by simpa using h19.2
 clear hN hS hag hag' hc ih hF h1 h19 hIA hq
 go_enter Tryz.func48,Tryz.ntmps48
 go_wp2_with (go_at_call 73;refine (iCount _ _).mono ?_;rintro e0 w4 ⟨rfl,rfl⟩)
 obtain ⟨w3,hw3⟩:∃ w3:World,w3=((w.alloc (.cells #[.int .i64 n.op,.int .i64 n.w,.int .i64 n.k,.int .i64 n.a,.int .i64 n.b,.int .i64 n.c] 44)).alloc (.cells #[.int .i64 n.a,.int .i64 n.b,.int .i64 n.c] 113)).alloc (.cells #[.int .i64 0,.int .i64 0,.int .i64 0] 113):=⟨_,rfl⟩
 have W:=work_facts w n _ _ _ w3 hw3
 rw [<- hw3]
 clear hw3
 obtain ⟨gp,hgp⟩:∃ gp:Nat,gp=w.heap.size+1:=⟨_,rfl⟩
 obtain ⟨gv,hgv⟩:∃ gv:Nat,gv=w.heap.size+1+1:=⟨_,rfl⟩
 rw [<- hgv,<- hgp]
 have HGP:Hid (gp=w.heap.size+1/\gv=w.heap.size+1+1/\w3.heap.size=w.heap.size+1+1+1):=⟨hgp,hgv,W.sz⟩
 have HS3:Hid (Sc w3 s (some ⟨xb,xo,none⟩) l c e K V):=HS.out.kept (S:=fun _=>False) (Kept.ofBelow W.below) (fun h=>h)
 have HR3:Hid (Row w3 gv 3 (fun j=>.int .i64 ((fun _=>0) j))):=by rw [hgv];exact W.vals
 have HNA3:Hid (NodeAt w3 w.heap.size 0 n):=W.nd
 have HPL:Hid (∀ d (h:d < 3),w3.cell? ⟨gp,d,none⟩=some (.int .i64 ([n.a,n.b,n.c][d]'(by simpa using h)))):=by rw [hgp];exact W.pl
 have HBW:Hid (Below w.heap.size w w3):=W.below
 have HCN2:Hid ((parts n).length=cnt n.op):=HCN
 have hc3:=cnt_le n.op
 clear W hgp hgv HCN
 generalize cnt n.op=cn at HCN2 hc3 ⊢
 go_loopw [42] (fun q wr=>∃ d:Nat,d<=cn/\q=.int .i64 (d:Int)/\∃ (F:Nat->Int) (K':Nat->Bool) (V':Nat->Int),Row wr gv 3 (fun j=>.int .i64 (F j))/\(∀ j,j < 3->F j=if j < d then pv.getD j 0 else 0)/\Sc wr s (some ⟨xb,xo,none⟩) l c e K' V'/\Kept (fun b=>b=s\/b=gv) w3 wr) (fun q _=>cn - (intOf q).toNat)
 case atStart=>exact ⟨0,Nat.zero_le _,rfl,_,K,V,HR3.out,fun j _=>rfl,HS3.out,Kept.refl _ _⟩
 case round =>
  obtain ⟨d,hd,rfl,F,K',V',hR,hF,hS4,hK⟩:=hrel
  have HR:Hid (Row wr gv 3 (fun j=>.int .i64 (F j))):=hR
  have HF:Hid (∀ j,j < 3->F j=if j < d then pv.getD j 0 else 0):=hF
  have HS4:Hid (Sc wr s (some ⟨xb,xo,none⟩) l c e K' V'):=hS4
  have HK:Hid (Kept (fun b=>b=s\/b=gv) w3 wr):=hK
  have hG:=HGP.out
  have HNW:Hid (Nodes wr (some ⟨xb,xo,none⟩) l):=(HN.out.below HBW.out).kept hK (fun y hy h=>by
   have e1:=Option.some.inj hy
   subst e1
   rcases h with h|h
   ·exact HAG.out _ rfl h
   ·have h':xb=gv:=h
    omega)
  have hxk:¬ (xb=s\/xb=gv):=fun h=>by
   rcases h with h|h
   ·exact HAG.out _ rfl h
   ·omega
  have hpk:¬ (gp=s\/gp=gv):=by omega
  have hnk:¬ (w.heap.size=s\/w.heap.size=gv):=by omega
  clear hR hF hS4 hK
  by_cases hlt:d < cn
  ·have hdz:(d:Int) < (cn:Int):=by omega
   have hdl:d < (parts n).length:=by rw [HCN2.out];exact hlt
   obtain ⟨hd3,habc⟩:=parts_abc n hdl
   have hpp:=HPD.out (parts n)[d] (List.getElem_mem hdl)
   have hih:=HIH.out (parts n)[d] (List.getElem_mem hdl)
   have hfp:=HFP.out (parts n)[d] (List.getElem_mem hdl)
   have r0:wr.cell? ⟨gp,d,none⟩=some (.int .i64 (parts n)[d]):=by
    rw [HK.out.cell (p:=⟨gp,d,none⟩) (show gp < w3.heap.size by omega) hpk,HPL.out d hd3]
    congr 2
    have h5:=habc
    rw [List.getElem?_eq_getElem (by simpa using hd3)] at h5
    exact Option.some.inj h5
   have HPE:Hid (∀ j,j=d->pv.getD j 0=vT (tr l ((parts n)[d]).toNat) e):=by
    show ∀ _,_
    intro j hj
    subst hj
    rw [HPV.out,List.getD_eq_getElem?_getD,List.getElem?_map,List.getElem?_eq_getElem hdl]
    rfl
   generalize (parts n)[d]=p at hpp hih hfp r0 HPE
   obtain ⟨m,rfl⟩:∃ m:Nat,p=(m:Int):=⟨p.toNat,by omega⟩
   rw [Int.toNat_natCast] at hih hfp HPE
   obtain ⟨s1,s2⟩:=HR.out d hd3
   have hd3z:(d:Int) < 3:=by omega
   have HIP:Hid (PVal l m):=hih
   have HFT:Hid (FitN l m e):=hfp
   have gsv:¬ gv=s:=by omega
   clear hih hfp habc hG hpk hnk hxk
   go_wp2_with fail
   refine (HIP.out wr s _ c e K' V' HNW.out HAG.out he HS4.out HFT.out).mono ?_
   rintro x0 w4 ⟨rfl,⟨K5,V5,hS5⟩,hK5⟩
   have s3:w4.cell? ⟨gv,d,none⟩=some (.int .i64 (F d)):=(hK5.cell (p:=⟨gv,d,none⟩) (lt_of_cell s1) gsv).trans s1
   have s4:w4.frozen? ⟨gv,d,none⟩=false:=(hK5.frozen (p:=⟨gv,d,none⟩) (lt_of_cell s1) gsv).trans s2
   have HR5:Hid (Row (w4.setCell ⟨gv,d,none⟩ (.int .i64 (vT (tr l m) e))) gv 3 (fun j=>.int .i64 ((fun j=>if j=d then vT (tr l m) e else F j) j))):=by
    refine ((HR.out.kept hK5 gsv).set (p:=d) hd3 _).congr (fun j hj=>?_)
    dsimp only
    split<;>rfl
   have HS5:Hid (Sc (w4.setCell ⟨gv,d,none⟩ (.int .i64 (vT (tr l m) e))) s (some ⟨xb,xo,none⟩) l c e K5 V5):=hS5.kept (S:=fun b=>b=gv) ((Kept.refl (fun b=>b=gv) w4).setCell (p:=⟨gv,d,none⟩) rfl _) (fun h=>gsv h.symm)
   have HK5:Hid (Kept (fun b=>b=s\/b=gv) w3 (w4.setCell ⟨gv,d,none⟩ (.int .i64 (vT (tr l m) e)))):=(HK.out.trans (hK5.mono (fun b h=>.inl h))).setCell (p:=⟨gv,d,none⟩) (.inr rfl) _
   have HF5:Hid (∀ j,j < 3->(fun j=>if j=d then vT (tr l m) e else F j) j=if j < d+1 then pv.getD j 0 else 0):=by
    show ∀ _,_
    intro j hj
    dsimp only
    by_cases ej:j=d
    ·rw [if_pos ej,if_pos (by omega),HPE.out j ej]
    ·rw [if_neg ej,HF.out j hj]
     by_cases e2:j < d
     ·rw [if_pos e2,if_pos (by omega)]
     ·rw [if_neg e2,if_neg (by omega)]
   generalize vT (tr l m) e=val at HR5 HS5 HK5 HF5
   clear hS5 hK5 r0 s1 s2
   go_wp2
   go_roundw
   case rel=>exact ⟨d+1,by omega,by go_num,_,K5,V5,HR5.out,HF5.out,HS5.out,HK5.out⟩
   case measure=>simp [intOf];omega
  ·have hdz:¬ (d:Int) < (cn:Int):=by omega
   obtain ⟨ma,hma⟩:∃ ma:Nat,n.a=(ma:Int):=⟨n.a.toNat,by omega⟩
   have hal:ma < l.length:=by omega
   have halz:(ma:Int) < (l.length:Int):=by omega
   have hs3:w.heap.size < w3.heap.size:=by omega
   have HFE:Hid (∀ j,j < 3->F j=pv.getD j 0):=by
    show ∀ _,_
    intro j hj
    rw [HF.out j hj]
    by_cases e2:j < d
    ·rw [if_pos e2]
    ·rw [if_neg e2,HPV.out,List.getD_eq_getElem?_getD,List.getElem?_eq_none (by rw [List.length_map,HCN2.out];omega)];rfl
   have HVE:Hid (vT (tr l i) e=applyL n.op n.w n.k (nth l ma).w (F 0) (F 1) (F 2)):=by
    show _=_
    rw [HV.out,HFE.out 0 (by omega),HFE.out 1 (by omega),HFE.out 2 (by omega),hma,Int.toNat_natCast]
   have HSS:wr.cell? ⟨w.heap.size,0,none⟩=some (.int .i64 n.op)/\wr.cell? ⟨w.heap.size,1,none⟩=some (.int .i64 n.w)/\wr.cell? ⟨w.heap.size,2,none⟩=some (.int .i64 n.k)/\wr.cell? ⟨w.heap.size,3,none⟩=some (.int .i64 n.a)/\wr.cell? ⟨w.heap.size,4,none⟩=some (.int .i64 n.b)/\wr.cell? ⟨w.heap.size,5,none⟩=some (.int .i64 n.c)/\wr.cell? ⟨s,0,none⟩=some (.slice (some ⟨xb,xo,none⟩) l.length c)/\wr.cell? ⟨xb,xo+ma*6+1,none⟩=some (.int .i64 (nth l ma).w)/\wr.cell? ⟨gv,0,none⟩=some (.int .i64 (F 0))/\wr.cell? ⟨gv,1,none⟩=some (.int .i64 (F 1))/\wr.cell? ⟨gv,2,none⟩=some (.int .i64 (F 2)):=by
    obtain ⟨q0,q1,q2,q3,q4,q5⟩:=HNA3.out
    refine ⟨(HK.out.cell (p:=⟨w.heap.size,0,none⟩) hs3 hnk).trans q0,(HK.out.cell (p:=⟨w.heap.size,1,none⟩) hs3 hnk).trans q1,(HK.out.cell (p:=⟨w.heap.size,2,none⟩) hs3 hnk).trans q2,(HK.out.cell (p:=⟨w.heap.size,3,none⟩) hs3 hnk).trans q3,(HK.out.cell (p:=⟨w.heap.size,4,none⟩) hs3 hnk).trans q4,(HK.out.cell (p:=⟨w.heap.size,5,none⟩) hs3 hnk).trans q5,HS4.out.c0,?_,(HR.out 0 (by omega)).1,(HR.out 1 (by omega)).1,(HR.out 2 (by omega)).1⟩
    rw [HK.out.cell (p:=⟨xb,xo+ma*6+1,none⟩) (show xb < w3.heap.size by omega) hxk,HBW.out.cell (p:=⟨xb,xo+ma*6+1,none⟩) hxb]
    exact HWD.out ma hal
   rw [hma] at HSS
   have HMA:Hid (n.a=(ma:Int)):=hma
   clear hG hpk hnk hxk hma
   go_wp2_with fail
   go_region_held (fun w'=>w'.cell? ⟨w.heap.size,0,none⟩=some (.int .i64 n.op)/\w'.cell? ⟨w.heap.size,1,none⟩=some (.int .i64 n.w)/\w'.cell? ⟨w.heap.size,2,none⟩=some (.int .i64 n.k)/\w'.cell? ⟨w.heap.size,3,none⟩=some (.int .i64 (ma:Int))/\w'.cell? ⟨w.heap.size,4,none⟩=some (.int .i64 n.b)/\w'.cell? ⟨w.heap.size,5,none⟩=some (.int .i64 n.c)/\w'.cell? ⟨s,0,none⟩=some (.slice (some ⟨xb,xo,none⟩) l.length c)/\w'.cell? ⟨xb,xo+ma*6+1,none⟩=some (.int .i64 (nth l ma).w)/\w'.cell? ⟨gv,0,none⟩=some (.int .i64 (F 0))/\w'.cell? ⟨gv,1,none⟩=some (.int .i64 (F 1))/\w'.cell? ⟨gv,2,none⟩=some (.int .i64 (F 2))) ((first|exact HSS|exact kept11 (W:=wr.drew) HSS hb4)) ((go_at_call 92;refine (HIAH.out ⟨n.op,n.w,n.k,(ma:Int),n.b,n.c⟩ (nth l ma).w (F 0) (F 1) (F 2) _ HWF.out).mono ?_;rintro x0 w4 ⟨rfl,hb4⟩;have HB4:Hid (Below wr.heap.size wr w4):=(Below.refl wr.heap.size wr).drew.trans hb4))
   go_wp2
   go_ret
   have hb:=HB4.out
   have hG:=HGP.out
   refine ⟨ret_int HVE.out.symm,⟨K',V',HS4.out.kept (S:=fun _=>False) (Kept.ofBelow hb) (fun h=>h)⟩,?_⟩
   have h1:Kept (fun b=>b=s\/b=gv) w3 w4:=HK.out.trans (Kept.ofBelow hb)
   exact Kept.past (Kept.ofBelow HBW.out) h1 (fun b h=>by
    rcases h with h|h
    ·exact .inl h
    ·exact .inr (by omega))
end Pv11
namespace Pv12
open Go.RowKit
open Nd0 Pl1 Tm0 Tm1 Tm5 Tm6 Tm8 Tr0 Rw0 Vl1 Vl2 Vm0 Vm1 Vm2 Kp1 Pv7 Pv9 Ic4
theorem pVal (hIA:IApply) {l:List Nd} (hT:termOk l=true) (h80:l.length<=80):∀ i,i < l.length->PVal l i:=by
 intro i
 induction i using Nat.strongRecOn with
 | ind i ih =>
   intro hi
   refine value_of hi h80 ?_
   have hp:∀ p∈parts (nth l i),PVal l p.toNat:=fun p hp=>by
    have:=down_of hT i hi p hp
    exact ih p.toNat (by omega) (by omega)
   by_cases h1:(nth l i).op=1
   ·exact Pv10.work_var hT hi h1
   cases hq:quant (nth l i).op with
   | true =>
     have hq2:(nth l i).op=19\/(nth l i).op=20:=by simpa [quant] using hq
     exact Pv10.work_quant hT hi hq (Pv8.come_of hT hi hq (hp _ (by rw [parts_one (by omega)];simp)))
   | false=>exact Pv11.work_other hIA hT hi h1 hq hp
end Pv12
end Go.Proofs.YthanhcobfehmnaaGreat
