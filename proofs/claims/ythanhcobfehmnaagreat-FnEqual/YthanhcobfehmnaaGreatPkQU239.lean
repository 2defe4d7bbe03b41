import Derived.Test.YthanhcobfehmnaaGreatPkQU238
namespace Go.Proofs.YthanhcobfehmnaaGreat
set_option maxRecDepth 100000
set_option maxHeartbeats 8000000
set_option linter.unusedVariables false
namespace Sv3
open Go.RowKit
open Nd0 Pl1 Tm0 Tm1 Tm5 Tm6 Tm8 Ap0 Tr0 Rw0 Vl1 Vl2 Vm0 Kp1
open Sp10 (sQuant)
open Sp2 (sParts)
open Wd1 (spow ret_int)
open Sv1 (sApply sApp)
def SAt (l:List Nd) (i:Nat):Prop:=∀ (w:World) (a:Option Addr) (c g ce:Nat) (e:List Int),Nodes w a l->(∀ x,a=some x->x.block≠g)->e.length=8->Env w g e ->
 Calls Tryz.prog 116 #[.slice a l.length c,.slice (some ⟨g,0,none⟩) 8 ce,.int .i64 i] w fun x w'=>x=.returned (.int .i64 (vT (tr l i) e))/\Env w' g e/\Kept (fun b=>b=g) w w'
def SOne (l:List Nd) (k:Nat):Prop:=∀ (w:World) (a av:Option Addr) (c g ce cv:Nat) (e vals:List Int),Nodes w a l->(∀ x,a=some x->x.block≠g)->e.length=8->Env w g e ->
 Ints w av vals->vals.length=k->(∀ j,j < k->wd vals (j:Int)=vT (tr l j) e) ->
 Calls Tryz.prog 126 #[.slice a l.length c,.slice (some ⟨g,0,none⟩) 8 ce,.slice av k cv,.int .i64 k] w fun x w'=>x=.returned (.int .i64 (vT (tr l k) e))/\Env w' g e/\Kept (fun b=>b=g) w w'
theorem pow_le {b:Int} (h1:1<=b) (h8:b<=8):2 ^ b.toNat<=256/\1<=2 ^ b.toNat:=by
 have h:b.toNat<=8:=by omega
 exact ⟨Nat.pow_le_pow_right (by omega) h,Nat.one_le_two_pow⟩
theorem one_var {l:List Nd} (hD:Down l) (hN:∀ k,k < l.length->nodeOk l k=true) {k:Nat} (hk:k < l.length) (h80:l.length<=80) (h1:(nth l k).op=1):SOne l k:=by
 intro w a av c g ce cv e vals hN0 hag he hE hI hvl hV
 have HV:Hid (vT (tr l k) e=wd e (nth l k).k):=vT_var hD hk e h1
 have hkk:=shape_var (hN k hk) (.inl h1)
 rcases hN0.2 with h0|⟨xb,xo,rfl,hc⟩
 ·omega
 obtain ⟨p0,p1,p2,p3,p4,p5⟩:=hc k hk
 rw [nth_get hk] at p0 p1 p2 p3 p4 p5
 have HE:Hid (Env w g e):=hE
 have hkz:(k:Int) < (l.length:Int):=by omega
 generalize nth l k=n at p0 p1 p2 p3 p4 p5 h1 hkk HV
 obtain ⟨nop,nw,nk,na,nb,nc⟩:=n
 simp only at p0 p1 p2 p3 p4 p5 h1 hkk HV
 subst h1
 obtain ⟨g0,g7⟩:=hkk
 have hg:=hE.lt
 have q0:(w.alloc (.cells #[.int .i64 1,.int .i64 nw,.int .i64 nk,.int .i64 na,.int .i64 nb,.int .i64 nc] 44)).cell? ⟨g,nk.toNat,none⟩=some (.int .i64 (wd e nk)):=by
  rw [((Below.refl w.heap.size w).alloc (Nat.le_refl _) _).cell (p:=⟨g,nk.toNat,none⟩) hg]
  exact (hE.at g0 g7).1
 clear hc hN0 hI hvl hV hE hN hD
 go_enter Tryz.func126,Tryz.ntmps126
 go_wp2
 go_ret
 refine ⟨ret_int HV.out.symm,HE.out.kept (S:=fun _=>False) ((Kept.refl _ _).alloc _) (fun h=>h),(Kept.refl _ _).alloc _⟩
theorem one_quant {l:List Nd} (hD:Down l) (hN:∀ k,k < l.length->nodeOk l k=true) {k:Nat} (hk:k < l.length) (h80:l.length<=80) (hq:quant (nth l k).op=true) (ih:SAt l (nth l k).a.toNat):SOne l k:=by
 intro w a av c g ce cv e vals hN0 hag he hE hI hvl hV
 have HV:Hid (vT (tr l k) e=if (nth l k).op=19 then allN (fun i=>vT (tr l (nth l k).a.toNat) (e.set (nth l k).k.toNat (i:Int))) (2 ^ (nth l k).b.toNat) else anyN (fun i=>vT (tr l (nth l k).a.toNat) (e.set (nth l k).k.toNat (i:Int))) (2 ^ (nth l k).b.toNat)):=vT_quant hD hk e hq
 have hkk:=shape_var (hN k hk) (.inr hq)
 have hbb:=Tm11.quant_b (hN k hk) hq
 have hq2:(nth l k).op=19\/(nth l k).op=20:=by simpa [quant] using hq
 have haa:=hD k hk (nth l k).a (by rw [parts_one (by omega)];simp)
 have hx:=hN0.2
 rcases hx with h0|⟨xb,xo,rfl,hc⟩
 ·omega
 obtain ⟨p0,p1,p2,p3,p4,p5⟩:=hc k hk
 rw [nth_get hk] at p0 p1 p2 p3 p4 p5
 have hkz:(k:Int) < (l.length:Int):=by omega
 generalize nth l k=n at p0 p1 p2 p3 p4 p5 hq hkk hbb hq2 haa HV ih
 obtain ⟨nop,nw,nk,na,nb,nc⟩:=n
 simp only at p0 p1 p2 p3 p4 p5 hq hkk hbb hq2 haa HV ih
 obtain ⟨g0,g7⟩:=hkk
 obtain ⟨b1,b8⟩:=hbb
 obtain ⟨m,rfl⟩:∃ m:Nat,na=(m:Int):=⟨na.toNat,by omega⟩
 rw [Int.toNat_natCast] at HV ih
 obtain ⟨v,rfl⟩:∃ v:Nat,nk=(v:Int):=⟨nk.toNat,by omega⟩
 rw [Int.toNat_natCast] at HV
 have IH:Hid (SAt l m):=ih
 have t1:(nop==1)=false:=by simp;omega
 have hg:=hE.lt
 have hP2:Pl1.p2 nb.toNat=((2 ^ nb.toNat:Nat):Int):=p2_nat nb
 obtain ⟨hM,hM1⟩:=pow_le b1 b8
 generalize 2 ^ nb.toNat=M at hM hM1 hP2 HV
 obtain ⟨f,hf⟩:∃ f:Nat->Int,f=fun (i:Nat)=>vT (tr l m) (e.set v (i:Int)):=⟨_,rfl⟩
 have HF:Hid (∀ i:Nat,f i=vT (tr l m) (e.set v (i:Int))):=fun i=>by rw [hf]
 rw [<- hf] at HV
 clear hf ih
 obtain ⟨w1,hw1⟩:∃ w1:World,w1=w.alloc (.cells #[.int .i64 nop,.int .i64 nw,.int .i64 (v:Int),.int .i64 (m:Int),.int .i64 nb,.int .i64 nc] 44):=⟨_,rfl⟩
 have hB1:Below w.heap.size w w1:=by rw [hw1];exact (Below.refl _ _).alloc (Nat.le_refl _) _
 have HK1:Hid (Kept (fun b=>b=g) w w1):=Kept.ofBelow hB1
 have HN1:Hid (Nodes w1 (some ⟨xb,xo,none⟩) l):=hN0.below hB1
 have HE1:Hid (Env w1 g e):=hE.kept (S:=fun _=>False) (Kept.ofBelow hB1) (fun h=>h)
 have HA1:Hid (NodeAt w1 w.heap.size 0 ⟨nop,nw,v,m,nb,nc⟩):=by
  rw [hw1]
  exact Dw4.node_new w ⟨nop,nw,v,m,nb,nc⟩ _ _ rfl 0 (by simp)
 have HAG:Hid (∀ x,some (⟨xb,xo,none⟩:Addr)=some x->¬ x.block=g):=hag
 have q9:w1.cell? ⟨g,v,none⟩=some (.int .i64 (wd e (v:Int))):=((HE1.out.at g0 g7).1).trans (by rfl) |> fun h=>by simpa using h
 have hne:¬ w.heap.size=g:=by omega
 have hne2:¬ g=w.heap.size:=by omega
 obtain ⟨q0,q1,q2,q3,q4,q5⟩:=HA1.out
 clear hc hN0 hI hvl hV hE hN hD hB1 hag
 have HQ2:Hid (nop=19\/nop=20):=hq2
 clear hq2
 go_enter Tryz.func126,Tryz.ntmps126
 go_wp2_with fail
 rw [<- hw1]
 refine (sQuant _ _).mono ?_
 rintro x0 w1 ⟨rfl,rfl⟩
 rw [hq]
 clear hw1
 go_wp2_with fail
 go_loopw [11,12,13] (fun va vs q wr=>∃ (x:Nat) (y:Int),x<=M/\q=.int .i64 (x:Int)/\va=.int .i64 (allN f x)/\vs=.int .i64 (anyN f x)/\Env wr g (e.set v y)/\Kept (fun b=>b=g) w1 wr) (fun _ _ q _=>M - (intOf q).toNat)
 case atStart =>
  refine ⟨0,wd e (v:Int),Nat.zero_le _,rfl,rfl,rfl,?_,Kept.refl _ _⟩
  rw [set_self e (by omega)]
  exact HE1.out
 case round =>
  obtain ⟨x,y,hx,rfl,rfl,rfl,hE2,hK2⟩:=hrel
  have HE2:Hid (Env wr g (e.set v y)):=hE2
  have HK2:Hid (Kept (fun b=>b=g) w1 wr):=hK2
  have hlt1:w.heap.size < w1.heap.size:=HA1.out.lt
  have r2:wr.cell? ⟨w.heap.size,2,none⟩=some (.int .i64 (v:Int)):=(hK2.cell (p:=⟨w.heap.size,2,none⟩) hlt1 hne).trans q2
  have r3:wr.cell? ⟨w.heap.size,3,none⟩=some (.int .i64 (m:Int)):=(hK2.cell (p:=⟨w.heap.size,3,none⟩) hlt1 hne).trans q3
  have r4:wr.cell? ⟨w.heap.size,4,none⟩=some (.int .i64 nb):=(hK2.cell (p:=⟨w.heap.size,4,none⟩) hlt1 hne).trans q4
  have r0:wr.cell? ⟨w.heap.size,0,none⟩=some (.int .i64 nop):=(hK2.cell (p:=⟨w.heap.size,0,none⟩) hlt1 hne).trans q0
  have hl8:(e.set v y).length=8:=by rw [List.length_set];exact he
  obtain ⟨s1,s2⟩:=hE2 v (by omega)
  clear hE2 hK2 q0 q1 q2 q3 q4 q5 q9
  by_cases hlt:x < M
  ·have hxz:(x:Int) < (M:Int):=by omega
   have HE3:Hid (Env (wr.setCell ⟨g,v,none⟩ (.int .i64 (x:Int))) g (e.set v (x:Int))):=by
    have:=HE2.out.set hl8 (p:=v) (by omega) (x:Int)
    rw [List.set_set] at this
    exact this
   have HK3:Hid (Kept (fun b=>b=g) w1 (wr.setCell ⟨g,v,none⟩ (.int .i64 (x:Int)))):=HK2.out.setCell (p:=⟨g,v,none⟩) rfl _
   have HFX:Hid (f x=vT (tr l m) (e.set v (x:Int))):=HF.out x
   go_wp2_with (go_at_call 62;refine (spow _ _ (by omega) (by omega)).mono ?_;rintro x0 wr ⟨rfl,rfl⟩;rw [hP2])
   refine (IH.out _ _ c g ce (e.set v (x:Int)) (HN1.out.kept HK3.out HAG.out) HAG.out (by rw [List.length_set];exact he) HE3.out).mono ?_
   rintro x0 w2 ⟨rfl,hE4,hK4⟩
   rw [<- HFX.out]
   have HE4:Hid (Env w2 g (e.set v (x:Int))):=hE4
   have HK4:Hid (Kept (fun b=>b=g) w1 w2):=HK3.out.trans hK4
   clear hE4 hK4 s1 s2 r0 r2 r3 r4
   cases h1:(f x==1)
   ·have h1':¬ f x=1:=by simpa using h1
    have HAL:Hid (allN f (x+1)=0):=allN_no h1'
    have HAN:Hid (anyN f (x+1)=anyN f x):=anyN_no h1'
    clear h1'
    go_wp2
    go_roundw
    case rel=>exact ⟨x+1,(x:Int),by omega,by go_num,by rw [HAL.out],by rw [HAN.out],HE4.out,HK4.out⟩
    case measure=>simp [intOf];omega
   ·have h1':f x=1:=by simpa using h1
    have HAL:Hid (allN f (x+1)=allN f x):=allN_yes h1'
    have HAN:Hid (anyN f (x+1)=1):=anyN_yes h1'
    clear h1'
    go_wp2
    go_roundw
    case rel=>exact ⟨x+1,(x:Int),by omega,by go_num,by rw [HAL.out],by rw [HAN.out],HE4.out,HK4.out⟩
    case measure=>simp [intOf];omega
  ·have hxz:¬ (x:Int) < (M:Int):=by omega
   have hxM:x=M:=by omega
   have HE3:Hid (Env (wr.setCell ⟨g,v,none⟩ (.int .i64 (wd e (v:Int)))) g e):=by
    have:=HE2.out.set hl8 (p:=v) (by omega) (wd e (v:Int))
    rw [List.set_set,set_self e (by omega)] at this
    exact this
   have HK3:Hid (Kept (fun b=>b=g) w (wr.setCell ⟨g,v,none⟩ (.int .i64 (wd e (v:Int))))):=(HK1.out.trans HK2.out).setCell (p:=⟨g,v,none⟩) rfl _
   subst hxM
   cases h19:(nop==19)
   ·have HV2:Hid (vT (tr l k) e=anyN f x):=by
     show _=_
     rw [HV.out,if_neg (by simpa using h19)]
    go_wp2_with (go_at_call 62;refine (spow _ _ (by omega) (by omega)).mono ?_;rintro x0 wr ⟨rfl,rfl⟩;rw [hP2])
    go_ret
    exact ⟨ret_int HV2.out.symm,HE3.out,HK3.out⟩
   ·have HV2:Hid (vT (tr l k) e=allN f x):=by
     show _=_
     rw [HV.out,if_pos (by simpa using h19)]
    go_wp2_with (go_at_call 62;refine (spow _ _ (by omega) (by omega)).mono ?_;rintro x0 wr ⟨rfl,rfl⟩;rw [hP2])
    go_ret
    exact ⟨ret_int HV2.out.symm,HE3.out,HK3.out⟩
theorem kept9 {W W':World} {b t:Nat} {v0 v1 v2 v3 v4 v5 f0 f1 f2:Value}
 (h:W.cell? ⟨b,0,none⟩=some v0/\W.cell? ⟨b,1,none⟩=some v1/\W.cell? ⟨b,2,none⟩=some v2/\W.cell? ⟨b,3,none⟩=some v3/\W.cell? ⟨b,4,none⟩=some v4/\W.cell? ⟨b,5,none⟩=some v5/\W.cell? ⟨t,0,none⟩=some f0/\W.cell? ⟨t,1,none⟩=some f1/\W.cell? ⟨t,2,none⟩=some f2) (hb:Below W.heap.size W W') :
 W'.cell? ⟨b,0,none⟩=some v0/\W'.cell? ⟨b,1,none⟩=some v1/\W'.cell? ⟨b,2,none⟩=some v2/\W'.cell? ⟨b,3,none⟩=some v3/\W'.cell? ⟨b,4,none⟩=some v4/\W'.cell? ⟨b,5,none⟩=some v5/\W'.cell? ⟨t,0,none⟩=some f0/\W'.cell? ⟨t,1,none⟩=some f1/\W'.cell? ⟨t,2,none⟩=some f2:=by
 obtain ⟨h0,h1,h2,h3,h4,h5,h6,h7,h8⟩:=h
 exact ⟨(hb.cell (lt_of_cell h0)).trans h0,(hb.cell (lt_of_cell h1)).trans h1,(hb.cell (lt_of_cell h2)).trans h2,(hb.cell (lt_of_cell h3)).trans h3,(hb.cell (lt_of_cell h4)).trans h4,(hb.cell (lt_of_cell h5)).trans h5,(hb.cell (lt_of_cell h6)).trans h6,(hb.cell (lt_of_cell h7)).trans h7,(hb.cell (lt_of_cell h8)).trans h8⟩
theorem cell3 (w:World) (T i:Nat) (h:i < 3):(w.alloc (.cells #[.int .i64 0,.int .i64 0,.int .i64 0] T)).cell? ⟨w.heap.size,i,none⟩=some (.int .i64 0)/\(w.alloc (.cells #[.int .i64 0,.int .i64 0,.int .i64 0] T)).frozen? ⟨w.heap.size,i,none⟩=false :=
 Row.new w #[.int .i64 0,.int .i64 0,.int .i64 0] T 3 (fun _=>.int .i64 0) (fun j hj=>by
  match j,hj with
  | 0,_=>rfl
  | 1,_=>rfl
  | 2,_=>rfl) i h
theorem one_other {l:List Nd} (hD:Down l) (hN:∀ k,k < l.length->nodeOk l k=true) {k:Nat} (hk:k < l.length) (h80:l.length<=80) (h1:¬ (nth l k).op=1) (hq:quant (nth l k).op=false):SOne l k:=by
 intro w a av c g ce cv e vals hN0 hag he hE hI hvl hV
 have HV:Hid (vT (tr l k) e=applyL (nth l k).op (nth l k).w (nth l k).k (pw l (nth l k)) ((pvs l e (nth l k)).getD 0 0) ((pvs l e (nth l k)).getD 1 0) ((pvs l e (nth l k)).getD 2 0)):=vT_other hD hN hk e h1 hq
 have HWF:Hid ((Lit.int .i64 (nth l k).k).wf=true):=wf_small (node_k hD hN hk)
 have HPD:Hid (∀ p∈parts (nth l k),0<=p/\p < (k:Int)):=hD k hk
 have hpl:=parts_le (nth l k)
 have hx:=hN0.2
 rcases hx with h0|⟨xb,xo,rfl,hc⟩
 ·omega
 obtain ⟨p0,p1,p2,p3,p4,p5⟩:=hc k hk
 rw [nth_get hk] at p0 p1 p2 p3 p4 p5
 have HWD:Hid (∀ m,m < l.length->w.cell? ⟨xb,xo+m*6+1,none⟩=some (.int .i64 (nth l m).w)):=fun m hm=>by
  have:=(hc m hm).c1
  rw [nth_get hm] at this
  exact this
 have hxb:xb < w.heap.size:=(hc k hk).lt
 have hkz:(k:Int) < (l.length:Int):=by omega
 have HPV:Hid (pvs l e (nth l k)=(parts (nth l k)).map fun p=>vT (tr l p.toNat) e):=rfl
 have HPW:Hid (∀ p r,parts (nth l k)=p :: r->pw l (nth l k)=(nth l p.toNat).w):=fun p r h=>by unfold pw;rw [h]
 have HPW0:Hid (parts (nth l k)=[]->pw l (nth l k)=1):=fun h=>by unfold pw;rw [h]
 generalize pw l (nth l k)=pwn at HV HPW HPW0
 generalize pvs l e (nth l k)=pv at HV HPV
 generalize nth l k=n at p0 p1 p2 p3 p4 p5 hq h1 HV HWF HPD hpl HPV HPW HPW0
 have t1:(n.op==1)=false:=by simpa using h1
 have hg:=hE.lt
 obtain ⟨w1,hw1⟩:∃ w1:World,w1=w.alloc (.cells #[.int .i64 n.op,.int .i64 n.w,.int .i64 n.k,.int .i64 n.a,.int .i64 n.b,.int .i64 n.c] 44):=⟨_,rfl⟩
 have hB1:Below w.heap.size w w1:=by rw [hw1];exact (Below.refl _ _).alloc (Nat.le_refl _) _
 have hs1:w1.heap.size=w.heap.size+1:=by rw [hw1];simp
 have HA1:NodeAt w1 w.heap.size 0 n:=by
  rw [hw1]
  exact Dw4.node_new w n _ _ rfl 0 (by simp)
 obtain ⟨w2,hw2⟩:∃ w2:World,w2=w1.alloc (.cells #[.int .i64 0,.int .i64 0,.int .i64 0] 3):=⟨_,rfl⟩
 have hB12:Below w1.heap.size w1 w2:=by rw [hw2];exact (Below.refl _ _).alloc (Nat.le_refl _) _
 have hs2:w2.heap.size=w.heap.size+1+1:=by rw [hw2];simp [hs1]
 have HA2:NodeAt w2 w.heap.size 0 n:=HA1.below hB12 (by omega)
 have HR2:Hid (Row w2 (w.heap.size+1) 3 (fun j=>.int .i64 ((fun _=>0) j))):=by
  rw [hw2,<- hs1]
  exact cell3 w1 _
 have hB2:Below w.heap.size w w2:=hB1.trans (hB12.mono (by omega))
 obtain ⟨q0,q1,q2,q3,q4,q5⟩:=HA1
 clear hc hN0 hN hD hB12 hag
 go_enter Tryz.func126,Tryz.ntmps126
 go_wp2_with fail
 rw [<- hw1]
 clear hw1
 have HW2:Hid (w2=w1.alloc (.cells #[.int .i64 0,.int .i64 0,.int .i64 0] 3)):=hw2
 have HS1:Hid (w1.heap.size=w.heap.size+1):=hs1
 have HS2:Hid (w2.heap.size=w.heap.size+1+1):=hs2
 clear hw2 hs1 hs2
 refine (sQuant _ _).mono ?_
 rintro x0 w1 ⟨rfl,rfl⟩
 rw [hq]
 have HA2':NodeAt (w1.alloc (.cells #[.int .i64 0,.int .i64 0,.int .i64 0] 3)) w.heap.size 0 n:=HW2.out ▸ HA2
 obtain ⟨u0,u1,u2,u3,u4,u5⟩:=HA2'
 go_wp2_with fail
 clear u0 u1 u2 u3 u4 u5
 rw [<- HW2.out]
 have hs1:=HS1.out
 have hs2:=HS2.out
 obtain ⟨gv,hgv⟩:∃ gv:Nat,gv=w1.heap.size:=⟨_,rfl⟩
 rw [<- hgv]
 have hgw:gv=w.heap.size+1:=by omega
 rw [<- hgw] at HR2 hs2
 refine (sParts n _).mono ?_
 rintro x0 w3 ⟨⟨ap,cp,rfl,hi3⟩,hb3⟩
 have HI3:Hid (IntsIn w3 (gv+1) w3.heap.size ap (parts n)):=by
  have:=hi3.within
  rw [hs2] at this
  exact this
 have HR3:Hid (Row w3 gv 3 (fun j=>.int .i64 ((fun _=>0) j))):=HR2.out.below hb3
 have HK3:Hid (Kept (fun b=>b=gv) w w3):=Kept.ofBelow (hB2.trans (hb3.mono hB2.size))
 have HA3:Hid (NodeAt w3 w.heap.size 0 n):=HA2.below hb3 (by omega)
 have hs3:w.heap.size+1+1<=w3.heap.size:=by have:=hb3.size;omega
 have HE0:Hid (Env w g e):=hE
 have HI0:Hid (Ints w av vals):=hI
 have HVL:Hid (vals.length=k):=hvl
 have HVV:Hid (∀ j,j < k->wd vals (j:Int)=vT (tr l j) e):=hV
 have HGW:Hid (gv=w.heap.size+1):=hgw
 clear hi3 hb3 HR2 HA2 hB1 hB2 HW2 HS1 HS2 hgv hgw hE hI hvl hV hs1 hs2 q0 q1 q2 q3 q4 q5 p0 p1 p2 p3 p4 p5
 go_wp2_with fail
 go_loopw [15,17] (fun vw q wr=>∃ (d:Nat) (y:Int) (F:Nat->Int),d<=(parts n).length/\q=.int .i64 (d:Int)/\vw=.int .i64 y/\(d=0->y=1)/\(0 < d->y=pwn)/\Row wr gv 3 (fun j=>.int .i64 (F j))/\(∀ j,j < 3->F j=if j < d then pv.getD j 0 else 0)/\Kept (fun b=>b=gv) w3 wr) (fun _ q _=>(parts n).length - (intOf q).toNat)
 case atStart=>exact ⟨0,1,_,Nat.zero_le _,rfl,rfl,fun _=>rfl,fun h=>absurd h (Nat.lt_irrefl _),HR3.out,fun j _=>rfl,Kept.refl _ _⟩
 case round =>
  obtain ⟨d,y,F,hd,rfl,rfl,hy0,hy1,hR,hF,hK⟩:=hrel
  have HY0:Hid (d=0->y=1):=hy0
  have HY1:Hid (0 < d->y=pwn):=hy1
  have HR:Hid (Row wr gv 3 (fun j=>.int .i64 (F j))):=hR
  have HF:Hid (∀ j,j < 3->F j=if j < d then pv.getD j 0 else 0):=hF
  have HK:Hid (Kept (fun b=>b=gv) w3 wr):=hK
  have HKW:Hid (Kept (fun b=>b=gv) w wr):=HK3.out.trans hK
  clear hy0 hy1 hR hF hK
  by_cases hlt:d < (parts n).length
  ·have hdz:(d:Int) < ((parts n).length:Int):=by omega
   obtain ⟨pm,hpm⟩:∃ pm:Int,pm=(parts n)[d]:=⟨_,rfl⟩
   have hpp:=HPD.out pm (by rw [hpm];exact List.getElem_mem hlt)
   obtain ⟨m,rfl⟩:∃ m:Nat,pm=(m:Int):=⟨pm.toNat,by omega⟩
   have hmk:m < k:=by omega
   rcases HI3.out.2 with h0|⟨pb,po,rfl,hpB,hpU,hpc⟩
   ·omega
   have r0:wr.cell? ⟨pb,po+d,none⟩=some (.int .i64 (m:Int)):=by
    rw [HK.out.cell (p:=⟨pb,po+d,none⟩) hpU (fun (e:pb=gv)=>by omega),hpm]
    exact (hpc d hlt).1
   rcases HI0.out.2 with h0|⟨vb,vo,rfl,hvc⟩
   ·have:=HVL.out;omega
   have hvm:m < vals.length:=by rw [HVL.out];exact hmk
   have hvb:vb < w.heap.size:=lt_of_cell (hvc m hvm)
   have r1:wr.cell? ⟨vb,vo+m,none⟩=some (.int .i64 (vT (tr l m) e)):=by
    rw [HKW.out.cell (p:=⟨vb,vo+m,none⟩) hvb (fun (e:vb=gv)=>by have:=HGW.out;omega),hvc m hvm,wd_get hvm,HVV.out m hmk]
   have r2:wr.cell? ⟨xb,xo+m*6+1,none⟩=some (.int .i64 (nth l m).w):=by
    rw [HKW.out.cell (p:=⟨xb,xo+m*6+1,none⟩) hxb (fun (e:xb=gv)=>by have:=HGW.out;omega)]
    exact HWD.out m (by omega)
   obtain ⟨s1,s2⟩:=HR.out d (by omega)
   have n1:¬ gv=pb:=by omega
   have n2:¬ gv=xb:=by have:=HGW.out;omega
   have n3:¬ gv=vb:=by have:=HGW.out;omega
   have n4:¬ pb=gv:=by omega
   have n5:¬ xb=gv:=by have:=HGW.out;omega
   have n6:¬ vb=gv:=by have:=HGW.out;omega
   have hmz:(m:Int) < (k:Int):=by omega
   have hml:(m:Int) < (l.length:Int):=by omega
   have hd3:(d:Int) < 3:=by omega
   have HRN:Hid (Row (wr.setCell ⟨gv,d,none⟩ (.int .i64 (vT (tr l m) e))) gv 3 (fun j=>.int .i64 ((fun j=>if j=d then vT (tr l m) e else F j) j))):=by
    refine (HR.out.set (p:=d) (by omega) _).congr (fun j hj=>?_)
    dsimp only
    split<;>rfl
   have HKN:Hid (Kept (fun b=>b=gv) w3 (wr.setCell ⟨gv,d,none⟩ (.int .i64 (vT (tr l m) e)))):=HK.out.setCell (p:=⟨gv,d,none⟩) rfl _
   have HFN:Hid (∀ j,j < 3->(fun j=>if j=d then vT (tr l m) e else F j) j=if j < d+1 then pv.getD j 0 else 0):=by
    show ∀ _,_
    intro j hj
    dsimp only
    by_cases ej:j=d
    ·subst ej
     rw [if_pos rfl,if_pos (by omega),HPV.out]
     have:((parts n).map fun p=>vT (tr l p.toNat) e).getD j 0=vT (tr l ((parts n)[j]).toNat) e:=by
      rw [List.getD_eq_getElem?_getD,List.getElem?_map,List.getElem?_eq_getElem hlt];rfl
     rw [this,<- hpm,Int.toNat_natCast]
    ·rw [if_neg ej,HF.out j hj]
     by_cases e2:j < d
     ·rw [if_pos e2,if_pos (by omega)]
     ·rw [if_neg e2,if_neg (by omega)]
   have HYN:Hid (d=0->(nth l m).w=pwn):=by
    show _->_
    intro h0
    subst h0
    have:∃ r,parts n=(m:Int) :: r:=by
     cases hp:parts n with
     | nil=>rw [hp] at hlt;simp at hlt
     | cons p r=>exact ⟨r,by simp [hp] at hpm;rw [hpm]⟩
    obtain ⟨r,hr⟩:=this
    rw [HPW.out _ r hr,Int.toNat_natCast]
   have HHD:Hid ((m:Int)=(parts n)[d]):=hpm
   clear hpm hpc hvc hpp HF HR HK HPD HWD
   generalize vT (tr l m) e=val at r1 HRN HKN HFN
   generalize (nth l m).w=wm at r2 HYN
   cases hd0:((d:Int)==0)
   ·have hd0':0 < d:=by have:¬ (d:Int)=0:=by simpa using hd0
                        omega
    go_wp2
    go_roundw
    case rel=>exact ⟨d+1,y,_,by omega,by go_num,rfl,fun h=>by omega,fun _=>HY1.out hd0',HRN.out,HFN.out,HKN.out⟩
    case measure=>simp [intOf];omega
   ·have HD0:Hid (d=0):=by
     show _=_
     have:(d:Int)=0:=by simpa using hd0
     omega
    go_wp2
    go_roundw
    case rel=>exact ⟨d+1,wm,_,by omega,by go_num,rfl,fun h=>by omega,fun _=>HYN.out HD0.out,HRN.out,HFN.out,HKN.out⟩
    case measure=>simp [intOf];omega
  ·have hdz:¬ (d:Int) < ((parts n).length:Int):=by omega
   have hde:d=(parts n).length:=by omega
   have HYE:Hid (y=pwn):=by
    show _=_
    by_cases h0:d=0
    ·rw [HY0.out h0,HPW0.out (List.eq_nil_of_length_eq_zero (by omega))]
    ·exact HY1.out (by omega)
   have HFE:Hid (∀ j,j < 3->F j=pv.getD j 0):=by
    show ∀ _,_
    intro j hj
    rw [HF.out j hj]
    by_cases e2:j < d
    ·rw [if_pos e2]
    ·rw [if_neg e2,HPV.out,List.getD_eq_getElem?_getD,List.getElem?_eq_none (by rw [List.length_map];omega)];rfl
   have hs3':w.heap.size < w3.heap.size:=by omega
   have hgn:¬ w.heap.size=gv:=by have:=HGW.out;omega
   have HS:wr.cell? ⟨w.heap.size,0,none⟩=some (.int .i64 n.op)/\wr.cell? ⟨w.heap.size,1,none⟩=some (.int .i64 n.w)/\wr.cell? ⟨w.heap.size,2,none⟩=some (.int .i64 n.k)/\wr.cell? ⟨w.heap.size,3,none⟩=some (.int .i64 n.a)/\wr.cell? ⟨w.heap.size,4,none⟩=some (.int .i64 n.b)/\wr.cell? ⟨w.heap.size,5,none⟩=some (.int .i64 n.c)/\wr.cell? ⟨gv,0,none⟩=some (.int .i64 (F 0))/\wr.cell? ⟨gv,1,none⟩=some (.int .i64 (F 1))/\wr.cell? ⟨gv,2,none⟩=some (.int .i64 (F 2)):=by
    obtain ⟨q0,q1,q2,q3,q4,q5⟩:=HA3.out
    exact ⟨(HK.out.cell (p:=⟨w.heap.size,0,none⟩) hs3' hgn).trans q0,(HK.out.cell (p:=⟨w.heap.size,1,none⟩) hs3' hgn).trans q1,(HK.out.cell (p:=⟨w.heap.size,2,none⟩) hs3' hgn).trans q2,(HK.out.cell (p:=⟨w.heap.size,3,none⟩) hs3' hgn).trans q3,(HK.out.cell (p:=⟨w.heap.size,4,none⟩) hs3' hgn).trans q4,(HK.out.cell (p:=⟨w.heap.size,5,none⟩) hs3' hgn).trans q5,(HR.out 0 (by omega)).1,(HR.out 1 (by omega)).1,(HR.out 2 (by omega)).1⟩
   have HVE:Hid (vT (tr l k) e=applyL n.op n.w n.k y (F 0) (F 1) (F 2)):=by
    show _=_
    rw [HV.out,HYE.out,HFE.out 0 (by omega),HFE.out 1 (by omega),HFE.out 2 (by omega)]
   clear hde
   go_wp2_with fail
   go_region_held (fun w'=>w'.cell? ⟨w.heap.size,0,none⟩=some (.int .i64 n.op)/\w'.cell? ⟨w.heap.size,1,none⟩=some (.int .i64 n.w)/\w'.cell? ⟨w.heap.size,2,none⟩=some (.int .i64 n.k)/\w'.cell? ⟨w.heap.size,3,none⟩=some (.int .i64 n.a)/\w'.cell? ⟨w.heap.size,4,none⟩=some (.int .i64 n.b)/\w'.cell? ⟨w.heap.size,5,none⟩=some (.int .i64 n.c)/\w'.cell? ⟨gv,0,none⟩=some (.int .i64 (F 0))/\w'.cell? ⟨gv,1,none⟩=some (.int .i64 (F 1))/\w'.cell? ⟨gv,2,none⟩=some (.int .i64 (F 2))) ((first|exact HS|exact kept9 (W:=wr.drew) HS hb4)) ((go_at_call 29;refine (sApply n y (F 0) (F 1) (F 2) _ HWF.out).mono ?_;rintro x0 w4 ⟨rfl,hb4⟩;have HB4:Hid (Below wr.heap.size wr w4):=(Below.refl wr.heap.size wr).drew.trans hb4))
   go_wp2
   go_ret
   have HKW4:Kept (fun b=>b=gv) w w4:=HKW.out.trans (Kept.ofBelow HB4.out)
   exact ⟨ret_int HVE.out.symm,HE0.out.kept HKW4 (fun (e:g=gv)=>by have:=HGW.out;omega),Kept.past (Kept.refl _ w) HKW4 (fun b (e:b=gv)=>.inr (by have:=HGW.out;omega))⟩
end Sv3
namespace Sv4
open Go.RowKit
open Nd0 Pl1 Tm0 Tm1 Tm5 Tm6 Tm8 Ap0 Tr0 Rw0 Vl1 Vl2 Vm0 Kp1 Sv3
open Wd1 (ret_int)
def vsTo (l:List Nd) (e:List Int) (k:Nat):List Int:=(List.range k).map fun j=>vT (tr l j) e
theorem vsTo_length (l:List Nd) (e:List Int) (k:Nat):(vsTo l e k).length=k:=by simp [vsTo]
theorem vsTo_succ (l:List Nd) (e:List Int) (k:Nat):vsTo l e (k+1)=vsTo l e k++[vT (tr l k) e]:=by simp [vsTo,List.range_succ]
theorem vsTo_wd (l:List Nd) (e:List Int) {j k:Nat} (h:j < k):wd (vsTo l e k) (j:Int)=vT (tr l j) e:=by
 rw [<- wd_get (by rw [vsTo_length];exact h)];simp [vsTo]
theorem at_of {l:List Nd} {i:Nat} (hi:i < l.length) (h80:l.length<=80) (ih:∀ k,k<=i->SOne l k):SAt l i:=by
 intro w a c g ce e hN0 hag he hE
 have HN0:Hid (Nodes w a l):=hN0
 have HAG:Hid (∀ x,a=some x->¬ x.block=g):=hag
 have HE:Hid (Env w g e):=hE
 have IH:Hid (∀ k,k<=i->SOne l k):=ih
 have hg:=hE.lt
 clear hN0 hag hE ih
 go_enter Tryz.func116,Tryz.ntmps116
 go_wp2_with fail
 go_loopw [7,8] (fun v q wr=>∃ k:Nat,k<=i+1/\q=.int .i64 (k:Int)/\Ows wr w.heap.size v (vsTo l e k)/\Env wr g e/\Kept (fun b=>b=g) w wr) (fun _ q _=>i+1 - (intOf q).toNat)
 case atStart=>exact ⟨0,Nat.zero_le _,rfl,Ows.lit w _ (Nat.le_refl _),HE.out.kept (S:=fun _=>False) ((Kept.refl _ _).alloc _) (fun h=>h),(Kept.refl _ _).alloc _⟩
 case round =>
  obtain ⟨k,hk,rfl,ho,hE2,hK2⟩:=hrel
  have HE2:Hid (Env wr g e):=hE2
  have HK2:Hid (Kept (fun b=>b=g) w wr):=hK2
  have hBs:w.heap.size<=wr.heap.size:=hK2.size
  have HLN:Hid ((vsTo l e k).length=k):=vsTo_length l e k
  clear hE2 hK2
  by_cases hlt:k<=i
  ·have hkz:(k:Int)<=(i:Int):=by omega
   obtain ⟨av,cv,rfl,hwi⟩:=ho.form
   have HO:Hid (Ows wr w.heap.size (.slice av (vsTo l e k).length cv) (vsTo l e k)):=ho
   have HI:Hid (Ints wr av (vsTo l e k)):=hwi.ints
   rw [HLN.out] at HO ⊢
   clear ho hwi
   have HSU:Hid (vsTo l e (k+1)=vsTo l e k++[vT (tr l k) e]):=vsTo_succ l e k
   have HON:=IH.out k hlt
   have HONH:Hid (SOne l k):=HON
   clear HON
   go_wp2_with fail
   refine (HONH.out _ _ _ c g ce cv e (vsTo l e k) (HN0.out.kept HK2.out HAG.out) HAG.out he HE2.out HI.out HLN.out (fun j hj=>vsTo_wd l e hj)).mono ?_
   rintro x0 w2 ⟨rfl,hE3,hK3⟩
   have HE3:Hid (Env w2 g e):=hE3
   have HK3:Hid (Kept (fun b=>b=g) w w2):=HK2.out.trans hK3
   have HO3:Hid (Ows w2 w.heap.size (.slice av k cv) (vsTo l e k)):=HO.out.kept hK3 (fun b hb (e:b=g)=>by have:=(HO.out.lt b hb).1;omega)
   have hB3:w.heap.size<=w2.heap.size:=HK3.out.size
   clear hE3 hK3 HO HI HE2
   generalize vT (tr l k) e=x at HSU
   generalize vsTo l e k=L at HO3 HSU HLN
   have HLE:Hid (L.length<=1048576):=by
    show _<=_
    have:=HLN.out
    omega
   go_wp2_with (at_builtin;go_must (refine app_int _ rfl _ _ rfl w.heap.size (.slice av k cv) L x rfl rfl HO3.out hB3 HLE.out ?_;intro g5 cp5 w5 ho5 hk5 hg5;have HO5:Hid (Ows w5 w.heap.size (.slice (some ⟨g5,0,none⟩) (L.length+1) cp5) (L++[x])):=ho5;have HK5:Hid (Kept (fun b=>(Value.slice av k cv).ownBlock=some b) w2 w5):=hk5;clear ho5 hk5 hg5))
   go_roundw
   case rel =>
    refine ⟨k+1,by omega,by go_num,by rw [HSU.out];exact HO5.out,HE3.out.kept HK5.out (fun h=>by have:=(HO3.out.lt g h).1;omega),Kept.past HK3.out HK5.out (fun b h=>.inr (HO3.out.lt b h).1)⟩
   case measure=>simp [intOf];omega
  ·have hkz:¬ (k:Int)<=(i:Int):=by omega
   have hke:k=i+1:=by omega
   obtain ⟨g6,c6,hv6,hg6,hr6⟩:∃ g6 c6,u7=.slice (some ⟨g6,0,none⟩) (i+1) c6/\g6 < wr.heap.size/\wr.cell? ⟨g6,i,none⟩=some (.int .i64 (vT (tr l i) e)):=by
    obtain ⟨g6,c6,hv,_,hlt6,hrow⟩:=Rw1.row_ints ho (by rw [HLN.out];omega)
    rw [HLN.out,hke] at hv
    refine ⟨g6,c6,hv,hlt6,?_⟩
    have:=(hrow i (by rw [HLN.out];omega)).1
    rw [this]
    dsimp only
    rw [vsTo_wd l e (by omega)]
   subst hv6
   clear ho
   have hiz:(i:Int) < (i:Int)+1:=by omega
   go_wp2
   go_ret
   exact ⟨rfl,HE2.out,HK2.out⟩
theorem sAt {l:List Nd} (hT:termOk l=true):∀ i,i < l.length->SAt l i:=by
 intro i
 induction i using Nat.strongRecOn with
 | ind i ih =>
   intro hi
   have hl:=term_len hT
   have hD:=down_of hT
   have hN:∀ k,k < l.length->nodeOk l k=true:=fun k hk=>term_node hT hk
   refine at_of hi hl.2 (fun k hk=>?_)
   have hkl:k < l.length:=by omega
   by_cases h1:(nth l k).op=1
   ·exact one_var hD hN hkl hl.2 h1
   ·cases hq:quant (nth l k).op
    ·exact one_other hD hN hkl hl.2 h1 hq
    ·refine one_quant hD hN hkl hl.2 hq ?_
     have hq2:(nth l k).op=19\/(nth l k).op=20:=by simpa [quant] using hq
     have haa:=hD k hkl (nth l k).a (by rw [parts_one (by omega)];simp)
     exact ih _ (by omega) (by omega)
end Sv4
namespace Vm1
open Nd0 Pl1 Pl2 Tm0 Tm1 Tm3 Tm5 Tm6 Tm8 Tm11 Tm13 Tm14 Tr0 Vl1 Vl2 Vm0
def rowN (l:List Nd) (j:Nat):List Nat:=(needT (tr l j)).getD []
def preN (l:List Nd) (n:Nd) (v:Nat):Nat->Nat
 | 0=>if n.op=1/\n.k=(v:Int) then 2 ^ n.w.toNat else 0
 | d+1=>preN l n v d ||| (rowN l ((parts n).getD d 0).toNat).getD v 0
def preA (l:List Nd) (n:Nd) (v:Nat):Nat:=preN l n v (parts n).length
def badQ (l:List Nd) (n:Nd):Bool:=quant n.op&&decide (preA l n n.k.toNat≠0/\preA l n n.k.toNat≠2 ^ n.b.toNat)
theorem getD_map8 (f:Nat->Nat) {v:Nat} (hv:v < 8):((List.range 8).map f).getD v 0=f v:=by
 rw [List.getD_eq_getElem?_getD,List.getElem?_map,List.getElem?_range hv];rfl
theorem need_row {l:List Nd} {i:Nat} (hp:∀ p∈parts (nth l i),(needT (tr l p.toNat)).isSome=true):∀ p∈parts (nth l i),needT (tr l p.toNat)=some (rowN l p.toNat):=fun p h=>by
 obtain ⟨r,hr⟩:=Option.isSome_iff_exists.1 (hp p h)
 unfold rowN;rw [hr];rfl
section
variable {l:List Nd} (hD:Down l) {i:Nat} (hi:i < l.length) (hp:∀ p∈parts (nth l i),(needT (tr l p.toNat)).isSome=true)
include hD hi hp
theorem need_none (hb:badQ l (nth l i)=true):needT (tr l i)=none:=by
 have hr:=need_row hp
 unfold badQ at hb
 simp only [Bool.and_eq_true] at hb
 obtain ⟨hq,hb⟩:=hb
 have hb:=of_decide_eq_true hb
 rw [tr_at hD hi]
 generalize nth l i=n at hr hq hb
 have hq2:n.op=19\/n.op=20:=by simpa [quant] using hq
 have h1:n.op=2\/n.op=17\/n.op=19\/n.op=20:=by omega
 rw [mk_one h1]
 have hpp:=parts_one h1
 simp only [needT]
 rw [hr n.a (by rw [hpp];simp)]
 simp only [Option.bind_some,hq,if_true]
 have e:preA l n n.k.toNat=(rowN l n.a.toNat).getD n.k.toNat 0:=by
  unfold preA
  rw [hpp]
  show preN l n n.k.toNat (0+1)=_
  unfold preN
  rw [hpp]
  have:¬ (n.op=1/\n.k=(n.k.toNat:Int)):=fun h=>by omega
  simp only [preN]
  rw [if_neg this]
  simp
 rw [e] at hb
 rw [if_pos hb]
theorem need_some (hb:badQ l (nth l i)=false) (hk:quant (nth l i).op=true->0<=(nth l i).k):∃ r,needT (tr l i)=some r/\∀ v,v < 8->r.getD v 0=if quant (nth l i).op/\(nth l i).k=(v:Int) then 0 else preA l (nth l i) v:=by
 have hr:=need_row hp
 unfold badQ at hb
 rw [tr_at hD hi]
 generalize nth l i=n at hr hb hk
 by_cases h1:n.op=2\/n.op=17\/n.op=19\/n.op=20
 ·rw [mk_one h1]
  have hpp:=parts_one h1
  simp only [needT]
  have hra:=hr n.a (by rw [hpp];simp)
  have hrl:=need_len _ _ hra
  have e:∀ v,preA l n v=(rowN l n.a.toNat).getD v 0:=fun v=>by
   unfold preA
   rw [hpp]
   show preN l n v (0+1)=_
   unfold preN
   rw [hpp]
   have:¬ (n.op=1/\n.k=(v:Int)):=fun h=>by omega
   simp only [preN]
   rw [if_neg this]
   simp
  rw [hra]
  simp only [Option.bind_some]
  cases hq:quant n.op
  ·simp only [Bool.false_eq_true,if_false]
   exact ⟨_,rfl,fun v hv=>by rw [if_neg (by simp),e v]⟩
  ·simp only [if_true]
   rw [hq] at hb
   simp only [Bool.true_and] at hb
   have hb:=of_decide_eq_false hb
   rw [e] at hb
   rw [if_neg hb]
   refine ⟨_,rfl,fun v hv=>?_⟩
   have h0:=hk hq
   by_cases ev:n.k=(v:Int)
   ·rw [if_pos ⟨by simp,ev⟩]
    have:n.k.toNat=v:=by omega
    rw [this,List.getD_eq_getElem?_getD,List.getElem?_set_self (by rw [hrl];exact hv)];rfl
   ·rw [if_neg (fun h=>ev h.2),e v,List.getD_eq_getElem?_getD,List.getElem?_set_ne (by omega),<- List.getD_eq_getElem?_getD]
 ·have hq:quant n.op=false:=by
   have:¬ n.op=19/\¬ n.op=20:=by omega
   simp [quant,this]
  by_cases h2:3<=n.op/\n.op<=16
  ·rw [mk_two h2]
   have hpp:=parts_two h2
   simp only [needT]
   rw [hr n.a (by rw [hpp];simp),hr n.b (by rw [hpp];simp)]
   simp only [Option.bind_some]
   refine ⟨_,rfl,fun v hv=>?_⟩
   rw [hq,if_neg (by simp),or_at _ _ hv]
   unfold preA
   rw [hpp]
   show _=preN l n v (0+1+1)
   have:¬ (n.op=1/\n.k=(v:Int)):=fun h=>by omega
   simp only [preN,hpp]
   rw [if_neg this]
   simp
  ·by_cases h3:n.op=18
   ·rw [mk_three h3]
    have hpp:=parts_three h3
    simp only [needT]
    rw [hr n.a (by rw [hpp];simp),hr n.b (by rw [hpp];simp),hr n.c (by rw [hpp];simp)]
    simp only [Option.bind_some]
    refine ⟨_,rfl,fun v hv=>?_⟩
    rw [hq,if_neg (by simp),or_at _ _ hv,or_at _ _ hv]
    unfold preA
    rw [hpp]
    show _=preN l n v (0+1+1+1)
    have:¬ (n.op=1/\n.k=(v:Int)):=fun h=>by omega
    simp only [preN,hpp]
    rw [if_neg this]
    simp
   ·rw [mk_leaf h1 h2 h3]
    have hpp:=parts_none h1 h2 h3
    simp only [needT]
    refine ⟨_,rfl,fun v hv=>?_⟩
    rw [hq,if_neg (by simp),getD_map8 _ hv]
    unfold preA
    rw [hpp]
    rfl
end
theorem part_none {l:List Nd} (hD:Down l) {i:Nat} (hi:i < l.length) {p:Int} (hp:p∈parts (nth l i)) (h:needT (tr l p.toNat)=none):needT (tr l i)=none:=by
 rw [tr_at hD hi]
 generalize nth l i=n at hp
 by_cases h1:n.op=2\/n.op=17\/n.op=19\/n.op=20
 ·rw [mk_one h1]
  rw [parts_one h1] at hp
  simp only [List.mem_cons,List.not_mem_nil,or_false] at hp
  subst hp
  simp only [needT]
  rw [h];rfl
 ·by_cases h2:3<=n.op/\n.op<=16
  ·rw [mk_two h2]
   rw [parts_two h2] at hp
   simp only [List.mem_cons,List.not_mem_nil,or_false] at hp
   simp only [needT]
   rcases hp with rfl|rfl
   ·rw [h];rfl
   ·rw [h];cases needT (tr l n.a.toNat)<;>rfl
  ·by_cases h3:n.op=18
   ·rw [mk_three h3]
    rw [parts_three h3] at hp
    simp only [List.mem_cons,List.not_mem_nil,or_false] at hp
    simp only [needT]
    rcases hp with rfl|rfl|rfl
    ·rw [h];rfl
    ·rw [h];cases needT (tr l n.a.toNat)<;>rfl
    ·rw [h];cases needT (tr l n.a.toNat)<;>cases needT (tr l n.b.toNat)<;>rfl
   ·rw [parts_none h1 h2 h3] at hp
    cases hp
theorem root_none {l:List Nd} (hD:Down l):∀ d i,l.length=i+1+d->flag (reachL l) i=true->needT (tr l i)=none->needT (root l)=none:=by
 intro d
 induction d using Nat.strongRecOn with
 | ind d ih =>
   intro i hi hf hn
   rcases reach_why hD (i:=i) (by omega) hf with e|⟨j,h1,h2,h3,h4⟩
   ·unfold root;rw [<- e];exact hn
   ·refine ih (l.length - (j+1)) (by omega) j (by omega) h3 (part_none hD (by omega) h4 ?_)
    rw [Int.toNat_natCast];exact hn
theorem need_bd:∀ (x:Tr) (r:List Nat),Rt x->needT x=some r->∀ v,r.getD v 0 < 2 ^ 9:=by
 have hor:∀ (r s:List Nat) (v:Nat),(∀ v,r.getD v 0 < 2 ^ 9)->(∀ v,s.getD v 0 < 2 ^ 9)->(orL r s).getD v 0 < 2 ^ 9:=by
  intro r s v hr hs
  by_cases hv:v < 8
  ·rw [or_at r s hv];exact Nat.or_lt_two_pow (hr v) (hs v)
  ·rw [List.getD_eq_getElem?_getD,List.getElem?_eq_none (by unfold orL;simp;omega)];decide
 intro x
 induction x with
 | leaf op w k =>
   intro r hR h v
   simp only [needT] at h
   cases h
   by_cases hv:v < 8
   ·rw [getD_map8 _ hv]
    split
    ·have h8:w.toNat<=8:=by have:=hR.2.1;omega
     exact Nat.lt_of_le_of_lt (Nat.pow_le_pow_right (by omega) h8) (by decide)
    ·decide
   ·rw [List.getD_eq_getElem?_getD,List.getElem?_eq_none (by simp;omega)];decide
 | one op w k b x ih =>
   intro r hR h v
   simp only [needT] at h
   cases hn:needT x with
   | none=>rw [hn] at h;cases h
   | some s =>
     rw [hn] at h
     simp only [Option.bind_some] at h
     have hs:=ih s hR.2.2.1 hn
     split at h
     ·split at h
      ·cases h
      ·cases h
       rw [List.getD_eq_getElem?_getD]
       by_cases e:k.toNat=v
       ·subst e
        by_cases hl:k.toNat < s.length
        ·rw [List.getElem?_set_self hl];decide
        ·rw [List.getElem?_eq_none (by rw [List.length_set];omega)];decide
       ·rw [List.getElem?_set_ne e,<- List.getD_eq_getElem?_getD];exact hs v
     ·cases h;exact hs v
 | two op w x y ihx ihy =>
   intro r hR h v
   simp only [needT] at h
   cases hx:needT x with
   | none=>rw [hx] at h;cases h
   | some s =>
     cases hy:needT y with
     | none=>rw [hx,hy] at h;cases h
     | some t =>
       rw [hx,hy] at h
       simp only [Option.bind_some] at h
       cases h
       exact hor s t v (ihx s hR.2.2.1 hx) (ihy t hR.2.2.2.1 hy)
 | three op w x y z ihx ihy ihz =>
   intro r hR h v
   simp only [needT] at h
   cases hx:needT x with
   | none=>rw [hx] at h;cases h
   | some s =>
     cases hy:needT y with
     | none=>rw [hx,hy] at h;cases h
     | some t =>
       cases hz:needT z with
       | none=>rw [hx,hy,hz] at h;cases h
       | some u =>
         rw [hx,hy,hz] at h
         simp only [Option.bind_some] at h
         cases h
         exact hor _ u v (fun v=>hor s t v (ihx s hR.2.2.1 hx) (ihy t hR.2.2.2.1 hy)) (ihz u hR.2.2.2.2.1 hz)
end Vm1
end Go.Proofs.YthanhcobfehmnaaGreat
