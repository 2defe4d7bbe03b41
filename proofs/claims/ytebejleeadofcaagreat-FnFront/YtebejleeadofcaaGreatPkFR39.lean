import Derived.Test.YtebejleeadofcaaGreatPkFR38
import Derived.Test.YtebejleeadofcaaGreatPkFR24
import Derived.Test.YtebejleeadofcaaGreatPv8
import Derived.Test.YtebejleeadofcaaGreatPkFR2
namespace Go.Proofs.YtebejleeadofcaaGreat
set_option maxRecDepth 100000
set_option maxHeartbeats 8000000
set_option linter.unusedVariables false
namespace Pv11
open Go.RowKit
open Nd0 Pl1 Tm0 Tm1 Tm5 Tm6 Tm8 Tr0 Rw0 Vl1 Vl2 Vm0 Vm1 Vm2 Kp1 Pv7 Pv9 Ic4
open Ws1 (ret_int ret_bool)
open Pg1 (iCount cnt cnt_parts cnt_le)
theorem node_a {l:List Nd} (hT:termOk l=true) {i:Nat} (hi:i < l.length):0<=(nth l i).a/\(nth l i).a < (l.length:Int)/\(parts (nth l i)=[]->(nth l i).op=0\/(nth l i).op=1):=by
 have hD:=down_of hT i hi
 have hok:=term_node hT hi
 simp only [nodeOk,Bool.and_eq_true] at hok
 have hs:=hok.2
 generalize nth l i=n at hD hs
 by_cases h1:n.op=2\/n.op=17\/n.op=19\/n.op=20
 ·have:=hD n.a (by rw [parts_one h1];simp)
  exact ⟨by omega,by omega,fun h=>by rw [parts_one h1] at h;cases h⟩
 by_cases h2:3<=n.op/\n.op<=16
 ·have:=hD n.a (by rw [parts_two h2];simp)
  exact ⟨by omega,by omega,fun h=>by rw [parts_two h2] at h;cases h⟩
 by_cases h3:n.op=18
 ·have:=hD n.a (by rw [parts_three h3];simp)
  exact ⟨by omega,by omega,fun h=>by rw [parts_three h3] at h;cases h⟩
 unfold shapeOk at hs
 by_cases h0:n.op=0
 ·rw [if_pos h0] at hs
  simp only [Bool.and_eq_true] at hs
  have:=of_decide_eq_true hs.2
  exact ⟨by omega,by omega,fun _=>.inl h0⟩
 rw [if_neg h0] at hs
 by_cases hv:n.op=1
 ·rw [if_pos hv] at hs
  have:=of_decide_eq_true hs
  exact ⟨by omega,by omega,fun _=>.inr hv⟩
 rw [if_neg hv,if_neg (by omega),if_neg (by omega),if_neg (by omega),if_neg (by omega),if_neg (by omega),if_neg (by omega),if_neg (by omega)] at hs
 cases hs
theorem parts4 (n:Nd):parts n=[]\/parts n=[n.a]\/parts n=[n.a,n.b]\/parts n=[n.a,n.b,n.c]:=by
 by_cases h1:n.op=2\/n.op=17\/n.op=19\/n.op=20
 ·exact .inr (.inl (parts_one h1))
 by_cases h2:3<=n.op/\n.op<=16
 ·exact .inr (.inr (.inl (parts_two h2)))
 by_cases h3:n.op=18
 ·exact .inr (.inr (.inr (parts_three h3)))
 exact .inl (parts_none h1 h2 h3)
theorem parts_abc (n:Nd) {d:Nat} (h:d < (parts n).length):d < 3/\[n.a,n.b,n.c][d]? = some (parts n)[d]:=by
 rcases parts4 n with e|e|e|e
 ·rw [e] at h;simp at h
 all_goals
  have h2:=h
  rw [e] at h2
  simp only [List.length_cons,List.length_nil] at h2
  refine ⟨by omega,?_⟩
  have h3:([n.a,n.b,n.c]:List Int)[d]? = (parts n)[d]? := by
   rw [e]
   first
    | done
    | (rcases (show d=0\/d=1\/d=2 by omega) with q|q|q<;>subst q<;>first|rfl|(exfalso;omega))
  rw [h3,List.getElem?_eq_getElem h]
theorem vT_w {l:List Nd} (hT:termOk l=true) {i:Nat} (hi:i < l.length) (e:List Int) (h1:¬ (nth l i).op=1) (hq:quant (nth l i).op=false) :
 vT (tr l i) e=applyL (nth l i).op (nth l i).w (nth l i).k (nth l (nth l i).a.toNat).w ((pvs l e (nth l i)).getD 0 0) ((pvs l e (nth l i)).getD 1 0) ((pvs l e (nth l i)).getD 2 0):=by
 have hN:∀ k,k < l.length->nodeOk l k=true:=fun k hk=>term_node hT hk
 rw [vT_other (down_of hT) hN hi e h1 hq]
 obtain ⟨a0,a1,ap⟩:=node_a hT hi
 cases hp:parts (nth l i) with
 | nil =>
   have h0:(nth l i).op=0:=by
    rcases ap hp with h|h
    ·exact h
    ·exact absurd h h1
   have e1:pw l (nth l i)=1:=by unfold pw;rw [hp]
   have e2:pvs l e (nth l i)=[]:=by unfold pvs;rw [hp];rfl
   have hw:=node_width (hN i hi)
   have hw2:=node_width (hN (nth l i).a.toNat (by omega))
   rw [e1,e2,h0]
   show applyL 0 _ _ 1 0 0 0=applyL 0 _ _ _ 0 0 0
   rw [app_in hw ⟨by omega,by omega⟩ ⟨by omega,by omega⟩ ⟨by omega,by omega⟩ ⟨by omega,by omega⟩,app_in hw hw2 ⟨by omega,by omega⟩ ⟨by omega,by omega⟩ ⟨by omega,by omega⟩]
   rfl
 | cons p r =>
   have e1:pw l (nth l i)=(nth l p.toNat).w:=by unfold pw;rw [hp]
   have e2:p=(nth l i).a:=by
    rcases parts4 (nth l i) with h|h|h|h
    ·rw [h] at hp;cases hp
    ·rw [h] at hp;cases hp;rfl
    ·rw [h] at hp;cases hp;rfl
    ·rw [h] at hp;cases hp;rfl
   rw [e1,e2]
structure Works (w w3:World) (n:Nd):Prop where
 sz:w3.heap.size=w.heap.size+1+1+1
 below:Below w.heap.size w w3
 nd:NodeAt w3 w.heap.size 0 n
 pl:∀ d (h:d < 3),w3.cell? ⟨w.heap.size+1,d,none⟩=some (.int .i64 ([n.a,n.b,n.c][d]'(by simpa using h)))
 vals:Row w3 (w.heap.size+1+1) 3 (fun j=>.int .i64 ((fun _=>0) j))
theorem work_facts (w:World) (n:Nd) (t1 t2 t3:Nat) (w3:World) (h:w3=((w.alloc (.cells #[.int .i64 n.op,.int .i64 n.w,.int .i64 n.k,.int .i64 n.a,.int .i64 n.b,.int .i64 n.c] t1)).alloc (.cells #[.int .i64 n.a,.int .i64 n.b,.int .i64 n.c] t2)).alloc (.cells #[.int .i64 0,.int .i64 0,.int .i64 0] t3)):Works w w3 n:=by
 obtain ⟨wa,ha⟩:∃ wa,wa=w.alloc (.cells #[.int .i64 n.op,.int .i64 n.w,.int .i64 n.k,.int .i64 n.a,.int .i64 n.b,.int .i64 n.c] t1):=⟨_,rfl⟩
 obtain ⟨wb,hb⟩:∃ wb,wb=wa.alloc (.cells #[.int .i64 n.a,.int .i64 n.b,.int .i64 n.c] t2):=⟨_,rfl⟩
 rw [<- ha,<- hb] at h
 have sa:wa.heap.size=w.heap.size+1:=by rw [ha];simp
 have sb:wb.heap.size=w.heap.size+1+1:=by rw [hb];simp [sa]
 have s3:w3.heap.size=w.heap.size+1+1+1:=by rw [h];simp [sb]
 have ba:Below w.heap.size w wa:=by rw [ha];exact (Below.refl _ _).alloc (Nat.le_refl _) _
 have bb:Below wa.heap.size wa wb:=by rw [hb];exact (Below.refl _ _).alloc (Nat.le_refl _) _
 have b3:Below wb.heap.size wb w3:=by rw [h];exact (Below.refl _ _).alloc (Nat.le_refl _) _
 have bb3:Below wa.heap.size wa w3:=bb.trans (b3.mono (by omega))
 refine ⟨s3,ba.trans (bb3.mono (by omega)),?_,fun d hd=>?_,?_⟩
 ·refine NodeAt.below ?_ bb3 (show w.heap.size < _ by omega)
  rw [ha]
  exact Dw4.node_new w n t1 _ rfl 0 (by simp)
 ·rw [<- sa,b3.cell (p:=⟨wa.heap.size,d,none⟩) (show wa.heap.size < _ by omega),hb,World.cell?_alloc_new]
  match d,hd with
  | 0,_=>rfl
  | 1,_=>rfl
  | 2,_=>rfl
 ·rw [<- sb,h]
  exact Row.new wb #[.int .i64 0,.int .i64 0,.int .i64 0] t3 3 (fun _=>.int .i64 0) (fun j hj=>by
   match j,hj with
   | 0,_=>rfl
   | 1,_=>rfl
   | 2,_=>rfl)
theorem kept11 {W W':World} {b s x o t:Nat} {v0 v1 v2 v3 v4 v5 v6 v7 v8 v9 v10:Value}
 (h:W.cell? ⟨b,0,none⟩=some v0/\W.cell? ⟨b,1,none⟩=some v1/\W.cell? ⟨b,2,none⟩=some v2/\W.cell? ⟨b,3,none⟩=some v3/\W.cell? ⟨b,4,none⟩=some v4/\W.cell? ⟨b,5,none⟩=some v5/\W.cell? ⟨s,0,none⟩=some v6/\W.cell? ⟨x,o,none⟩=some v7/\W.cell? ⟨t,0,none⟩=some v8/\W.cell? ⟨t,1,none⟩=some v9/\W.cell? ⟨t,2,none⟩=some v10) (hb:Below W.heap.size W W') :
 W'.cell? ⟨b,0,none⟩=some v0/\W'.cell? ⟨b,1,none⟩=some v1/\W'.cell? ⟨b,2,none⟩=some v2/\W'.cell? ⟨b,3,none⟩=some v3/\W'.cell? ⟨b,4,none⟩=some v4/\W'.cell? ⟨b,5,none⟩=some v5/\W'.cell? ⟨s,0,none⟩=some v6/\W'.cell? ⟨x,o,none⟩=some v7/\W'.cell? ⟨t,0,none⟩=some v8/\W'.cell? ⟨t,1,none⟩=some v9/\W'.cell? ⟨t,2,none⟩=some v10:=by
 obtain ⟨h0,h1,h2,h3,h4,h5,h6,h7,h8,h9,h10⟩:=h
 exact ⟨(hb.cell (lt_of_cell h0)).trans h0,(hb.cell (lt_of_cell h1)).trans h1,(hb.cell (lt_of_cell h2)).trans h2,(hb.cell (lt_of_cell h3)).trans h3,(hb.cell (lt_of_cell h4)).trans h4,(hb.cell (lt_of_cell h5)).trans h5,(hb.cell (lt_of_cell h6)).trans h6,(hb.cell (lt_of_cell h7)).trans h7,(hb.cell (lt_of_cell h8)).trans h8,(hb.cell (lt_of_cell h9)).trans h9,(hb.cell (lt_of_cell h10)).trans h10⟩
theorem work_other (hIA:IApply) {l:List Nd} (hT:termOk l=true) {i:Nat} (hi:i < l.length) (h1:¬ (nth l i).op=1) (hq:quant (nth l i).op=false) (ih:∀ p∈parts (nth l i),PVal l p.toNat):PWork l i:=by
 intro w s a c e K V hN hag he hS hF
 have HV:Hid (vT (tr l i) e=applyL (nth l i).op (nth l i).w (nth l i).k (nth l (nth l i).a.toNat).w ((pvs l e (nth l i)).getD 0 0) ((pvs l e (nth l i)).getD 1 0) ((pvs l e (nth l i)).getD 2 0)):=vT_w hT hi e h1 hq
 have HWF:Hid ((Lit.int .i64 (nth l i).k).wf=true):=wf_small (node_k (down_of hT) (fun k hk=>term_node hT hk) hi)
 have HPD:Hid (∀ p∈parts (nth l i),0<=p/\p < (i:Int)):=down_of hT i hi
 have HFP:Hid (∀ p∈parts (nth l i),FitN l p.toNat e):=fun p hp=>hF.part (down_of hT) hi hq hp
 have HIH:Hid (∀ p∈parts (nth l i),PVal l p.toNat):=ih
 have HPV:Hid (pvs l e (nth l i)=(parts (nth l i)).map fun p=>vT (tr l p.toNat) e):=rfl
 obtain ⟨na0,na1,_⟩:=node_a hT hi
 have HCN:=cnt_parts (nth l i)
 have HIAH:Hid IApply:=hIA
 have hag':=hag
 rcases hN.2 with h0|⟨xb,xo,rfl,hc⟩
 ·omega
 have hxb:xb < w.heap.size:=(hc i hi).lt
 have HWD:Hid (∀ m,m < l.length->w.cell? ⟨xb,xo+m*6+1,none⟩=some (.int .i64 (nth l m).w)):=fun m hm=>by
  have:=(hc m hm).c1
  rw [nth_get hm] at this
  exact this
 have HN:Hid (Nodes w (some ⟨xb,xo,none⟩) l):=hN
 have HS:Hid (Sc w s (some ⟨xb,xo,none⟩) l c e K V):=hS
 have HAG:Hid (∀ x,some (⟨xb,xo,none⟩:Addr)=some x->x.block≠s):=hag
 have hsl:=hS.lt
 generalize pvs l e (nth l i)=pv at HV HPV
 have h19:¬ (nth l i).op=19/\¬ (nth l i).op=20:=by simpa [quant] using hq
 generalize nth l i=n at HV HWF HPD HFP HIH HPV na0 na1 HCN h1 h19 ⊢
 have t1:(n.op==1)=false:=by simpa using h1
 have t2:(n.op==19)=false:=by simpa using h19.1
 have t3:(n.op==20)=false:=by simpa using h19.2
 clear hN hS hag hag' hc ih hF h1 h19 hIA hq
 go_enter Tryz.func81,Tryz.ntmps81
 go_wp2_with (go_at_call 64;refine (iCount _ _).mono ?_;rintro e0 w4 ⟨rfl,rfl⟩)
 obtain ⟨w3,hw3⟩:∃ w3:World,w3=((w.alloc (.cells #[.int .i64 n.op,.int .i64 n.w,.int .i64 n.k,.int .i64 n.a,.int .i64 n.b,.int .i64 n.c] 58)).alloc (.cells #[.int .i64 n.a,.int .i64 n.b,.int .i64 n.c] 95)).alloc (.cells #[.int .i64 0,.int .i64 0,.int .i64 0] 95):=⟨_,rfl⟩
 have W:=work_facts w n _ _ _ w3 hw3
 rw [<- hw3]
 clear hw3
 obtain ⟨gp,hgp⟩:∃ gp:Nat,gp=w.heap.size+1:=⟨_,rfl⟩
 obtain ⟨gv,hgv⟩:∃ gv:Nat,gv=w.heap.size+1+1:=⟨_,rfl⟩
 rw [<- hgv,<- hgp]
 have HGP:Hid (gp=w.heap.size+1/\gv=w.heap.size+1+1/\w3.heap.size=w.heap.size+1+1+1):=⟨hgp,hgv,W.sz⟩
 have HS3:Hid (Sc w3 s (some ⟨xb,xo,none⟩) l c e K V):=HS.out.kept (S:=fun _=>False) (Kept.ofBelow W.below) (fun h=>h)
 have HR3:Hid (Row w3 gv 3 (fun j=>.int .i64 ((fun _=>0) j))):=by rw [hgv];exact W.vals
 have HNA3:Hid (NodeAt w3 w.heap.size 0 n):=W.nd
 have HPL:Hid (∀ d (h:d < 3),w3.cell? ⟨gp,d,none⟩=some (.int .i64 ([n.a,n.b,n.c][d]'(by simpa using h)))):=by rw [hgp];exact W.pl
 have HBW:Hid (Below w.heap.size w w3):=W.below
 have HCN2:Hid ((parts n).length=cnt n.op):=HCN
 have hc3:=cnt_le n.op
 clear W hgp hgv HCN
 generalize cnt n.op=cn at HCN2 hc3 ⊢
 go_loopw [42] (fun q wr=>∃ d:Nat,d<=cn/\q=.int .i64 (d:Int)/\∃ (F:Nat->Int) (K':Nat->Bool) (V':Nat->Int),Row wr gv 3 (fun j=>.int .i64 (F j))/\(∀ j,j < 3->F j=if j < d then pv.getD j 0 else 0)/\Sc wr s (some ⟨xb,xo,none⟩) l c e K' V'/\Kept (fun b=>b=s\/b=gv) w3 wr) (fun q _=>cn - (intOf q).toNat)
 case atStart=>exact ⟨0,Nat.zero_le _,rfl,_,K,V,HR3.out,fun j _=>rfl,HS3.out,Kept.refl _ _⟩
 case round =>
  obtain ⟨d,hd,rfl,F,K',V',hR,hF,hS4,hK⟩:=hrel
  have HR:Hid (Row wr gv 3 (fun j=>.int .i64 (F j))):=hR
  have HF:Hid (∀ j,j < 3->F j=if j < d then pv.getD j 0 else 0):=hF
  have HS4:Hid (Sc wr s (some ⟨xb,xo,none⟩) l c e K' V'):=hS4
  have HK:Hid (Kept (fun b=>b=s\/b=gv) w3 wr):=hK
  have hG:=HGP.out
  have HNW:Hid (Nodes wr (some ⟨xb,xo,none⟩) l):=(HN.out.below HBW.out).kept hK (fun y hy h=>by
   have e1:=Option.some.inj hy
   subst e1
   rcases h with h|h
   ·exact HAG.out _ rfl h
   ·have h':xb=gv:=h
    omega)
  have hxk:¬ (xb=s\/xb=gv):=fun h=>by
   rcases h with h|h
   ·exact HAG.out _ rfl h
   ·omega
  have hpk:¬ (gp=s\/gp=gv):=by omega
  have hnk:¬ (w.heap.size=s\/w.heap.size=gv):=by omega
  clear hR hF hS4 hK
  by_cases hlt:d < cn
  ·have hdz:(d:Int) < (cn:Int):=by omega
   have hdl:d < (parts n).length:=by rw [HCN2.out];exact hlt
   obtain ⟨hd3,habc⟩:=parts_abc n hdl
   have hpp:=HPD.out (parts n)[d] (List.getElem_mem hdl)
   have hih:=HIH.out (parts n)[d] (List.getElem_mem hdl)
   have hfp:=HFP.out (parts n)[d] (List.getElem_mem hdl)
   have r0:wr.cell? ⟨gp,d,none⟩=some (.int .i64 (parts n)[d]):=by
    rw [HK.out.cell (p:=⟨gp,d,none⟩) (show gp < w3.heap.size by omega) hpk,HPL.out d hd3]
    congr 2
    have h5:=habc
    rw [List.getElem?_eq_getElem (by simpa using hd3)] at h5
    exact Option.some.inj h5
   have HPE:Hid (∀ j,j=d->pv.getD j 0=vT (tr l ((parts n)[d]).toNat) e):=by
    show ∀ _,_
    intro j hj
    subst hj
    rw [HPV.out,List.getD_eq_getElem?_getD,List.getElem?_map,List.getElem?_eq_getElem hdl]
    rfl
   generalize (parts n)[d]=p at hpp hih hfp r0 HPE
   obtain ⟨m,rfl⟩:∃ m:Nat,p=(m:Int):=⟨p.toNat,by omega⟩
   rw [Int.toNat_natCast] at hih hfp HPE
   obtain ⟨s1,s2⟩:=HR.out d hd3
   have hd3z:(d:Int) < 3:=by omega
   have HIP:Hid (PVal l m):=hih
   have HFT:Hid (FitN l m e):=hfp
   have gsv:¬ gv=s:=by omega
   clear hih hfp habc hG hpk hnk hxk
   go_wp2_with fail
   refine (HIP.out wr s _ c e K' V' HNW.out HAG.out he HS4.out HFT.out).mono ?_
   rintro x0 w4 ⟨rfl,⟨K5,V5,hS5⟩,hK5⟩
   have s3:w4.cell? ⟨gv,d,none⟩=some (.int .i64 (F d)):=(hK5.cell (p:=⟨gv,d,none⟩) (lt_of_cell s1) gsv).trans s1
   have s4:w4.frozen? ⟨gv,d,none⟩=false:=(hK5.frozen (p:=⟨gv,d,none⟩) (lt_of_cell s1) gsv).trans s2
   have HR5:Hid (Row (w4.setCell ⟨gv,d,none⟩ (.int .i64 (vT (tr l m) e))) gv 3 (fun j=>.int .i64 ((fun j=>if j=d then vT (tr l m) e else F j) j))):=by
    refine ((HR.out.kept hK5 gsv).set (p:=d) hd3 _).congr (fun j hj=>?_)
    dsimp only
    split<;>rfl
   have HS5:Hid (Sc (w4.setCell ⟨gv,d,none⟩ (.int .i64 (vT (tr l m) e))) s (some ⟨xb,xo,none⟩) l c e K5 V5):=hS5.kept (S:=fun b=>b=gv) ((Kept.refl (fun b=>b=gv) w4).setCell (p:=⟨gv,d,none⟩) rfl _) (fun h=>gsv h.symm)
   have HK5:Hid (Kept (fun b=>b=s\/b=gv) w3 (w4.setCell ⟨gv,d,none⟩ (.int .i64 (vT (tr l m) e)))):=(HK.out.trans (hK5.mono (fun b h=>.inl h))).setCell (p:=⟨gv,d,none⟩) (.inr rfl) _
   have HF5:Hid (∀ j,j < 3->(fun j=>if j=d then vT (tr l m) e else F j) j=if j < d+1 then pv.getD j 0 else 0):=by
    show ∀ _,_
    intro j hj
    dsimp only
    by_cases ej:j=d
    ·rw [if_pos ej,if_pos (by omega),HPE.out j ej]
    ·rw [if_neg ej,HF.out j hj]
     by_cases e2:j < d
     ·rw [if_pos e2,if_pos (by omega)]
     ·rw [if_neg e2,if_neg (by omega)]
   generalize vT (tr l m) e=val at HR5 HS5 HK5 HF5
   clear hS5 hK5 r0 s1 s2
   go_wp2
   go_roundw
   case rel=>exact ⟨d+1,by omega,by go_num,_,K5,V5,HR5.out,HF5.out,HS5.out,HK5.out⟩
   case measure=>simp [intOf];omega
  ·have hdz:¬ (d:Int) < (cn:Int):=by omega
   obtain ⟨ma,hma⟩:∃ ma:Nat,n.a=(ma:Int):=⟨n.a.toNat,by omega⟩
   have hal:ma < l.length:=by omega
   have halz:(ma:Int) < (l.length:Int):=by omega
   have hs3:w.heap.size < w3.heap.size:=by omega
   have HFE:Hid (∀ j,j < 3->F j=pv.getD j 0):=by
    show ∀ _,_
    intro j hj
    rw [HF.out j hj]
    by_cases e2:j < d
    ·rw [if_pos e2]
    ·rw [if_neg e2,HPV.out,List.getD_eq_getElem?_getD,List.getElem?_eq_none (by rw [List.length_map,HCN2.out];omega)];rfl
   have HVE:Hid (vT (tr l i) e=applyL n.op n.w n.k (nth l ma).w (F 0) (F 1) (F 2)):=by
    show _=_
    rw [HV.out,HFE.out 0 (by omega),HFE.out 1 (by omega),HFE.out 2 (by omega),hma,Int.toNat_natCast]
   have HSS:wr.cell? ⟨w.heap.size,0,none⟩=some (.int .i64 n.op)/\wr.cell? ⟨w.heap.size,1,none⟩=some (.int .i64 n.w)/\wr.cell? ⟨w.heap.size,2,none⟩=some (.int .i64 n.k)/\wr.cell? ⟨w.heap.size,3,none⟩=some (.int .i64 n.a)/\wr.cell? ⟨w.heap.size,4,none⟩=some (.int .i64 n.b)/\wr.cell? ⟨w.heap.size,5,none⟩=some (.int .i64 n.c)/\wr.cell? ⟨s,0,none⟩=some (.slice (some ⟨xb,xo,none⟩) l.length c)/\wr.cell? ⟨xb,xo+ma*6+1,none⟩=some (.int .i64 (nth l ma).w)/\wr.cell? ⟨gv,0,none⟩=some (.int .i64 (F 0))/\wr.cell? ⟨gv,1,none⟩=some (.int .i64 (F 1))/\wr.cell? ⟨gv,2,none⟩=some (.int .i64 (F 2)):=by
    obtain ⟨q0,q1,q2,q3,q4,q5⟩:=HNA3.out
    refine ⟨(HK.out.cell (p:=⟨w.heap.size,0,none⟩) hs3 hnk).trans q0,(HK.out.cell (p:=⟨w.heap.size,1,none⟩) hs3 hnk).trans q1,(HK.out.cell (p:=⟨w.heap.size,2,none⟩) hs3 hnk).trans q2,(HK.out.cell (p:=⟨w.heap.size,3,none⟩) hs3 hnk).trans q3,(HK.out.cell (p:=⟨w.heap.size,4,none⟩) hs3 hnk).trans q4,(HK.out.cell (p:=⟨w.heap.size,5,none⟩) hs3 hnk).trans q5,HS4.out.c0,?_,(HR.out 0 (by omega)).1,(HR.out 1 (by omega)).1,(HR.out 2 (by omega)).1⟩
    rw [HK.out.cell (p:=⟨xb,xo+ma*6+1,none⟩) (show xb < w3.heap.size by omega) hxk,HBW.out.cell (p:=⟨xb,xo+ma*6+1,none⟩) hxb]
    exact HWD.out ma hal
   rw [hma] at HSS
   have HMA:Hid (n.a=(ma:Int)):=hma
   clear hG hpk hnk hxk hma
   go_wp2_with fail
   go_region_held (fun w'=>w'.cell? ⟨w.heap.size,0,none⟩=some (.int .i64 n.op)/\w'.cell? ⟨w.heap.size,1,none⟩=some (.int .i64 n.w)/\w'.cell? ⟨w.heap.size,2,none⟩=some (.int .i64 n.k)/\w'.cell? ⟨w.heap.size,3,none⟩=some (.int .i64 (ma:Int))/\w'.cell? ⟨w.heap.size,4,none⟩=some (.int .i64 n.b)/\w'.cell? ⟨w.heap.size,5,none⟩=some (.int .i64 n.c)/\w'.cell? ⟨s,0,none⟩=some (.slice (some ⟨xb,xo,none⟩) l.length c)/\w'.cell? ⟨xb,xo+ma*6+1,none⟩=some (.int .i64 (nth l ma).w)/\w'.cell? ⟨gv,0,none⟩=some (.int .i64 (F 0))/\w'.cell? ⟨gv,1,none⟩=some (.int .i64 (F 1))/\w'.cell? ⟨gv,2,none⟩=some (.int .i64 (F 2))) ((first|exact HSS|exact kept11 (W:=wr.drew) HSS hb4)) ((go_at_call 90;refine (HIAH.out ⟨n.op,n.w,n.k,(ma:Int),n.b,n.c⟩ (nth l ma).w (F 0) (F 1) (F 2) _ HWF.out).mono ?_;rintro x0 w4 ⟨rfl,hb4⟩;have HB4:Hid (Below wr.heap.size wr w4):=(Below.refl wr.heap.size wr).drew.trans hb4))
   go_wp2
   go_ret
   have hb:=HB4.out
   have hG:=HGP.out
   refine ⟨ret_int HVE.out.symm,⟨K',V',HS4.out.kept (S:=fun _=>False) (Kept.ofBelow hb) (fun h=>h)⟩,?_⟩
   have h1:Kept (fun b=>b=s\/b=gv) w3 w4:=HK.out.trans (Kept.ofBelow hb)
   exact Kept.past (Kept.ofBelow HBW.out) h1 (fun b h=>by
    rcases h with h|h
    ·exact .inl h
    ·exact .inr (by omega))
end Pv11
namespace Pv12
open Go.RowKit
open Nd0 Pl1 Tm0 Tm1 Tm5 Tm6 Tm8 Tr0 Rw0 Vl1 Vl2 Vm0 Vm1 Vm2 Kp1 Pv7 Pv9 Ic4
theorem pVal (hIA:IApply) {l:List Nd} (hT:termOk l=true) (h80:l.length<=80):∀ i,i < l.length->PVal l i:=by
 intro i
 induction i using Nat.strongRecOn with
 | ind i ih =>
   intro hi
   refine value_of hi h80 ?_
   have hp:∀ p∈parts (nth l i),PVal l p.toNat:=fun p hp=>by
    have:=down_of hT i hi p hp
    exact ih p.toNat (by omega) (by omega)
   by_cases h1:(nth l i).op=1
   ·exact Pv10.work_var hT hi h1
   cases hq:quant (nth l i).op with
   | true =>
     have hq2:(nth l i).op=19\/(nth l i).op=20:=by simpa [quant] using hq
     exact Pv10.work_quant hT hi hq (Pv8.come_of hT hi hq (hp _ (by rw [parts_one (by omega)];simp)))
   | false=>exact Pv11.work_other hIA hT hi h1 hq hp
end Pv12
namespace Ap6
open Go.RowKit
open Nd0 Tm1 Tm6
theorem infoRow:(Tryz.prog.info? 39).map (fun i=>(i.zero,i.size,i.bytes))=some (some (.slice none 0 0),1,24):=by kernel_rfl
def Owv (w:World) (B:Nat) (v:Value) (xs:List Value):Prop:=w.ownsRow B 39 1 v xs.length xs
theorem Owv.lit (w:World) (B:Nat) (hB:B<=w.heap.size):Owv (w.alloc (.cells #[] 39)) B (.slice (some ⟨w.heap.size,0,none⟩) 0 0) [] :=
 World.ownsRow_lit w #[] 0 hB (Nat.zero_le _) rfl
theorem Owv.lt {w:World} {B:Nat} {v:Value} {l:List Value} (h:Owv w B v l):∀ k,v.ownBlock=some k->B<=k/\k < w.heap.size:=World.ownsRow.lt h
theorem Owv.kept {w w':World} {B:Nat} {v:Value} {l:List Value} (h:Owv w B v l) {S:Nat->Prop} (k:Kept S w w') (hs:∀ i,v.ownBlock=some i->¬ S i):Owv w' B v l:=by
 refine ⟨h.1,?_⟩
 rcases h.2 with hn|⟨g,cap,cur,rfl,hb,hgg,rest⟩
 ·exact .inl hn
 ·refine .inr ⟨g,cap,cur,rfl,hb,?_,rest⟩
  rw [k.block g (Array.getElem?_eq_some_iff.1 hgg).1 (hs g rfl)]
  exact hgg
theorem Owv.at {w:World} {B:Nat} {v:Value} {l:List Value} (h:Owv w B v l) (hl:1<=l.length):∃ g c,v=.slice (some ⟨g,0,none⟩) l.length c/\(∀ i,i < l.length->w.cell? ⟨g,i,none⟩=l[i]?):=by
 rcases h.2 with ⟨rfl,h0⟩|⟨g,cap,cur,rfl,hb,hg,hn,hm,hs,ht⟩
 ·omega
 ·refine ⟨g,cap,rfl,fun i hi=>?_⟩
  rw [cell_of_row w g i cur _ _ hg]
  have e:(cur.toList.take (l.length*1))[i]? = l[i]? := by rw [ht]
  rw [List.getElem?_take_of_lt (by omega)] at e
  simpa using e
theorem app_row {ops:Array Oper} {rest:List Oper} {o:Oper} {a:Act} {Q:Exit->Act->World->Prop} (W:World) (hgd:o.guard=none) (s x:Operand)
 (ho:o.op=.call { callee:=.builtin .append,args := #[s,x],argTypes := #[111,111] })
 (B:Nat) (v:Value) (l:List Value) (ya:Option Addr) (yn yc:Nat) (hs:a.eval s=v) (hx:a.eval x=.slice (some ⟨W.heap.size,0,none⟩) 1 1)
 (hown:Owv W B v l) (hB:B<=W.heap.size) (hlen:l.length<=1048576)
 (h:∀ g cap w',Owv w' B (.slice (some ⟨g,0,none⟩) (l.length+1) cap) (l++[.slice ya yn yc])->Kept (fun k=>v.ownBlock=some k) W w'->(v.ownBlock=some g\/W.heap.size<=g)->wpList Tryz.prog ops Q rest (a.put o.dst (.slice (some ⟨g,0,none⟩) (l.length+1) cap)) w') :
 wpList Tryz.prog ops Q (o :: rest) a (W.alloc (.cells #[.slice ya yn yc] 39)):=by
 obtain ⟨i,hi,hzz⟩:=Option.map_eq_some_iff.1 infoRow
 simp only [Prod.mk.injEq] at hzz
 obtain ⟨hz,hsz,hb⟩:=hzz
 refine wpList_append_lies (W.alloc (.cells #[.slice ya yn yc] 39)) hgd s x 111 ho B 39 i (.slice none 0 0) 1 24 Tryz.underlying111 hi hz hsz hb rfl (by omega) v l.length l hs (World.ownsRow.alloc hown _)
  ⟨W.heap.size,0,none⟩ 1 1 [.slice ya yn yc] hx rfl ?_ ?_ (by omega) (by unfold maxLen;omega) (by omega) (by simp;omega) _ rfl ?_
 ·intro j u hu
  exact World.news_of_block (heap_alloc_new W _) j u hu
 ·intro u hu
  simp at hu
  subst hu
  rfl
 ·intro g cap w' h1 h2 h3 h4
  refine h g cap w' ?_ ?_ ?_
  ·unfold Owv
   simpa using h1
  ·have k1:Kept (fun k=>v.ownBlock=some k) W (W.alloc (.cells #[.slice ya yn yc] 39)):=(Kept.refl _ W).alloc _
   exact k1.trans ⟨h2.os,h2.tape,h2.output,h2.size,fun k hk hn=>h2.block k hk (fun e=>hn e.symm)⟩
  ·rcases h3 with h3|h3
   ·exact .inl h3
   ·exact .inr (by rw [h3];simp)
def Rws (w:World) (v:Value) (vs:List Value) (rows:List (List Int)):Prop :=
 vs.length=rows.length/\∀ j,j < rows.length->∃ g c,vs[j]? = some (.slice (some ⟨g,0,none⟩) 8 c)/\g < w.heap.size/\v.ownBlock≠some g/\∀ x,x < 8->w.cell? ⟨g,x,none⟩=some (.int .i64 (wd (rows.getD j []) (x:Int)))
theorem Rws.kept {w w':World} {v:Value} {vs:List Value} {rows:List (List Int)} (h:Rws w v vs rows) (k:Kept (fun b=>v.ownBlock=some b) w w'):Rws w' v vs rows:=by
 refine ⟨h.1,fun j hj=>?_⟩
 obtain ⟨g,c,h1,h2,h3,h4⟩:=h.2 j hj
 exact ⟨g,c,h1,Nat.lt_of_lt_of_le h2 k.size,h3,fun x hx=>by rw [k.cell (p:=⟨g,x,none⟩) h2 h3];exact h4 x hx⟩
theorem Rws.below {w w':World} {v:Value} {vs:List Value} {rows:List (List Int)} (h:Rws w v vs rows) (k:Below w.heap.size w w'):Rws w' v vs rows:=h.kept (Kept.ofBelow k)
end Ap6
end Go.Proofs.YtebejleeadofcaaGreat
