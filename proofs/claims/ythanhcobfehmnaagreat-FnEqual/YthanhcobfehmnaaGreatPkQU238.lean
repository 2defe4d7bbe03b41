import Derived.Deep.CutBlock
import Derived.Test.YthanhcobfehmnaaGreatPkQU220
namespace Go.Proofs.YthanhcobfehmnaaGreat
set_option maxRecDepth 100000
set_option maxHeartbeats 8000000
set_option linter.unusedVariables false
namespace Am9
open Go.RowKit
open Nd0 Nd3 Tm0 Tm1 Tm8 Aq0 Aq1 Sp2
open Ap2 (Own app_node)
open Ap13 (app_any)
theorem kset {b:Nat} {w W:World} {p:Addr} {x:Value} (h:Kept (fun k=>k=b) w W) (hp:p.block=b):Kept (fun k=>k=b) w (W.setCell p x):=h.setCell (p:=p) hp x
def jnTo (l1 l2:List Nd) (k:Nat):List Nd:=l1++(l2.take k).map (shN (l1.length:Int))
theorem jnTo_succ {l1 l2:List Nd} {k:Nat} (h:k < l2.length):jnTo l1 l2 (k+1)=jnTo l1 l2 k++[shN (l1.length:Int) (nth l2 k)]:=by
 unfold jnTo
 rw [List.take_succ_eq_append_getElem h,List.map_append,nth_get h,List.append_assoc]
 rfl
theorem jnTo_len {l1 l2:List Nd} {k:Nat} (h:k<=l2.length):(jnTo l1 l2 k).length=l1.length+k:=by
 unfold jnTo
 rw [List.length_append,List.length_map,List.length_take]
 omega
theorem sJoin (w:World) (a1 a2:Option Addr) (l1 l2:List Nd) (c1 c2:Nat) (hN1:Nodes w a1 l1) (hN2:Nodes w a2 l2) (h1:1<=l1.length/\l1.length<=80) (h2:l2.length<=80) (hD2:Down l2) :
 Calls Tryz.prog 19 #[.slice a1 l1.length c1,.slice a2 l2.length c2] w fun e w'=>(∃ g cp,e=.returned (.slice (some ⟨g,0,none⟩) (joinL l1 l2).length cp)/\Own w' w.heap.size (.slice (some ⟨g,0,none⟩) (joinL l1 l2).length cp) (joinL l1 l2))/\Below w.heap.size w w':=by
 have HN2:Hid (Nodes w a2 l2):=hN2
 have HD2:Hid (Down l2):=hD2
 rcases hN1.2 with h0|⟨b,o,rfl,hx⟩
 ·omega
 have hba:Below w.heap.size w (w.alloc (.cells #[] 44)):=(Below.refl _ _).alloc (Nat.le_refl _) _
 have HXX:Hid (∀ i (h:i < l1.length),NodeAt (w.alloc (.cells #[] 44)) b (o+i*6) l1[i]):=fun i hi=>(hx i hi).below hba (hx i hi).lt
 have HLIT:Hid (Own (w.alloc (.cells #[] 44)) w.heap.size (.slice (some ⟨w.heap.size,0,none⟩) ([]:List Nd).length 0) []):=Ap2.Own.lit w _ (Nat.le_refl _)
 have HBA:Hid (Below w.heap.size w (w.alloc (.cells #[] 44))):=hba
 obtain ⟨h11,h12⟩:=h1
 clear hN1 hN2 hD2 hx hba
 go_enter Tryz.func19,Tryz.ntmps19
 go_wp2_with (at_builtin;go_must (refine app_any _ rfl _ _ rfl w.heap.size w.heap.size 0 [] l1 l1 rfl b o c1 0 l1.length rfl rfl rfl rfl HXX.out HLIT.out (by simp) (by simp;omega) ?_;intro g3 cp3 w3 ho3 hk3))
 have HO3:Hid (Own w3 w.heap.size (.slice (some ⟨g3,0,none⟩) l1.length cp3) l1):=ho3
 have HB3:Hid (Below w.heap.size w w3):=HBA.out.trans (hk3.below (fun k hk=>by omega) (by simp))
 clear ho3 hk3 HBA HXX HLIT
 have HJ0:Hid (jnTo l1 l2 0=l1):=by show _=_;unfold jnTo;simp
 go_wp2_with fail
 go_loopw [5,6] (fun q i wr=>∃ k g cp:Nat,k<=l2.length/\i=.int .i64 (k:Int)/\q=.slice (some ⟨g,0,none⟩) (jnTo l1 l2 k).length cp/\Own wr w.heap.size (.slice (some ⟨g,0,none⟩) (jnTo l1 l2 k).length cp) (jnTo l1 l2 k)/\Below w.heap.size w wr) (fun _ i _=>l2.length - (intOf i).toNat)
 case atStart=>exact ⟨0,g3,cp3,Nat.zero_le _,rfl,by rw [HJ0.out],by rw [HJ0.out];exact HO3.out,HB3.out⟩
 case round =>
  clear HO3 HB3 HJ0
  obtain ⟨k,g,cp,hk,rfl,rfl,ho,hb⟩:=hrel
  have HO:Hid (Own wr w.heap.size (.slice (some ⟨g,0,none⟩) (jnTo l1 l2 k).length cp) (jnTo l1 l2 k)):=ho
  have HB:Hid (Below w.heap.size w wr):=hb
  have hbs:w.heap.size<=wr.heap.size:=hb.size
  clear ho hb
  by_cases hlt:k < l2.length
  ·have hlz:(k:Int) < (l2.length:Int):=by omega
   have HSU:Hid (jnTo l1 l2 (k+1)=jnTo l1 l2 k++[shN (l1.length:Int) (nth l2 k)]):=jnTo_succ hlt
   have HPT:Hid (∀ p∈parts (nth l2 k),0<=p/\p < (k:Int)):=fun p hp=>HD2.out k hlt p hp
   have hRL:(jnTo l1 l2 k).length<=160:=by rw [jnTo_len hk];omega
   rcases (HN2.out.below HB.out).2 with h0|⟨xb,xo,rfl,hc⟩
   ·omega
   obtain ⟨p0,p1,p2,p3,p4,p5⟩:=hc k hlt
   rw [nth_get hlt] at p0 p1 p2 p3 p4 p5
   clear hc
   generalize jnTo l1 l2 k=R at HO HSU hRL ⊢
   generalize nth l2 k=n at HSU HPT p0 p1 p2 p3 p4 p5
   obtain ⟨w4,hw4⟩:∃ w4:World,w4=wr.alloc (.cells #[.int .i64 n.op,.int .i64 n.w,.int .i64 n.k,.int .i64 n.a,.int .i64 n.b,.int .i64 n.c] 44):=⟨_,rfl⟩
   go_wp2_with fail
   rw [<- hw4]
   have hs4:w4.heap.size=wr.heap.size+1:=by rw [hw4];simp
   have hb4:Below wr.heap.size wr w4:=by rw [hw4];exact (Below.refl _ _).alloc (Nat.le_refl _) _
   have d0:∀ (j:Nat) v,(#[.int .i64 n.op,.int .i64 n.w,.int .i64 n.k,.int .i64 n.a,.int .i64 n.b,.int .i64 n.c]:Array Value)[j]? = some v->w4.cell? ⟨wr.heap.size,j,none⟩=some v/\w4.frozen? ⟨wr.heap.size,j,none⟩=false:=fun j v hv=>⟨by rw [hw4,World.cell?_alloc_new];exact hv,by rw [hw4];simp⟩
   refine (sParts n w4).mono ?_
   rintro e w5 ⟨⟨pa,pc,rfl,_⟩,hb5⟩
   have dd:∀ (j:Nat) v,(#[.int .i64 n.op,.int .i64 n.w,.int .i64 n.k,.int .i64 n.a,.int .i64 n.b,.int .i64 n.c]:Array Value)[j]? = some v->w5.cell? ⟨wr.heap.size,j,none⟩=some v/\w5.frozen? ⟨wr.heap.size,j,none⟩=false:=fun j v hv=>⟨(hb5.cell (p:=⟨wr.heap.size,j,none⟩) (show wr.heap.size < _ by omega)).trans (d0 j v hv).1,(hb5.frozen (p:=⟨wr.heap.size,j,none⟩) (show wr.heap.size < _ by omega)).trans (d0 j v hv).2⟩
   have c0:=(dd 0 _ rfl).1
   have c1q:=(dd 1 _ rfl).1
   have c2q:=(dd 2 _ rfl).1
   have c3:=(dd 3 _ rfl).1
   have c4:=(dd 4 _ rfl).1
   have c5:=(dd 5 _ rfl).1
   have f3:=(dd 3 _ rfl).2
   have f4:=(dd 4 _ rfl).2
   have f5:=(dd 5 _ rfl).2
   have hb45:Below wr.heap.size wr w5:=hb4.trans (hb5.mono (by omega))
   have HBX:Hid (∀ W,Kept (fun b=>b=wr.heap.size) w5 W->Below w.heap.size w W):=fun W hW=>(HB.out.trans (hb45.mono hbs)).trans (hW.below (fun b (hb:b=wr.heap.size)=>by omega) (Nat.le_trans hbs hb45.size))
   have HOX:Hid (∀ W,Kept (fun b=>b=wr.heap.size) w5 W->Own W w.heap.size (.slice (some ⟨g,0,none⟩) R.length cp) R):=fun W hW=>(HO.out.kept (S:=fun _=>False) (Kept.ofBelow hb45) (fun _ _ h=>h)).kept hW (fun b h1 (h2:b=wr.heap.size)=>by have:=(HO.out.lt b h1).2;omega)
   clear hw4 hs4 hb4 d0 dd hb5 hb45 p0 p1 p2 p3 p4 p5
   by_cases h1:n.op=2\/n.op=17\/n.op=19\/n.op=20
   ·skip
    have hP:(parts n).length=1:=by rw [parts_one h1];rfl
    have HTN:Hid (shN (l1.length:Int) n=⟨n.op,n.w,n.k,n.a+(l1.length:Int),n.b,n.c⟩):=by
     show shN (l1.length:Int) n=⟨n.op,n.w,n.k,n.a+(l1.length:Int),n.b,n.c⟩
     unfold shN
     rw [hP]
     simp
    have hq0:=HPT.out n.a (by rw [parts_one h1];simp)
    have hw0:IntKind.i64.wrap (n.a+(l1.length:Int))=n.a+(l1.length:Int):=by rw [IntKind.wrap_i64]<;>omega
    rw [hP]
    clear hP HPT
    go_upto_region 13 with fail
    obtain ⟨w8,hw8⟩:∃ w8:World,w8=(w5.setCell ⟨wr.heap.size,3,none⟩ (.int .i64 (n.a+(l1.length:Int)))):=⟨_,rfl⟩
    have HK8:Hid (Kept (fun b=>b=wr.heap.size) w5 w8):=by rw [hw8];exact kset (Kept.refl _ _) rfl
    have g0:w8.cell? ⟨wr.heap.size,0,none⟩=some (.int .i64 (n.op)):=by rw [hw8,set_other (by simp)];exact c0
    have g1:w8.cell? ⟨wr.heap.size,1,none⟩=some (.int .i64 (n.w)):=by rw [hw8,set_other (by simp)];exact c1q
    have g2:w8.cell? ⟨wr.heap.size,2,none⟩=some (.int .i64 (n.k)):=by rw [hw8,set_other (by simp)];exact c2q
    have g3:w8.cell? ⟨wr.heap.size,3,none⟩=some (.int .i64 (n.a+(l1.length:Int))):=by rw [hw8];exact set_same c3
    have g4:w8.cell? ⟨wr.heap.size,4,none⟩=some (.int .i64 (n.b)):=by rw [hw8,set_other (by simp)];exact c4
    have g5:w8.cell? ⟨wr.heap.size,5,none⟩=some (.int .i64 (n.c)):=by rw [hw8,set_other (by simp)];exact c5
    rw [<- hw8]
    clear hw8 c0 c1q c2q c3 c4 c5 f3 f4 f5 hq0 hw0
    go_wp2_with (at_builtin;go_must (refine app_node w8 rfl _ _ rfl w.heap.size (.slice (some ⟨g,0,none⟩) R.length cp) R ⟨n.op,n.w,n.k,n.a+(l1.length:Int),n.b,n.c⟩ rfl w8.heap.size rfl (by first|(simp;done)|rfl) (HOX.out _ HK8.out) (HBX.out _ HK8.out).size (by omega) ?_;intro g7 cp7 w7 ho7 hk7 hg7;have HO7:Hid (Own w7 w.heap.size (.slice (some ⟨g7,0,none⟩) (R.length+1) cp7) (R++[⟨n.op,n.w,n.k,n.a+(l1.length:Int),n.b,n.c⟩])):=ho7;have HB7:Hid (Below w.heap.size w w7):=(HBX.out _ HK8.out).trans (hk7.below (fun b hb=>(HO.out.lt b hb).1) (HBX.out _ HK8.out).size);clear ho7 hk7 hg7))
    go_roundw
    case rel=>exact ⟨k+1,g7,cp7,by omega,by go_num,by rw [HSU.out,HTN.out,List.length_append];rfl,by rw [HSU.out,HTN.out,List.length_append];exact HO7.out,HB7.out⟩
    case measure=>simp [intOf];omega
   by_cases h2:3<=n.op/\n.op<=16
   ·skip
    have hP:(parts n).length=2:=by rw [parts_two h2];rfl
    have HTN:Hid (shN (l1.length:Int) n=⟨n.op,n.w,n.k,n.a+(l1.length:Int),n.b+(l1.length:Int),n.c⟩):=by
     show shN (l1.length:Int) n=⟨n.op,n.w,n.k,n.a+(l1.length:Int),n.b+(l1.length:Int),n.c⟩
     unfold shN
     rw [hP]
     simp
    have hq0:=HPT.out n.a (by rw [parts_two h2];simp)
    have hw0:IntKind.i64.wrap (n.a+(l1.length:Int))=n.a+(l1.length:Int):=by rw [IntKind.wrap_i64]<;>omega
    have hq1:=HPT.out n.b (by rw [parts_two h2];simp)
    have hw1:IntKind.i64.wrap (n.b+(l1.length:Int))=n.b+(l1.length:Int):=by rw [IntKind.wrap_i64]<;>omega
    rw [hP]
    clear hP HPT
    go_upto_region 13 with fail
    obtain ⟨w8,hw8⟩:∃ w8:World,w8=((w5.setCell ⟨wr.heap.size,3,none⟩ (.int .i64 (n.a+(l1.length:Int)))).setCell ⟨wr.heap.size,4,none⟩ (.int .i64 (n.b+(l1.length:Int)))):=⟨_,rfl⟩
    have HK8:Hid (Kept (fun b=>b=wr.heap.size) w5 w8):=by rw [hw8];exact kset (kset (Kept.refl _ _) rfl) rfl
    have g0:w8.cell? ⟨wr.heap.size,0,none⟩=some (.int .i64 (n.op)):=by rw [hw8,set_other (by simp),set_other (by simp)];exact c0
    have g1:w8.cell? ⟨wr.heap.size,1,none⟩=some (.int .i64 (n.w)):=by rw [hw8,set_other (by simp),set_other (by simp)];exact c1q
    have g2:w8.cell? ⟨wr.heap.size,2,none⟩=some (.int .i64 (n.k)):=by rw [hw8,set_other (by simp),set_other (by simp)];exact c2q
    have g3:w8.cell? ⟨wr.heap.size,3,none⟩=some (.int .i64 (n.a+(l1.length:Int))):=by rw [hw8,set_other (by simp)];exact set_same c3
    have g4:w8.cell? ⟨wr.heap.size,4,none⟩=some (.int .i64 (n.b+(l1.length:Int))):=by rw [hw8];exact set_same (by rw [set_other (by simp)];exact c4)
    have g5:w8.cell? ⟨wr.heap.size,5,none⟩=some (.int .i64 (n.c)):=by rw [hw8,set_other (by simp),set_other (by simp)];exact c5
    rw [<- hw8]
    clear hw8 c0 c1q c2q c3 c4 c5 f3 f4 f5 hq0 hw0 hq1 hw1
    go_wp2_with (at_builtin;go_must (refine app_node w8 rfl _ _ rfl w.heap.size (.slice (some ⟨g,0,none⟩) R.length cp) R ⟨n.op,n.w,n.k,n.a+(l1.length:Int),n.b+(l1.length:Int),n.c⟩ rfl w8.heap.size rfl (by first|(simp;done)|rfl) (HOX.out _ HK8.out) (HBX.out _ HK8.out).size (by omega) ?_;intro g7 cp7 w7 ho7 hk7 hg7;have HO7:Hid (Own w7 w.heap.size (.slice (some ⟨g7,0,none⟩) (R.length+1) cp7) (R++[⟨n.op,n.w,n.k,n.a+(l1.length:Int),n.b+(l1.length:Int),n.c⟩])):=ho7;have HB7:Hid (Below w.heap.size w w7):=(HBX.out _ HK8.out).trans (hk7.below (fun b hb=>(HO.out.lt b hb).1) (HBX.out _ HK8.out).size);clear ho7 hk7 hg7))
    go_roundw
    case rel=>exact ⟨k+1,g7,cp7,by omega,by go_num,by rw [HSU.out,HTN.out,List.length_append];rfl,by rw [HSU.out,HTN.out,List.length_append];exact HO7.out,HB7.out⟩
    case measure=>simp [intOf];omega
   by_cases h3:n.op=18
   ·skip
    have H3:Hid (n.op=18):=h3
    clear h3
    have hP:(parts n).length=3:=by rw [parts_three H3.out];rfl
    have HTN:Hid (shN (l1.length:Int) n=⟨n.op,n.w,n.k,n.a+(l1.length:Int),n.b+(l1.length:Int),n.c+(l1.length:Int)⟩):=by
     show shN (l1.length:Int) n=⟨n.op,n.w,n.k,n.a+(l1.length:Int),n.b+(l1.length:Int),n.c+(l1.length:Int)⟩
     unfold shN
     rw [hP]
     simp
    have hq0:=HPT.out n.a (by rw [parts_three H3.out];simp)
    have hw0:IntKind.i64.wrap (n.a+(l1.length:Int))=n.a+(l1.length:Int):=by rw [IntKind.wrap_i64]<;>omega
    have hq1:=HPT.out n.b (by rw [parts_three H3.out];simp)
    have hw1:IntKind.i64.wrap (n.b+(l1.length:Int))=n.b+(l1.length:Int):=by rw [IntKind.wrap_i64]<;>omega
    have hq2:=HPT.out n.c (by rw [parts_three H3.out];simp)
    have hw2:IntKind.i64.wrap (n.c+(l1.length:Int))=n.c+(l1.length:Int):=by rw [IntKind.wrap_i64]<;>omega
    rw [hP]
    clear hP HPT
    go_upto_region 13 with fail
    obtain ⟨w8,hw8⟩:∃ w8:World,w8=(((w5.setCell ⟨wr.heap.size,3,none⟩ (.int .i64 (n.a+(l1.length:Int)))).setCell ⟨wr.heap.size,4,none⟩ (.int .i64 (n.b+(l1.length:Int)))).setCell ⟨wr.heap.size,5,none⟩ (.int .i64 (n.c+(l1.length:Int)))):=⟨_,rfl⟩
    have HK8:Hid (Kept (fun b=>b=wr.heap.size) w5 w8):=by rw [hw8];exact kset (kset (kset (Kept.refl _ _) rfl) rfl) rfl
    have g0:w8.cell? ⟨wr.heap.size,0,none⟩=some (.int .i64 (n.op)):=by rw [hw8,set_other (by simp),set_other (by simp),set_other (by simp)];exact c0
    have g1:w8.cell? ⟨wr.heap.size,1,none⟩=some (.int .i64 (n.w)):=by rw [hw8,set_other (by simp),set_other (by simp),set_other (by simp)];exact c1q
    have g2:w8.cell? ⟨wr.heap.size,2,none⟩=some (.int .i64 (n.k)):=by rw [hw8,set_other (by simp),set_other (by simp),set_other (by simp)];exact c2q
    have g3:w8.cell? ⟨wr.heap.size,3,none⟩=some (.int .i64 (n.a+(l1.length:Int))):=by rw [hw8,set_other (by simp),set_other (by simp)];exact set_same c3
    have g4:w8.cell? ⟨wr.heap.size,4,none⟩=some (.int .i64 (n.b+(l1.length:Int))):=by rw [hw8,set_other (by simp)];exact set_same (by rw [set_other (by simp)];exact c4)
    have g5:w8.cell? ⟨wr.heap.size,5,none⟩=some (.int .i64 (n.c+(l1.length:Int))):=by rw [hw8];exact set_same (by rw [set_other (by simp),set_other (by simp)];exact c5)
    rw [<- hw8]
    clear hw8 c0 c1q c2q c3 c4 c5 f3 f4 f5 hq0 hw0 hq1 hw1 hq2 hw2
    go_wp2_with (at_builtin;go_must (refine app_node w8 rfl _ _ rfl w.heap.size (.slice (some ⟨g,0,none⟩) R.length cp) R ⟨n.op,n.w,n.k,n.a+(l1.length:Int),n.b+(l1.length:Int),n.c+(l1.length:Int)⟩ rfl w8.heap.size rfl (by first|(simp;done)|rfl) (HOX.out _ HK8.out) (HBX.out _ HK8.out).size (by omega) ?_;intro g7 cp7 w7 ho7 hk7 hg7;have HO7:Hid (Own w7 w.heap.size (.slice (some ⟨g7,0,none⟩) (R.length+1) cp7) (R++[⟨n.op,n.w,n.k,n.a+(l1.length:Int),n.b+(l1.length:Int),n.c+(l1.length:Int)⟩])):=ho7;have HB7:Hid (Below w.heap.size w w7):=(HBX.out _ HK8.out).trans (hk7.below (fun b hb=>(HO.out.lt b hb).1) (HBX.out _ HK8.out).size);clear ho7 hk7 hg7))
    go_roundw
    case rel=>exact ⟨k+1,g7,cp7,by omega,by go_num,by rw [HSU.out,HTN.out,List.length_append];rfl,by rw [HSU.out,HTN.out,List.length_append];exact HO7.out,HB7.out⟩
    case measure=>simp [intOf];omega
   have hP:(parts n).length=0:=by rw [parts_none h1 h2 h3];rfl
   have HTN:Hid (shN (l1.length:Int) n=⟨n.op,n.w,n.k,n.a,n.b,n.c⟩):=by
    show shN (l1.length:Int) n=⟨n.op,n.w,n.k,n.a,n.b,n.c⟩
    unfold shN
    rw [hP]
    simp
   rw [hP]
   clear hP HPT
   go_upto_region 13 with fail
   obtain ⟨w8,hw8⟩:∃ w8:World,w8=w5:=⟨_,rfl⟩
   have HK8:Hid (Kept (fun b=>b=wr.heap.size) w5 w8):=by rw [hw8];exact Kept.refl _ _
   have g0:w8.cell? ⟨wr.heap.size,0,none⟩=some (.int .i64 (n.op)):=by rw [hw8];exact c0
   have g1:w8.cell? ⟨wr.heap.size,1,none⟩=some (.int .i64 (n.w)):=by rw [hw8];exact c1q
   have g2:w8.cell? ⟨wr.heap.size,2,none⟩=some (.int .i64 (n.k)):=by rw [hw8];exact c2q
   have g3:w8.cell? ⟨wr.heap.size,3,none⟩=some (.int .i64 (n.a)):=by rw [hw8];exact c3
   have g4:w8.cell? ⟨wr.heap.size,4,none⟩=some (.int .i64 (n.b)):=by rw [hw8];exact c4
   have g5:w8.cell? ⟨wr.heap.size,5,none⟩=some (.int .i64 (n.c)):=by rw [hw8];exact c5
   rw [<- hw8]
   clear hw8 c0 c1q c2q c3 c4 c5 f3 f4 f5
   go_wp2_with (at_builtin;go_must (refine app_node w8 rfl _ _ rfl w.heap.size (.slice (some ⟨g,0,none⟩) R.length cp) R ⟨n.op,n.w,n.k,n.a,n.b,n.c⟩ rfl w8.heap.size rfl (by first|(simp;done)|rfl) (HOX.out _ HK8.out) (HBX.out _ HK8.out).size (by omega) ?_;intro g7 cp7 w7 ho7 hk7 hg7;have HO7:Hid (Own w7 w.heap.size (.slice (some ⟨g7,0,none⟩) (R.length+1) cp7) (R++[⟨n.op,n.w,n.k,n.a,n.b,n.c⟩])):=ho7;have HB7:Hid (Below w.heap.size w w7):=(HBX.out _ HK8.out).trans (hk7.below (fun b hb=>(HO.out.lt b hb).1) (HBX.out _ HK8.out).size);clear ho7 hk7 hg7))
   go_roundw
   case rel=>exact ⟨k+1,g7,cp7,by omega,by go_num,by rw [HSU.out,HTN.out,List.length_append];rfl,by rw [HSU.out,HTN.out,List.length_append];exact HO7.out,HB7.out⟩
   case measure=>simp [intOf];omega
  ·have hlz:¬ (k:Int) < (l2.length:Int):=by omega
   have hke:k=l2.length:=by omega
   subst hke
   have HJE:Hid (jnTo l1 l2 l2.length=joinL l1 l2):=by show _=_;unfold jnTo joinL;rw [List.take_length]
   have HO9:Hid (Own wr w.heap.size (.slice (some ⟨g,0,none⟩) (joinL l1 l2).length cp) (joinL l1 l2)):=by rw [<- HJE.out];exact HO.out
   rw [HJE.out]
   clear HO
   go_wp2
   go_ret
   exact ⟨⟨g,cp,rfl,HO9.out⟩,HB.out⟩
end Am9
namespace Kp1
open Go.RowKit
open Nd0 Rw0 Rw1 Tm6
theorem Kept.past {S T:Nat->Prop} {u v w:World} (h:Kept S u v) (k:Kept T v w) (hT:∀ b,T b->S b\/u.heap.size<=b):Kept S u w :=
 ⟨k.os.trans h.os,k.tape.trans h.tape,k.output.trans h.output,Nat.le_trans h.size k.size,fun i hi hb=>(k.block i (Nat.lt_of_lt_of_le hi h.size) (fun t=>by
  rcases hT i t with e|e
  ·exact hb e
  ·omega)).trans (h.block i hi hb)⟩
def Env (w:World) (g:Nat) (e:List Int):Prop:=Row w g 8 (fun i=>.int .i64 (wd e (i:Int)))
theorem Env.kept {w w':World} {g:Nat} {e:List Int} (h:Env w g e) {S:Nat->Prop} (k:Kept S w w') (hs:¬ S g):Env w' g e:=Row.kept h k hs
theorem Env.lt {w:World} {g:Nat} {e:List Int} (h:Env w g e):g < w.heap.size:=Row.lt h (by omega)
theorem Env.set {w:World} {g:Nat} {e:List Int} (h:Env w g e) (he:e.length=8) {p:Nat} (hp:p < 8) (x:Int):Env (w.setCell ⟨g,p,none⟩ (.int .i64 x)) g (e.set p x):=row_set_int h he hp x
theorem Env.at {w:World} {g:Nat} {e:List Int} (h:Env w g e) {k:Int} (h0:0<=k) (h7:k<=7):w.cell? ⟨g,k.toNat,none⟩=some (.int .i64 (wd e k))/\w.frozen? ⟨g,k.toNat,none⟩=false:=by
 have:=h k.toNat (by omega)
 dsimp only at this
 rw [Int.toNat_of_nonneg h0] at this
 exact this
end Kp1
end Go.Proofs.YthanhcobfehmnaaGreat
