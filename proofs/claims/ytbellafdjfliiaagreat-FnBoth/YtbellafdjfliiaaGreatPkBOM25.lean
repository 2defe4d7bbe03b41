import Derived.Deep.RegionHeld
import Derived.Deep.CutBlock
import Derived.Deep.Upon
import Derived.Test.YtbellafdjfliiaaGreatPkBOM6
import Derived.Test.YtbellafdjfliiaaGreatPkBOM13
import Derived.Test.YtbellafdjfliiaaGreatPkBOM3
import Derived.Test.YtbellafdjfliiaaGreatPkBOM24
import Derived.Test.YtbellafdjfliiaaGreatPkBOM14
import Derived.Test.YtbellafdjfliiaaGreatPkBOM5
import Derived.Test.YtbellafdjfliiaaGreatPkBOM9
import Derived.Test.YtbellafdjfliiaaGreatPkBOM1
import Derived.Test.YtbellafdjfliiaaGreatPkBOM0
namespace Go.Proofs.YtbellafdjfliiaaGreat
set_option maxRecDepth 100000
set_option maxHeartbeats 8000000
set_option linter.unusedVariables false
namespace Am5
open Go.RowKit
open Nd0 Nd3 Ap2 Tm0 Tm1 Sp2 Sp4 Aq0 Dw3 Dw4
theorem wnodes_below {w w':World} {B:Nat} {a:Option Addr} {l:List Nd} (h:WNodes w B a l) (k:Below w.heap.size w w'):WNodes w' B a l:=by
 refine ⟨h.1,?_⟩
 rcases h.2 with h0|⟨b,o,rfl,hB,hc,hf⟩
 ·exact .inl h0
 ·refine .inr ⟨b,o,rfl,hB,fun i hi=>(hc i hi).below k (hc i hi).lt,fun j hj=>?_⟩
  have hb:b < w.heap.size:=(hc 0 (by omega)).lt
  rw [(Kept.ofBelow (S:=fun _=>False) k).frozen (p:=⟨b,o+j,none⟩) hb (fun e=>e)]
  exact hf j hj
end Am5
namespace Am9
open Go.RowKit
open Nd0 Nd3 Tm0 Tm1 Tm8 Aq0 Aq1 Sp2
open Ap2 (Own app_node)
open Ap13 (app_any)
theorem kset {b:Nat} {w W:World} {p:Addr} {x:Value} (h:Kept (fun k=>k=b) w W) (hp:p.block=b):Kept (fun k=>k=b) w (W.setCell p x):=h.setCell (p:=p) hp x
def jnTo (l1 l2:List Nd) (k:Nat):List Nd:=l1++(l2.take k).map (shN (l1.length:Int))
theorem jnTo_succ {l1 l2:List Nd} {k:Nat} (h:k < l2.length):jnTo l1 l2 (k+1)=jnTo l1 l2 k++[shN (l1.length:Int) (nth l2 k)]:=by
 unfold jnTo
 rw [List.take_succ_eq_append_getElem h,List.map_append,nth_get h,List.append_assoc]
 rfl
theorem jnTo_len {l1 l2:List Nd} {k:Nat} (h:k<=l2.length):(jnTo l1 l2 k).length=l1.length+k:=by
 unfold jnTo
 rw [List.length_append,List.length_map,List.length_take]
 omega
theorem sJoin (w:World) (a1 a2:Option Addr) (l1 l2:List Nd) (c1 c2:Nat) (hN1:Nodes w a1 l1) (hN2:Nodes w a2 l2) (h1:1<=l1.length/\l1.length<=80) (h2:l2.length<=80) (hD2:Down l2) :
 Calls Tryz.prog 29 #[.slice a1 l1.length c1,.slice a2 l2.length c2] w fun e w'=>(∃ g cp,e=.returned (.slice (some ⟨g,0,none⟩) (joinL l1 l2).length cp)/\Own w' w.heap.size (.slice (some ⟨g,0,none⟩) (joinL l1 l2).length cp) (joinL l1 l2))/\Below w.heap.size w w':=by
 have HN2:Hid (Nodes w a2 l2):=hN2
 have HD2:Hid (Down l2):=hD2
 rcases hN1.2 with h0|⟨b,o,rfl,hx⟩
 ·omega
 have hba:Below w.heap.size w (w.alloc (.cells #[] 53)):=(Below.refl _ _).alloc (Nat.le_refl _) _
 have HXX:Hid (∀ i (h:i < l1.length),NodeAt (w.alloc (.cells #[] 53)) b (o+i*6) l1[i]):=fun i hi=>(hx i hi).below hba (hx i hi).lt
 have HLIT:Hid (Own (w.alloc (.cells #[] 53)) w.heap.size (.slice (some ⟨w.heap.size,0,none⟩) ([]:List Nd).length 0) []):=Ap2.Own.lit w _ (Nat.le_refl _)
 have HBA:Hid (Below w.heap.size w (w.alloc (.cells #[] 53))):=hba
 obtain ⟨h11,h12⟩:=h1
 clear hN1 hN2 hD2 hx hba
 go_enter Tryz.func29,Tryz.ntmps29
 go_wp2_with (at_builtin;go_must (refine app_any _ rfl _ _ rfl w.heap.size w.heap.size 0 [] l1 l1 rfl b o c1 0 l1.length rfl rfl rfl rfl HXX.out HLIT.out (by simp) (by simp;omega) ?_;intro g3 cp3 w3 ho3 hk3))
 have HO3:Hid (Own w3 w.heap.size (.slice (some ⟨g3,0,none⟩) l1.length cp3) l1):=ho3
 have HB3:Hid (Below w.heap.size w w3):=HBA.out.trans (hk3.below (fun k hk=>by omega) (by simp))
 clear ho3 hk3 HBA HXX HLIT
 have HJ0:Hid (jnTo l1 l2 0=l1):=by show _=_;unfold jnTo;simp
 go_wp2_with fail
 go_loopw [5,6] (fun q i wr=>∃ k g cp:Nat,k<=l2.length/\i=.int .i64 (k:Int)/\q=.slice (some ⟨g,0,none⟩) (jnTo l1 l2 k).length cp/\Own wr w.heap.size (.slice (some ⟨g,0,none⟩) (jnTo l1 l2 k).length cp) (jnTo l1 l2 k)/\Below w.heap.size w wr) (fun _ i _=>l2.length - (intOf i).toNat)
 case atStart=>exact ⟨0,g3,cp3,Nat.zero_le _,rfl,by rw [HJ0.out],by rw [HJ0.out];exact HO3.out,HB3.out⟩
 case round =>
  clear HO3 HB3 HJ0
  obtain ⟨k,g,cp,hk,rfl,rfl,ho,hb⟩:=hrel
  have HO:Hid (Own wr w.heap.size (.slice (some ⟨g,0,none⟩) (jnTo l1 l2 k).length cp) (jnTo l1 l2 k)):=ho
  have HB:Hid (Below w.heap.size w wr):=hb
  have hbs:w.heap.size<=wr.heap.size:=hb.size
  clear ho hb
  by_cases hlt:k < l2.length
  ·have hlz:(k:Int) < (l2.length:Int):=by omega
   have HSU:Hid (jnTo l1 l2 (k+1)=jnTo l1 l2 k++[shN (l1.length:Int) (nth l2 k)]):=jnTo_succ hlt
   have HPT:Hid (∀ p∈parts (nth l2 k),0<=p/\p < (k:Int)):=fun p hp=>HD2.out k hlt p hp
   have hRL:(jnTo l1 l2 k).length<=160:=by rw [jnTo_len hk];omega
   rcases (HN2.out.below HB.out).2 with h0|⟨xb,xo,rfl,hc⟩
   ·omega
   obtain ⟨p0,p1,p2,p3,p4,p5⟩:=hc k hlt
   rw [nth_get hlt] at p0 p1 p2 p3 p4 p5
   clear hc
   generalize jnTo l1 l2 k=R at HO HSU hRL ⊢
   generalize nth l2 k=n at HSU HPT p0 p1 p2 p3 p4 p5
   obtain ⟨w4,hw4⟩:∃ w4:World,w4=wr.alloc (.cells #[.int .i64 n.op,.int .i64 n.w,.int .i64 n.k,.int .i64 n.a,.int .i64 n.b,.int .i64 n.c] 53):=⟨_,rfl⟩
   go_wp2_with fail
   rw [<- hw4]
   have hs4:w4.heap.size=wr.heap.size+1:=by rw [hw4];simp
   have hb4:Below wr.heap.size wr w4:=by rw [hw4];exact (Below.refl _ _).alloc (Nat.le_refl _) _
   have d0:∀ (j:Nat) v,(#[.int .i64 n.op,.int .i64 n.w,.int .i64 n.k,.int .i64 n.a,.int .i64 n.b,.int .i64 n.c]:Array Value)[j]? = some v->w4.cell? ⟨wr.heap.size,j,none⟩=some v/\w4.frozen? ⟨wr.heap.size,j,none⟩=false:=fun j v hv=>⟨by rw [hw4,World.cell?_alloc_new];exact hv,by rw [hw4];simp⟩
   refine (sParts n w4).mono ?_
   rintro e w5 ⟨⟨pa,pc,rfl,_⟩,hb5⟩
   have dd:∀ (j:Nat) v,(#[.int .i64 n.op,.int .i64 n.w,.int .i64 n.k,.int .i64 n.a,.int .i64 n.b,.int .i64 n.c]:Array Value)[j]? = some v->w5.cell? ⟨wr.heap.size,j,none⟩=some v/\w5.frozen? ⟨wr.heap.size,j,none⟩=false:=fun j v hv=>⟨(hb5.cell (p:=⟨wr.heap.size,j,none⟩) (show wr.heap.size < _ by omega)).trans (d0 j v hv).1,(hb5.frozen (p:=⟨wr.heap.size,j,none⟩) (show wr.heap.size < _ by omega)).trans (d0 j v hv).2⟩
   have c0:=(dd 0 _ rfl).1
   have c1q:=(dd 1 _ rfl).1
   have c2q:=(dd 2 _ rfl).1
   have c3:=(dd 3 _ rfl).1
   have c4:=(dd 4 _ rfl).1
   have c5:=(dd 5 _ rfl).1
   have f3:=(dd 3 _ rfl).2
   have f4:=(dd 4 _ rfl).2
   have f5:=(dd 5 _ rfl).2
   have hb45:Below wr.heap.size wr w5:=hb4.trans (hb5.mono (by omega))
   have HBX:Hid (∀ W,Kept (fun b=>b=wr.heap.size) w5 W->Below w.heap.size w W):=fun W hW=>(HB.out.trans (hb45.mono hbs)).trans (hW.below (fun b (hb:b=wr.heap.size)=>by omega) (Nat.le_trans hbs hb45.size))
   have HOX:Hid (∀ W,Kept (fun b=>b=wr.heap.size) w5 W->Own W w.heap.size (.slice (some ⟨g,0,none⟩) R.length cp) R):=fun W hW=>(HO.out.kept (S:=fun _=>False) (Kept.ofBelow hb45) (fun _ _ h=>h)).kept hW (fun b h1 (h2:b=wr.heap.size)=>by have:=(HO.out.lt b h1).2;omega)
   clear hw4 hs4 hb4 d0 dd hb5 hb45 p0 p1 p2 p3 p4 p5
   by_cases h1:n.op=2\/n.op=17\/n.op=19\/n.op=20
   ·skip
    have hP:(parts n).length=1:=by rw [parts_one h1];rfl
    have HTN:Hid (shN (l1.length:Int) n=⟨n.op,n.w,n.k,n.a+(l1.length:Int),n.b,n.c⟩):=by
     show shN (l1.length:Int) n=⟨n.op,n.w,n.k,n.a+(l1.length:Int),n.b,n.c⟩
     unfold shN
     rw [hP]
     simp
    have hq0:=HPT.out n.a (by rw [parts_one h1];simp)
    have hw0:IntKind.i64.wrap (n.a+(l1.length:Int))=n.a+(l1.length:Int):=by rw [IntKind.wrap_i64]<;>omega
    rw [hP]
    clear hP HPT
    go_upto_region 13 with fail
    obtain ⟨w8,hw8⟩:∃ w8:World,w8=(w5.setCell ⟨wr.heap.size,3,none⟩ (.int .i64 (n.a+(l1.length:Int)))):=⟨_,rfl⟩
    have HK8:Hid (Kept (fun b=>b=wr.heap.size) w5 w8):=by rw [hw8];exact kset (Kept.refl _ _) rfl
    have g0:w8.cell? ⟨wr.heap.size,0,none⟩=some (.int .i64 (n.op)):=by rw [hw8,set_other (by simp)];exact c0
    have g1:w8.cell? ⟨wr.heap.size,1,none⟩=some (.int .i64 (n.w)):=by rw [hw8,set_other (by simp)];exact c1q
    have g2:w8.cell? ⟨wr.heap.size,2,none⟩=some (.int .i64 (n.k)):=by rw [hw8,set_other (by simp)];exact c2q
    have g3:w8.cell? ⟨wr.heap.size,3,none⟩=some (.int .i64 (n.a+(l1.length:Int))):=by rw [hw8];exact set_same c3
    have g4:w8.cell? ⟨wr.heap.size,4,none⟩=some (.int .i64 (n.b)):=by rw [hw8,set_other (by simp)];exact c4
    have g5:w8.cell? ⟨wr.heap.size,5,none⟩=some (.int .i64 (n.c)):=by rw [hw8,set_other (by simp)];exact c5
    rw [<- hw8]
    clear hw8 c0 c1q c2q c3 c4 c5 f3 f4 f5 hq0 hw0
    go_wp2_with (at_builtin;go_must (refine app_node w8 rfl _ _ rfl w.heap.size (.slice (some ⟨g,0,none⟩) R.length cp) R ⟨n.op,n.w,n.k,n.a+(l1.length:Int),n.b,n.c⟩ rfl w8.heap.size rfl (by first|(simp;done)|rfl) (HOX.out _ HK8.out) (HBX.out _ HK8.out).size (by omega) ?_;intro g7 cp7 w7 ho7 hk7 hg7;have HO7:Hid (Own w7 w.heap.size (.slice (some ⟨g7,0,none⟩) (R.length+1) cp7) (R++[⟨n.op,n.w,n.k,n.a+(l1.length:Int),n.b,n.c⟩])):=ho7;have HB7:Hid (Below w.heap.size w w7):=(HBX.out _ HK8.out).trans (hk7.below (fun b hb=>(HO.out.lt b hb).1) (HBX.out _ HK8.out).size);clear ho7 hk7 hg7))
    go_roundw
    case rel=>exact ⟨k+1,g7,cp7,by omega,by go_num,by rw [HSU.out,HTN.out,List.length_append];rfl,by rw [HSU.out,HTN.out,List.length_append];exact HO7.out,HB7.out⟩
    case measure=>simp [intOf];omega
   by_cases h2:3<=n.op/\n.op<=16
   ·skip
    have hP:(parts n).length=2:=by rw [parts_two h2];rfl
    have HTN:Hid (shN (l1.length:Int) n=⟨n.op,n.w,n.k,n.a+(l1.length:Int),n.b+(l1.length:Int),n.c⟩):=by
     show shN (l1.length:Int) n=⟨n.op,n.w,n.k,n.a+(l1.length:Int),n.b+(l1.length:Int),n.c⟩
     unfold shN
     rw [hP]
     simp
    have hq0:=HPT.out n.a (by rw [parts_two h2];simp)
    have hw0:IntKind.i64.wrap (n.a+(l1.length:Int))=n.a+(l1.length:Int):=by rw [IntKind.wrap_i64]<;>omega
    have hq1:=HPT.out n.b (by rw [parts_two h2];simp)
    have hw1:IntKind.i64.wrap (n.b+(l1.length:Int))=n.b+(l1.length:Int):=by rw [IntKind.wrap_i64]<;>omega
    rw [hP]
    clear hP HPT
    go_upto_region 13 with fail
    obtain ⟨w8,hw8⟩:∃ w8:World,w8=((w5.setCell ⟨wr.heap.size,3,none⟩ (.int .i64 (n.a+(l1.length:Int)))).setCell ⟨wr.heap.size,4,none⟩ (.int .i64 (n.b+(l1.length:Int)))):=⟨_,rfl⟩
    have HK8:Hid (Kept (fun b=>b=wr.heap.size) w5 w8):=by rw [hw8];exact kset (kset (Kept.refl _ _) rfl) rfl
    have g0:w8.cell? ⟨wr.heap.size,0,none⟩=some (.int .i64 (n.op)):=by rw [hw8,set_other (by simp),set_other (by simp)];exact c0
    have g1:w8.cell? ⟨wr.heap.size,1,none⟩=some (.int .i64 (n.w)):=by rw [hw8,set_other (by simp),set_other (by simp)];exact c1q
    have g2:w8.cell? ⟨wr.heap.size,2,none⟩=some (.int .i64 (n.k)):=by rw [hw8,set_other (by simp),set_other (by simp)];exact c2q
    have g3:w8.cell? ⟨wr.heap.size,3,none⟩=some (.int .i64 (n.a+(l1.length:Int))):=by rw [hw8,set_other (by simp)];exact set_same c3
    have g4:w8.cell? ⟨wr.heap.size,4,none⟩=some (.int .i64 (n.b+(l1.length:Int))):=by rw [hw8];exact set_same (by rw [set_other (by simp)];exact c4)
    have g5:w8.cell? ⟨wr.heap.size,5,none⟩=some (.int .i64 (n.c)):=by rw [hw8,set_other (by simp),set_other (by simp)];exact c5
    rw [<- hw8]
    clear hw8 c0 c1q c2q c3 c4 c5 f3 f4 f5 hq0 hw0 hq1 hw1
    go_wp2_with (at_builtin;go_must (refine app_node w8 rfl _ _ rfl w.heap.size (.slice (some ⟨g,0,none⟩) R.length cp) R ⟨n.op,n.w,n.k,n.a+(l1.length:Int),n.b+(l1.length:Int),n.c⟩ rfl w8.heap.size rfl (by first|(simp;done)|rfl) (HOX.out _ HK8.out) (HBX.out _ HK8.out).size (by omega) ?_;intro g7 cp7 w7 ho7 hk7 hg7;have HO7:Hid (Own w7 w.heap.size (.slice (some ⟨g7,0,none⟩) (R.length+1) cp7) (R++[⟨n.op,n.w,n.k,n.a+(l1.length:Int),n.b+(l1.length:Int),n.c⟩])):=ho7;have HB7:Hid (Below w.heap.size w w7):=(HBX.out _ HK8.out).trans (hk7.below (fun b hb=>(HO.out.lt b hb).1) (HBX.out _ HK8.out).size);clear ho7 hk7 hg7))
    go_roundw
    case rel=>exact ⟨k+1,g7,cp7,by omega,by go_num,by rw [HSU.out,HTN.out,List.length_append];rfl,by rw [HSU.out,HTN.out,List.length_append];exact HO7.out,HB7.out⟩
    case measure=>simp [intOf];omega
   by_cases h3:n.op=18
   ·skip
    have H3:Hid (n.op=18):=h3
    clear h3
    have hP:(parts n).length=3:=by rw [parts_three H3.out];rfl
    have HTN:Hid (shN (l1.length:Int) n=⟨n.op,n.w,n.k,n.a+(l1.length:Int),n.b+(l1.length:Int),n.c+(l1.length:Int)⟩):=by
     show shN (l1.length:Int) n=⟨n.op,n.w,n.k,n.a+(l1.length:Int),n.b+(l1.length:Int),n.c+(l1.length:Int)⟩
     unfold shN
     rw [hP]
     simp
    have hq0:=HPT.out n.a (by rw [parts_three H3.out];simp)
    have hw0:IntKind.i64.wrap (n.a+(l1.length:Int))=n.a+(l1.length:Int):=by rw [IntKind.wrap_i64]<;>omega
    have hq1:=HPT.out n.b (by rw [parts_three H3.out];simp)
    have hw1:IntKind.i64.wrap (n.b+(l1.length:Int))=n.b+(l1.length:Int):=by rw [IntKind.wrap_i64]<;>omega
    have hq2:=HPT.out n.c (by rw [parts_three H3.out];simp)
    have hw2:IntKind.i64.wrap (n.c+(l1.length:Int))=n.c+(l1.length:Int):=by rw [IntKind.wrap_i64]<;>omega
    rw [hP]
    clear hP HPT
    go_upto_region 13 with fail
    obtain ⟨w8,hw8⟩:∃ w8:World,w8=(((w5.setCell ⟨wr.heap.size,3,none⟩ (.int .i64 (n.a+(l1.length:Int)))).setCell ⟨wr.heap.size,4,none⟩ (.int .i64 (n.b+(l1.length:Int)))).setCell ⟨wr.heap.size,5,none⟩ (.int .i64 (n.c+(l1.length:Int)))):=⟨_,rfl⟩
    have HK8:Hid (Kept (fun b=>b=wr.heap.size) w5 w8):=by rw [hw8];exact kset (kset (kset (Kept.refl _ _) rfl) rfl) rfl
    have g0:w8.cell? ⟨wr.heap.size,0,none⟩=some (.int .i64 (n.op)):=by rw [hw8,set_other (by simp),set_other (by simp),set_other (by simp)];exact c0
    have g1:w8.cell? ⟨wr.heap.size,1,none⟩=some (.int .i64 (n.w)):=by rw [hw8,set_other (by simp),set_other (by simp),set_other (by simp)];exact c1q
    have g2:w8.cell? ⟨wr.heap.size,2,none⟩=some (.int .i64 (n.k)):=by rw [hw8,set_other (by simp),set_other (by simp),set_other (by simp)];exact c2q
    have g3:w8.cell? ⟨wr.heap.size,3,none⟩=some (.int .i64 (n.a+(l1.length:Int))):=by rw [hw8,set_other (by simp),set_other (by simp)];exact set_same c3
    have g4:w8.cell? ⟨wr.heap.size,4,none⟩=some (.int .i64 (n.b+(l1.length:Int))):=by rw [hw8,set_other (by simp)];exact set_same (by rw [set_other (by simp)];exact c4)
    have g5:w8.cell? ⟨wr.heap.size,5,none⟩=some (.int .i64 (n.c+(l1.length:Int))):=by rw [hw8];exact set_same (by rw [set_other (by simp),set_other (by simp)];exact c5)
    rw [<- hw8]
    clear hw8 c0 c1q c2q c3 c4 c5 f3 f4 f5 hq0 hw0 hq1 hw1 hq2 hw2
    go_wp2_with (at_builtin;go_must (refine app_node w8 rfl _ _ rfl w.heap.size (.slice (some ⟨g,0,none⟩) R.length cp) R ⟨n.op,n.w,n.k,n.a+(l1.length:Int),n.b+(l1.length:Int),n.c+(l1.length:Int)⟩ rfl w8.heap.size rfl (by first|(simp;done)|rfl) (HOX.out _ HK8.out) (HBX.out _ HK8.out).size (by omega) ?_;intro g7 cp7 w7 ho7 hk7 hg7;have HO7:Hid (Own w7 w.heap.size (.slice (some ⟨g7,0,none⟩) (R.length+1) cp7) (R++[⟨n.op,n.w,n.k,n.a+(l1.length:Int),n.b+(l1.length:Int),n.c+(l1.length:Int)⟩])):=ho7;have HB7:Hid (Below w.heap.size w w7):=(HBX.out _ HK8.out).trans (hk7.below (fun b hb=>(HO.out.lt b hb).1) (HBX.out _ HK8.out).size);clear ho7 hk7 hg7))
    go_roundw
    case rel=>exact ⟨k+1,g7,cp7,by omega,by go_num,by rw [HSU.out,HTN.out,List.length_append];rfl,by rw [HSU.out,HTN.out,List.length_append];exact HO7.out,HB7.out⟩
    case measure=>simp [intOf];omega
   have hP:(parts n).length=0:=by rw [parts_none h1 h2 h3];rfl
   have HTN:Hid (shN (l1.length:Int) n=⟨n.op,n.w,n.k,n.a,n.b,n.c⟩):=by
    show shN (l1.length:Int) n=⟨n.op,n.w,n.k,n.a,n.b,n.c⟩
    unfold shN
    rw [hP]
    simp
   rw [hP]
   clear hP HPT
   go_upto_region 13 with fail
   obtain ⟨w8,hw8⟩:∃ w8:World,w8=w5:=⟨_,rfl⟩
   have HK8:Hid (Kept (fun b=>b=wr.heap.size) w5 w8):=by rw [hw8];exact Kept.refl _ _
   have g0:w8.cell? ⟨wr.heap.size,0,none⟩=some (.int .i64 (n.op)):=by rw [hw8];exact c0
   have g1:w8.cell? ⟨wr.heap.size,1,none⟩=some (.int .i64 (n.w)):=by rw [hw8];exact c1q
   have g2:w8.cell? ⟨wr.heap.size,2,none⟩=some (.int .i64 (n.k)):=by rw [hw8];exact c2q
   have g3:w8.cell? ⟨wr.heap.size,3,none⟩=some (.int .i64 (n.a)):=by rw [hw8];exact c3
   have g4:w8.cell? ⟨wr.heap.size,4,none⟩=some (.int .i64 (n.b)):=by rw [hw8];exact c4
   have g5:w8.cell? ⟨wr.heap.size,5,none⟩=some (.int .i64 (n.c)):=by rw [hw8];exact c5
   rw [<- hw8]
   clear hw8 c0 c1q c2q c3 c4 c5 f3 f4 f5
   go_wp2_with (at_builtin;go_must (refine app_node w8 rfl _ _ rfl w.heap.size (.slice (some ⟨g,0,none⟩) R.length cp) R ⟨n.op,n.w,n.k,n.a,n.b,n.c⟩ rfl w8.heap.size rfl (by first|(simp;done)|rfl) (HOX.out _ HK8.out) (HBX.out _ HK8.out).size (by omega) ?_;intro g7 cp7 w7 ho7 hk7 hg7;have HO7:Hid (Own w7 w.heap.size (.slice (some ⟨g7,0,none⟩) (R.length+1) cp7) (R++[⟨n.op,n.w,n.k,n.a,n.b,n.c⟩])):=ho7;have HB7:Hid (Below w.heap.size w w7):=(HBX.out _ HK8.out).trans (hk7.below (fun b hb=>(HO.out.lt b hb).1) (HBX.out _ HK8.out).size);clear ho7 hk7 hg7))
   go_roundw
   case rel=>exact ⟨k+1,g7,cp7,by omega,by go_num,by rw [HSU.out,HTN.out,List.length_append];rfl,by rw [HSU.out,HTN.out,List.length_append];exact HO7.out,HB7.out⟩
   case measure=>simp [intOf];omega
  ·have hlz:¬ (k:Int) < (l2.length:Int):=by omega
   have hke:k=l2.length:=by omega
   subst hke
   have HJE:Hid (jnTo l1 l2 l2.length=joinL l1 l2):=by show _=_;unfold jnTo joinL;rw [List.take_length]
   have HO9:Hid (Own wr w.heap.size (.slice (some ⟨g,0,none⟩) (joinL l1 l2).length cp) (joinL l1 l2)):=by rw [<- HJE.out];exact HO.out
   rw [HJE.out]
   clear HO
   go_wp2
   go_ret
   exact ⟨⟨g,cp,rfl,HO9.out⟩,HB.out⟩
end Am9
namespace Pg1
open Go.RowKit
open Nd0 Tm0 Tm5 Pl1 Ap0
open Ws1 (ret_int ret_bool)
def cnt (op:Int):Nat:=if op=2\/op=17\/op=19\/op=20 then 1 else if 3<=op/\op<=16 then 2 else if op=18 then 3 else 0
theorem cnt_parts (n:Nd):(parts n).length=cnt n.op:=by
 unfold parts cnt;split
 ·rfl
 ·split
  ·rfl
  ·split<;>rfl
theorem cnt_le (op:Int):cnt op<=3:=by unfold cnt;split;omega;split;omega;split<;>omega
def numbered (op:Int):Bool:=op==0||op==1||op==17||quant op
theorem iWidthOk (m:Int) (w:World) :
 Calls Tryz.prog 84 #[.int .i64 m] w fun e w'=>e=.returned (.bool (decide (1<=m/\m<=8)))/\w'=w:=by
 by_cases h1:1<=m<;>by_cases h2:m<=8
 all_goals
  go_enter Tryz.func84,Tryz.ntmps84
  go_wp2
  go_ret
  exact ⟨ret_bool (by simp<;>omega),rfl⟩
theorem iWordOk (m a:Int) (w:World) :
 Calls Tryz.prog 91 #[.int .i64 m,.int .i64 a] w fun e w'=>e=.returned (.bool (wok m a))/\w'=w:=by
 by_cases h:1<=m/\m<=8
 ·have hd:decide (1<=m/\m<=8)=true:=by simpa using h
  by_cases ha:0<=a
  all_goals
   go_enter Tryz.func91,Tryz.ntmps91
   go_wp2_with (go_at_call 84;refine (iWidthOk _ _).mono ?_;rintro e w' ⟨rfl,rfl⟩)
   go_ret
   exact ⟨ret_bool (by rw [Bool.eq_iff_iff];try rw [wrap_p2 _ (by omega)]
                       simp [wok];omega),rfl⟩
 ·have hd:decide (1<=m/\m<=8)=false:=by simpa using h
  go_enter Tryz.func91,Tryz.ntmps91
  go_wp2_with (go_at_call 84;refine (iWidthOk _ _).mono ?_;rintro e w' ⟨rfl,rfl⟩)
  go_ret
  exact ⟨ret_bool (by unfold wok;symm;rw [decide_eq_false_iff_not];omega),rfl⟩
theorem iVarOk (m:Int) (w:World) :
 Calls Tryz.prog 96 #[.int .i64 m] w fun e w'=>e=.returned (.bool (decide (0<=m/\m<=7)))/\w'=w:=by
 by_cases h1:0<=m<;>by_cases h2:m < 8
 all_goals
  go_enter Tryz.func96,Tryz.ntmps96
  go_wp2
  go_ret
  exact ⟨ret_bool (by simp<;>omega),rfl⟩
theorem iQuant (op:Int) (w:World) :
 Calls Tryz.prog 71 #[.int .i64 op] w fun e w'=>e=.returned (.bool (quant op))/\w'=w:=by
 cases h1:(op==19)<;>cases h2:(op==20)
 all_goals
  go_enter Tryz.func71,Tryz.ntmps71
  go_wp2
  go_ret
  exact ⟨ret_bool (by unfold quant;rw [h1,h2];rfl),rfl⟩
theorem iOuter (op:Int) (w:World) :
 Calls Tryz.prog 72 #[.int .i64 op] w fun e w'=>e=.returned (.bool (outer op))/\w'=w:=by
 cases h1:(op==2)<;>cases h2:(op==3)<;>cases h3:(op==4)
 all_goals
  go_enter Tryz.func72,Tryz.ntmps72
  go_wp2_with (go_at_call 71;refine (iQuant _ _).mono ?_;rintro e w' ⟨rfl,rfl⟩)
  go_ret
  exact ⟨ret_bool (by unfold outer;rw [h1,h2,h3];rfl),rfl⟩
theorem iNumbered (op:Int) (w:World) :
 Calls Tryz.prog 95 #[.int .i64 op] w fun e w'=>e=.returned (.bool (numbered op))/\w'=w:=by
 cases h1:(op==0)<;>cases h2:(op==1)<;>cases h3:(op==17)
 all_goals
  go_enter Tryz.func95,Tryz.ntmps95
  go_wp2_with (go_at_call 71;refine (iQuant _ _).mono ?_;rintro e w' ⟨rfl,rfl⟩)
  go_ret
  exact ⟨ret_bool (by unfold numbered;rw [h1,h2,h3];rfl),rfl⟩
theorem iCount (op:Int) (w:World) :
 Calls Tryz.prog 76 #[.int .i64 op] w fun e w'=>e=.returned (.int .i64 (cnt op:Int))/\w'=w:=by
 have HC:Hid (∀ k:Nat,cnt op=k->(k:Int)=(cnt op:Int)):=fun k h=>by rw [h]
 have q1:(op==2)=false->(op==17)=false->quant op=false->¬ (op=2\/op=17\/op=19\/op=20):=by
  intro a b c;simp [quant] at a b c;omega
 have HQ:Hid ((op==2)=false->(op==17)=false->quant op=false->¬ (op=2\/op=17\/op=19\/op=20)):=q1
 have HR:Hid ((op==2)=true\/(op==17)=true\/quant op=true->(op=2\/op=17\/op=19\/op=20)):=by
  show _->_
  rintro (a|a|a)
  ·simp at a;omega
  ·simp at a;omega
  ·simp [quant] at a;omega
 clear q1
 cases h1:(op==2)
 ·cases h2:(op==17)
  ·cases h3:quant op
   ·have HN:=HQ.out h1 h2 h3
    have HN':Hid (¬ (op=2\/op=17\/op=19\/op=20)):=HN
    clear HN
    by_cases h4:3<=op
    ·by_cases h5:op<=16
     ·have HE:Hid (cnt op=2):=by
       show cnt op=2
       unfold cnt;rw [if_neg HN'.out,if_pos ⟨h4,h5⟩]
      go_enter Tryz.func76,Tryz.ntmps76
      go_wp2_with (go_at_call 71;refine (iQuant _ _).mono ?_;rintro e w' ⟨rfl,rfl⟩)
      go_ret
      exact ⟨ret_int (HC.out 2 HE.out),rfl⟩
     ·cases h6:(op==18)
      ·have HE:Hid (cnt op=0):=by
        show cnt op=0
        unfold cnt;rw [if_neg HN'.out,if_neg (by omega),if_neg (by simpa using h6)]
       go_enter Tryz.func76,Tryz.ntmps76
       go_wp2_with (go_at_call 71;refine (iQuant _ _).mono ?_;rintro e w' ⟨rfl,rfl⟩)
       go_ret
       exact ⟨ret_int (HC.out 0 HE.out),rfl⟩
      ·have HE:Hid (cnt op=3):=by
        show cnt op=3
        unfold cnt;rw [if_neg HN'.out,if_neg (by omega),if_pos (by simpa using h6)]
       go_enter Tryz.func76,Tryz.ntmps76
       go_wp2_with (go_at_call 71;refine (iQuant _ _).mono ?_;rintro e w' ⟨rfl,rfl⟩)
       go_ret
       exact ⟨ret_int (HC.out 3 HE.out),rfl⟩
    ·have h6:(op==18)=false:=by simp;omega
     have HE:Hid (cnt op=0):=by
      show cnt op=0
      unfold cnt;rw [if_neg HN'.out,if_neg (by omega),if_neg (by omega)]
     go_enter Tryz.func76,Tryz.ntmps76
     go_wp2_with (go_at_call 71;refine (iQuant _ _).mono ?_;rintro e w' ⟨rfl,rfl⟩)
     go_ret
     exact ⟨ret_int (HC.out 0 HE.out),rfl⟩
   ·have HE:Hid (cnt op=1):=by
     show cnt op=1
     unfold cnt;rw [if_pos (HR.out (.inr (.inr h3)))]
    go_enter Tryz.func76,Tryz.ntmps76
    go_wp2_with (go_at_call 71;refine (iQuant _ _).mono ?_;rintro e w' ⟨rfl,rfl⟩)
    go_ret
    exact ⟨ret_int (HC.out 1 HE.out),rfl⟩
  ·have HE:Hid (cnt op=1):=by
    show cnt op=1
    unfold cnt;rw [if_pos (HR.out (.inr (.inl h2)))]
   go_enter Tryz.func76,Tryz.ntmps76
   go_wp2_with (go_at_call 71;refine (iQuant _ _).mono ?_;rintro e w' ⟨rfl,rfl⟩)
   go_ret
   exact ⟨ret_int (HC.out 1 HE.out),rfl⟩
 ·have HE:Hid (cnt op=1):=by
   show cnt op=1
   unfold cnt;rw [if_pos (HR.out (.inl h1))]
  go_enter Tryz.func76,Tryz.ntmps76
  go_wp2_with (go_at_call 71;refine (iQuant _ _).mono ?_;rintro e w' ⟨rfl,rfl⟩)
  go_ret
  exact ⟨ret_int (HC.out 1 HE.out),rfl⟩
end Pg1
namespace Pg2
open Go.RowKit
open Nd0 Tm0 Tm5 Pl1 Ap0 Pg1
open Ws1 (ret_int ret_bool)
theorem app_ints {ops:Array Oper} {rest:List Oper} {o:Oper} {a:Act} {Q:Exit->Act->World->Prop} (W:World) (hgd:o.guard=none) (s x:Operand)
 (ho:o.op=.call { callee:=.builtin .append,args := #[s,x],argTypes := #[35,35] })
 (B:Nat) (v:Value) (l ys:List Int) (g c:Nat) (hs:a.eval s=v) (hx:a.eval x=.slice (some ⟨g,0,none⟩) ys.length c)
 (hy:∀ j (h:j < ys.length),W.cell? ⟨g,j,none⟩=some (.int .i64 ys[j])) (hp:0 < ys.length)
 (hown:Ows W B v l) (hB:B<=W.heap.size) (hlen:l.length+ys.length<=1048577)
 (h:∀ g cap w',Ows w' B (.slice (some ⟨g,0,none⟩) (l.length+ys.length) cap) (l++ys)->Kept (fun k=>v.ownBlock=some k) W w'->wpList Tryz.prog ops Q rest (a.put o.dst (.slice (some ⟨g,0,none⟩) (l.length+ys.length) cap)) w') :
 wpList Tryz.prog ops Q (o :: rest) a W:=by
 obtain ⟨i,hi,hzz⟩:=Option.map_eq_some_iff.1 infoInt
 simp only [Prod.mk.injEq] at hzz
 obtain ⟨hz,hsz,hb⟩:=hzz
 refine wpList_append_lies W hgd s x 35 ho B 3 i (.int .i64 0) 1 8 Tryz.underlying35 hi hz hsz hb rfl (by omega) v l.length (l.map fun x=>.int .i64 x) hs hown
  ⟨g,0,none⟩ ys.length c (ys.map fun x=>.int .i64 x) hx (by simp) ?_ ?_ hp (by unfold maxLen;omega) (by omega) hB _ rfl ?_
 ·intro j u hu
  have hadd:(⟨g,0,none⟩:Addr).add j=⟨g,j,none⟩:=by unfold Addr.add;split<;>simp_all
  rw [hadd]
  rw [List.getElem?_map] at hu
  obtain ⟨y,hy1,rfl⟩:=Option.map_eq_some_iff.1 hu
  obtain ⟨hj,rfl⟩:=List.getElem?_eq_some_iff.1 hy1
  exact hy j hj
 ·intro u hu
  obtain ⟨y,_,rfl⟩:=List.mem_map.1 hu
  rfl
 ·intro g cap w' h1 h2 h3 h4
  refine h g cap w' ?_ ?_
  ·unfold Ows
   simpa using h1
  ·exact ⟨h2.os,h2.tape,h2.output,h2.size,fun k hk hn=>h2.block k hk (fun e=>hn e.symm)⟩
theorem ows_lit (W:World) (B g:Nat) (hg:g=W.heap.size) (hB:B<=g):Ows (W.alloc (.cells #[] 3)) B (.slice (some ⟨g,0,none⟩) 0 0) []:=by
 subst hg;exact Ows.lit W B hB
theorem get3 (x y z:Int) (W:World) (g t:Nat) (k:Nat) (hk:k<=3) (hg:g=W.heap.size) (j:Nat) (h:j < (([x,y,z]:List Int).take k).length) (o:Obj) :
 ((W.alloc (.cells #[.int .i64 x,.int .i64 y,.int .i64 z] t)).alloc o).cell? ⟨g,j,none⟩=some (.int .i64 (([x,y,z]:List Int).take k)[j]):=by
 subst hg
 rw [World.cell?_alloc_old _ _ _ (by simp),World.cell?_alloc_new]
 have h3:j < 3:=by simp at h;omega
 rcases j with _|_|_|j
 ·simp
 ·simp
 ·simp
 ·omega
theorem iParts (n:Nd) (w:World) :
 Calls Tryz.prog 70 #[.agg #[.int .i64 n.op,.int .i64 n.w,.int .i64 n.k,.int .i64 n.a,.int .i64 n.b,.int .i64 n.c]] w fun e w'=>(∃ a c,e=.returned (.slice a (parts n).length c)/\WInts w' w.heap.size a (parts n))/\Below w.heap.size w w':=by
 have HP:Hid (parts n=([n.a,n.b,n.c]:List Int).take (cnt n.op)):=by
  show parts n=_
  unfold parts cnt;split
  ·rfl
  ·split
   ·rfl
   ·split<;>rfl
 have hc3:=cnt_le n.op
 by_cases h1:cnt n.op=0
 ·go_enter Tryz.func70,Tryz.ntmps70
  go_wp2_with (go_at_call 76;refine (iCount _ _).mono ?_;rintro e w' ⟨rfl,rfl⟩;rw [h1])
  go_ret
  rw [HP.out,h1]
  exact ⟨⟨_,_,rfl,Nat.zero_le _,.inl rfl⟩,(((Below.refl _ _).alloc (Nat.le_refl _) _).alloc (by simp) _).alloc (by simp;omega) _⟩
 ·obtain ⟨l3,hl3⟩:∃ l3:List Int,l3=([n.a,n.b,n.c]:List Int).take (cnt n.op):=⟨_,rfl⟩
  have HL3:Hid (l3=([n.a,n.b,n.c]:List Int).take (cnt n.op)):=hl3
  have hlen:l3.length=cnt n.op:=by rw [hl3,List.length_take];simp;omega
  have HLN:Hid (l3.length=cnt n.op):=hlen
  have hcz:(cnt n.op:Int)<=3:=by omega
  clear hl3 hlen
  go_enter Tryz.func70,Tryz.ntmps70
  go_wp2_with (first|(go_at_call 76;refine (iCount _ _).mono ?_;rintro e w' ⟨rfl,rfl⟩)|(at_builtin;go_must (refine app_ints _ rfl _ _ rfl w.heap.size (.slice (some ⟨w.heap.size+1+1,0,none⟩) 0 0) [] l3 (w.heap.size+1) 3 rfl (by rw [HLN.out];rfl) (fun j h=>by have h9:=HL3.out;subst h9;exact get3 _ _ _ _ _ _ _ hc3 (by simp) _ h _) (by rw [HLN.out];omega) (ows_lit _ _ _ (by simp) (by omega)) (by simp;omega) (by rw [HLN.out];simp;omega) ?_;intro g cp w3 ho3 hk3)))
  have HO3:Hid (Ows w3 w.heap.size (.slice (some ⟨g,0,none⟩) (([]:List Int).length+l3.length) cp) ([]++l3)):=ho3
  have HK3:=hk3.below (B:=w.heap.size) (fun k hk=>by cases hk;show w.heap.size<=w.heap.size+1+1;omega) (by simp;omega)
  have HB3:Hid (Below w.heap.size w w3):=((((Below.refl _ _).alloc (Nat.le_refl _) _).alloc (by simp) _).alloc (by simp;omega) _).trans HK3
  clear ho3 hk3 HK3
  go_wp2
  go_ret
  obtain ⟨a9,c9,hv9,hw9⟩:=HO3.out.form
  simp only [List.nil_append,List.length_nil,Nat.zero_add] at hv9 hw9
  rw [HP.out,<- HL3.out]
  cases hv9
  refine ⟨⟨some ⟨g,0,none⟩,cp,?_,hw9⟩,HB3.out⟩
  simp
end Pg2
end Go.Proofs.YtbellafdjfliiaaGreat
