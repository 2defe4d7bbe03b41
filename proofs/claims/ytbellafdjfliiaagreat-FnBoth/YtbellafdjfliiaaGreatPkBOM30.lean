import Derived.Lib.QuietBelow
import Derived.BigQuiet
import Derived.Deep.RegionHeld
import Derived.Test.YtbellafdjfliiaaGreatPkBOM25
import Derived.Test.YtbellafdjfliiaaGreatPkBOM13
import Derived.Test.YtbellafdjfliiaaGreatPkBOM0
import Derived.Test.YtbellafdjfliiaaGreatPkBOM29
import Derived.Test.YtbellafdjfliiaaGreatPkBOM28
import Derived.Test.YtbellafdjfliiaaGreatPkBOM14
import Derived.Test.YtbellafdjfliiaaGreatPkBOM24
namespace Go.Proofs.YtbellafdjfliiaaGreat
set_option maxRecDepth 100000
set_option maxHeartbeats 8000000
set_option linter.unusedVariables false
namespace Aw2
open Go.RowKit
open Nd0 Nd3 Pl1 Tm0 Tm1 Tm8 Pg1 Pg2 Aq0
open Ap2 (app_node)
open Nd4 (makeNodes zeros zeros_get)
open Aw1 (nv)
def RowN (w:World) (g n:Nat) (f:Nat->Nd):Prop:=∀ i,i < n->NodeAt w g (i*6) (f i)/\∀ j,j < 6->w.frozen? ⟨g,i*6+j,none⟩=false
theorem RowN.kept {w w':World} {g n:Nat} {f:Nat->Nd} (h:RowN w g n f) {S:Nat->Prop} (k:Kept S w w') (hs:¬ S g):RowN w' g n f:=fun i hi=>by
 obtain ⟨⟨c0,c1,c2,c3,c4,c5⟩,hf⟩:=h i hi
 have hb:g < w.heap.size:=lt_of_cell (p:=⟨g,i*6,none⟩) c0
 exact ⟨⟨by rw [k.cell hb hs];exact c0,by rw [k.cell hb hs];exact c1,by rw [k.cell hb hs];exact c2,by rw [k.cell hb hs];exact c3,by rw [k.cell hb hs];exact c4,by rw [k.cell hb hs];exact c5⟩,fun j hj=>by rw [k.frozen (p:=⟨g,i*6+j,none⟩) hb hs];exact hf j hj⟩
theorem RowN.below {w w':World} {g n:Nat} {f:Nat->Nd} (h:RowN w g n f) (k:Below w.heap.size w w'):RowN w' g n f:=h.kept (S:=fun _=>False) (Kept.ofBelow k) (fun h=>h)
theorem RowN.congr {w:World} {g n:Nat} {f f':Nat->Nd} (h:RowN w g n f) (e:∀ i,i < n->f i=f' i):RowN w g n f':=fun i hi=>by rw [<- e i hi];exact h i hi
theorem RowN.lt {w:World} {g n:Nat} {f:Nat->Nd} (h:RowN w g n f) (hn:0 < n):g < w.heap.size:=(h 0 hn).1.lt
theorem RowN.set {w:World} {g n:Nat} {f:Nat->Nd} (h:RowN w g n f) {p:Nat} (hp:p < n) (v:Nd):RowN (setNode w g (p*6) v) g n (fun i=>if i=p then v else f i):=by
 intro i hi
 refine ⟨?_,fun j hj=>by rw [setNode_frozen];exact (h i hi).2 j hj⟩
 by_cases e:i=p
 ·subst e
  dsimp only
  rw [if_pos rfl]
  exact setNode_same (h i hi).1
 ·dsimp only
  rw [if_neg e]
  exact setNode_other (h i hi).1 (by omega)
theorem RowN.new (w:World) (n T:Nat):RowN (w.alloc (.cells (zeros n) T)) w.heap.size n (fun _=>Nd.zero):=fun i hi=>⟨Nd4.zeros_at w n T i hi,fun j hj=>by simp⟩
def TellN (w0:World) (k:Nat) (cap:Array Value) (l:List Nd) (F:Nat->Nd->List Nd->Nd):Prop :=
 ∀ (W:World) (i:Nat) (a:Option Addr) (c:Nat),i < l.length->Below w0.heap.size w0 W->Nodes W a (said Nd.zero F l i) ->
  Calls Tryz.prog k (#[.int .i64 (i:Int),nv (nth l i),.slice a (said Nd.zero F l i).length c]++cap) W fun e w'=>e=.returned (nv (F i (nth l i) (said Nd.zero F l i)))/\Below W.heap.size W w'
theorem wNode (k:Nat) (cap:Array Value) (F:Nat->Nd->List Nd->Nd) (w:World) (a:Option Addr) (l:List Nd) (c:Nat) (hN:Nodes w a l) (hD:Down l) (hl:l.length<=1048576)
 (hk:∀ args w,(callFunc k args).run Tryz.prog w=.ok (.enter k args) w) (hT:TellN w k cap l F) :
 Calls Tryz.prog 53 #[.slice a l.length c,.func (.func k) #[] cap] w fun e w'=>(∃ a',e=.returned (.slice a' l.length l.length)/\WNodes w' w.heap.size a' (wk Nd.zero F l l.length))/\Below w.heap.size w w':=by
 have HN:Hid (Nodes w a l):=hN
 have HD:Hid (Down l):=hD
 have HT:Hid (TellN w k cap l F):=hT
 clear hN hD hT
 have hmk:=makeNodes l.length hl w
 obtain ⟨g,hg⟩:∃ g:Nat,g=w.heap.size:=⟨_,rfl⟩
 have HG:Hid (g=w.heap.size):=hg
 have HR0:Hid (RowN (w.alloc (.cells (zeros l.length) 53)) g l.length (fun i=>(wk Nd.zero F l 0).getD i Nd.zero)):=by
  rw [hg]
  exact RowN.new _ _ _
 have HB0:Hid (Below w.heap.size w (w.alloc (.cells (zeros l.length) 53))):=(Below.refl _ _).alloc (Nat.le_refl _) _
 go_enter Tryz.func53,Tryz.ntmps53
 go_wp2_with fail
 clear hmk
 rw [<- hg]
 clear hg
 generalize w.alloc (.cells (zeros l.length) 53)=wa at HR0 HB0 ⊢
 go_loopw [16] (fun q wr=>∃ j:Nat,j<=l.length/\q=.int .i64 j/\RowN wr g l.length (fun i=>(wk Nd.zero F l j).getD i Nd.zero)/\Below w.heap.size w wr) (fun q _=>l.length - (intOf q).toNat)
 case atStart=>exact ⟨0,Nat.zero_le _,rfl,HR0.out,HB0.out⟩
 case round =>
  clear HR0 HB0
  obtain ⟨j,hj,rfl,hr,hb⟩:=hrel
  obtain ⟨wb,rfl⟩:∃ wb:World,wb=wr:=⟨_,rfl⟩
  have HR:Hid (RowN wb g l.length (fun i=>(wk Nd.zero F l j).getD i Nd.zero)):=hr
  have HB:Hid (Below w.heap.size w wb):=hb
  have hBs:w.heap.size<=wb.heap.size:=hb.size
  clear hr hb
  by_cases hlt:j < l.length
  ·have hlz:(j:Int) < (l.length:Int):=by omega
   rcases (HN.out.below HB.out).2 with h0|⟨xb,xo,rfl,hc⟩
   ·omega
   obtain ⟨p0,p1,p2,p3,p4,p5⟩:=hc j hlt
   rw [nth_get hlt] at p0 p1 p2 p3 p4 p5
   clear hc
   have HDJ:Hid (∀ p∈parts (nth l j),0<=p/\p < (j:Int)):=HD.out j hlt
   have HSA:Hid (said Nd.zero F l j=(parts (nth l j)).map fun p=>(wk Nd.zero F l j).getD p.toNat Nd.zero):=rfl
   have HTJ:Hid (∀ (W:World) (a:Option Addr) (c:Nat),Below w.heap.size w W->Nodes W a (said Nd.zero F l j) ->
    Calls Tryz.prog k (#[.int .i64 (j:Int),nv (nth l j),.slice a (said Nd.zero F l j).length c]++cap) W fun e w'=>e=.returned (nv (F j (nth l j) (said Nd.zero F l j)))/\Below W.heap.size W w'):=fun W a c h1 h2=>HT.out W j a c hlt h1 h2
   have HWK:Hid (∀ i,(wk Nd.zero F l (j+1)).getD i Nd.zero=if i=j then F j (nth l j) (said Nd.zero F l j) else (wk Nd.zero F l j).getD i Nd.zero):=fun i=>wk_set Nd.zero F l j i
   generalize hn:nth l j=n at p0 p1 p2 p3 p4 p5 HDJ HSA HTJ HWK
   clear hn
   generalize F j n (said Nd.zero F l j)=y at HTJ HWK
   generalize said Nd.zero F l j=sd at HSA HTJ
   have hX:∃ X:Nat->Nd,X=fun i=>(wk Nd.zero F l j).getD i Nd.zero:=⟨_,rfl⟩
   obtain ⟨X,hX⟩:=hX
   have HRX:Hid (RowN wb g l.length X):=by rw [hX];exact HR.out
   have HSX:Hid (sd=(parts n).map fun p=>X p.toNat):=by show _=_;rw [hX];exact HSA.out
   have HWX:Hid (∀ i,(wk Nd.zero F l (j+1)).getD i Nd.zero=if i=j then y else X i):=by rw [hX];exact HWK.out
   clear hX HSA HWK HR
   have hgl:g < wb.heap.size:=HRX.out.lt (by omega)
   obtain ⟨W1,hW1⟩:∃ W1:World,W1=wb.alloc (.cells #[.int .i64 n.op,.int .i64 n.w,.int .i64 n.k,.int .i64 n.a,.int .i64 n.b,.int .i64 n.c] 53):=⟨_,rfl⟩
   have hs1:W1.heap.size=wb.heap.size+1:=by rw [hW1];simp
   have HB1:Hid (Below wb.heap.size wb W1):=by rw [hW1];exact (Below.refl _ _).alloc (Nat.le_refl _) _
   have HNB:Hid (NodeAt W1 wb.heap.size 0 n):=by rw [hW1];exact ⟨by simp,by simp,by simp,by simp,by simp,by simp⟩
   obtain ⟨W2,hW2⟩:∃ W2:World,W2=W1.alloc (.cells #[] 53):=⟨_,rfl⟩
   have hs2:W2.heap.size=wb.heap.size+2:=by rw [hW2];simp [hs1]
   have HB2:Hid (Below W1.heap.size W1 W2):=by rw [hW2];exact (Below.refl _ _).alloc (Nat.le_refl _) _
   have HO2:Hid (Ap2.Own W2 W1.heap.size (.slice (some ⟨wb.heap.size+1,0,none⟩) 0 0) []):=by rw [<- hs1,hW2];exact Ap2.Own.lit W1 _ (Nat.le_refl _)
   go_wp2_with fail
   rw [<- hW1,<- hW2]
   refine (iParts n W2).mono ?_
   rintro e W3 ⟨⟨pa,pc,rfl,hpi⟩,hb3⟩
   have hs3:=hb3.size
   have HP3:Hid (IntsIn W3 W2.heap.size W3.heap.size pa (parts n)):=hpi.within
   have HO3:Hid (Ap2.Own W3 W1.heap.size (.slice (some ⟨wb.heap.size+1,0,none⟩) 0 0) []):=HO2.out.kept (S:=fun _=>False) (Kept.ofBelow hb3) (fun _ _ h=>h)
   have HB3:Hid (Below W1.heap.size W1 W3):=HB2.out.trans (hb3.mono (by omega))
   have hpl:=parts_le n
   clear hpi hb3 HB2 HO2 hW1 hW2 p0 p1 p2 p3 p4 p5
   go_wp2_with fail
   go_loopw [8,25] (fun v q wq=>∃ m:Nat,m<=(parts n).length/\q=.int .i64 m/\Ap2.Own wq W1.heap.size v (((parts n).take m).map fun p=>X p.toNat)/\Below W1.heap.size W1 wq/\IntsIn wq W2.heap.size W3.heap.size pa (parts n)/\W3.heap.size<=wq.heap.size/\∀ x,v.ownBlock=some x->x < W2.heap.size\/W3.heap.size<=x) (fun _ q _=>(parts n).length - (intOf q).toNat)
   case atStart=>exact ⟨0,Nat.zero_le _,rfl,HO3.out,HB3.out,HP3.out,Nat.le_refl _,fun x hx=>by cases hx;exact .inl (by simp;omega)⟩
   case round =>
    clear HO3 HB3 HP3
    obtain ⟨m,hm,rfl,ho,hb,hi,hsz,hne⟩:=hrel
    have HBQ:Hid (Below W1.heap.size W1 wr):=hb
    have HIQ:Hid (IntsIn wr W2.heap.size W3.heap.size pa (parts n)):=hi
    have HRQ:Hid (RowN wr g l.length X):=(HRX.out.below HB1.out).below hb
    have HBW:Hid (Below w.heap.size w wr):=(HB.out.trans (HB1.out.mono hBs)).trans (hb.mono (by omega))
    have hB1:W1.heap.size<=wr.heap.size:=hb.size
    clear hb hi
    obtain ⟨ao,co,rfl,hwn⟩:=ho.form
    have HO:Hid (Ap2.Own wr W1.heap.size (.slice ao (((parts n).take m).map fun p=>X p.toNat).length co) (((parts n).take m).map fun p=>X p.toNat)):=ho
    have HNE:Hid (∀ x,(Value.slice ao (((parts n).take m).map fun p=>X p.toNat).length co).ownBlock=some x->x < W2.heap.size\/W3.heap.size<=x):=hne
    have HLJ:Hid ((((parts n).take m).map fun p=>X p.toNat).length=m):=by
     show _=_
     rw [List.length_map,List.length_take];omega
    clear ho hne
    by_cases hlt2:m < (parts n).length
    ·have hmz:(m:Int) < ((parts n).length:Int):=by omega
     clear hwn
     rcases HIQ.out.2 with h0|⟨pb,po,rfl,hpB,hpU,hpc⟩
     ·omega
     have q0:=(hpc m hlt2).1
     have HPM:=HDJ.out _ (List.getElem_mem hlt2)
     have HTK:Hid (((parts n).take (m+1)).map (fun p=>X p.toNat)=(((parts n).take m).map fun p=>X p.toNat)++[X (parts n)[m].toNat]):=by
      show _=_
      rw [List.take_succ_eq_append_getElem hlt2,List.map_append];rfl
     obtain ⟨hy0,hy1⟩:=HPM
     generalize (parts n)[m]=yp at q0 hy0 hy1 HTK
     generalize (((parts n).take m).map fun p=>X p.toNat)=L at HO HNE HLJ HTK ⊢
     clear hpc
     obtain ⟨jy,rfl⟩:=Int.eq_ofNat_of_zero_le hy0
     rw [Int.toNat_natCast] at HTK
     have c9:NodeAt wr g (jy*6) (X jy):=(HRQ.out jy (by omega)).1
     have hyl:(jy:Int) < (l.length:Int):=by omega
     have hLl:L.length<=1048576:=by have:=HLJ.out;omega
     generalize X jy=z at c9 HTK
     obtain ⟨c0,c1,c2,c3,c4,c5⟩:=c9
     go_wp2_with (at_builtin;go_must (refine app_node _ rfl _ _ rfl W1.heap.size (.slice ao L.length co) L z rfl _ rfl rfl HO.out hB1 hLl ?_;intro g5 cp5 w5 ho5 hk5 hg5))
     have HO5:Hid (Ap2.Own w5 W1.heap.size (.slice (some ⟨g5,0,none⟩) (L.length+1) cp5) (L++[z])):=ho5
     have HK5:Hid (Kept (fun k=>(Value.slice ao L.length co).ownBlock=some k) wr w5):=hk5
     have HG5:Hid ((Value.slice ao L.length co).ownBlock=some g5\/wr.heap.size<=g5):=hg5
     clear ho5 hk5 hg5
     go_wp2
     go_roundw
     case rel =>
      refine ⟨m+1,by omega,by go_num,by rw [HTK.out];exact HO5.out,HBQ.out.trans (HK5.out.below (fun b hb=>(HO.out.lt b hb).1) hB1),HIQ.out.kept HK5.out (fun b h1 h2 e=>by have:=HNE.out b e;omega),by have:=HK5.out.size;omega,fun b hb=>?_⟩
      cases hb
      rcases HG5.out with e|e
      ·exact HNE.out _ e
      ·exact .inr (by show _<=g5;omega)
     case measure=>simp [intOf];omega
    ·have hmz:¬ (m:Int) < ((parts n).length:Int):=by omega
     have hme:m=(parts n).length:=by omega
     have HLS:Hid ((((parts n).take m).map fun p=>X p.toNat)=sd):=by show _=_;rw [HSX.out,List.take_of_length_le (by omega)]
     clear HO HNE HLJ hme
     rw [HLS.out] at hwn ⊢
     have HWN:Hid (WNodes wr W1.heap.size ao sd):=hwn
     obtain ⟨b0,b1,b2,b3,b4,b5⟩:=HNB.out.below HBQ.out (by omega)
     clear hwn
     go_wp2_with fail
     refine (HTJ.out wr ao co HBW.out HWN.out.nodes).mono ?_
     rintro e w6 ⟨rfl,hb6⟩
     have HB6:Hid (Below w.heap.size w w6):=HBW.out.trans (hb6.mono (by omega))
     have HR6:Hid (RowN w6 g l.length X):=HRQ.out.below hb6
     obtain ⟨⟨c0,c1,c2,c3,c4,c5⟩,hfz⟩:=HR6.out j hlt
     have f0:=hfz 0 (by omega)
     have f1:=hfz 1 (by omega)
     have f2:=hfz 2 (by omega)
     have f3:=hfz 3 (by omega)
     have f4:=hfz 4 (by omega)
     have f5:=hfz 5 (by omega)
     rw [Nat.add_zero] at f0
     clear hfz
     clear hb6 b0 b1 b2 b3 b4 b5
     go_wp2_with fail
     go_roundw
     case rel =>
      refine ⟨j+1,by omega,by go_num,?_,HB6.out.trans ((setNode_keptS (S:=fun b=>b=g) (b:=g) (p:=j*6) (n:=y) rfl (Kept.refl _ w6)).below (fun b (hb:b=g)=>by have:=HG.out;omega) HB6.out.size)⟩
      refine (HR6.out.set hlt _).congr (fun i hi=>?_)
      rw [HWX.out]
     case measure=>simp [intOf];omega
  ·have e2:j=l.length:=by omega
   subst e2
   go_wp2
   go_ret
   refine ⟨⟨_,rfl,⟨by rw [wk_length];unfold maxLen;omega,.inr ⟨g,0,rfl,by have:=HG.out;omega,fun i hi=>?_,fun j hj=>?_⟩⟩⟩,HB.out⟩
   ·have h9:=HR.out i (by rw [wk_length] at hi;exact hi)
    dsimp only at h9
    rw [List.getD_eq_getElem?_getD,List.getElem?_eq_getElem hi] at h9
    rw [Nat.zero_add]
    exact h9.1
   ·rw [wk_length] at hj
    have h9:=(HR.out (j / 6) (by omega)).2 (j % 6) (Nat.mod_lt _ (by omega))
    rw [Nat.zero_add]
    have e:j / 6*6+j % 6=j:=by omega
    rw [e] at h9
    exact h9
end Aw2
namespace Pb4
open Go.RowKit
open Nd0 Nd3 Pl1 Tm0 Tm1 Tm5 Tm7 Tm8 Pg1 Pg8 Aq0 Aq1 Aw2 Pb1
open Aw1 (nv)
open Lx1 (ITermOk)
open Pb3 (iTO)
def renF (G:Int->Int) (_:Nat) (n:Nd) (_:List Nd):Nd:=if nmd n then { n with k:=G n.k } else n
def TellK (w0:World) (k:Nat) (cap:Array Value) (Ok:Int->Prop) (G:Int->Int):Prop :=
 ∀ (W:World) (x:Int),Ok x->Below w0.heap.size w0 W->Calls Tryz.prog k (#[.int .i64 x]++cap) W fun e w'=>e=.returned (.int .i64 (G x))/\Below W.heap.size W w'
theorem res_ren {w:World} {g:Nat} {n:Nd} {tmps:Array Value} (hp:tmps.getD 7 undef=.pointer (some ⟨g,0,none⟩)) (h:NodeAt w g 0 n) :
 (results Tryz.f56 tmps).run Tryz.prog w=.ok (nv n) w:=by
 have hr:w.rangeAt g 0 [.int .i64 n.op,.int .i64 n.w,.int .i64 n.k,.int .i64 n.a,.int .i64 n.b,.int .i64 n.c]:=fun j v hv=>by
  rw [Nat.zero_add]
  have hj:j < 6:=by
   have:=(List.getElem?_eq_some_iff.1 hv).1
   simpa using this
  rcases (show j=0\/j=1\/j=2\/j=3\/j=4\/j=5 by omega) with h'|h'|h'|h'|h'|h'<;>subst h'
  ·rw [<- hv];exact h.c0
  ·rw [<- hv];exact h.c1
  ·rw [<- hv];exact h.c2
  ·rw [<- hv];exact h.c3
  ·rw [<- hv];exact h.c4
  ·rw [<- hv];exact h.c5
 have hl:=run_loadVar_mid (P:=Tryz.prog) w g 0 53 _ _ hr Tryz.underlying53 rfl rfl
 have hp':tmps[7]?.getD undef=.pointer (some ⟨g,0,none⟩):=by simpa using hp
 simp [results,hp',asAddr,hl]
theorem iRen1 (i:Int) (n:Nd) (a:Option Addr) (m c:Nat) (w0 w:World) (b k2:Nat) (cap2:Array Value) (Ok:Int->Prop) (G:Int->Int) (hb:w.cell? ⟨b,0,none⟩=some (.func (.func k2) #[] cap2)) (hB:Below w0.heap.size w0 w)
 (hk2:∀ args w,(callFunc k2 args).run Tryz.prog w=.ok (.enter k2 args) w) (hT:TellK w0 k2 cap2 Ok G) (hok:nmd n=true->Ok n.k) (j:Nat) (ps:List Nd) :
 Calls Tryz.prog 56 (#[.int .i64 i,nv n,.slice a m c] ++ #[.pointer (some ⟨b,0,none⟩)]) w fun e w'=>e=.returned (nv (renF G j n ps))/\Below w.heap.size w w':=by
 have hbl:b < w.heap.size:=lt_of_cell (p:=⟨b,0,none⟩) hb
 obtain ⟨W1,hW1⟩:∃ W1:World,W1=w.alloc (.cells #[.int .i64 n.op,.int .i64 n.w,.int .i64 n.k,.int .i64 n.a,.int .i64 n.b,.int .i64 n.c] 53):=⟨_,rfl⟩
 obtain ⟨W,hW⟩:∃ W:World,W=W1.alloc (.cells #[.int .i64 0,.int .i64 0,.int .i64 0,.int .i64 0,.int .i64 0,.int .i64 0] 53):=⟨_,rfl⟩
 have hs1:W1.heap.size=w.heap.size+1:=by rw [hW1];simp
 have hs2:W.heap.size=w.heap.size+2:=by rw [hW];simp [hs1]
 have HBW:Hid (Below w.heap.size w W):=by rw [hW,hW1];exact ((Below.refl _ _).alloc (Nat.le_refl _) _).alloc (by simp) _
 have HG5:Hid (NodeAt W w.heap.size 0 n/\∀ j,W.frozen? ⟨w.heap.size,j,none⟩=false):=by
  have h1:NodeAt W1 w.heap.size 0 n:=by rw [hW1];exact ⟨by simp,by simp,by simp,by simp,by simp,by simp⟩
  have h2:∀ j,W1.frozen? ⟨w.heap.size,j,none⟩=false:=fun j=>by rw [hW1];simp
  have hbb:Below W1.heap.size W1 W:=by rw [hW];exact (Below.refl _ _).alloc (Nat.le_refl _) _
  exact ⟨h1.below hbb (by omega),fun j=>by rw [hbb.frozen (by simp;omega)];exact h2 j⟩
 have HG7:Hid (NodeAt W (w.heap.size+1) 0 Nd.zero/\∀ j,W.frozen? ⟨w.heap.size+1,j,none⟩=false):=by
  rw [<- hs1,hW]
  exact ⟨⟨by simp [Nd.zero],by simp [Nd.zero],by simp [Nd.zero],by simp [Nd.zero],by simp [Nd.zero],by simp [Nd.zero]⟩,fun j=>by simp⟩
 have HFN:Hid (W.cell? ⟨b,0,none⟩=some (.func (.func k2) #[] cap2)):=(HBW.out.cell (p:=⟨b,0,none⟩) hbl).trans hb
 have HE:Hid (nmd n=(n.op==1||quant n.op)):=rfl
 have HEND:Hid (∀ (w1:World) (y:Nd),Kept (fun k=>k=w.heap.size) W w1->Below w.heap.size w (setNode w1 (w.heap.size+1) 0 y)):=fun w1 y h=>by
  have h1:=setNode_keptS (S:=fun k=>w.heap.size<=k) (b:=w.heap.size+1) (p:=0) (n:=y) (by show _<=_;omega) (h.mono (fun i hi=>by have:i=w.heap.size:=hi;show _<=_;omega))
  exact HBW.out.trans (h1.below (fun k hk=>hk) HBW.out.size)
 cases hq:(n.op==1||quant n.op)
 ·have HO:Hid (renF G j n ps=n):=by show _=_;unfold renF;rw [HE.out,hq];rfl
  obtain ⟨r0,r1,r2,r3,r4,r5⟩:=HG7.out.1
  simp only [Nat.zero_add] at r1 r2 r3 r4 r5
  have f0:=HG7.out.2 0
  have f1:=HG7.out.2 1
  have f2:=HG7.out.2 2
  have f3:=HG7.out.2 3
  have f4:=HG7.out.2 4
  have f5:=HG7.out.2 5
  obtain ⟨q0,q1,q2,q3,q4,q5⟩:=HG5.out.1
  simp only [Nat.zero_add] at q1 q2 q3 q4 q5
  clear hs1 hs2
  go_enter Tryz.func56,Tryz.ntmps56
  go_upto_region 1 with fail
  rw [<- hW1,<- hW]
  clear hW1 hW
  go_wp2_with (go_at_call 49;refine (iHas _ _).mono ?_;rintro e w' ⟨rfl,rfl⟩;rw [hq])
  refine bodyPost_ret (v:=nv n) (res_ren (g:=w.heap.size+1) rfl (setNode_same (w:=w') (b:=w.heap.size+1) (p:=0) HG7.out.1)) rfl ?_
  rw [HO.out]
  exact ⟨rfl,HEND.out _ n (Kept.refl _ _)⟩
 ·have hnm:nmd n=true:=by rw [HE.out];exact hq
  obtain ⟨Y,hY⟩:∃ Y:Int,Y=G n.k:=⟨_,rfl⟩
  have HO:Hid (renF G j n ps={ n with k:=Y }):=by show _=_;unfold renF;rw [hnm,hY];rfl
  have HC:Hid (Calls Tryz.prog k2 (#[.int .i64 n.k]++cap2) W fun e w'=>e=.returned (.int .i64 Y)/\Below W.heap.size W w'):=by
   rw [hY];exact hT W n.k (hok hnm) (hB.trans (HBW.out.mono hB.size))
  obtain ⟨q0,q1,q2,q3,q4,q5⟩:=HG5.out.1
  simp only [Nat.zero_add] at q1 q2 q3 q4 q5
  have fn:=HFN.out
  clear hnm hY hT hok
  go_enter Tryz.func56,Tryz.ntmps56
  go_upto_region 1 with fail
  rw [<- hW1,<- hW]
  clear hW1 hW
  go_wp2_with (go_at_call 49;refine (iHas _ _).mono ?_;rintro e w' ⟨rfl,rfl⟩;rw [hq])
  refine (HC.out).mono ?_
  rintro e w1 ⟨rfl,hb1⟩
  have h5l:=HG5.out.1.lt
  have h7l:=HG7.out.1.lt
  have HB1:Hid (Below w'.heap.size w' w1):=hb1
  have H5:Hid (NodeAt w1 w.heap.size 0 n):=HG5.out.1.below hb1 h5l
  have H7:Hid (NodeAt w1 (w.heap.size+1) 0 Nd.zero):=HG7.out.1.below hb1 h7l
  have z0:w1.frozen? ⟨w.heap.size,2,none⟩=false:=by rw [hb1.frozen h5l];exact HG5.out.2 2
  have f0:w1.frozen? ⟨w.heap.size+1,0,none⟩=false:=by rw [hb1.frozen h7l];exact HG7.out.2 0
  have f1:w1.frozen? ⟨w.heap.size+1,1,none⟩=false:=by rw [hb1.frozen h7l];exact HG7.out.2 1
  have f2:w1.frozen? ⟨w.heap.size+1,2,none⟩=false:=by rw [hb1.frozen h7l];exact HG7.out.2 2
  have f3:w1.frozen? ⟨w.heap.size+1,3,none⟩=false:=by rw [hb1.frozen h7l];exact HG7.out.2 3
  have f4:w1.frozen? ⟨w.heap.size+1,4,none⟩=false:=by rw [hb1.frozen h7l];exact HG7.out.2 4
  have f5:w1.frozen? ⟨w.heap.size+1,5,none⟩=false:=by rw [hb1.frozen h7l];exact HG7.out.2 5
  clear q0 q1 q2 q3 q4 q5 hb1 h5l h7l fn
  obtain ⟨q0,q1,q2,q3,q4,q5⟩:=H5.out
  simp only [Nat.zero_add] at q1 q2 q3 q4 q5
  obtain ⟨r0,r1,r2,r3,r4,r5⟩:=H7.out
  simp only [Nat.zero_add] at r1 r2 r3 r4 r5
  go_wp2_with fail
  have HK:Hid (Kept (fun k=>k=w.heap.size) w' (w1.setCell ⟨w.heap.size,2,none⟩ (.int .i64 Y))):=((Kept.ofBelow (S:=fun k=>k=w.heap.size) HB1.out).trans ((Kept.refl (fun k=>k=w.heap.size) w1).setCell (p:=⟨w.heap.size,2,none⟩) rfl _))
  have H7':Hid (NodeAt (w1.setCell ⟨w.heap.size,2,none⟩ (.int .i64 Y)) (w.heap.size+1) 0 Nd.zero):=Pb3.nodeAt_kept (S:=fun k=>k=w.heap.size) H7.out ((Kept.refl (fun k=>k=w.heap.size) w1).setCell (p:=⟨w.heap.size,2,none⟩) rfl _) (by omega)
  have HS:Hid (NodeAt (setNode (w1.setCell ⟨w.heap.size,2,none⟩ (.int .i64 Y)) (w.heap.size+1) 0 { n with k:=Y }) (w.heap.size+1) 0 { n with k:=Y }):=setNode_same H7'.out
  have HF:Hid (Below w.heap.size w (setNode (w1.setCell ⟨w.heap.size,2,none⟩ (.int .i64 Y)) (w.heap.size+1) 0 { n with k:=Y })):=HEND.out _ _ HK.out
  clear H7' HK HEND H5 H7 HG5 HG7 HB1 HBW HFN q0 q1 q2 q3 q4 q5 r0 r1 r2 r3 r4 r5 f0 f1 f2 f3 f4 f5 z0
  refine bodyPost_ret (v:=nv { n with k:=Y }) (res_ren (g:=w.heap.size+1) (n:={ n with k:=Y }) rfl HS.out) rfl ?_
  rw [HO.out]
  exact ⟨rfl,HF.out⟩
def renG (G:Int->Int) (n:Nd):Nd:=renF G 0 n []
theorem renG_wk (G:Int->Int) (l:List Nd):wk Nd.zero (renF G) l l.length=l.map (renG G):=wk_map Nd.zero (renG G) l
theorem iRenumbered (w:World) (a:Option Addr) (l:List Nd) (c k2:Nat) (cap2:Array Value) (Ok:Int->Prop) (G:Int->Int) (hN:Nodes w a l) (hD:Down l) (hl:l.length<=1048576)
 (hk2:∀ args w,(callFunc k2 args).run Tryz.prog w=.ok (.enter k2 args) w) (hT:TellK w k2 cap2 Ok G) (hok:∀ i,i < l.length->nmd (nth l i)=true->Ok (nth l i).k) :
 Calls Tryz.prog 23 #[.slice a l.length c,.func (.func k2) #[] cap2] w fun e w'=>(∃ a',e=.returned (.slice a' l.length l.length)/\WNodes w' w.heap.size a' (l.map (renG G)))/\Below w.heap.size w w':=by
 obtain ⟨W,hW⟩:∃ W:World,W=w.alloc (.cells #[.func (.func k2) #[] cap2] 50):=⟨_,rfl⟩
 have HB0:Hid (Below w.heap.size w W):=by rw [hW];exact (Below.refl _ _).alloc (Nat.le_refl _) _
 have HC0:Hid (W.cell? ⟨w.heap.size,0,none⟩=some (.func (.func k2) #[] cap2)):=by show _=_;rw [hW];simp
 have HW:Hid (Calls Tryz.prog 53 #[.slice a l.length c,.func (.func 56) #[] #[.pointer (some ⟨w.heap.size,0,none⟩)]] W fun e w'=>(∃ a',e=.returned (.slice a' l.length l.length)/\WNodes w' W.heap.size a' (wk Nd.zero (renF G) l l.length))/\Below W.heap.size W w') :=
  wNode _ _ (renF G) W a l c (hN.below HB0.out) hD hl (enters_of Tryz.func56 (by kernel_rfl) rfl) (fun W' i a' c' hi hb hI=>iRen1 _ _ _ _ _ w W' w.heap.size k2 cap2 Ok G ((hb.cell (p:=⟨w.heap.size,0,none⟩) (lt_of_cell HC0.out)).trans HC0.out) (HB0.out.trans (hb.mono HB0.out.size)) hk2 hT (hok i hi) _ _)
 clear hN hD hk2 hT hok
 go_enter Tryz.func23,Tryz.ntmps23
 go_wp2_with fail
 rw [<- hW]
 refine (HW.out).mono ?_
 rintro e w1 ⟨⟨a',rfl,hw1⟩,hb1⟩
 rw [renG_wk] at hw1
 have HB1:Hid (Below w.heap.size w w1):=HB0.out.trans (hb1.mono HB0.out.size)
 have HW1:Hid (WNodes w1 w.heap.size a' (l.map (renG G))):=by
  obtain ⟨h1,h2⟩:=hw1
  refine ⟨h1,?_⟩
  rcases h2 with h0|⟨b2,o2,ha,hB,hcc,hf⟩
  ·exact .inl h0
  ·exact .inr ⟨b2,o2,ha,by have:=HB0.out.size;omega,hcc,hf⟩
 clear hw1 hb1 HW
 go_wp2
 go_ret
 exact ⟨⟨a',rfl,HW1.out⟩,HB1.out⟩
end Pb4
namespace Pb5
open Go.RowKit
open Nd0 Nd3 Pl1 Tm0 Tm1 Tm5 Tm7 Tm8 Pg1 Pg8 Aq0 Aq1 Aw2 Pb1 Pb4
open Aw1 (nv)
open Lx1 (ITermOk)
open Go.Sort (grow)
end Pb5
namespace Ap15
open Go.RowKit
open Nd0 Nd3 Ap2 Dw3 Ap7
theorem step_call {ops:Array Oper} {o:Oper} {a:Act} {w:World} {K:Act->World->Prop} {Q:Exit->Act->World->Prop} {E:Prop} {f:Nat} {args:Array Value} (hgd:o.guard=none) (hrun:(execOp a.eval o).run Tryz.prog w=.ok (.enter f args) w)
 (hc:Calls Tryz.prog f args w fun e w'=>∃ v,e=.returned v/\K (a.put o.dst v) w'):if Region.wanted o (yielded ops a.tmps)=true then Oper.wp Tryz.prog o a w K Q else E:=by
 rw [if_pos (by simp [Region.wanted,hgd])]
 unfold Oper.wp
 rw [hrun,Oper.upon_enter]
 refine hc.mono ?_
 rintro e w' ⟨v,rfl,h⟩
 exact h
theorem step_any {ops:Array Oper} {o:Oper} {a:Act} {K:Act->World->Prop} {Q:Exit->Act->World->Prop} {E:Prop} (W:World) (hgd:o.guard=none) (s x:Operand)
 (ho:o.op=.call { callee:=.builtin .append,args := #[s,x],argTypes := #[24,24] })
 (B g c:Nat) (l ys L:List Nd) (hL:l++ys=L) (gx ox cx n m:Nat) (hs:a.eval s=.slice (some ⟨g,0,none⟩) n c) (hx:a.eval x=.slice (some ⟨gx,ox,none⟩) m cx) (hn:n=l.length) (hm:m=ys.length)
 (hy:∀ i (h:i < ys.length),NodeAt W gx (ox+i*6) ys[i]) (h0:0 < ys.length)
 (hown:Ap2.Own W B (.slice (some ⟨g,0,none⟩) l.length c) l) (hB:B<=W.heap.size) (hlen:l.length+ys.length<=1048577)
 (h:∀ g' cap w',Ap2.Own w' B (.slice (some ⟨g',0,none⟩) L.length cap) L->Kept (fun k=>k=g) W w'->(g'=g\/W.heap.size<=g')->K (a.put o.dst (.slice (some ⟨g',0,none⟩) L.length cap)) w') :
 if Region.wanted o (yielded ops a.tmps)=true then Oper.wp Tryz.prog o a W K Q else E:=by
 subst hn hm hL
 obtain ⟨i,hi,hzz⟩:=Option.map_eq_some_iff.1 infoNode
 simp only [Prod.mk.injEq] at hzz
 obtain ⟨hz,hsz,hb⟩:=hzz
 refine step_append_lies (w:=W) hgd s x 24 ho B 53 i _ 6 48 Tryz.underlying24 hi hz hsz hb rfl (by omega) _ l.length (flat l) hs hown
  ⟨gx,ox,none⟩ ys.length cx (flat ys) hx (flat_length ys) (fun j u hu=>nodes_cells hy j u hu) ?_ h0 (by unfold maxLen;omega) (by omega) hB W.heap.size rfl ?_
 ·intro u hu
  obtain ⟨n,_,hn⟩:=List.mem_flatMap.1 hu
  simp [Nd.cells] at hn
  rcases hn with rfl|rfl|rfl|rfl|rfl|rfl<;>rfl
 ·intro g' cap w' h1 h2 h3 h4
  have h5:Ap2.Own w' B (.slice (some ⟨g',0,none⟩) (l++ys).length cap) (l++ys):=by unfold Ap2.Own;rw [flat_app,List.length_append];exact h1
  rw [<- List.length_append]
  refine h g' cap w' h5 ⟨h2.os,h2.tape,h2.output,h2.size,fun k hk hn=>h2.block k hk (fun e=>hn (by cases e;rfl))⟩ ?_
  rcases h3 with h3|h3
  ·exact .inl (by cases h3;rfl)
  ·exact .inr (by omega)
end Ap15
end Go.Proofs.YtbellafdjfliiaaGreat
