import Derived.Shelf.Abstract
import Derived.Deep.RegionWith
import Derived.Deep.MidRow
import Derived.Test.YthanhcobfehmnaaGreatPkQU230
namespace Go.Proofs.YthanhcobfehmnaaGreat
set_option maxRecDepth 100000
set_option maxHeartbeats 8000000
set_option linter.unusedVariables false
namespace Aw4
open Go.RowKit
open Nd0 Nd3 Pl1 Tm0 Tm1 Tm8 Pg1 Pg2 Aq0
open Ar0
open Aw1 (nv)
def TellA (w0:World) (k:Nat) (cap:Array Value) (l:List Nd) (F:Nat->Nd->List Ar->Ar):Prop :=
 ∀ (W:World) (i:Nat) (a:Option Addr) (c:Nat),i < l.length->Below w0.heap.size w0 W->Ars W a (said Ar.nil F l i) ->
  Calls Tryz.prog k (#[.int .i64 (i:Int),nv (nth l i),.slice a (said Ar.nil F l i).length c]++cap) W fun e w'=>e=.returned (av (F i (nth l i) (said Ar.nil F l i)))/\Below W.heap.size W w'
theorem wArr (k:Nat) (cap:Array Value) (F:Nat->Nd->List Ar->Ar) (w:World) (a:Option Addr) (l:List Nd) (c:Nat) (hN:Nodes w a l) (hD:Down l) (hl:l.length<=1048576)
 (hk:∀ args w,(callFunc k args).run Tryz.prog w=.ok (.enter k args) w) (hT:TellA w k cap l F) :
 Calls Tryz.prog 105 #[.slice a l.length c,.func (.func k) #[] cap] w fun e w'=>(∃ a',e=.returned (.slice a' l.length l.length)/\WArs w' w.heap.size a' (wk Ar.nil F l l.length))/\Below w.heap.size w w':=by
 have HN:Hid (Nodes w a l):=hN
 have HD:Hid (Down l):=hD
 have HT:Hid (TellA w k cap l F):=hT
 clear hN hD hT
 have hmk:=makeAs l.length hl w
 obtain ⟨g,hg⟩:∃ g:Nat,g=w.heap.size:=⟨_,rfl⟩
 have HG:Hid (g=w.heap.size):=hg
 have HR0:Hid (RowA (w.alloc (.cells (zerosA l.length) 47)) g l.length (fun i=>(wk Ar.nil F l 0).getD i Ar.nil)):=by
  rw [hg]
  exact RowA.new _ _ _
 have HB0:Hid (Below w.heap.size w (w.alloc (.cells (zerosA l.length) 47))):=(Below.refl _ _).alloc (Nat.le_refl _) _
 go_enter Tryz.func105,Tryz.ntmps105
 go_wp2_with fail
 clear hmk
 rw [<- hg]
 clear hg
 generalize w.alloc (.cells (zerosA l.length) 47)=wa at HR0 HB0 ⊢
 go_loopw [16] (fun q wr=>∃ j:Nat,j<=l.length/\q=.int .i64 j/\RowA wr g l.length (fun i=>(wk Ar.nil F l j).getD i Ar.nil)/\Below w.heap.size w wr) (fun q _=>l.length - (intOf q).toNat)
 case atStart=>exact ⟨0,Nat.zero_le _,rfl,HR0.out,HB0.out⟩
 case round =>
  clear HR0 HB0
  obtain ⟨j,hj,rfl,hr,hb⟩:=hrel
  obtain ⟨wb,rfl⟩:∃ wb:World,wb=wr:=⟨_,rfl⟩
  have HR:Hid (RowA wb g l.length (fun i=>(wk Ar.nil F l j).getD i Ar.nil)):=hr
  have HB:Hid (Below w.heap.size w wb):=hb
  have hBs:w.heap.size<=wb.heap.size:=hb.size
  clear hr hb
  by_cases hlt:j < l.length
  ·have hlz:(j:Int) < (l.length:Int):=by omega
   rcases (HN.out.below HB.out).2 with h0|⟨xb,xo,rfl,hc⟩
   ·omega
   obtain ⟨p0,p1,p2,p3,p4,p5⟩:=hc j hlt
   rw [nth_get hlt] at p0 p1 p2 p3 p4 p5
   clear hc
   have HDJ:Hid (∀ p∈parts (nth l j),0<=p/\p < (j:Int)):=HD.out j hlt
   have HSA:Hid (said Ar.nil F l j=(parts (nth l j)).map fun p=>(wk Ar.nil F l j).getD p.toNat Ar.nil):=rfl
   have HTJ:Hid (∀ (W:World) (a:Option Addr) (c:Nat),Below w.heap.size w W->Ars W a (said Ar.nil F l j) ->
    Calls Tryz.prog k (#[.int .i64 (j:Int),nv (nth l j),.slice a (said Ar.nil F l j).length c]++cap) W fun e w'=>e=.returned (av (F j (nth l j) (said Ar.nil F l j)))/\Below W.heap.size W w'):=fun W a c h1 h2=>HT.out W j a c hlt h1 h2
   have HWK:Hid (∀ i,(wk Ar.nil F l (j+1)).getD i Ar.nil=if i=j then F j (nth l j) (said Ar.nil F l j) else (wk Ar.nil F l j).getD i Ar.nil):=fun i=>wk_set Ar.nil F l j i
   generalize hn:nth l j=n at p0 p1 p2 p3 p4 p5 HDJ HSA HTJ HWK
   clear hn
   generalize F j n (said Ar.nil F l j)=y at HTJ HWK
   generalize said Ar.nil F l j=sd at HSA HTJ
   have hX:∃ X:Nat->Ar,X=fun i=>(wk Ar.nil F l j).getD i Ar.nil:=⟨_,rfl⟩
   obtain ⟨X,hX⟩:=hX
   have HRX:Hid (RowA wb g l.length X):=by rw [hX];exact HR.out
   have HSX:Hid (sd=(parts n).map fun p=>X p.toNat):=by show _=_;rw [hX];exact HSA.out
   have HWX:Hid (∀ i,(wk Ar.nil F l (j+1)).getD i Ar.nil=if i=j then y else X i):=by rw [hX];exact HWK.out
   clear hX HSA HWK HR
   have hgl:g < wb.heap.size:=HRX.out.lt (by omega)
   obtain ⟨W1,hW1⟩:∃ W1:World,W1=wb.alloc (.cells #[.int .i64 n.op,.int .i64 n.w,.int .i64 n.k,.int .i64 n.a,.int .i64 n.b,.int .i64 n.c] 44):=⟨_,rfl⟩
   have hs1:W1.heap.size=wb.heap.size+1:=by rw [hW1];simp
   have HB1:Hid (Below wb.heap.size wb W1):=by rw [hW1];exact (Below.refl _ _).alloc (Nat.le_refl _) _
   have HNB:Hid (NodeAt W1 wb.heap.size 0 n):=by rw [hW1];exact ⟨by simp,by simp,by simp,by simp,by simp,by simp⟩
   obtain ⟨W2,hW2⟩:∃ W2:World,W2=W1.alloc (.cells #[] 47):=⟨_,rfl⟩
   have hs2:W2.heap.size=wb.heap.size+2:=by rw [hW2];simp [hs1]
   have HB2:Hid (Below W1.heap.size W1 W2):=by rw [hW2];exact (Below.refl _ _).alloc (Nat.le_refl _) _
   have HO2:Hid (OwA W2 W1.heap.size (.slice (some ⟨wb.heap.size+1,0,none⟩) 0 0) []):=by rw [<- hs1,hW2];exact OwA.lit W1 _ (Nat.le_refl _)
   go_wp2_with fail
   rw [<- hW1,<- hW2]
   refine (iParts n W2).mono ?_
   rintro e W3 ⟨⟨pa,pc,rfl,hpi⟩,hb3⟩
   have hs3:=hb3.size
   have HP3:Hid (IntsIn W3 W2.heap.size W3.heap.size pa (parts n)):=hpi.within
   have HO3:Hid (OwA W3 W1.heap.size (.slice (some ⟨wb.heap.size+1,0,none⟩) 0 0) []):=HO2.out.kept (S:=fun _=>False) (Kept.ofBelow hb3) (fun _ _ h=>h)
   have HB3:Hid (Below W1.heap.size W1 W3):=HB2.out.trans (hb3.mono (by omega))
   have hpl:=parts_le n
   clear hpi hb3 HB2 HO2 hW1 hW2 p0 p1 p2 p3 p4 p5
   go_wp2_with fail
   go_loopw [8,25] (fun v q wq=>∃ m:Nat,m<=(parts n).length/\q=.int .i64 m/\OwA wq W1.heap.size v (((parts n).take m).map fun p=>X p.toNat)/\Below W1.heap.size W1 wq/\IntsIn wq W2.heap.size W3.heap.size pa (parts n)/\W3.heap.size<=wq.heap.size/\∀ x,v.ownBlock=some x->x < W2.heap.size\/W3.heap.size<=x) (fun _ q _=>(parts n).length - (intOf q).toNat)
   case atStart=>exact ⟨0,Nat.zero_le _,rfl,HO3.out,HB3.out,HP3.out,Nat.le_refl _,fun x hx=>by cases hx;exact .inl (by simp;omega)⟩
   case round =>
    clear HO3 HB3 HP3
    obtain ⟨m,hm,rfl,ho,hb,hi,hsz,hne⟩:=hrel
    have HBQ:Hid (Below W1.heap.size W1 wr):=hb
    have HIQ:Hid (IntsIn wr W2.heap.size W3.heap.size pa (parts n)):=hi
    have HRQ:Hid (RowA wr g l.length X):=(HRX.out.below HB1.out).below hb
    have HBW:Hid (Below w.heap.size w wr):=(HB.out.trans (HB1.out.mono hBs)).trans (hb.mono (by omega))
    have hB1:W1.heap.size<=wr.heap.size:=hb.size
    clear hb hi
    obtain ⟨ao,co,rfl,hwn, -⟩:=ho.form
    have HO:Hid (OwA wr W1.heap.size (.slice ao (((parts n).take m).map fun p=>X p.toNat).length co) (((parts n).take m).map fun p=>X p.toNat)):=ho
    have HNE:Hid (∀ x,(Value.slice ao (((parts n).take m).map fun p=>X p.toNat).length co).ownBlock=some x->x < W2.heap.size\/W3.heap.size<=x):=hne
    have HLJ:Hid ((((parts n).take m).map fun p=>X p.toNat).length=m):=by
     show _=_
     rw [List.length_map,List.length_take];omega
    clear ho hne
    by_cases hlt2:m < (parts n).length
    ·have hmz:(m:Int) < ((parts n).length:Int):=by omega
     clear hwn
     rcases HIQ.out.2 with h0|⟨pb,po,rfl,hpB,hpU,hpc⟩
     ·omega
     have q0:=(hpc m hlt2).1
     have HPM:=HDJ.out _ (List.getElem_mem hlt2)
     have HTK:Hid (((parts n).take (m+1)).map (fun p=>X p.toNat)=(((parts n).take m).map fun p=>X p.toNat)++[X (parts n)[m].toNat]):=by
      show _=_
      rw [List.take_succ_eq_append_getElem hlt2,List.map_append];rfl
     obtain ⟨hy0,hy1⟩:=HPM
     generalize (parts n)[m]=yp at q0 hy0 hy1 HTK
     generalize (((parts n).take m).map fun p=>X p.toNat)=L at HO HNE HLJ HTK ⊢
     clear hpc
     obtain ⟨jy,rfl⟩:=Int.eq_ofNat_of_zero_le hy0
     rw [Int.toNat_natCast] at HTK
     have c9:ArAt wr g (jy*8) (X jy):=(HRQ.out jy (by omega)).1
     have hyl:(jy:Int) < (l.length:Int):=by omega
     have hLl:L.length<=1048576:=by have:=HLJ.out;omega
     generalize X jy=z at c9 HTK
     obtain ⟨c0,c1,c2,c3,c4,c5,c6,c7⟩:=c9
     go_wp2_with (at_builtin;go_must (refine app_a _ rfl _ _ rfl W1.heap.size (.slice ao L.length co) L z rfl _ rfl rfl HO.out hB1 hLl ?_;intro g5 cp5 w5 ho5 hk5 hg5))
     have HO5:Hid (OwA w5 W1.heap.size (.slice (some ⟨g5,0,none⟩) (L.length+1) cp5) (L++[z])):=ho5
     have HK5:Hid (Kept (fun k=>(Value.slice ao L.length co).ownBlock=some k) wr w5):=hk5
     have HG5:Hid ((Value.slice ao L.length co).ownBlock=some g5\/wr.heap.size<=g5):=hg5
     clear ho5 hk5 hg5
     go_wp2
     go_roundw
     case rel =>
      refine ⟨m+1,by omega,by go_num,by rw [HTK.out];exact HO5.out,HBQ.out.trans (HK5.out.below (fun b hb=>(HO.out.lt b hb).1) hB1),HIQ.out.kept HK5.out (fun b h1 h2 e=>by have:=HNE.out b e;omega),by have:=HK5.out.size;omega,fun b hb=>?_⟩
      cases hb
      rcases HG5.out with e|e
      ·exact HNE.out _ e
      ·exact .inr (by show _<=g5;omega)
     case measure=>simp [intOf];omega
    ·have hmz:¬ (m:Int) < ((parts n).length:Int):=by omega
     have hme:m=(parts n).length:=by omega
     have HLS:Hid ((((parts n).take m).map fun p=>X p.toNat)=sd):=by show _=_;rw [HSX.out,List.take_of_length_le (by omega)]
     clear HO HNE HLJ hme
     rw [HLS.out] at hwn ⊢
     have HWN:Hid (WArs wr W1.heap.size ao sd):=hwn
     obtain ⟨b0,b1,b2,b3,b4,b5⟩:=HNB.out.below HBQ.out (by omega)
     clear hwn
     go_wp2_with fail
     refine (HTJ.out wr ao co HBW.out HWN.out.plain).mono ?_
     rintro e w6 ⟨rfl,hb6⟩
     have HB6:Hid (Below w.heap.size w w6):=HBW.out.trans (hb6.mono (by omega))
     have HR6:Hid (RowA w6 g l.length X):=HRQ.out.below hb6
     obtain ⟨⟨c0,c1,c2,c3,c4,c5,c6,c7⟩,hfz⟩:=HR6.out j hlt
     have f0:=hfz 0 (by omega)
     have f1:=hfz 1 (by omega)
     have f2:=hfz 2 (by omega)
     have f3:=hfz 3 (by omega)
     have f4:=hfz 4 (by omega)
     have f5:=hfz 5 (by omega)
     have f6:=hfz 6 (by omega)
     have f7:=hfz 7 (by omega)
     rw [Nat.add_zero] at f0
     clear hfz
     clear hb6 b0 b1 b2 b3 b4 b5
     go_wp2_with fail
     go_roundw
     case rel =>
      refine ⟨j+1,by omega,by go_num,?_,HB6.out.trans ((setAr_keptS (S:=fun b=>b=g) (b:=g) (p:=j*8) (n:=y) rfl (Kept.refl _ w6)).below (fun b (hb:b=g)=>by have:=HG.out;omega) HB6.out.size)⟩
      refine (HR6.out.set hlt _).congr (fun i hi=>?_)
      rw [HWX.out]
     case measure=>simp [intOf];omega
  ·have e2:j=l.length:=by omega
   subst e2
   go_wp2
   go_ret
   refine ⟨⟨_,rfl,⟨by rw [wk_length];unfold maxLen;omega,.inr ⟨g,0,rfl,by have:=HG.out;omega,fun i hi=>?_,fun j hj=>?_⟩⟩⟩,HB.out⟩
   ·have h9:=HR.out i (by rw [wk_length] at hi;exact hi)
    dsimp only at h9
    rw [List.getD_eq_getElem?_getD,List.getElem?_eq_getElem hi] at h9
    rw [Nat.zero_add]
    exact h9.1
   ·rw [wk_length] at hj
    have h9:=(HR.out (j / 8) (by omega)).2 (j % 8) (Nat.mod_lt _ (by omega))
    rw [Nat.zero_add]
    have e:j / 8*8+j % 8=j:=by omega
    rw [e] at h9
    exact h9
end Aw4
namespace Pb8
open Go.RowKit
open Nd0 Nd3 Pl1 Tm0 Tm1 Tm5 Tm8 Rw0 Pg1 Aq0 Aq2 Ar0 Aw4
open Aw1 (nv)
def ffA (i:Nat) (n:Nd) (ps:List Ar):Ar:=fun v=>ffAt v i n (ps.map fun r=>r v)
theorem rows_ar (l:List Nd) (v:Nat):∀ k i,i < k->k<=l.length->Down l->(wk Ar.nil ffA l k).getD i Ar.nil v=(ffTo l v k).getD i 80:=by
 intro k
 induction k with
 | zero=>intro i hi;omega
 | succ k ih =>
   intro i hi hk hD
   by_cases e:i < k
   ·rw [wk_old Ar.nil ffA l (k:=k) e (by omega),ih i e (by omega) hD]
    exact (wk_old 80 (ffAt v) l (k:=k) e (by omega)).symm
   ·have e2:i=k:=by omega
    subst e2
    unfold ffTo
    rw [wk_new,wk_new]
    show ffAt v i (nth l i) _=_
    congr 1
    rw [List.map_map]
    apply List.map_congr_left
    intro p hp
    have:=hD i (by omega) p hp
    exact ih p.toNat (by omega) (by omega) hD
theorem res_one {w:World} {g:Nat} {f:Ar} {tmps:Array Value} (hp:tmps.getD 6 undef=.pointer (some ⟨g,0,none⟩)) (h:ArAt w g 0 f) :
 (results Tryz.f106 tmps).run Tryz.prog w=.ok (av f) w:=by
 have hr:w.rangeAt g 0 f.cells:=fun j v hv=>by
  have hj:j < 8:=by
   have:=(List.getElem?_eq_some_iff.1 hv).1
   simpa [Ar.cells] using this
  rw [h.at hj,<- hv,cellA f hj]
 have hl:=run_loadVar_mid (P:=Tryz.prog) w g 0 47 f.cells _ hr Tryz.underlying47 rfl rfl
 have hp':tmps[6]?.getD undef=.pointer (some ⟨g,0,none⟩):=by simpa using hp
 simp [results,hp',asAddr,hl]
 rfl
theorem res_top {w:World} {g:Nat} {f:Ar} {tmps:Array Value} (hp:tmps.getD 2 undef=.pointer (some ⟨g,0,none⟩)) (h:ArAt w g 0 f) :
 (results Tryz.f74 tmps).run Tryz.prog w=.ok (av f) w:=by
 have hr:w.rangeAt g 0 f.cells:=fun j v hv=>by
  have hj:j < 8:=by
   have:=(List.getElem?_eq_some_iff.1 hv).1
   simpa [Ar.cells] using this
  rw [h.at hj,<- hv,cellA f hj]
 have hl:=run_loadVar_mid (P:=Tryz.prog) w g 0 47 f.cells _ hr Tryz.underlying47 rfl rfl
 have hp':tmps[2]?.getD undef=.pointer (some ⟨g,0,none⟩):=by simpa using hp
 simp [results,hp',asAddr,hl]
 rfl
theorem row_ar {w:World} {g:Nat} {f:Nat->Int} (h:Row w g 8 (fun v=>.int .i64 (f v))):ArAt w g 0 f:=ArAt.of fun v hv=>by rw [Nat.zero_add];exact (h v hv).1
theorem tellFF (i:Nat) (n:Nd) (a:Option Addr) (ps:List Ar) (c:Nat) (w:World) (hi:i<=80) (hP:Ars w a ps) (h3:ps.length<=3) (hk:n.op=1\/quant n.op=true->0<=n.k/\n.k<=7) :
 Calls Tryz.prog 106 #[.int .i64 (i:Int),nv n,.slice a ps.length c] w fun e w'=>e=.returned (av (ffA i n ps))/\Below w.heap.size w w':=by
 obtain ⟨W1,hW1⟩:∃ W1:World,W1=w.alloc (.cells #[.int .i64 n.op,.int .i64 n.w,.int .i64 n.k,.int .i64 n.a,.int .i64 n.b,.int .i64 n.c] 44):=⟨_,rfl⟩
 obtain ⟨W2,hW2⟩:∃ W2:World,W2=W1.alloc (.cells #[.int .i64 0,.int .i64 0,.int .i64 0,.int .i64 0,.int .i64 0,.int .i64 0,.int .i64 0,.int .i64 0] 47):=⟨_,rfl⟩
 obtain ⟨W,hW⟩:∃ W:World,W=W2.alloc (.cells #[.int .i64 0,.int .i64 0,.int .i64 0,.int .i64 0,.int .i64 0,.int .i64 0,.int .i64 0,.int .i64 0] 47):=⟨_,rfl⟩
 have s1:W1.heap.size=w.heap.size+1:=by rw [hW1];simp
 have s2:W2.heap.size=w.heap.size+1+1:=by rw [hW2];simp [s1]
 have s3:W.heap.size=w.heap.size+1+1+1:=by rw [hW];simp [s2]
 have b1:Below w.heap.size w W1:=by rw [hW1];exact (Below.refl _ _).alloc (Nat.le_refl _) _
 have b2:Below W1.heap.size W1 W2:=by rw [hW2];exact (Below.refl _ _).alloc (Nat.le_refl _) _
 have b3:Below W2.heap.size W2 W:=by rw [hW];exact (Below.refl _ _).alloc (Nat.le_refl _) _
 have HBW:Hid (Below w.heap.size w W):=b1.trans ((b2.mono (by omega)).trans (b3.mono (by omega)))
 have n1:NodeAt W1 w.heap.size 0 n:=by rw [hW1];exact ⟨by simp,by simp,by simp,by simp,by simp,by simp⟩
 have HNW:Hid (NodeAt W w.heap.size 0 n):=(n1.below b2 (by omega)).below b3 (by omega)
 have zz:∀ i,i < 8->(#[.int .i64 0,.int .i64 0,.int .i64 0,.int .i64 0,.int .i64 0,.int .i64 0,.int .i64 0,.int .i64 0]:Array Value)[i]? = some (.int .i64 0):=fun i hi=>by
  rcases (show i=0\/i=1\/i=2\/i=3\/i=4\/i=5\/i=6\/i=7 by omega) with h|h|h|h|h|h|h|h<;>subst h<;>rfl
 have HRA:Hid (Row W (w.heap.size+1) 8 (fun _=>.int .i64 0)):=by
  have h:Row W2 (w.heap.size+1) 8 (fun _=>.int .i64 0):=by rw [<- s1,hW2];exact Row.new _ _ _ _ _ zz
  exact h.below b3
 have HR0:Hid (Row W (w.heap.size+1+1) 8 (fun _=>.int .i64 0)):=by rw [<- s2,hW];exact Row.new _ _ _ _ _ zz
 have HP0:Hid (Ars w a ps):=hP
 have HS3:Hid (W.heap.size=w.heap.size+1+1+1):=s3
 have HK:Hid (n.op=1\/quant n.op=true->0<=n.k/\n.k<=7):=hk
 obtain ⟨G,hG⟩:∃ G:Nat,G=w.heap.size+1+1:=⟨_,rfl⟩
 have HG:Hid (G=w.heap.size+1+1):=hG
 rw [<- hG] at HR0
 clear hP hk zz n1 b1 b2 b3 s1 s2 s3
 go_enter Tryz.func106,Tryz.ntmps106
 go_upto_region 2 with fail
 rw [<- hW1,<- hW2,<- hW,<- hG]
 clear hW1 hW2 hW hG
 go_wp2_with fail
 go_loopw [11] (fun q wr=>∃ v:Nat,v<=8/\q=.int .i64 v/\Row wr G 8 (fun j=>.int .i64 (if j < v then least (ps.map fun r=>r j) else 0))/\Kept (fun b=>b=G) W wr) (fun q _=>8 - (intOf q).toNat)
 case atStart=>exact ⟨0,Nat.zero_le _,rfl,HR0.out.congr (fun j _=>by simp),Kept.refl _ _⟩
 case round =>
  clear HR0
  obtain ⟨v,hv,rfl,hr,hkp⟩:=hrel
  obtain ⟨wb,rfl⟩:∃ wb:World,wb=wr:=⟨_,rfl⟩
  have HR:Hid (Row wb G 8 (fun j=>.int .i64 (if j < v then least (ps.map fun r=>r j) else 0))):=hr
  have HKW:Hid (Kept (fun b=>b=G) W wb):=hkp
  clear hr hkp
  by_cases hv8:v < 8
  ·have hvz:(v:Int) < 8:=by omega
   obtain ⟨r0,r1⟩:=HR.out v hv8
   have HR1:Hid (Row (wb.setCell ⟨G,v,none⟩ (.int .i64 80)) G 8 (fun j=>.int .i64 (if j < v then least (ps.map fun r=>r j) else if j=v then least ((ps.take 0).map fun r=>r v) else 0))):=by
    refine (HR.out.set hv8 _).congr (fun j hj=>?_)
    by_cases e:j=v
    ·subst e
     rw [if_pos rfl,if_neg (by omega),if_pos rfl];rfl
    ·rw [if_neg e,if_neg e]
   have HK1:Hid (Kept (fun b=>b=G) W (wb.setCell ⟨G,v,none⟩ (.int .i64 80))):=HKW.out.setCell (p:=⟨G,v,none⟩) rfl _
   clear HR HKW
   go_wp2_with fail
   clear r0 r1
   go_loopw [18] (fun q wr=>∃ m:Nat,m<=ps.length/\q=.int .i64 m/\Row wr G 8 (fun j=>.int .i64 (if j < v then least (ps.map fun r=>r j) else if j=v then least ((ps.take m).map fun r=>r v) else 0))/\Kept (fun b=>b=G) W wr) (fun q _=>ps.length - (intOf q).toNat)
   case atStart=>exact ⟨0,Nat.zero_le _,rfl,HR1.out,HK1.out⟩
   case round =>
    clear HR1 HK1
    obtain ⟨m,hm,rfl,hr,hkp⟩:=hrel
    obtain ⟨wc,rfl⟩:∃ wc:World,wc=wr:=⟨_,rfl⟩
    have HKC:Hid (Kept (fun b=>b=G) W wc):=hkp
    have HRC:Hid (Row wc G 8 (fun j=>.int .i64 (if j < v then least (ps.map fun r=>r j) else if j=v then least ((ps.take m).map fun r=>r v) else 0))):=hr
    clear hr hkp
    by_cases hmp:m < ps.length
    ·have hmz:(m:Int) < (ps.length:Int):=by omega
     rcases HP0.out.2 with h0|⟨xb,xo,rfl,hx⟩
     ·omega
     have hxl:xb < w.heap.size:=(hx m hmp).lt
     have hxG:xb≠G:=by have:=HG.out;omega
     have hz9:ArAt wc xb (xo+m*8) ps[m]:=((hx m hmp).below HBW.out hxl).kept HKC.out hxG
     have HTK:Hid (least ((ps.take (m+1)).map fun r=>r v)=mn (least ((ps.take m).map fun r=>r v)) (ps[m] v)):=by
      show _=_
      rw [List.take_succ_eq_append_getElem hmp,List.map_append]
      exact least_snoc _ _
     have hbd:least ((ps.take m).map fun r=>r v)<=80:=(least_le _).1
     obtain ⟨r0,r1⟩:=HRC.out v hv8
     dsimp only at r0
     rw [if_neg (by omega),if_pos rfl] at r0
     generalize ps[m]=z at hz9 HTK
     obtain ⟨X,hX⟩:∃ X:Int,X=least ((ps.take m).map fun r=>r v):=⟨_,rfl⟩
     rw [<- hX] at r0 HTK hbd
     obtain ⟨W',hW'⟩:∃ W':World,W'=wc.alloc (.cells #[.int .i64 (z 0),.int .i64 (z 1),.int .i64 (z 2),.int .i64 (z 3),.int .i64 (z 4),.int .i64 (z 5),.int .i64 (z 6),.int .i64 (z 7)] 47):=⟨_,rfl⟩
     have HKX:Hid (Kept (fun b=>b=G) W W'):=by rw [hW'];exact HKC.out.alloc _
     have hba:Below wc.heap.size wc W':=by rw [hW'];exact (Below.refl _ _).alloc (Nat.le_refl _) _
     have HRX:Hid (Row W' G 8 (fun j=>.int .i64 (if j < v then least (ps.map fun r=>r j) else if j=v then X else 0))):=by
      rw [hX];exact HRC.out.below hba
     have d0:W'.cell? ⟨wc.heap.size,v,none⟩=some (.int .i64 (z v)):=by
      have h:ArAt W' wc.heap.size 0 z:=by rw [hW'];exact ⟨by simp,by simp,by simp,by simp,by simp,by simp,by simp,by simp⟩
      have:=h.at hv8
      rwa [Nat.zero_add] at this
     have q0:W'.cell? ⟨G,v,none⟩=some (.int .i64 X):=(hba.cell (lt_of_cell r0)).trans r0
     have q1:W'.frozen? ⟨G,v,none⟩=false:=(hba.frozen (lt_of_cell r0)).trans r1
     have HRN:Hid (∀ y,y=mn X (z v)->Row (W'.setCell ⟨G,v,none⟩ (.int .i64 y)) G 8 (fun j=>.int .i64 (if j < v then least (ps.map fun r=>r j) else if j=v then least ((ps.take (m+1)).map fun r=>r v) else 0))):=fun y hy=>by
      refine (HRX.out.set hv8 _).congr (fun j hj=>?_)
      by_cases e:j=v
      ·subst e
       rw [if_pos rfl,if_neg (by omega),if_pos rfl,HTK.out,hy]
      ·rw [if_neg e,if_neg e,if_neg e]
     have HKN:Hid (∀ y,Kept (fun b=>b=G) W (W'.setCell ⟨G,v,none⟩ (.int .i64 y))):=fun y=>HKX.out.setCell (p:=⟨G,v,none⟩) rfl _
     obtain ⟨c0,c1,c2,c3,c4,c5,c6,c7⟩:=hz9
     clear hx r0 r1 hX hba HTK HRC HKC HRX
     generalize hbn:wc.heap.size=bn at d0
     go_upto_region 9 with fail
     rw [<- hW']
     clear hW' hbn c0 c1 c2 c3 c4 c5 c6 c7
     obtain ⟨y,hy⟩:∃ y:Int,y=z v:=⟨_,rfl⟩
     rw [<- hy] at d0 HRN
     clear hy
     by_cases hlt:y < X
     ·have HRM:Hid (Row (W'.setCell ⟨G,v,none⟩ (.int .i64 y)) G 8 (fun j=>.int .i64 (if j < v then least (ps.map fun r=>r j) else if j=v then least ((ps.take (m+1)).map fun r=>r v) else 0))):=HRN.out y (by unfold mn;rw [if_pos hlt])
      have hmin:min X y=y:=by omega
      go_wp2_with fail
      go_region
      all_goals
       go_wp2
       go_roundw
       case rel=>exact ⟨m+1,by omega,by go_num,HRM.out.drew,(HKN.out y).drew⟩
       case measure=>simp [intOf];omega
     ·have HRM:Hid (Row (W'.setCell ⟨G,v,none⟩ (.int .i64 X)) G 8 (fun j=>.int .i64 (if j < v then least (ps.map fun r=>r j) else if j=v then least ((ps.take (m+1)).map fun r=>r v) else 0))):=HRN.out X (by unfold mn;rw [if_neg hlt])
      have hmin:min X y=X:=by omega
      go_wp2_with fail
      go_region
      all_goals
       go_wp2
       go_roundw
       case rel=>exact ⟨m+1,by omega,by go_num,HRM.out.drew,(HKN.out X).drew⟩
       case measure=>simp [intOf];omega
    ·have hmz:¬ (m:Int) < (ps.length:Int):=by omega
     have hme:m=ps.length:=by omega
     have HRM:Hid (Row wc G 8 (fun j=>.int .i64 (if j < v+1 then least (ps.map fun r=>r j) else 0))):=HRC.out.congr (fun j hj=>by
      by_cases e:j < v
      ·rw [if_pos e,if_pos (by omega)]
      ·rw [if_neg e]
       by_cases e2:j=v
       ·rw [if_pos e2,if_pos (by omega),hme,List.take_length,e2]
       ·rw [if_neg e2,if_neg (by omega)])
     clear HRC
     go_wp2_with fail
     go_roundw
     case rel=>exact ⟨v+1,by omega,by go_num,HRM.out,HKC.out⟩
     case measure=>simp [intOf];omega
  ·have hvz:¬ (v:Int) < 8:=by omega
   have hve:v=8:=by omega
   subst hve
   have HRF:Hid (Row wb G 8 (fun j=>.int .i64 (least (ps.map fun r=>r j)))):=HR.out.congr (fun j hj=>by rw [if_pos hj])
   have HNB:Hid (NodeAt wb w.heap.size 0 n):=by
    have h:=HNW.out
    have e:w.heap.size≠G:=by have:=HG.out;omega
    obtain ⟨p0,p1,p2,p3,p4,p5⟩:=h
    have hl:w.heap.size < W.heap.size:=by have:=HS3.out;omega
    exact ⟨by rw [HKW.out.cell (p:=⟨w.heap.size,0,none⟩) hl e];exact p0,by rw [HKW.out.cell (p:=⟨w.heap.size,0+1,none⟩) hl e];exact p1,by rw [HKW.out.cell (p:=⟨w.heap.size,0+2,none⟩) hl e];exact p2,by rw [HKW.out.cell (p:=⟨w.heap.size,0+3,none⟩) hl e];exact p3,by rw [HKW.out.cell (p:=⟨w.heap.size,0+4,none⟩) hl e];exact p4,by rw [HKW.out.cell (p:=⟨w.heap.size,0+5,none⟩) hl e];exact p5⟩
   have HRB:Hid (Row wb (w.heap.size+1) 8 (fun _=>.int .i64 0)):=HRA.out.kept HKW.out (by have:=HG.out;omega)
   obtain ⟨p0, -,p2, -, -, -⟩:=HNB.out
   simp only [Nat.zero_add] at p2
   have fin:∀ (W9:World) (f:Ar),Kept (fun b=>b=G) W W9->Row W9 G 8 (fun j=>.int .i64 (f j))->Hid (Row W9 G 8 (fun j=>.int .i64 (f j))/\Row W9 (w.heap.size+1) 8 (fun _=>.int .i64 0)/\Below w.heap.size w (setAr W9 (w.heap.size+1) 0 f)/\ArAt (setAr W9 (w.heap.size+1) 0 f) (w.heap.size+1) 0 f):=fun W9 f h1 h2=>by
    have h3:Row W9 (w.heap.size+1) 8 (fun _=>.int .i64 0):=HRA.out.kept h1 (by have:=HG.out;omega)
    have k9:=setAr_keptS (S:=fun b=>b=w.heap.size+1) (b:=w.heap.size+1) (p:=0) (n:=f) rfl (Kept.refl _ W9)
    have hb9:Below w.heap.size w W9:=HBW.out.trans (h1.below (fun b (hb:b=G)=>by have:=HG.out;omega) HBW.out.size)
    exact ⟨h2,h3,hb9.trans (k9.below (fun b (hb:b=_)=>by omega) hb9.size),setAr_same (v:=fun _=>0) (row_ar h3)⟩
   have HFIN:Hid _:=fin
   clear fin HR
   cases hop:(n.op==1)
   ·cases hq:quant n.op
    ·have HRE:Hid (Row wb G 8 (fun j=>.int .i64 (ffA i n ps j))):=HRF.out.congr (fun j hj=>by
      show Value.int .i64 _=Value.int .i64 (ffAt j i n _)
      unfold ffAt Aq2.isVar isQ
      rw [hop,hq];rfl)
     have HQC:Hid (∀ W:World,Calls Tryz.prog 86 #[.int .i64 n.op] W fun e w'=>e=.returned (.bool false)/\w'=W):=fun W=>by rw [<- hq];exact iQuant n.op W
     go_wp2_with fail
     refine (HQC.out _).mono ?_
     rintro e w' ⟨rfl,hw'⟩
     have hw2:=hw'.symm
     clear hw'
     subst hw2
     clear hq HQC
     have HE:Hid _:=HFIN.out wb (ffA i n ps) HKW.out HRE.out
     obtain ⟨e1,e2,e3,e4⟩:=HE.out
     obtain ⟨u0a, -⟩:=e1 0 (by omega)
     obtain ⟨v0a,v0b⟩:=e2 0 (by omega)
     obtain ⟨u1a, -⟩:=e1 1 (by omega)
     obtain ⟨v1a,v1b⟩:=e2 1 (by omega)
     obtain ⟨u2a, -⟩:=e1 2 (by omega)
     obtain ⟨v2a,v2b⟩:=e2 2 (by omega)
     obtain ⟨u3a, -⟩:=e1 3 (by omega)
     obtain ⟨v3a,v3b⟩:=e2 3 (by omega)
     obtain ⟨u4a, -⟩:=e1 4 (by omega)
     obtain ⟨v4a,v4b⟩:=e2 4 (by omega)
     obtain ⟨u5a, -⟩:=e1 5 (by omega)
     obtain ⟨v5a,v5b⟩:=e2 5 (by omega)
     obtain ⟨u6a, -⟩:=e1 6 (by omega)
     obtain ⟨v6a,v6b⟩:=e2 6 (by omega)
     obtain ⟨u7a, -⟩:=e1 7 (by omega)
     obtain ⟨v7a,v7b⟩:=e2 7 (by omega)
     have HF9:Hid _:=e3
     have HA9:Hid _:=e4
     generalize hf9:ffA i n ps=f at *
     have HFE:Hid (ffA i n ps=f):=hf9
     clear hf9
     clear HE e1 e2 e3 e4 HFIN HRF HRB HNB HKW HK HRA HNW HP0 HBW
     go_wp2_with fail
     refine bodyPost_ret (res_one (g:=w.heap.size+1) (f:=f) rfl HA9.out) rfl ?_
     exact ⟨by rw [HFE.out],HF9.out⟩
    ·have hkk:=HK.out (.inr hq)
     obtain ⟨kk,hkn⟩:∃ kk:Nat,n.k=(kk:Int):=⟨n.k.toNat,by omega⟩
     have hk8:kk < 8:=by omega
     have HRE:Hid (Row (wb.setCell ⟨G,kk,none⟩ (.int .i64 80)) G 8 (fun j=>.int .i64 (ffA i n ps j))):=(HRF.out.set hk8 _).congr (fun j hj=>by
      show _=Value.int .i64 (ffAt j i n _)
      unfold ffAt Aq2.isVar isQ
      rw [hop,hq,hkn]
      by_cases e:j=kk
      ·subst e;simp
      ·rw [if_neg e]
       have:((kk:Int)==(j:Int))=false:=by simp;omega
       rw [this];rfl)
     have HKE:Hid (Kept (fun b=>b=G) W (wb.setCell ⟨G,kk,none⟩ (.int .i64 80))):=HKW.out.setCell (p:=⟨G,kk,none⟩) rfl _
     have HQC:Hid (∀ W:World,Calls Tryz.prog 86 #[.int .i64 n.op] W fun e w'=>e=.returned (.bool true)/\w'=W):=fun W=>by rw [<- hq];exact iQuant n.op W
     obtain ⟨g0,g1⟩:=HRF.out kk hk8
     have hkz:(kk:Int) < 8:=by omega
     rw [hkn] at p2
     clear hq hkn hkk
     go_wp2_with fail
     refine (HQC.out _).mono ?_
     rintro e w' ⟨rfl,hw'⟩
     have hw2:=hw'.symm
     clear hw'
     subst hw2
     go_upto_region 16 with fail
     generalize wb.setCell ⟨G,kk,none⟩ (.int .i64 80)=W9 at HRE HKE ⊢
     clear HQC g0 g1 p0 p2
     have HE:Hid _:=HFIN.out W9 (ffA i n ps) HKE.out HRE.out
     obtain ⟨e1,e2,e3,e4⟩:=HE.out
     obtain ⟨u0a, -⟩:=e1 0 (by omega)
     obtain ⟨v0a,v0b⟩:=e2 0 (by omega)
     obtain ⟨u1a, -⟩:=e1 1 (by omega)
     obtain ⟨v1a,v1b⟩:=e2 1 (by omega)
     obtain ⟨u2a, -⟩:=e1 2 (by omega)
     obtain ⟨v2a,v2b⟩:=e2 2 (by omega)
     obtain ⟨u3a, -⟩:=e1 3 (by omega)
     obtain ⟨v3a,v3b⟩:=e2 3 (by omega)
     obtain ⟨u4a, -⟩:=e1 4 (by omega)
     obtain ⟨v4a,v4b⟩:=e2 4 (by omega)
     obtain ⟨u5a, -⟩:=e1 5 (by omega)
     obtain ⟨v5a,v5b⟩:=e2 5 (by omega)
     obtain ⟨u6a, -⟩:=e1 6 (by omega)
     obtain ⟨v6a,v6b⟩:=e2 6 (by omega)
     obtain ⟨u7a, -⟩:=e1 7 (by omega)
     obtain ⟨v7a,v7b⟩:=e2 7 (by omega)
     have HF9:Hid _:=e3
     have HA9:Hid _:=e4
     generalize hf9:ffA i n ps=f at *
     have HFE:Hid (ffA i n ps=f):=hf9
     clear hf9
     clear HE e1 e2 e3 e4 HFIN HRF HRB HNB HKW HK HRA HNW HP0 HBW
     go_wp2_with fail
     refine bodyPost_ret (res_one (g:=w.heap.size+1) (f:=f) rfl HA9.out) rfl ?_
     exact ⟨by rw [HFE.out],HF9.out⟩
   ·have hop1:n.op=1:=by simpa using hop
    have hkk:=HK.out (.inl hop1)
    obtain ⟨kk,hkn⟩:∃ kk:Nat,n.k=(kk:Int):=⟨n.k.toNat,by omega⟩
    have hk8:kk < 8:=by omega
    have HRE:Hid (Row (wb.setCell ⟨G,kk,none⟩ (.int .i64 (i:Int))) G 8 (fun j=>.int .i64 (ffA i n ps j))):=(HRF.out.set hk8 _).congr (fun j hj=>by
     show _=Value.int .i64 (ffAt j i n _)
     have hq:quant n.op=false:=by rw [hop1];rfl
     unfold ffAt Aq2.isVar isQ
     rw [hop,hq,hkn]
     by_cases e:j=kk
     ·subst e;simp
     ·rw [if_neg e]
      have:((kk:Int)==(j:Int))=false:=by simp;omega
      rw [this];rfl)
    have HKE:Hid (Kept (fun b=>b=G) W (wb.setCell ⟨G,kk,none⟩ (.int .i64 (i:Int)))):=HKW.out.setCell (p:=⟨G,kk,none⟩) rfl _
    obtain ⟨g0,g1⟩:=HRF.out kk hk8
    have hkz:(kk:Int) < 8:=by omega
    rw [hkn] at p2
    clear hop1 hkn hkk
    go_upto_region 16 with fail
    generalize wb.setCell ⟨G,kk,none⟩ (.int .i64 (i:Int))=W9 at HRE HKE ⊢
    clear g0 g1 p0 p2
    have HE:Hid _:=HFIN.out W9 (ffA i n ps) HKE.out HRE.out
    obtain ⟨e1,e2,e3,e4⟩:=HE.out
    obtain ⟨u0a, -⟩:=e1 0 (by omega)
    obtain ⟨v0a,v0b⟩:=e2 0 (by omega)
    obtain ⟨u1a, -⟩:=e1 1 (by omega)
    obtain ⟨v1a,v1b⟩:=e2 1 (by omega)
    obtain ⟨u2a, -⟩:=e1 2 (by omega)
    obtain ⟨v2a,v2b⟩:=e2 2 (by omega)
    obtain ⟨u3a, -⟩:=e1 3 (by omega)
    obtain ⟨v3a,v3b⟩:=e2 3 (by omega)
    obtain ⟨u4a, -⟩:=e1 4 (by omega)
    obtain ⟨v4a,v4b⟩:=e2 4 (by omega)
    obtain ⟨u5a, -⟩:=e1 5 (by omega)
    obtain ⟨v5a,v5b⟩:=e2 5 (by omega)
    obtain ⟨u6a, -⟩:=e1 6 (by omega)
    obtain ⟨v6a,v6b⟩:=e2 6 (by omega)
    obtain ⟨u7a, -⟩:=e1 7 (by omega)
    obtain ⟨v7a,v7b⟩:=e2 7 (by omega)
    have HF9:Hid _:=e3
    have HA9:Hid _:=e4
    generalize hf9:ffA i n ps=f at *
    have HFE:Hid (ffA i n ps=f):=hf9
    clear hf9
    clear HE e1 e2 e3 e4 HFIN HRF HRB HNB HKW HK HRA HNW HP0 HBW
    go_wp2_with fail
    refine bodyPost_ret (res_one (g:=w.heap.size+1) (f:=f) rfl HA9.out) rfl ?_
    exact ⟨by rw [HFE.out],HF9.out⟩
theorem tells (l:List Nd) (hT:termOk l=true) (w0:World):TellA w0 106 #[] l ffA:=by
 intro W i a c hi hB hN
 have hl:=term_len hT
 have hp:=parts_le (nth l i)
 refine tellFF i (nth l i) a (said Ar.nil ffA l i) c W (by omega) hN (by rw [said_len];exact hp) (fun h=>?_)
 exact Tm6.shape_var (term_node hT hi) h
theorem iFirst (w:World) (a:Option Addr) (l:List Nd) (c:Nat) (hN:Nodes w a l) (hT:termOk l=true) :
 Calls Tryz.prog 74 #[.slice a l.length c] w fun e w'=>(∃ f:Ar,e=.returned (av f)/\∀ v,v < 8->f v=ffTop l v)/\Below w.heap.size w w':=by
 obtain ⟨hl1,hl2⟩:=term_len hT
 have hD:=down_of hT
 obtain ⟨W1,hW1⟩:∃ W1:World,W1=w.alloc (.cells #[.int .i64 0,.int .i64 0,.int .i64 0,.int .i64 0,.int .i64 0,.int .i64 0,.int .i64 0,.int .i64 0] 47):=⟨_,rfl⟩
 have HB1:Hid (Below w.heap.size w W1):=by rw [hW1];exact (Below.refl _ _).alloc (Nat.le_refl _) _
 have HA1:Hid (Row W1 w.heap.size 8 (fun _=>.int .i64 0)):=by
  rw [hW1]
  exact Row.new _ _ _ _ _ (fun i hi=>by
   rcases (show i=0\/i=1\/i=2\/i=3\/i=4\/i=5\/i=6\/i=7 by omega) with h|h|h|h|h|h|h|h<;>subst h<;>rfl)
 have hs1:w.heap.size < W1.heap.size:=by rw [hW1];simp
 have HWA:Hid (Calls Tryz.prog 105 #[.slice a l.length c,.func (.func 106) #[] #[]] W1 fun e w'=>(∃ a',e=.returned (.slice a' l.length l.length)/\WArs w' W1.heap.size a' (wk Ar.nil ffA l l.length))/\Below W1.heap.size W1 w') :=
  wArr 106 #[] ffA W1 a l c (hN.below HB1.out) hD (by omega) (enters_of Tryz.func106 (by kernel_rfl) rfl) (tells l hT W1)
 have HRW:Hid (∀ v,(wk Ar.nil ffA l l.length).getD (l.length - 1) Ar.nil v=ffTop l v):=fun v=>rows_ar l v l.length (l.length - 1) (by omega) (Nat.le_refl _) hD
 clear hN hT hD
 go_enter Tryz.func74,Tryz.ntmps74
 go_upto_region 1 with fail
 rw [<- hW1]
 clear hW1
 go_wp2_with fail
 refine HWA.out.mono ?_
 rintro e w2 ⟨⟨a',rfl,hw⟩,hb⟩
 have HB2:Hid (Below w.heap.size w w2):=HB1.out.trans (hb.mono HB1.out.size)
 have HA2:Hid (Row w2 w.heap.size 8 (fun _=>.int .i64 0)):=HA1.out.below hb
 have hlw:(wk Ar.nil ffA l l.length).length=l.length:=wk_length _ _ _ _
 rcases hw.2 with h0|⟨b,o,rfl,hB,hc, -⟩
 ·omega
 have hx:=hc (l.length - 1) (by omega)
 have hge:(wk Ar.nil ffA l l.length)[l.length - 1]'(by omega)=(wk Ar.nil ffA l l.length).getD (l.length - 1) Ar.nil:=by
  rw [List.getD_eq_getElem?_getD,List.getElem?_eq_getElem (by omega)];rfl
 rw [hge] at hx
 have HRX:Hid (∀ v,(wk Ar.nil ffA l l.length).getD (l.length - 1) Ar.nil v=ffTop l v):=HRW.out
 generalize (wk Ar.nil ffA l l.length).getD (l.length - 1) Ar.nil=f at hx HRX
 obtain ⟨m,hm⟩:∃ m:Nat,l.length=m+1:=⟨l.length - 1,by omega⟩
 rw [show l.length - 1=m by omega] at hx
 have hmz:IntKind.i64.wrap ((l.length:Int) - 1)=(m:Int):=by rw [IntKind.wrap_i64]<;>omega
 have hml:(m:Int) < (l.length:Int):=by omega
 have hsub:(l.length:Int) - 1=(m:Int):=by omega
 obtain ⟨c0,c1,c2,c3,c4,c5,c6,c7⟩:=hx
 obtain ⟨v0a,v0b⟩:=HA2.out 0 (by omega)
 obtain ⟨v1a,v1b⟩:=HA2.out 1 (by omega)
 obtain ⟨v2a,v2b⟩:=HA2.out 2 (by omega)
 obtain ⟨v3a,v3b⟩:=HA2.out 3 (by omega)
 obtain ⟨v4a,v4b⟩:=HA2.out 4 (by omega)
 obtain ⟨v5a,v5b⟩:=HA2.out 5 (by omega)
 obtain ⟨v6a,v6b⟩:=HA2.out 6 (by omega)
 obtain ⟨v7a,v7b⟩:=HA2.out 7 (by omega)
 have HF9:Hid (Below w.heap.size w (setAr w2 w.heap.size 0 f)/\ArAt (setAr w2 w.heap.size 0 f) w.heap.size 0 f):=by
  have k9:=setAr_keptS (S:=fun b=>b=w.heap.size) (b:=w.heap.size) (p:=0) (n:=f) rfl (Kept.refl _ w2)
  exact ⟨HB2.out.trans (k9.below (fun b (hb:b=_)=>by omega) HB2.out.size),setAr_same (v:=fun _=>0) (row_ar HA2.out)⟩
 have HM:Hid (l.length=m+1):=hm
 clear hw hb hlw hc hge HWA HB1 HA1 HA2 HB2 hm hs1 hB hmz
 go_wp2_with fail
 refine bodyPost_ret (res_top (g:=w.heap.size) (f:=f) rfl HF9.out.2) rfl ?_
 exact ⟨⟨f,rfl,fun v _=>HRX.out v⟩,HF9.out.1⟩
end Pb8
end Go.Proofs.YthanhcobfehmnaaGreat
