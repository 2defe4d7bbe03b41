import Derived.Shelf.Abstract
import Derived.Test.YtbellafdjfliiaaGreatRows
import Derived.WalkKit
import Derived.WalkSpells
import Derived.Stop.Asserts
import Derived.Deep.MidRow
import Derived.Laws.MakeOwn
import Derived.Test.YtbellafdjfliiaaGreatPkBOM25
import Derived.Test.YtbellafdjfliiaaGreatPkBOM9
import Derived.Test.YtbellafdjfliiaaGreatPkBOM27
import Derived.Test.YtbellafdjfliiaaGreatPkBOM28
import Derived.Test.YtbellafdjfliiaaGreatPkBOM13
import Derived.Test.YtbellafdjfliiaaGreatPkBOM26
import Derived.Test.YtbellafdjfliiaaGreatPkBOM18
import Derived.Test.YtbellafdjfliiaaGreatPkBOM12
import Derived.Test.YtbellafdjfliiaaGreatPkBOM15
import Derived.Test.YtbellafdjfliiaaGreatPkBOM19
import Derived.Test.YtbellafdjfliiaaGreatPkBOM24
import Derived.Test.YtbellafdjfliiaaGreatPkBOM3
import Derived.Test.YtbellafdjfliiaaGreatPkBOM0
namespace Go.Proofs.YtbellafdjfliiaaGreat
set_option maxRecDepth 100000
set_option maxHeartbeats 8000000
set_option linter.unusedVariables false
namespace Aw3
open Go.RowKit
open Nd0 Pl1 Tm0 Tm1 Tm8 Pg1 Pg2 Rw0 Aq0
open Ap12 (Ov app_v makeVs noughts noughts_get)
open Aw1 (nv)
def TellV (w0:World) (k:Nat) (cap:Array Value) (l:List Nd) (F:Nat->Nd->List Int->Int):Prop :=
 ∀ (W:World) (i:Nat) (a:Option Addr) (c:Nat),i < l.length->Below w0.heap.size w0 W ->
  Calls Tryz.prog k (#[.int .i64 (i:Int),nv (nth l i),.slice a (said 0 F l i).length c]++cap) W fun e w'=>e=.returned (.int .u8 (F i (nth l i) (said 0 F l i)))/\Below W.heap.size W w'
theorem wSet (k:Nat) (cap:Array Value) (F:Nat->Nd->List Int->Int) (w:World) (a:Option Addr) (l:List Nd) (c:Nat) (hN:Nodes w a l) (hD:Down l) (hl:l.length<=1048576)
 (hk:∀ args w,(callFunc k args).run Tryz.prog w=.ok (.enter k args) w) (hT:TellV w k cap l F) :
 Calls Tryz.prog 47 #[.slice a l.length c,.func (.func k) #[] cap] w fun e w'=>(∃ g,e=.returned (.slice (some ⟨g,0,none⟩) l.length l.length)/\Row w' g l.length (fun i=>.int .u8 ((wk 0 F l l.length).getD i 0)))/\Below w.heap.size w w':=by
 have HN:Hid (Nodes w a l):=hN
 have HD:Hid (Down l):=hD
 have HT:Hid (TellV w k cap l F):=hT
 clear hN hD hT
 have hmk:=makeVs l.length hl w
 obtain ⟨g,hg⟩:∃ g:Nat,g=w.heap.size:=⟨_,rfl⟩
 have HG:Hid (g=w.heap.size):=hg
 have HR0:Hid (Row (w.alloc (.cells (noughts l.length) 45)) g l.length (fun i=>.int .u8 ((wk 0 F l 0).getD i 0))):=by
  rw [hg]
  exact Row.new _ _ _ _ _ (fun i hi=>noughts_get _ _ hi)
 have HB0:Hid (Below w.heap.size w (w.alloc (.cells (noughts l.length) 45))):=(Below.refl _ _).alloc (Nat.le_refl _) _
 go_enter Tryz.func47,Tryz.ntmps47
 go_wp2_with fail
 clear hmk
 rw [<- hg]
 clear hg
 generalize w.alloc (.cells (noughts l.length) 45)=wa at HR0 HB0 ⊢
 go_loopw [16] (fun q wr=>∃ j:Nat,j<=l.length/\q=.int .i64 j/\Row wr g l.length (fun i=>.int .u8 ((wk 0 F l j).getD i 0))/\Below w.heap.size w wr) (fun q _=>l.length - (intOf q).toNat)
 case atStart=>exact ⟨0,Nat.zero_le _,rfl,HR0.out,HB0.out⟩
 case round =>
  clear HR0 HB0
  obtain ⟨j,hj,rfl,hr,hb⟩:=hrel
  obtain ⟨wb,rfl⟩:∃ wb:World,wb=wr:=⟨_,rfl⟩
  have HR:Hid (Row wb g l.length (fun i=>.int .u8 ((wk 0 F l j).getD i 0))):=hr
  have HB:Hid (Below w.heap.size w wb):=hb
  have hBs:w.heap.size<=wb.heap.size:=hb.size
  clear hr hb
  by_cases hlt:j < l.length
  ·have hlz:(j:Int) < (l.length:Int):=by omega
   rcases (HN.out.below HB.out).2 with h0|⟨xb,xo,rfl,hc⟩
   ·omega
   obtain ⟨p0,p1,p2,p3,p4,p5⟩:=hc j hlt
   rw [nth_get hlt] at p0 p1 p2 p3 p4 p5
   clear hc
   have HDJ:Hid (∀ p∈parts (nth l j),0<=p/\p < (j:Int)):=HD.out j hlt
   have HSA:Hid (said 0 F l j=(parts (nth l j)).map fun p=>(wk 0 F l j).getD p.toNat 0):=rfl
   have HTJ:Hid (∀ (W:World) (a:Option Addr) (c:Nat),Below w.heap.size w W ->
    Calls Tryz.prog k (#[.int .i64 (j:Int),nv (nth l j),.slice a (said 0 F l j).length c]++cap) W fun e w'=>e=.returned (.int .u8 (F j (nth l j) (said 0 F l j)))/\Below W.heap.size W w'):=fun W a c h1=>HT.out W j a c hlt h1
   have HWK:Hid (∀ i,(wk 0 F l (j+1)).getD i 0=if i=j then F j (nth l j) (said 0 F l j) else (wk 0 F l j).getD i 0):=fun i=>wk_set 0 F l j i
   generalize hn:nth l j=n at p0 p1 p2 p3 p4 p5 HDJ HSA HTJ HWK
   clear hn
   generalize F j n (said 0 F l j)=y at HTJ HWK
   generalize said 0 F l j=sd at HSA HTJ
   have hX:∃ X:Nat->Int,X=fun i=>(wk 0 F l j).getD i 0:=⟨_,rfl⟩
   obtain ⟨X,hX⟩:=hX
   have HRX:Hid (Row wb g l.length (fun i=>.int .u8 (X i))):=by rw [hX];exact HR.out
   have HSX:Hid (sd=(parts n).map fun p=>X p.toNat):=by show _=_;rw [hX];exact HSA.out
   have HWX:Hid (∀ i,(wk 0 F l (j+1)).getD i 0=if i=j then y else X i):=by rw [hX];exact HWK.out
   clear hX HSA HWK HR
   have hgl:g < wb.heap.size:=HRX.out.lt (by omega)
   obtain ⟨W1,hW1⟩:∃ W1:World,W1=wb.alloc (.cells #[.int .i64 n.op,.int .i64 n.w,.int .i64 n.k,.int .i64 n.a,.int .i64 n.b,.int .i64 n.c] 53):=⟨_,rfl⟩
   have hs1:W1.heap.size=wb.heap.size+1:=by rw [hW1];simp
   have HB1:Hid (Below wb.heap.size wb W1):=by rw [hW1];exact (Below.refl _ _).alloc (Nat.le_refl _) _
   have HNB:Hid (NodeAt W1 wb.heap.size 0 n):=by rw [hW1];exact ⟨by simp,by simp,by simp,by simp,by simp,by simp⟩
   obtain ⟨W2,hW2⟩:∃ W2:World,W2=W1.alloc (.cells #[] 45):=⟨_,rfl⟩
   have hs2:W2.heap.size=wb.heap.size+2:=by rw [hW2];simp [hs1]
   have HB2:Hid (Below W1.heap.size W1 W2):=by rw [hW2];exact (Below.refl _ _).alloc (Nat.le_refl _) _
   have HO2:Hid (Ov W2 W1.heap.size (.slice (some ⟨wb.heap.size+1,0,none⟩) 0 0) []):=by rw [<- hs1,hW2];exact Ov.lit W1 _ (Nat.le_refl _)
   go_wp2_with fail
   rw [<- hW1,<- hW2]
   refine (iParts n W2).mono ?_
   rintro e W3 ⟨⟨pa,pc,rfl,hpi⟩,hb3⟩
   have hs3:=hb3.size
   have HP3:Hid (IntsIn W3 W2.heap.size W3.heap.size pa (parts n)):=hpi.within
   have HO3:Hid (Ov W3 W1.heap.size (.slice (some ⟨wb.heap.size+1,0,none⟩) 0 0) []):=HO2.out.kept (S:=fun _=>False) (Kept.ofBelow hb3) (fun _ _ h=>h)
   have HB3:Hid (Below W1.heap.size W1 W3):=HB2.out.trans (hb3.mono (by omega))
   have hpl:=parts_le n
   clear hpi hb3 HB2 HO2 hW1 hW2 p0 p1 p2 p3 p4 p5
   go_wp2_with fail
   go_loopw [8,25] (fun v q wq=>∃ m:Nat,m<=(parts n).length/\q=.int .i64 m/\Ov wq W1.heap.size v (((parts n).take m).map fun p=>X p.toNat)/\Below W1.heap.size W1 wq/\IntsIn wq W2.heap.size W3.heap.size pa (parts n)/\W3.heap.size<=wq.heap.size/\∀ x,v.ownBlock=some x->x < W2.heap.size\/W3.heap.size<=x) (fun _ q _=>(parts n).length - (intOf q).toNat)
   case atStart=>exact ⟨0,Nat.zero_le _,rfl,HO3.out,HB3.out,HP3.out,Nat.le_refl _,fun x hx=>by cases hx;exact .inl (by simp;omega)⟩
   case round =>
    clear HO3 HB3 HP3
    obtain ⟨m,hm,rfl,ho,hb,hi,hsz,hne⟩:=hrel
    have HBQ:Hid (Below W1.heap.size W1 wr):=hb
    have HIQ:Hid (IntsIn wr W2.heap.size W3.heap.size pa (parts n)):=hi
    have HRQ:Hid (Row wr g l.length (fun i=>.int .u8 (X i))):=(HRX.out.below HB1.out).below hb
    have HBW:Hid (Below w.heap.size w wr):=(HB.out.trans (HB1.out.mono hBs)).trans (hb.mono (by omega))
    have hB1:W1.heap.size<=wr.heap.size:=hb.size
    clear hb hi
    obtain ⟨ao,co,rfl⟩:=ho.form
    have HO:Hid (Ov wr W1.heap.size (.slice ao (((parts n).take m).map fun p=>X p.toNat).length co) (((parts n).take m).map fun p=>X p.toNat)):=ho
    have HNE:Hid (∀ x,(Value.slice ao (((parts n).take m).map fun p=>X p.toNat).length co).ownBlock=some x->x < W2.heap.size\/W3.heap.size<=x):=hne
    have HLJ:Hid ((((parts n).take m).map fun p=>X p.toNat).length=m):=by
     show _=_
     rw [List.length_map,List.length_take];omega
    clear ho hne
    by_cases hlt2:m < (parts n).length
    ·have hmz:(m:Int) < ((parts n).length:Int):=by omega
     rcases HIQ.out.2 with h0|⟨pb,po,rfl,hpB,hpU,hpc⟩
     ·omega
     have q0:=(hpc m hlt2).1
     have HPM:=HDJ.out _ (List.getElem_mem hlt2)
     have HTK:Hid (((parts n).take (m+1)).map (fun p=>X p.toNat)=(((parts n).take m).map fun p=>X p.toNat)++[X (parts n)[m].toNat]):=by
      show _=_
      rw [List.take_succ_eq_append_getElem hlt2,List.map_append];rfl
     obtain ⟨hy0,hy1⟩:=HPM
     generalize (parts n)[m]=yp at q0 hy0 hy1 HTK
     generalize (((parts n).take m).map fun p=>X p.toNat)=L at HO HNE HLJ HTK ⊢
     clear hpc
     obtain ⟨jy,rfl⟩:=Int.eq_ofNat_of_zero_le hy0
     rw [Int.toNat_natCast] at HTK
     have c1:wr.cell? ⟨g,jy,none⟩=some (.int .u8 (X jy)):=(HRQ.out jy (by omega)).1
     have hyl:(jy:Int) < (l.length:Int):=by omega
     have hLl:L.length<=1048576:=by have:=HLJ.out;omega
     generalize X jy=z at c1 HTK
     go_wp2_with (at_builtin;go_must (refine app_v _ rfl _ _ rfl W1.heap.size (.slice ao L.length co) L z rfl rfl HO.out hB1 hLl ?_;intro g5 cp5 w5 ho5 hk5 hg5))
     have HO5:Hid (Ov w5 W1.heap.size (.slice (some ⟨g5,0,none⟩) (L.length+1) cp5) (L++[z])):=ho5
     have HK5:Hid (Kept (fun k=>(Value.slice ao L.length co).ownBlock=some k) wr w5):=hk5
     have HG5:Hid ((Value.slice ao L.length co).ownBlock=some g5\/wr.heap.size<=g5):=hg5
     clear ho5 hk5 hg5
     go_wp2
     go_roundw
     case rel =>
      refine ⟨m+1,by omega,by go_num,by rw [HTK.out];exact HO5.out,HBQ.out.trans (HK5.out.below (fun b hb=>(HO.out.lt b hb).1) hB1),HIQ.out.kept HK5.out (fun b h1 h2 e=>by have:=HNE.out b e;omega),by have:=HK5.out.size;omega,fun b hb=>?_⟩
      cases hb
      rcases HG5.out with e|e
      ·exact HNE.out _ e
      ·exact .inr (by show _<=g5;omega)
     case measure=>simp [intOf];omega
    ·have hmz:¬ (m:Int) < ((parts n).length:Int):=by omega
     have hme:m=(parts n).length:=by omega
     have HLS:Hid ((((parts n).take m).map fun p=>X p.toNat)=sd):=by show _=_;rw [HSX.out,List.take_of_length_le (by omega)]
     clear HO HNE HLJ hme
     rw [HLS.out]
     obtain ⟨b0,b1,b2,b3,b4,b5⟩:=HNB.out.below HBQ.out (by omega)
     go_wp2_with fail
     refine (HTJ.out wr ao co HBW.out).mono ?_
     rintro e w6 ⟨rfl,hb6⟩
     have HB6:Hid (Below w.heap.size w w6):=HBW.out.trans (hb6.mono (by omega))
     have HR6:Hid (Row w6 g l.length (fun i=>.int .u8 (X i))):=HRQ.out.below hb6
     obtain ⟨c1,c2⟩:=HR6.out j hlt
     clear hb6 b0 b1 b2 b3 b4 b5
     go_wp2_with fail
     go_roundw
     case rel =>
      refine ⟨j+1,by omega,by go_num,?_,HB6.out.trans (((Kept.refl (fun b=>b=g) w6).setCell (p:=⟨g,j,none⟩) rfl _).below (fun b (hb:b=g)=>by have:=HG.out;omega) HB6.out.size)⟩
      refine (HR6.out.set hlt _).congr (fun i hi=>?_)
      rw [HWX.out]
      by_cases e:i=j
      ·rw [if_pos e,if_pos e]
      ·rw [if_neg e,if_neg e]
     case measure=>simp [intOf];omega
  ·have e2:j=l.length:=by omega
   subst e2
   go_wp2
   go_ret
   exact ⟨⟨_,rfl,HR.out⟩,HB.out⟩
end Aw3
namespace Pb1
open Go.RowKit
open Nd0 Nd3 Pl1 Tm0 Tm1 Tm3 Tm5 Tm7 Tm8 Tm13 Rw0 Pg1 Pg8 Aq0 Aw3
open Pg9 (var_of)
open Aw1 (nv)
open Lx4 (IPrune)
open Ws1 (ret_int ret_bool)
theorem iHas (op:Int) (w:World) :
 Calls Tryz.prog 49 #[.int .i64 op] w fun e w'=>e=.returned (.bool (op==1||quant op))/\w'=w:=by
 cases h1:(op==1)
 all_goals
  go_enter Tryz.func49,Tryz.ntmps49
  go_wp2_with (go_at_call 71;refine (iQuant _ _).mono ?_;rintro e w' ⟨rfl,rfl⟩)
  go_ret
  exact ⟨ret_bool (by simp),rfl⟩
def Nm (l:List Nd):Prop:=Down l/\∀ i,i < l.length->nmd (nth l i)=true->∃ kk:Nat,(nth l i).k=(kk:Int)/\kk<=7
theorem nm_of {l:List Nd} (h:termOk l=true):Nm l :=
 ⟨down_of h,fun i hi hn=>var_of (term_node h hi) (by
  unfold nmd at hn
  simp only [Bool.or_eq_true,beq_iff_eq] at hn
  exact hn)⟩
theorem nm_nil:Nm []:=⟨fun i hi=>absurd hi (Nat.not_lt_zero _),fun i hi=>absurd hi (Nat.not_lt_zero _)⟩
theorem nm_prune (l:List Nd):Nm (pruneL l):=by
 cases h:termOk l
 ·have e:pruneL l=[]:=by unfold pruneL;rw [h];rfl
  rw [e];exact nm_nil
 ·exact nm_of (prune_term h)
def ownS (_:Nat) (n:Nd) (_:List Int):Int:=if nmd n then ((2 ^ n.k.toNat:Nat):Int) else 0
def HasTo (s:Nat) (l:List Nd) (j:Nat):Prop:=s < 256/\∀ v,v < 8->s.testBit v=numTo l j v
theorem has_next {s:Nat} {l:List Nd} {j:Nat} (h:HasTo s l j) (hj:j < l.length) (hM:Nm l):∃ t:Nat,ownS j (nth l j) (said 0 ownS l j)=(t:Int)/\t < 256/\HasTo (s ||| t) l (j+1):=by
 unfold ownS
 cases hn:nmd (nth l j)
 ·refine ⟨0,by simp,by omega,?_⟩
  rw [Nat.or_zero]
  exact ⟨h.1,fun v hv=>by rw [numTo_succ hj,h.2 v hv,hn];simp⟩
 ·obtain ⟨kk,hk,h7⟩:=hM.2 j hj hn
  have e:=Nat.pow_le_pow_right (n:=2) (by omega) h7
  refine ⟨2 ^ kk,by rw [hk];simp,by omega,Nat.or_lt_two_pow (n:=8) h.1 (by omega),fun v hv=>?_⟩
  rw [Nat.testBit_or,h.2 v hv,bit_one,numTo_succ hj,hn,hk]
  congr 1
  rw [Bool.eq_iff_iff];simp
  omega
theorem iOwn (i:Int) (n:Nd) (a:Option Addr) (m c:Nat) (w:World) (hk:nmd n=true->∃ kk:Nat,n.k=(kk:Int)/\kk<=7) (j:Nat) (ps:List Int) :
 Calls Tryz.prog 48 (#[.int .i64 i,nv n,.slice a m c] ++ #[]) w fun e w'=>e=.returned (.int .u8 (ownS j n ps))/\Below w.heap.size w w':=by
 have HK:Hid (nmd n=true->∃ kk:Nat,n.k=(kk:Int)/\kk<=7):=hk
 clear hk
 have HE:Hid (nmd n=(n.op==1||quant n.op)):=rfl
 cases hb:(n.op==1||quant n.op)
 ·have hnm:nmd n=false:=by rw [HE.out];exact hb
  have HO:Hid (ownS j n ps=0):=by show _=_;unfold ownS;rw [hnm];rfl
  clear hnm
  go_enter Tryz.func48,Tryz.ntmps48
  go_wp2_with (go_at_call 49;refine (iHas _ _).mono ?_;rintro e w' ⟨rfl,rfl⟩;rw [hb])
  go_ret
  rw [HO.out]
  exact ⟨rfl,(Below.refl _ _).alloc (Nat.le_refl _) _⟩
 ·have hnm:nmd n=true:=by rw [HE.out];exact hb
  obtain ⟨kk,hkk,h7⟩:=HK.out hnm
  have HO:Hid (ownS j n ps=((2 ^ kk:Nat):Int)):=by show _=_;unfold ownS;rw [hnm,hkk];simp
  clear hnm
  obtain ⟨op,ww,k0,na,nb,nc⟩:=n
  dsimp only at hkk
  subst hkk
  dsimp only [nv] at hb ⊢
  obtain ⟨X,hX⟩:∃ X:Nat,X=2 ^ kk:=⟨_,rfl⟩
  have HJ:Hid (∀ w:World,Calls Tryz.prog 50 #[.int .i64 kk] w fun e w'=>e=.returned (.int .u8 (X:Int))/\w'=w):=by rw [hX];exact fun w=>iJust kk w h7
  rw [<- hX] at HO
  clear hX
  go_enter Tryz.func48,Tryz.ntmps48
  go_wp2_with (first|(go_at_call 49;refine (iHas _ _).mono ?_;rintro e w' ⟨rfl,rfl⟩;rw [hb])|(go_at_call 50;refine (HJ.out _).mono ?_;rintro e w' ⟨rfl,rfl⟩))
  go_ret
  rw [HO.out]
  exact ⟨rfl,(Below.refl _ _).alloc (Nat.le_refl _) _⟩
theorem iNumbersIn (w:World) (a:Option Addr) (l:List Nd) (c:Nat) (hN:Nodes w a l) (hM:Nm l) (hl:l.length<=1048576) :
 Calls Tryz.prog 21 #[.slice a l.length c] w fun e w'=>(∃ s:Nat,e=.returned (.int .u8 s)/\HasN s l)/\Below w.heap.size w w':=by
 have HN:Hid (Nodes w a l):=hN
 have HM:Hid (Nm l):=hM
 have HW:Hid (∀ W:World,Nodes W a l->Calls Tryz.prog 47 #[.slice a l.length c,.func (.func 48) #[] #[]] W fun e w'=>(∃ g,e=.returned (.slice (some ⟨g,0,none⟩) l.length l.length)/\Row w' g l.length (fun i=>.int .u8 ((wk 0 ownS l l.length).getD i 0)))/\Below W.heap.size W w') :=
  fun W h=>wSet _ _ ownS W a l c h hM.1 hl (enters_of Tryz.func48 (by kernel_rfl) rfl) (fun W' i a' c' hi hb=>iOwn _ _ _ _ _ _ (hM.2 i hi) _ _)
 clear hN hM
 go_enter Tryz.func21,Tryz.ntmps21
 go_wp2_with fail
 refine (HW.out _ HN.out).mono ?_
 rintro e w1 ⟨⟨g,rfl,hr⟩,hb1⟩
 have HR:Hid (Row w1 g l.length (fun i=>.int .u8 ((wk 0 ownS l l.length).getD i 0))):=hr
 have HB1:Hid (Below w.heap.size w w1):=hb1
 clear hr hb1 HW
 go_wp2_with fail
 go_loop [3,9] (fun x q=>∃ j s:Nat,j<=l.length/\q=.int .i64 j/\x=.int .u8 (s:Int)/\HasTo s l j) (fun _ q=>l.length - (intOf q).toNat)
 case atStart=>exact ⟨0,0,Nat.zero_le _,rfl,rfl,by omega,fun v hv=>by simp [numTo,numB]⟩
 case round =>
  obtain ⟨j,s,hj,rfl,rfl,hs⟩:=hrel
  have HS:Hid (HasTo s l j):=hs
  have hs256:=hs.1
  clear hs
  by_cases hlt:j < l.length
  ·have hlz:(j:Int) < (l.length:Int):=by omega
   obtain ⟨t,ht,ht256,hst⟩:=has_next HS.out hlt HM.out
   have HT:Hid (HasTo (s ||| t) l (j+1)):=hst
   have c0:w1.cell? ⟨g,j,none⟩=some (.int .u8 (t:Int)):=by
    have h9:=(HR.out j hlt).1
    dsimp only at h9
    rw [wk_old 0 ownS l (k:=j+1) (by omega) (by omega),wk_new] at h9
    rw [h9,<- ht];rfl
   have hor:bits .or .u8 (s:Int) (t:Int)=((s ||| t:Nat):Int):=bits_or_u8_nat _ _ hs256 ht256
   clear ht hst
   generalize s ||| t=z at hor HT
   go_wp2
   go_round
   case rel=>exact ⟨j+1,z,by omega,by go_num,rfl,HT.out⟩
   case measure=>simp [intOf];omega
  ·have e:j=l.length:=by omega
   subst e
   go_wp2
   go_ret
   exact ⟨⟨s,rfl,hs256,fun v hv=>by rw [HS.out.2 v hv,numTo_all]⟩,HB1.out⟩
theorem iVars (hP:IPrune) (w:World) (a:Option Addr) (l:List Nd) (c:Nat) (hN:Nodes w a l) (hcap:l.length<=c) (hlen:l.length<=1048576) :
 Calls Tryz.prog 15 #[.slice a l.length c] w fun e w'=>(∃ a' c',e=.returned (.slice a' (varsL l).length c')/\WInts w' w.heap.size a' (varsL l))/\Below w.heap.size w w':=by
 have HN:Hid (Nodes w a l):=hN
 have HP:Hid IPrune:=hP
 have HCAP:Hid (l.length<=c):=hcap
 clear hcap hN hP
 go_enter Tryz.func15,Tryz.ntmps15
 go_wp2_with fail
 refine (HP.out _ a l c HN.out HCAP.out hlen).mono ?_
 rintro e w1 ⟨⟨a1,c1,rfl,hn1,_⟩,hb1⟩
 have HN1:Hid (Nodes w1 a1 (pruneL l)):=hn1.nodes
 have HB1:Hid (Below w.heap.size w w1):=hb1
 have hpl:=pruneL_le l
 clear hn1 hb1
 go_wp2_with fail
 refine (iNumbersIn _ a1 (pruneL l) c1 HN1.out (nm_prune l) (by omega)).mono ?_
 rintro e w2 ⟨⟨s,rfl,hs⟩,hb2⟩
 have HS:Hid (HasN s (pruneL l)):=hs
 have HB2:Hid (Below w.heap.size w w2):=HB1.out.trans (hb2.mono HB1.out.size)
 clear hs hb2
 go_wp2_with fail
 refine (iNumbers s _ HS.out.1).mono ?_
 rintro e w3 ⟨⟨a3,c3,rfl,hi3⟩,hb3⟩
 have HE:Hid (varsL l=numsTo s 8):=by
  show _=_
  unfold varsL;rw [nums_has HS.out]
 have HI3:Hid (WInts w3 w2.heap.size a3 (numsTo s 8)):=hi3
 have HB3:Hid (Below w.heap.size w w3):=HB2.out.trans (hb3.mono HB2.out.size)
 clear hi3 hb3
 go_wp2
 go_ret
 rw [HE.out]
 refine ⟨⟨a3,c3,rfl,?_⟩,HB3.out⟩
 obtain ⟨h1,h2⟩:=HI3.out
 refine ⟨h1,?_⟩
 rcases h2 with h0|⟨b,o,ha,hB,hc⟩
 ·exact .inl h0
 ·exact .inr ⟨b,o,ha,Nat.le_trans HB2.out.size hB,hc⟩
end Pb1
namespace Qi0
open Go.RowKit
open Nd0 Qa0
end Qi0
namespace Pb3
open Go.RowKit
open Nd0 Nd3 Tm0 Aq0 Ap13
open Ap2 (Own)
open Qa0 Qi0
open Lx1 (ITermOk)
theorem iTO (hTO:ITermOk) (w:World) (a:Option Addr) (l:List Nd) (c:Nat) (hN:Nodes w a l) (hcap:l.length<=c) :
 Calls Tryz.prog 34 #[.slice a l.length c] w fun e w'=>e=.returned (.bool (termOk l))/\Below w.heap.size w w':=by
 by_cases h:l.length<=80
 ·exact hTO w a l c hN hcap (by omega)
 ·have HE:Hid (termOk l=false):=term_long (by omega)
  have hm:=hN.1
  unfold maxLen at hm
  have g1:¬ (l.length:Int) < 1:=by omega
  have g2:(80:Int) < (l.length:Int):=by omega
  clear hN hcap
  go_enter Tryz.func34,Tryz.ntmps34
  go_wp2
  go_ret
  rw [HE.out]
  exact ⟨rfl,Below.refl _ _⟩
def moreL (L:List Nd):List Nd:=if termOk L then L else []
theorem nodeAt_kept {w w':World} {b p:Nat} {n:Nd} (h:NodeAt w b p n) {S:Nat->Prop} (k:Kept S w w') (hs:¬ S b):NodeAt w' b p n:=by
 have hb:=h.lt
 obtain ⟨c0,c1,c2,c3,c4,c5⟩:=h
 exact ⟨by rw [k.cell hb hs];exact c0,by rw [k.cell hb hs];exact c1,by rw [k.cell hb hs];exact c2,by rw [k.cell hb hs];exact c3,by rw [k.cell hb hs];exact c4,by rw [k.cell hb hs];exact c5⟩
theorem wnodes_below {w w':World} {B:Nat} {a:Option Addr} {l:List Nd} (h:WNodes w B a l) (k:Below w.heap.size w w'):WNodes w' B a l:=by
 refine ⟨h.1,?_⟩
 rcases h.2 with h0|⟨b,o,rfl,hB,hc,hf⟩
 ·exact .inl h0
 ·refine .inr ⟨b,o,rfl,hB,fun i hi=>(hc i hi).below k (hc i hi).lt,fun j hj=>?_⟩
  have hb:b < w.heap.size:=(hc 0 (by omega)).lt
  rw [(Kept.ofBelow (S:=fun _=>False) k).frozen (p:=⟨b,o+j,none⟩) hb (fun e=>e)]
  exact hf j hj
theorem iBehind (hTO:ITermOk) (w:World) (b o b2 o2:Nat) (l ys L:List Nd) (hL:l++ys=L) (c c2 m:Nat) (hm:m=ys.length) (hN:Nodes w (some ⟨b,o,none⟩) l) (hY:∀ i (h:i < ys.length),NodeAt w b2 (o2+i*6) ys[i]) (hlen:l.length+ys.length<=1048577) :
 Calls Tryz.prog 25 #[.slice (some ⟨b,o,none⟩) l.length c,.slice (some ⟨b2,o2,none⟩) m c2] w fun e w'=>(∃ a' c',e=.returned (.tuple #[.slice a' (moreL L).length c',.bool (termOk L)])/\WNodes w' w.heap.size a' (moreL L)/\(moreL L).length<=c')/\Below w.heap.size w w':=by
 have HTO:Hid ITermOk:=hTO
 have HLL:Hid (l++ys=L):=hL
 have HN:Hid (∀ i (h:i < l.length),NodeAt w b (o+i*6) l[i]):=fun i hi=>by
  rcases hN.2 with h0|⟨b',o',he,hc⟩
  ·omega
  ·cases he;exact hc i hi
 have HY:Hid (∀ i (h:i < ys.length),NodeAt w b2 (o2+i*6) ys[i]):=hY
 have HM:Hid (m=ys.length):=hm
 have HL:Hid (Own (w.alloc (.cells #[] 53)) w.heap.size (.slice (some ⟨w.heap.size,0,none⟩) ([]:List Nd).length 0) []):=Ap2.Own.lit w _ (Nat.le_refl _)
 have HBA:Hid (Below w.heap.size w (w.alloc (.cells #[] 53))):=(Below.refl _ _).alloc (Nat.le_refl _) _
 clear hN hY hTO hm hL
 obtain ⟨W0,hW0⟩:∃ W0:World,W0=w.alloc (.cells #[] 53):=⟨_,rfl⟩
 have hsz:w.heap.size<=W0.heap.size:=by rw [hW0];simp
 rw [<- hW0] at HL HBA
 have HNW:Hid (∀ i (h:i < l.length),NodeAt W0 b (o+i*6) l[i]):=fun i hi=>(HN.out i hi).below HBA.out (HN.out i hi).lt
 go_enter Tryz.func25,Tryz.ntmps25
 go_wp2_with (at_builtin;go_must (first
  | (rw [<- hW0];refine app_any W0 rfl _ _ rfl w.heap.size w.heap.size 0 [] l l rfl b o c 0 l.length rfl rfl rfl rfl HNW.out HL.out hsz (by simp;omega) ?_;intro g1 cp1 w1 ho1 hk1;have HYW:Hid (∀ i (h:i < ys.length),NodeAt w1 b2 (o2+i*6) ys[i]):=(fun i hi=>by have hlt:=(HY.out i hi).lt;exact nodeAt_kept ((HY.out i hi).below HBA.out hlt) hk1 (fun e=>by omega));have HB1:Hid (Below w.heap.size w w1):=HBA.out.trans (hk1.below (fun k hk=>by omega) hsz);have hs1:w.heap.size<=w1.heap.size:=HB1.out.size;have HO1:Hid (Own w1 w.heap.size (.slice (some ⟨g1,0,none⟩) l.length cp1) l):=ho1;clear hsz hW0 ho1 hk1)
  | (refine app_any w1 rfl _ _ rfl w.heap.size g1 cp1 l ys L HLL.out b2 o2 c2 l.length m rfl rfl rfl HM.out HYW.out HO1.out hs1 hlen ?_;intro g2 cp2 w2 ho2 hk2;have HB2:Hid (Below w.heap.size w w2):=HB1.out.trans (hk2.below (fun k hk=>by have:=HO1.out.lt g1 rfl;omega) hs1);have HO2:Hid (Own w2 w.heap.size (.slice (some ⟨g2,0,none⟩) L.length cp2) L):=ho2;clear ho2 hk2 hs1)))
 have hcp:=(Ap7.own_cap HO2.out).2
 obtain ⟨av,cv,hv,hwn⟩:=HO2.out.form
 obtain ⟨rfl,rfl⟩:av=some ⟨g2,0,none⟩/\cv=cp2:=by cases hv;exact ⟨rfl,rfl⟩
 have HW2:Hid (WNodes w2 w.heap.size (some ⟨g2,0,none⟩) L):=hwn
 have HML:Hid (moreL L=if termOk L then L else []):=rfl
 clear hv hwn HL HBA HNW HO1 HYW HB1 HN HY hlen
 refine (iTO HTO.out _ (some ⟨g2,0,none⟩) L cv HW2.out.nodes hcp).mono ?_
 rintro e w3 ⟨rfl,hb3⟩
 have HB3:Hid (Below w.heap.size w w3):=HB2.out.trans (hb3.mono HB2.out.size)
 have HW3:Hid (WNodes w3 w.heap.size (some ⟨g2,0,none⟩) L):=wnodes_below HW2.out hb3
 have HCP:Hid (L.length<=cv):=hcp
 clear hb3 HW2 hcp HO2
 cases hT:termOk L
 ·rw [hT] at HML
  have HTT:Hid (termOk L=false):=hT
  go_wp2
  go_ret2
  rw [HTT.out,HML.out]
  exact ⟨⟨_,_,rfl,⟨Nat.zero_le _,.inl rfl⟩,Nat.zero_le _⟩,HB3.out.alloc HB3.out.size _⟩
 ·rw [hT] at HML
  have HTT:Hid (termOk L=true):=hT
  go_wp2
  go_ret2
  rw [HTT.out,HML.out]
  exact ⟨⟨_,_,rfl,HW3.out,HCP.out⟩,HB3.out⟩
theorem behL_more (l:List Nd) (n:Nd) (h1:1<=l.length):moreL (l++[n])=behL l n/\termOk (l++[n])=behB l n:=by
 unfold moreL behL behB
 cases h:termOk (l++[n])
 ·simp
 ·rw [term_less h h1];simp
theorem iDeny (hTO:ITermOk) (w:World) (b o:Nat) (l:List Nd) (c:Nat) (hN:Nodes w (some ⟨b,o,none⟩) l) (hcap:l.length<=c) (hlen:l.length<=1048576) :
 Calls Tryz.prog 11 #[.slice (some ⟨b,o,none⟩) l.length c] w fun e w'=>(∃ a' c',e=.returned (.tuple #[.slice a' (behL l (denN l)).length c',.bool (behB l (denN l))])/\WNodes w' w.heap.size a' (behL l (denN l))/\(behL l (denN l)).length<=c')/\Below w.heap.size w w':=by
 have HN:Hid (Nodes w (some ⟨b,o,none⟩) l):=hN
 have HTO:Hid ITermOk:=hTO
 have HCAP:Hid (l.length<=c):=hcap
 clear hcap hN hTO
 go_enter Tryz.func11,Tryz.ntmps11
 go_wp2_with fail
 refine (HTO.out _ _ l c HN.out HCAP.out hlen).mono ?_
 rintro e w1 ⟨rfl,hb1⟩
 have HB1:Hid (Below w.heap.size w w1):=hb1
 have hs1:=hb1.size
 clear hb1
 cases hT:termOk l
 ·have HE:Hid (behL l (denN l)=[]/\behB l (denN l)=false):=by show _/\_;unfold behL behB;rw [hT];exact ⟨rfl,rfl⟩
  go_wp2
  go_ret2
  rw [HE.out.1,HE.out.2]
  exact ⟨⟨_,_,rfl,⟨Nat.zero_le _,.inl rfl⟩,Nat.zero_le _⟩,HB1.out.alloc HB1.out.size _⟩
 ·have HT:Hid (termOk l=true):=hT
  obtain ⟨hl1,hl2⟩:=term_len hT
  clear hT
  have HM:=behL_more l (denN l) hl1
  have HMM:Hid (moreL (l++[denN l])=behL l (denN l)/\termOk (l++[denN l])=behB l (denN l)):=HM
  clear HM
  rcases (HN.out.below HB1.out).2 with h0|⟨b',o',he,hc⟩
  ·omega
  obtain ⟨rfl,rfl⟩:b=b'/\o=o':=by cases he;exact ⟨rfl,rfl⟩
  obtain ⟨-,p1, -, -, -, -⟩:=hc (l.length - 1) (by omega)
  rw [nth_get (by omega)] at p1
  have HDN:Hid (denN l=⟨2,(nth l (l.length - 1)).w,0,(l.length:Int) - 1,0,0⟩):=rfl
  have HN1:Hid (Nodes w1 (some ⟨b,o,none⟩) l):=HN.out.below HB1.out
  clear hc he
  have g1:(0:Int)<=(l.length:Int) - 1:=by omega
  have g2:(l.length:Int) - 1 < (l.length:Int):=by omega
  generalize hy:denN l=y at HMM HDN
  have HYY:Hid (denN l=y):=hy
  clear hy
  generalize (nth l (l.length - 1)).w=z at p1 HDN
  go_wp2_with fail
  refine (iBehind HTO.out _ b o w1.heap.size 0 l [⟨2,z,0,(l.length:Int) - 1,0,0⟩] _ rfl c _ _ rfl (HN1.out.below ((Below.refl _ _).alloc (Nat.le_refl _) _)) (Dw4.node_new _ _ _ _ rfl) (by simp;omega)).mono ?_
  rintro e w2 ⟨⟨a',c',rfl,hw2,hc2⟩,hb2⟩
  rw [<- HDN.out] at hw2 hc2 ⊢
  rw [HMM.out.1] at hw2 hc2 ⊢
  rw [HMM.out.2]
  have HW2:Hid (WNodes w2 w.heap.size a' (behL l y)):=by
   obtain ⟨h1,h2⟩:=hw2
   refine ⟨h1,?_⟩
   rcases h2 with h0|⟨b2,o2,ha,hB,hcc,hf⟩
   ·exact .inl h0
   ·exact .inr ⟨b2,o2,ha,by simp at hB;omega,hcc,hf⟩
  have HB2:Hid (Below w.heap.size w w2):=(HB1.out.alloc HB1.out.size _).trans (hb2.mono (by simp;omega))
  have HC2:Hid ((behL l y).length<=c'):=hc2
  clear hw2 hb2 hc2
  go_wp2
  go_ret2
  rw [HYY.out]
  exact ⟨⟨_,_,rfl,HW2.out,HC2.out⟩,HB2.out⟩
end Pb3
namespace Nd4
open Go.RowKit
open Nd0 Nd1 Nd3
theorem infoNode:(Tryz.prog.info? 53).map (fun i=>(i.zero,i.size,i.bytes))=some (some (.agg #[.int .i64 0,.int .i64 0,.int .i64 0,.int .i64 0,.int .i64 0,.int .i64 0]),6,48):=by kernel_rfl
def zeros (n:Nat):Array Value:=madeCells #[.int .i64 0,.int .i64 0,.int .i64 0,.int .i64 0,.int .i64 0,.int .i64 0] (n*6)
theorem zeros_get (n j:Nat) (h:j < n*6):(zeros n)[j]? = some (.int .i64 0):=by
 have hz:∀ m,m < 6->(#[.int .i64 0,.int .i64 0,.int .i64 0,.int .i64 0,.int .i64 0,.int .i64 0]:Array Value)[m]! = .int .i64 0:=by
  intro m hm
  have:m=0\/m=1\/m=2\/m=3\/m=4\/m=5:=by omega
  rcases this with rfl|rfl|rfl|rfl|rfl|rfl<;>rfl
 simp only [zeros,madeCells,Array.getElem?_map,Array.getElem?_range]
 rw [if_pos h]
 simp only [Option.map_some]
 exact congrArg some (hz _ (Nat.mod_lt _ (by simp)))
theorem makeNodes (n:Nat) (hn:n<=1048576) (w:World) :
 (Instr.makeSlice 24 (.int .i64 (n:Int)) (.int .i64 (n:Int))).run Tryz.prog w=.ok (.slice (some ⟨w.heap.size,0,none⟩) n n) (w.alloc (.cells (zeros n) 53)):=by
 obtain ⟨i,hi,hzz⟩:=Option.map_eq_some_iff.1 infoNode
 simp only [Prod.mk.injEq] at hzz
 obtain ⟨hz,hs,hb⟩:=hzz
 have h:=run_make (P:=Tryz.prog) w 24 53 i _ Tryz.underlying24 hi hz .i64 .i64 n n (by omega) (Int.le_refl _) (by rw [hb];omega) (by omega)
 rw [hs] at h
 simpa [zeros,Value.cells] using h
theorem zeros_at (w:World) (n:Nat) (T:Nat) (j:Nat) (hj:j < n):NodeAt (w.alloc (.cells (zeros n) T)) w.heap.size (j*6) Nd.zero:=by
 refine ⟨?_,?_,?_,?_,?_,?_⟩<;>rw [World.cell?_alloc_new]<;>exact zeros_get _ _ (by omega)
end Nd4
end Go.Proofs.YtbellafdjfliiaaGreat
