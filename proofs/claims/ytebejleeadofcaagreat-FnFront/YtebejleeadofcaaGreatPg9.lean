import Derived.Deep.RegionWith
import Derived.Test.YtebejleeadofcaaGreatPkFR32
import Derived.Test.YtebejleeadofcaaGreatPkFR41
import Derived.Test.YtebejleeadofcaaGreatPkFR2
import Derived.Test.YtebejleeadofcaaGreatPkFR30
namespace Go.Proofs.YtebejleeadofcaaGreat
set_option maxRecDepth 100000
set_option maxHeartbeats 8000000
set_option linter.unusedVariables false
namespace Pg9
open Go.RowKit
open Nd0 Pl1 Tm0 Tm1 Tm4 Tm5 Tm7 Ap0 Pg1 Pg2 Pg8 Rw0
open Ws1 (ret_int ret_bool)
open Lx1 (ITermOk)
theorem zeros8:Tryz.zeroCells101=Array.replicate 80 (.int .u8 0):=by kernel_rfl
theorem var_of {l:List Nd} {k:Nat} (h:nodeOk l k=true) (hop:(nth l k).op=1\/quant (nth l k).op=true):∃ kk:Nat,(nth l k).k=(kk:Int)/\kk<=7:=by
 simp only [nodeOk,Bool.and_eq_true] at h
 have hs:=h.2
 unfold shapeOk at hs
 have hb:0<=(nth l k).k/\(nth l k).k<=7:=by
  rcases hop with h1|h1
  ·rw [if_neg (by omega),if_pos h1] at hs
   simp at hs;omega
  ·have h2:(nth l k).op=19\/(nth l k).op=20:=by simpa [quant] using h1
   rw [if_neg (by omega),if_neg (by omega),if_neg (by omega),if_neg (by omega),if_neg (by omega),if_neg (by omega),if_neg (by omega),if_neg (by omega),if_pos h2] at hs
   simp at hs;omega
 exact ⟨(nth l k).k.toNat,by omega,by omega⟩
def Sets (l:List Nd) (k:Nat) (s:Nat->Nat):Prop:=(∀ i,i < k->Has (s i) (row (freeRows l k) (i:Int)))/\∀ i,k<=i->s i=0
theorem sets_next {l:List Nd} {k:Nat} {s s':Nat->Nat} {x:Nat} (h:Sets l k s) (hx:Has x (freeRow (freeRows l k) (nth l k))) (hs:∀ i,s' i=if i=k then x else s i):Sets l (k+1) s':=by
 constructor
 ·intro i hi
  rw [hs i]
  by_cases e:i=k
  ·subst e;rw [if_pos rfl,row_new];exact hx
  ·rw [if_neg e,row_old l k (i:Int) (by omega) (by omega)];exact h.1 i (by omega)
 ·intro i hi
  rw [hs i,if_neg (by omega)];exact h.2 i (by omega)
theorem iFreeSet (w:World) (a:Option Addr) (l:List Nd) (c:Nat) (hN:Nodes w a l) (hT:termOk l=true) :
 Calls Tryz.prog 39 #[.slice a l.length c] w fun e w'=>(∃ s:Nat,e=.returned (.int .u8 s)/\Has s (freeTop l))/\Below w.heap.size w w':=by
 have HN:Hid (Nodes w a l):=hN
 have HT:Hid (termOk l=true):=hT
 obtain ⟨hl1,hl2⟩:=term_len hT
 clear hN hT
 obtain ⟨g,hg⟩:∃ g:Nat,g=w.heap.size:=⟨_,rfl⟩
 have HG:Hid (g=w.heap.size):=hg
 have HR0:Hid (Row (w.alloc (.cells Tryz.zeroCells101 101)) g 80 (fun i=>.int .u8 (((fun _=>0) i:Nat):Int))):=by
  rw [hg]
  refine Row.new _ _ _ _ _ (fun i hi=>?_)
  rw [zeros8,Array.getElem?_replicate,if_pos hi];rfl
 have HB0:Hid (Below w.heap.size w (w.alloc (.cells Tryz.zeroCells101 101))):=(Below.refl _ _).alloc (Nat.le_refl _) _
 go_enter Tryz.func39,Tryz.ntmps39
 go_wp2
 rw [<- hg]
 clear hg
 generalize w.alloc (.cells Tryz.zeroCells101 101)=wa at HR0 HB0 ⊢
 go_loopw [10] (fun q wr=>∃ k:Nat,k<=l.length/\q=.int .i64 k/\∃ s:Nat->Nat,Row wr g 80 (fun i=>.int .u8 ((s i:Nat):Int))/\Sets l k s/\Below w.heap.size w wr) (fun q _=>l.length - (intOf q).toNat)
 case atStart=>exact ⟨0,Nat.zero_le _,rfl,_,HR0.out,⟨fun i hi=>by omega,fun i _=>rfl⟩,HB0.out⟩
 case round =>
  clear HR0 HB0
  obtain ⟨k,hk,rfl,s,hr,hs,hb⟩:=hrel
  have HR:Hid (Row wr g 80 (fun i=>.int .u8 ((s i:Nat):Int))):=hr
  have HS:Hid (Sets l k s):=hs
  have HB:Hid (Below w.heap.size w wr):=hb
  clear hr hs hb
  have hgl:g < wr.heap.size:=HR.out.lt (by omega)
  by_cases hlt:k < l.length
  ·have hlz:(k:Int) < (l.length:Int):=by omega
   have hk80:(k:Int) < 80:=by omega
   rcases (HN.out.below HB.out).2 with h0|⟨xb,xo,rfl,hc⟩
   ·omega
   obtain ⟨p0,p1,p2,p3,p4,p5⟩:=hc k hlt
   rw [nth_get hlt] at p0 p1 p2 p3 p4 p5
   clear hc
   have HPO:=parts_ok (term_node HT.out hlt)
   have HV:Hid ((nth l k).op=1\/quant (nth l k).op=true->∃ kk:Nat,(nth l k).k=(kk:Int)/\kk<=7):=fun h=>var_of (term_node HT.out hlt) h
   have HNX:Hid (∀ s' x,Has x (freeRow (freeRows l k) (nth l k))->(∀ i,s' i=if i=k then x else s i)->Sets l (k+1) s'):=fun s' x h1 h2=>sets_next HS.out h1 h2
   generalize hn:nth l k=n at p0 p1 p2 p3 p4 p5 HPO HV HNX
   clear hn
   have HPO':Hid (∀ j (hj:j < (parts n).length),0<=(parts n)[j]/\(parts n)[j] < k):=HPO
   clear HPO
   have hgn:¬ g=wr.heap.size:=by omega
   obtain ⟨c1,c2⟩:=HR.out k (by omega)
   by_cases h1:n.op=1
   ·obtain ⟨kk,hkk,hk7⟩:=HV.out (.inl h1)
    have h1b:(n.op==1)=true:=by simpa using h1
    rw [hkk] at p2
    have HX:Hid (Some_ (2 ^ kk) (freeRows l k) n 0):=some_start_var h1 hkk hk7
    have HP0:Hid (parts n=[]):=parts_none (by omega) (by omega) (by omega)
    have HQ0:Hid ((n.op==19||n.op==20)=false):=by show _=_;simp [h1]
    have hpe:(parts ⟨1,n.w,(kk:Int),n.a,n.b,n.c⟩).length=0:=by
     rw [parts_none (by simp) (by simp) (by simp)];rfl
    have HRX:Hid (Row (wr.setCell ⟨g,k,none⟩ (.int .u8 (2 ^ kk))) g 80 (fun i=>.int .u8 (((fun i=>if i=k then 2 ^ kk else s i) i:Nat):Int))):=by
     refine (HR.out.set (by omega) _).congr (fun i hi=>?_)
     by_cases e:i=k
     ·simp [e]
     ·simp [e]
    have HBX:Hid (Below w.heap.size w (wr.setCell ⟨g,k,none⟩ (.int .u8 (2 ^ kk)))) :=
     HB.out.trans (((Kept.refl (fun b=>b=g) wr).setCell (p:=⟨g,k,none⟩) rfl _).below (fun b hb=>by have:=HG.out;omega) HB.out.size)
    have hsz:(wr.setCell ⟨g,k,none⟩ (.int .u8 (2 ^ kk))).heap.size=wr.heap.size:=by simp [World.setCell]
    have HSZ:Hid ((wr.setCell ⟨g,k,none⟩ (.int .u8 (2 ^ kk))).heap.size=wr.heap.size):=hsz
    clear hsz
    go_wp2_with (go_at_call 70;refine (iJust kk _ hk7).mono ?_;rintro e w' ⟨rfl,rfl⟩)
    generalize wr.setCell ⟨g,k,none⟩ (.int .u8 (2 ^ kk))=wc at HRX HBX HSZ ⊢
    refine (iParts ⟨1,n.w,(kk:Int),n.a,n.b,n.c⟩ _).mono ?_
    rintro e w2 ⟨⟨pa,pc,rfl,hpi⟩,hb2⟩
    have hcs:wr.heap.size < (wc.alloc (.cells #[.int .i64 1,.int .i64 n.w,.int .i64 kk,.int .i64 n.a,.int .i64 n.b,.int .i64 n.c] 58)).heap.size:=by
     have:=HSZ.out;simp;omega
    have b0:w2.cell? ⟨wr.heap.size,0,none⟩=some (.int .i64 1):=by
     rw [hb2.cell hcs,<- HSZ.out,World.cell?_alloc_new];rfl
    have HR2:Hid (Row w2 g 80 (fun i=>.int .u8 (((fun i=>if i=k then 2 ^ kk else s i) i:Nat):Int))):=(HRX.out.below ((Below.refl _ _).alloc (Nat.le_refl _) _)).below hb2
    have HB2:Hid (Below w.heap.size w w2):=(HBX.out.alloc (by have:=HSZ.out;have:=HB.out.size;omega) _).trans (hb2.mono (by have:=HSZ.out;have:=HB.out.size;simp;omega))
    clear hpi hb2 hcs p0 p1 p2 p3 p4 p5 c1 c2
    have hq:quant 1=false:=by decide
    go_wp2_with fail
    go_loopw [26] (fun q wq=>q=.int .i64 0/\wq=w2) (fun _ _=>0)
    case atStart=>exact ⟨rfl,rfl⟩
    case round =>
     obtain ⟨rfl,rfl⟩:=hrel
     go_wp2_with (go_at_call 46;refine (iQuant _ _).mono ?_;rintro e w' ⟨rfl,rfl⟩;rw [hq])
     go_roundw
     case rel=>exact ⟨k+1,by omega,by go_num,_,HR2.out,HNX.out _ _ (some_end HX.out (by rw [HP0.out];simp) HQ0.out) (fun i=>rfl),HB2.out⟩
     case measure=>simp [intOf];omega
   ·have h1b:(n.op==1)=false:=by simpa using h1
    obtain ⟨wb,rfl⟩:∃ wb:World,wb=wr:=⟨_,rfl⟩
    go_wp2_with fail
    refine (iParts n _).mono ?_
    rintro e w2 ⟨⟨pa,pc,rfl,hpi⟩,hb2⟩
    have hBA:Below wb.heap.size wb (wb.alloc (.cells #[.int .i64 n.op,.int .i64 n.w,.int .i64 n.k,.int .i64 n.a,.int .i64 n.b,.int .i64 n.c] 58)):=(Below.refl _ _).alloc (Nat.le_refl _) _
    have HP:Hid (IntsIn w2 (wb.heap.size+1) w2.heap.size pa (parts n)):=by
     have h9:=hpi.within
     simp at h9
     exact h9
    have HR2:Hid (Row w2 g 80 (fun i=>.int .u8 ((s i:Nat):Int))):=(HR.out.below hBA).below hb2
    have HB2:Hid (Below w.heap.size w w2):=(HB.out.trans (hBA.mono HB.out.size)).trans (hb2.mono (by have:=HB.out.size;simp;omega))
    have hcs:wb.heap.size < (wb.alloc (.cells #[.int .i64 n.op,.int .i64 n.w,.int .i64 n.k,.int .i64 n.a,.int .i64 n.b,.int .i64 n.c] 58)).heap.size:=by simp
    have HC0:Hid (w2.cell? ⟨wb.heap.size,0,none⟩=some (.int .i64 n.op)):=by
     show _=_
     rw [hb2.cell hcs,World.cell?_alloc_new];rfl
    have HC2:Hid (w2.cell? ⟨wb.heap.size,2,none⟩=some (.int .i64 n.k)):=by
     show _=_
     rw [hb2.cell hcs,World.cell?_alloc_new];rfl
    have HS2:Hid (wb.heap.size < w2.heap.size):=Nat.lt_of_lt_of_le hcs hb2.size
    have HX0:Hid (Some_ 0 (freeRows l k) n 0):=some_start h1b
    clear hpi hb2 hBA hcs p0 p1 p2 p3 p4 p5 c1 c2 h1b
    have hpl:=parts_le n
    go_wp2_with fail
    go_loopw [26] (fun q wq=>∃ j:Nat,j<=(parts n).length/\q=.int .i64 j/\∃ x:Nat,Some_ x (freeRows l k) n j/\Row wq g 80 (fun i=>.int .u8 (((fun i=>if i=k then x else s i) i:Nat):Int))/\Kept (fun b=>b=g) w2 wq) (fun q _=>(parts n).length - (intOf q).toNat)
    case atStart =>
     refine ⟨0,Nat.zero_le _,rfl,0,HX0.out,HR2.out.congr (fun i hi=>?_),Kept.refl _ _⟩
     by_cases e:i=k
     ·subst e
      have:=HS.out.2 i (Nat.le_refl _)
      simp [this]
     ·simp [e]
    case round =>
     obtain ⟨j,hj,rfl,x,hx,hrx,hkx⟩:=hrel
     have HX:Hid (Some_ x (freeRows l k) n j):=hx
     have HRX:Hid (Row wr g 80 (fun i=>.int .u8 (((fun i=>if i=k then x else s i) i:Nat):Int))):=hrx
     have HKX:Hid (Kept (fun b=>b=g) w2 wr):=hkx
     have hx256:=hx.1
     clear hx hrx hkx
     have HBX:Hid (Below w.heap.size w wr):=HB2.out.trans (HKX.out.below (fun b hb=>by have:=HG.out;omega) HB2.out.size)
     obtain ⟨c1,c2⟩:=HRX.out k (by omega)
     simp only [if_true] at c1 c2
     by_cases hlt2:j < (parts n).length
     ·have hjz:(j:Int) < ((parts n).length:Int):=by omega
      rcases (HP.out.kept HKX.out (fun b h1 h2 e=>by omega)).2 with h0|⟨pb,po,rfl,hpB,hpU,hpc⟩
      ·omega
      have q0:=(hpc j hlt2).1
      obtain ⟨hy0,hy1⟩:=HPO'.out j hlt2
      have HNXT:Hid (∀ t,Has t (row (freeRows l k) (parts n)[j])->Some_ (x ||| t) (freeRows l k) n (j+1)):=fun t ht=>some_next HX.out hlt2 ht
      clear hpc hpB hpU
      generalize (parts n)[j]=y at q0 hy0 hy1 HNXT
      obtain ⟨jy,rfl⟩:=Int.eq_ofNat_of_zero_le hy0
      have hjk:jy < k:=by omega
      have hy80:(jy:Int) < 80:=by omega
      have HHY:Hid (Has (s jy) (row (freeRows l k) (jy:Int))):=HS.out.1 jy hjk
      obtain ⟨d1,_⟩:=HRX.out jy (by omega)
      have hne:¬ jy=k:=by omega
      simp only [if_neg hne] at d1
      have hs256:=HHY.out.1
      have hor:bits .or .u8 (x:Int) (s jy:Int)=((x ||| s jy:Nat):Int):=bits_or_u8_nat _ _ hx256 hs256
      clear hy0 hy1
      have HEND:Hid (∃ x',Some_ x' (freeRows l k) n (j+1)/\x'=x ||| s jy):=⟨_,HNXT.out _ HHY.out,rfl⟩
      generalize x ||| s jy=z at hor HEND
      generalize s jy=y at *
      go_wp2
      go_region
      all_goals
       go_wp2
       go_roundw
       case rel =>
        obtain ⟨x',hx',rfl⟩:=HEND.out
        refine ⟨j+1,by omega,by go_num,x',hx',?_,(HKX.out.setCell (p:=⟨g,k,none⟩) rfl _).drew⟩
        refine Row.drew ((HRX.out.set (by omega) _).congr (fun i hi=>?_))
        by_cases e:i=k
        ·simp [e]
        ·simp [e]
       case measure=>simp [intOf];omega
     ·have hjz:¬ (j:Int) < ((parts n).length:Int):=by omega
      have b0:wr.cell? ⟨wb.heap.size,0,none⟩=some (.int .i64 n.op):=by
       rw [HKX.out.cell (p:=⟨wb.heap.size,0,none⟩) HS2.out (fun e=>by simp at e;omega)];exact HC0.out
      cases hq:quant n.op
      ·go_wp2_with (go_at_call 46;refine (iQuant _ _).mono ?_;rintro e w' ⟨rfl,rfl⟩;rw [hq])
       go_roundw
       case rel=>exact ⟨k+1,by omega,by go_num,_,HRX.out,HNX.out _ _ (some_end HX.out (by omega) hq) (fun i=>rfl),HBX.out⟩
       case measure=>simp [intOf];omega
      ·obtain ⟨kk,hkk,hk7⟩:=HV.out (.inr hq)
       have b2:wr.cell? ⟨wb.heap.size,2,none⟩=some (.int .i64 kk):=by
        rw [HKX.out.cell (p:=⟨wb.heap.size,2,none⟩) HS2.out (fun e=>by simp at e;omega),<- hkk];exact HC2.out
       have HH:Hid (Has (x &&& (255 - 2 ^ kk)) (freeRow (freeRows l k) n)):=some_end_quant HX.out (by omega) hq hkk hk7
       have e256:2 ^ kk < 256:=Nat.lt_of_le_of_lt (Nat.pow_le_pow_right (n:=2) (by omega) hk7) (by decide)
       have hand:bits .andNot .u8 (x:Int) ((2 ^ kk:Nat):Int)=((x &&& (255 - 2 ^ kk):Nat):Int):=bits_andNot_u8_nat _ _ hx256 e256
       obtain ⟨pw,hpw⟩:∃ pw:Nat,pw=2 ^ kk:=⟨_,rfl⟩
       have HJ:Hid (∀ w:World,Calls Tryz.prog 70 #[.int .i64 kk] w fun e w'=>e=.returned (.int .u8 (pw:Int))/\w'=w):=by
        rw [hpw];exact fun w=>iJust kk w hk7
       rw [<- hpw] at hand HH
       clear hpw e256
       generalize x &&& (255 - pw)=z at hand HH
       clear hkk
       go_wp2_with (go_at_call 46;refine (iQuant _ _).mono ?_;rintro e w' ⟨rfl,rfl⟩;rw [hq])
       go_region_with (go_at_call 70;refine (HJ.out _).mono ?_;rintro e w' ⟨rfl,rfl⟩)
       all_goals
        go_wp2
        go_roundw
        case rel =>
         refine ⟨k+1,by omega,by go_num,(fun i=>if i=k then z else s i),?_,HNX.out _ _ HH.out (fun i=>rfl),?_⟩
         ·refine Row.drew ((HRX.out.set (by omega) _).congr (fun i hi=>?_))
          by_cases e:i=k
          ·simp [e]
          ·simp [e]
         ·exact (HBX.out.trans (((Kept.refl (fun b=>b=g) _).setCell (p:=⟨g,k,none⟩) rfl _).below (fun b (hb:b=g)=>by have:=HG.out;omega) HBX.out.size)).drew
        case measure=>simp [intOf];omega
  ·have e2:k=l.length:=by omega
   subst e2
   have cI:wr.cell? ⟨g,l.length - 1,none⟩=some (.int .u8 ((s (l.length - 1):Nat):Int)):=(HR.out (l.length - 1) (by omega)).1
   have HH:Hid (Has (s (l.length - 1)) (freeTop l)):=by
    have h9:=HS.out.1 (l.length - 1) (by omega)
    have e:((l.length - 1:Nat):Int)=(l.length:Int) - 1:=by omega
    rw [e] at h9
    exact h9
   have g1:(0:Int)<=(l.length:Int) - 1:=by omega
   have g2:(l.length:Int) - 1 < 80:=by omega
   go_wp2
   go_ret
   exact ⟨⟨_,rfl,HH.out⟩,HB.out⟩
end Pg9
end Go.Proofs.YtebejleeadofcaaGreat
