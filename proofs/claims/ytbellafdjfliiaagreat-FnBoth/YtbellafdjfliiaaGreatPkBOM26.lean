import Derived.WalkSpells
import Derived.Deep.RegionWith
import Derived.Test.YtbellafdjfliiaaGreatPkBOM12
import Derived.Test.YtbellafdjfliiaaGreatPkBOM1
import Derived.Test.YtbellafdjfliiaaGreatPkBOM25
import Derived.Test.YtbellafdjfliiaaGreatPkBOM9
import Derived.Test.YtbellafdjfliiaaGreatPkBOM18
import Derived.Test.YtbellafdjfliiaaGreatPkBOM14
namespace Go.Proofs.YtbellafdjfliiaaGreat
set_option maxRecDepth 100000
set_option maxHeartbeats 8000000
set_option linter.unusedVariables false
namespace Pg8
open Go.RowKit
open Nd0 Pl1 Tm0 Tm1 Tm4 Tm7 Ap0
open Ws1 (ret_int ret_bool)
theorem iJust (kk:Nat) (w:World) (h7:kk<=7) :
 Calls Tryz.prog 50 #[.int .i64 kk] w fun e w'=>e=.returned (.int .u8 ((2 ^ kk:Nat):Int))/\w'=w:=by
 have h8:kk=0\/kk=1\/kk=2\/kk=3\/kk=4\/kk=5\/kk=6\/kk=7:=by omega
 rcases h8 with rfl|rfl|rfl|rfl|rfl|rfl|rfl|rfl
 all_goals
  go_enter Tryz.func50,Tryz.ntmps50
  go_wp2
  go_ret
  exact ⟨ret_int (by decide),rfl⟩
theorem iNumbers (s:Nat) (w:World) (hs:s < 256) :
 Calls Tryz.prog 43 #[.int .u8 s] w fun e w'=>(∃ a' c',e=.returned (.slice a' (numsTo s 8).length c')/\WInts w' w.heap.size a' (numsTo s 8))/\Below w.heap.size w w':=by
 go_enter Tryz.func43,Tryz.ntmps43
 go_wp2
 go_loopw [0,3,4] (fun x v q wr=>∃ k:Nat,k<=8/\q=.int .i64 k/\x=.int .u8 ((s / 2 ^ k:Nat):Int)/\Ows wr w.heap.size v (numsTo s k)/\Below w.heap.size w wr) (fun x _ _ _=>(intOf x).toNat)
 case atStart=>exact ⟨0,by omega,rfl,by simp,Ows.lit w _ (Nat.le_refl _),(Below.refl _ _).alloc (Nat.le_refl _) _⟩
 case round =>
  obtain ⟨k,hk,rfl,rfl,ho,hb⟩:=hrel
  have HO:Hid (Ows wr w.heap.size u3 (numsTo s k)):=ho
  have HB:Hid (Below w.heap.size w wr):=hb
  have hBs:w.heap.size<=wr.heap.size:=hb.size
  have hln:=numsTo_length s k
  have HLB:=low_bit s k
  have hle:s / 2 ^ k<=s:=Nat.div_le_self _ _
  have HSH:Hid (s / 2 ^ k / 2=s / 2 ^ (k+1)):=by show _=_;rw [Nat.div_div_eq_div_mul,<- Nat.pow_succ]
  have HEND:Hid (s / 2 ^ k=0->numsTo s k=numsTo s 8):=fun h=>nums_end s k h hk
  have HK8:Hid (¬ s / 2 ^ k=0->k < 8):=by
   show _->_
   intro h
   rcases Nat.lt_or_ge k 8 with h8|h8
   ·exact h8
   ·exact absurd (Nat.div_eq_zero_iff.2 (.inr (Nat.lt_of_lt_of_le hs (Nat.pow_le_pow_right (n:=2) (by omega) h8)))) h
  have HLB':Hid ((s / 2 ^ k) % 2=1↔s.testBit k=true):=HLB
  clear hb HLB
  generalize s / 2 ^ k=t at hle HSH HEND HK8 HLB' ⊢
  by_cases h0:t=0
  ·have hz0:((t:Int) != 0)=false:=by simp;omega
   obtain ⟨a9,c9,rfl,hw9⟩:=ho.form
   have HW9:Hid (WInts wr w.heap.size a9 (numsTo s k)):=hw9
   clear ho hw9 HO
   have HE9:Hid (numsTo s k=numsTo s 8):=HEND.out h0
   clear HEND h0 HK8 HSH HLB' hle
   go_wp2
   go_ret
   refine ⟨⟨a9,c9,?_,?_⟩,HB.out⟩
   ·rw [<- HE9.out];simp
   ·rw [<- HE9.out];exact HW9.out
  ·have hk8:=HK8.out h0
   clear ho
   have ht:(t:Int)<=255:=by omega
   have hnz:((t:Int) != 0)=true:=by simp;omega
   have hand:bits .and .u8 (t:Int) (1:Int)=((t % 2:Nat):Int):=by
    have:=bits_and_u8_nat t 1 (by omega) (by omega)
    rw [Nat.and_one_is_mod] at this
    exact this
   by_cases h1:t % 2=1
   ·have HT2:Hid (numsTo s (k+1)=numsTo s k++[(k:Int)]):=by
     show _=_
     rw [numsTo_succ,HLB'.out.1 h1];rfl
    rw [h1] at hand
    go_wp2_with (at_builtin;go_must (refine app_int _ rfl _ _ rfl w.heap.size u3 (numsTo s k) (k:Int) rfl rfl HO.out hBs (by omega) ?_;intro g' cp w3 ho3 hk3 hg3))
    have HO3:Hid (Ows w3 w.heap.size (.slice (some ⟨g',0,none⟩) ((numsTo s k).length+1) cp) (numsTo s k++[(k:Int)])):=ho3
    have HK3:Hid (Kept (fun k=>u3.ownBlock=some k) wr w3):=hk3
    clear ho3 hk3 hg3
    go_wp2
    go_roundw
    case rel=>exact ⟨k+1,by omega,by go_num,by rw [<- HSH.out];go_num,HT2.out.symm ▸ HO3.out,HB.out.trans (HK3.out.below (fun k hk=>(HO.out.lt k hk).1) hBs)⟩
    case measure=>simp [intOf];omega
   ·have HT2:Hid (numsTo s (k+1)=numsTo s k):=by
     show _=_
     rw [numsTo_succ,if_neg (fun h=>h1 (HLB'.out.2 h))]
    have h10:t % 2=0:=by omega
    rw [h10] at hand
    go_wp2
    go_roundw
    case rel=>exact ⟨k+1,by omega,by go_num,by rw [<- HSH.out];go_num,HT2.out.symm ▸ HO.out,HB.out⟩
    case measure=>simp [intOf];omega
end Pg8
namespace Pg9
open Go.RowKit
open Nd0 Pl1 Tm0 Tm1 Tm4 Tm5 Tm7 Ap0 Pg1 Pg2 Pg8 Rw0
open Ws1 (ret_int ret_bool)
open Lx1 (ITermOk)
theorem zeros8:Tryz.zeroCells89=Array.replicate 80 (.int .u8 0):=by kernel_rfl
theorem var_of {l:List Nd} {k:Nat} (h:nodeOk l k=true) (hop:(nth l k).op=1\/quant (nth l k).op=true):∃ kk:Nat,(nth l k).k=(kk:Int)/\kk<=7:=by
 simp only [nodeOk,Bool.and_eq_true] at h
 have hs:=h.2
 unfold shapeOk at hs
 have hb:0<=(nth l k).k/\(nth l k).k<=7:=by
  rcases hop with h1|h1
  ·rw [if_neg (by omega),if_pos h1] at hs
   simp at hs;omega
  ·have h2:(nth l k).op=19\/(nth l k).op=20:=by simpa [quant] using h1
   rw [if_neg (by omega),if_neg (by omega),if_neg (by omega),if_neg (by omega),if_neg (by omega),if_neg (by omega),if_neg (by omega),if_neg (by omega),if_pos h2] at hs
   simp at hs;omega
 exact ⟨(nth l k).k.toNat,by omega,by omega⟩
def Sets (l:List Nd) (k:Nat) (s:Nat->Nat):Prop:=(∀ i,i < k->Has (s i) (row (freeRows l k) (i:Int)))/\∀ i,k<=i->s i=0
theorem sets_next {l:List Nd} {k:Nat} {s s':Nat->Nat} {x:Nat} (h:Sets l k s) (hx:Has x (freeRow (freeRows l k) (nth l k))) (hs:∀ i,s' i=if i=k then x else s i):Sets l (k+1) s':=by
 constructor
 ·intro i hi
  rw [hs i]
  by_cases e:i=k
  ·subst e;rw [if_pos rfl,row_new];exact hx
  ·rw [if_neg e,row_old l k (i:Int) (by omega) (by omega)];exact h.1 i (by omega)
 ·intro i hi
  rw [hs i,if_neg (by omega)];exact h.2 i (by omega)
theorem iFreeSet (w:World) (a:Option Addr) (l:List Nd) (c:Nat) (hN:Nodes w a l) (hT:termOk l=true) :
 Calls Tryz.prog 35 #[.slice a l.length c] w fun e w'=>(∃ s:Nat,e=.returned (.int .u8 s)/\Has s (freeTop l))/\Below w.heap.size w w':=by
 have HN:Hid (Nodes w a l):=hN
 have HT:Hid (termOk l=true):=hT
 obtain ⟨hl1,hl2⟩:=term_len hT
 clear hN hT
 obtain ⟨g,hg⟩:∃ g:Nat,g=w.heap.size:=⟨_,rfl⟩
 have HG:Hid (g=w.heap.size):=hg
 have HR0:Hid (Row (w.alloc (.cells Tryz.zeroCells89 89)) g 80 (fun i=>.int .u8 (((fun _=>0) i:Nat):Int))):=by
  rw [hg]
  refine Row.new _ _ _ _ _ (fun i hi=>?_)
  rw [zeros8,Array.getElem?_replicate,if_pos hi];rfl
 have HB0:Hid (Below w.heap.size w (w.alloc (.cells Tryz.zeroCells89 89))):=(Below.refl _ _).alloc (Nat.le_refl _) _
 go_enter Tryz.func35,Tryz.ntmps35
 go_wp2
 rw [<- hg]
 clear hg
 generalize w.alloc (.cells Tryz.zeroCells89 89)=wa at HR0 HB0 ⊢
 go_loopw [10] (fun q wr=>∃ k:Nat,k<=l.length/\q=.int .i64 k/\∃ s:Nat->Nat,Row wr g 80 (fun i=>.int .u8 ((s i:Nat):Int))/\Sets l k s/\Below w.heap.size w wr) (fun q _=>l.length - (intOf q).toNat)
 case atStart=>exact ⟨0,Nat.zero_le _,rfl,_,HR0.out,⟨fun i hi=>by omega,fun i _=>rfl⟩,HB0.out⟩
 case round =>
  clear HR0 HB0
  obtain ⟨k,hk,rfl,s,hr,hs,hb⟩:=hrel
  have HR:Hid (Row wr g 80 (fun i=>.int .u8 ((s i:Nat):Int))):=hr
  have HS:Hid (Sets l k s):=hs
  have HB:Hid (Below w.heap.size w wr):=hb
  clear hr hs hb
  have hgl:g < wr.heap.size:=HR.out.lt (by omega)
  by_cases hlt:k < l.length
  ·have hlz:(k:Int) < (l.length:Int):=by omega
   have hk80:(k:Int) < 80:=by omega
   rcases (HN.out.below HB.out).2 with h0|⟨xb,xo,rfl,hc⟩
   ·omega
   obtain ⟨p0,p1,p2,p3,p4,p5⟩:=hc k hlt
   rw [nth_get hlt] at p0 p1 p2 p3 p4 p5
   clear hc
   have HPO:=parts_ok (term_node HT.out hlt)
   have HV:Hid ((nth l k).op=1\/quant (nth l k).op=true->∃ kk:Nat,(nth l k).k=(kk:Int)/\kk<=7):=fun h=>var_of (term_node HT.out hlt) h
   have HNX:Hid (∀ s' x,Has x (freeRow (freeRows l k) (nth l k))->(∀ i,s' i=if i=k then x else s i)->Sets l (k+1) s'):=fun s' x h1 h2=>sets_next HS.out h1 h2
   generalize hn:nth l k=n at p0 p1 p2 p3 p4 p5 HPO HV HNX
   clear hn
   have HPO':Hid (∀ j (hj:j < (parts n).length),0<=(parts n)[j]/\(parts n)[j] < k):=HPO
   clear HPO
   have hgn:¬ g=wr.heap.size:=by omega
   obtain ⟨c1,c2⟩:=HR.out k (by omega)
   by_cases h1:n.op=1
   ·obtain ⟨kk,hkk,hk7⟩:=HV.out (.inl h1)
    have h1b:(n.op==1)=true:=by simpa using h1
    rw [hkk] at p2
    have HX:Hid (Some_ (2 ^ kk) (freeRows l k) n 0):=some_start_var h1 hkk hk7
    have HP0:Hid (parts n=[]):=parts_none (by omega) (by omega) (by omega)
    have HQ0:Hid ((n.op==19||n.op==20)=false):=by show _=_;simp [h1]
    have hpe:(parts ⟨1,n.w,(kk:Int),n.a,n.b,n.c⟩).length=0:=by
     rw [parts_none (by simp) (by simp) (by simp)];rfl
    have HRX:Hid (Row (wr.setCell ⟨g,k,none⟩ (.int .u8 (2 ^ kk))) g 80 (fun i=>.int .u8 (((fun i=>if i=k then 2 ^ kk else s i) i:Nat):Int))):=by
     refine (HR.out.set (by omega) _).congr (fun i hi=>?_)
     by_cases e:i=k
     ·simp [e]
     ·simp [e]
    have HBX:Hid (Below w.heap.size w (wr.setCell ⟨g,k,none⟩ (.int .u8 (2 ^ kk)))) :=
     HB.out.trans (((Kept.refl (fun b=>b=g) wr).setCell (p:=⟨g,k,none⟩) rfl _).below (fun b hb=>by have:=HG.out;omega) HB.out.size)
    have hsz:(wr.setCell ⟨g,k,none⟩ (.int .u8 (2 ^ kk))).heap.size=wr.heap.size:=by simp [World.setCell]
    have HSZ:Hid ((wr.setCell ⟨g,k,none⟩ (.int .u8 (2 ^ kk))).heap.size=wr.heap.size):=hsz
    clear hsz
    go_wp2_with (go_at_call 50;refine (iJust kk _ hk7).mono ?_;rintro e w' ⟨rfl,rfl⟩)
    generalize wr.setCell ⟨g,k,none⟩ (.int .u8 (2 ^ kk))=wc at HRX HBX HSZ ⊢
    refine (iParts ⟨1,n.w,(kk:Int),n.a,n.b,n.c⟩ _).mono ?_
    rintro e w2 ⟨⟨pa,pc,rfl,hpi⟩,hb2⟩
    have hcs:wr.heap.size < (wc.alloc (.cells #[.int .i64 1,.int .i64 n.w,.int .i64 kk,.int .i64 n.a,.int .i64 n.b,.int .i64 n.c] 53)).heap.size:=by
     have:=HSZ.out;simp;omega
    have b0:w2.cell? ⟨wr.heap.size,0,none⟩=some (.int .i64 1):=by
     rw [hb2.cell hcs,<- HSZ.out,World.cell?_alloc_new];rfl
    have HR2:Hid (Row w2 g 80 (fun i=>.int .u8 (((fun i=>if i=k then 2 ^ kk else s i) i:Nat):Int))):=(HRX.out.below ((Below.refl _ _).alloc (Nat.le_refl _) _)).below hb2
    have HB2:Hid (Below w.heap.size w w2):=(HBX.out.alloc (by have:=HSZ.out;have:=HB.out.size;omega) _).trans (hb2.mono (by have:=HSZ.out;have:=HB.out.size;simp;omega))
    clear hpi hb2 hcs p0 p1 p2 p3 p4 p5 c1 c2
    have hq:quant 1=false:=by decide
    go_wp2_with fail
    go_loopw [26] (fun q wq=>q=.int .i64 0/\wq=w2) (fun _ _=>0)
    case atStart=>exact ⟨rfl,rfl⟩
    case round =>
     obtain ⟨rfl,rfl⟩:=hrel
     go_wp2_with (go_at_call 71;refine (iQuant _ _).mono ?_;rintro e w' ⟨rfl,rfl⟩;rw [hq])
     go_roundw
     case rel=>exact ⟨k+1,by omega,by go_num,_,HR2.out,HNX.out _ _ (some_end HX.out (by rw [HP0.out];simp) HQ0.out) (fun i=>rfl),HB2.out⟩
     case measure=>simp [intOf];omega
   ·have h1b:(n.op==1)=false:=by simpa using h1
    obtain ⟨wb,rfl⟩:∃ wb:World,wb=wr:=⟨_,rfl⟩
    go_wp2_with fail
    refine (iParts n _).mono ?_
    rintro e w2 ⟨⟨pa,pc,rfl,hpi⟩,hb2⟩
    have hBA:Below wb.heap.size wb (wb.alloc (.cells #[.int .i64 n.op,.int .i64 n.w,.int .i64 n.k,.int .i64 n.a,.int .i64 n.b,.int .i64 n.c] 53)):=(Below.refl _ _).alloc (Nat.le_refl _) _
    have HP:Hid (IntsIn w2 (wb.heap.size+1) w2.heap.size pa (parts n)):=by
     have h9:=hpi.within
     simp at h9
     exact h9
    have HR2:Hid (Row w2 g 80 (fun i=>.int .u8 ((s i:Nat):Int))):=(HR.out.below hBA).below hb2
    have HB2:Hid (Below w.heap.size w w2):=(HB.out.trans (hBA.mono HB.out.size)).trans (hb2.mono (by have:=HB.out.size;simp;omega))
    have hcs:wb.heap.size < (wb.alloc (.cells #[.int .i64 n.op,.int .i64 n.w,.int .i64 n.k,.int .i64 n.a,.int .i64 n.b,.int .i64 n.c] 53)).heap.size:=by simp
    have HC0:Hid (w2.cell? ⟨wb.heap.size,0,none⟩=some (.int .i64 n.op)):=by
     show _=_
     rw [hb2.cell hcs,World.cell?_alloc_new];rfl
    have HC2:Hid (w2.cell? ⟨wb.heap.size,2,none⟩=some (.int .i64 n.k)):=by
     show _=_
     rw [hb2.cell hcs,World.cell?_alloc_new];rfl
    have HS2:Hid (wb.heap.size < w2.heap.size):=Nat.lt_of_lt_of_le hcs hb2.size
    have HX0:Hid (Some_ 0 (freeRows l k) n 0):=some_start h1b
    clear hpi hb2 hBA hcs p0 p1 p2 p3 p4 p5 c1 c2 h1b
    have hpl:=parts_le n
    go_wp2_with fail
    go_loopw [26] (fun q wq=>∃ j:Nat,j<=(parts n).length/\q=.int .i64 j/\∃ x:Nat,Some_ x (freeRows l k) n j/\Row wq g 80 (fun i=>.int .u8 (((fun i=>if i=k then x else s i) i:Nat):Int))/\Kept (fun b=>b=g) w2 wq) (fun q _=>(parts n).length - (intOf q).toNat)
    case atStart =>
     refine ⟨0,Nat.zero_le _,rfl,0,HX0.out,HR2.out.congr (fun i hi=>?_),Kept.refl _ _⟩
     by_cases e:i=k
     ·subst e
      have:=HS.out.2 i (Nat.le_refl _)
      simp [this]
     ·simp [e]
    case round =>
     obtain ⟨j,hj,rfl,x,hx,hrx,hkx⟩:=hrel
     have HX:Hid (Some_ x (freeRows l k) n j):=hx
     have HRX:Hid (Row wr g 80 (fun i=>.int .u8 (((fun i=>if i=k then x else s i) i:Nat):Int))):=hrx
     have HKX:Hid (Kept (fun b=>b=g) w2 wr):=hkx
     have hx256:=hx.1
     clear hx hrx hkx
     have HBX:Hid (Below w.heap.size w wr):=HB2.out.trans (HKX.out.below (fun b hb=>by have:=HG.out;omega) HB2.out.size)
     obtain ⟨c1,c2⟩:=HRX.out k (by omega)
     simp only [if_true] at c1 c2
     by_cases hlt2:j < (parts n).length
     ·have hjz:(j:Int) < ((parts n).length:Int):=by omega
      rcases (HP.out.kept HKX.out (fun b h1 h2 e=>by omega)).2 with h0|⟨pb,po,rfl,hpB,hpU,hpc⟩
      ·omega
      have q0:=(hpc j hlt2).1
      obtain ⟨hy0,hy1⟩:=HPO'.out j hlt2
      have HNXT:Hid (∀ t,Has t (row (freeRows l k) (parts n)[j])->Some_ (x ||| t) (freeRows l k) n (j+1)):=fun t ht=>some_next HX.out hlt2 ht
      clear hpc hpB hpU
      generalize (parts n)[j]=y at q0 hy0 hy1 HNXT
      obtain ⟨jy,rfl⟩:=Int.eq_ofNat_of_zero_le hy0
      have hjk:jy < k:=by omega
      have hy80:(jy:Int) < 80:=by omega
      have HHY:Hid (Has (s jy) (row (freeRows l k) (jy:Int))):=HS.out.1 jy hjk
      obtain ⟨d1,_⟩:=HRX.out jy (by omega)
      have hne:¬ jy=k:=by omega
      simp only [if_neg hne] at d1
      have hs256:=HHY.out.1
      have hor:bits .or .u8 (x:Int) (s jy:Int)=((x ||| s jy:Nat):Int):=bits_or_u8_nat _ _ hx256 hs256
      clear hy0 hy1
      have HEND:Hid (∃ x',Some_ x' (freeRows l k) n (j+1)/\x'=x ||| s jy):=⟨_,HNXT.out _ HHY.out,rfl⟩
      generalize x ||| s jy=z at hor HEND
      generalize s jy=y at *
      go_wp2
      go_region
      all_goals
       go_wp2
       go_roundw
       case rel =>
        obtain ⟨x',hx',rfl⟩:=HEND.out
        refine ⟨j+1,by omega,by go_num,x',hx',?_,(HKX.out.setCell (p:=⟨g,k,none⟩) rfl _).drew⟩
        refine Row.drew ((HRX.out.set (by omega) _).congr (fun i hi=>?_))
        by_cases e:i=k
        ·simp [e]
        ·simp [e]
       case measure=>simp [intOf];omega
     ·have hjz:¬ (j:Int) < ((parts n).length:Int):=by omega
      have b0:wr.cell? ⟨wb.heap.size,0,none⟩=some (.int .i64 n.op):=by
       rw [HKX.out.cell (p:=⟨wb.heap.size,0,none⟩) HS2.out (fun e=>by simp at e;omega)];exact HC0.out
      cases hq:quant n.op
      ·go_wp2_with (go_at_call 71;refine (iQuant _ _).mono ?_;rintro e w' ⟨rfl,rfl⟩;rw [hq])
       go_roundw
       case rel=>exact ⟨k+1,by omega,by go_num,_,HRX.out,HNX.out _ _ (some_end HX.out (by omega) hq) (fun i=>rfl),HBX.out⟩
       case measure=>simp [intOf];omega
      ·obtain ⟨kk,hkk,hk7⟩:=HV.out (.inr hq)
       have b2:wr.cell? ⟨wb.heap.size,2,none⟩=some (.int .i64 kk):=by
        rw [HKX.out.cell (p:=⟨wb.heap.size,2,none⟩) HS2.out (fun e=>by simp at e;omega),<- hkk];exact HC2.out
       have HH:Hid (Has (x &&& (255 - 2 ^ kk)) (freeRow (freeRows l k) n)):=some_end_quant HX.out (by omega) hq hkk hk7
       have e256:2 ^ kk < 256:=Nat.lt_of_le_of_lt (Nat.pow_le_pow_right (n:=2) (by omega) hk7) (by decide)
       have hand:bits .andNot .u8 (x:Int) ((2 ^ kk:Nat):Int)=((x &&& (255 - 2 ^ kk):Nat):Int):=bits_andNot_u8_nat _ _ hx256 e256
       obtain ⟨pw,hpw⟩:∃ pw:Nat,pw=2 ^ kk:=⟨_,rfl⟩
       have HJ:Hid (∀ w:World,Calls Tryz.prog 50 #[.int .i64 kk] w fun e w'=>e=.returned (.int .u8 (pw:Int))/\w'=w):=by
        rw [hpw];exact fun w=>iJust kk w hk7
       rw [<- hpw] at hand HH
       clear hpw e256
       generalize x &&& (255 - pw)=z at hand HH
       clear hkk
       go_wp2_with (go_at_call 71;refine (iQuant _ _).mono ?_;rintro e w' ⟨rfl,rfl⟩;rw [hq])
       go_region_with (go_at_call 50;refine (HJ.out _).mono ?_;rintro e w' ⟨rfl,rfl⟩)
       all_goals
        go_wp2
        go_roundw
        case rel =>
         refine ⟨k+1,by omega,by go_num,(fun i=>if i=k then z else s i),?_,HNX.out _ _ HH.out (fun i=>rfl),?_⟩
         ·refine Row.drew ((HRX.out.set (by omega) _).congr (fun i hi=>?_))
          by_cases e:i=k
          ·simp [e]
          ·simp [e]
         ·exact (HBX.out.trans (((Kept.refl (fun b=>b=g) _).setCell (p:=⟨g,k,none⟩) rfl _).below (fun b (hb:b=g)=>by have:=HG.out;omega) HBX.out.size)).drew
        case measure=>simp [intOf];omega
  ·have e2:k=l.length:=by omega
   subst e2
   have cI:wr.cell? ⟨g,l.length - 1,none⟩=some (.int .u8 ((s (l.length - 1):Nat):Int)):=(HR.out (l.length - 1) (by omega)).1
   have HH:Hid (Has (s (l.length - 1)) (freeTop l)):=by
    have h9:=HS.out.1 (l.length - 1) (by omega)
    have e:((l.length - 1:Nat):Int)=(l.length:Int) - 1:=by omega
    rw [e] at h9
    exact h9
   have g1:(0:Int)<=(l.length:Int) - 1:=by omega
   have g2:(l.length:Int) - 1 < 80:=by omega
   go_wp2
   go_ret
   exact ⟨⟨_,rfl,HH.out⟩,HB.out⟩
end Pg9
namespace Aq14
open Nd0 Pl1 Tm0 Tm1 Tm6 Tm8 Tm11 Aq0 Aq1 Aq13
def rk (a b:List Nd) (u:Nat):Nat:=((List.range u).filter (lfB a b)).length
theorem rk_succ (a b:List Nd) (u:Nat):rk a b (u+1)=rk a b u+if lfB a b u then 1 else 0:=by
 unfold rk
 rw [List.range_succ,List.filter_append,List.length_append]
 cases h:lfB a b u<;>simp [h]
theorem rk_8 (a b:List Nd):rk a b 8=(lfL a b).length:=rfl
theorem rk_mono (a b:List Nd) {u v:Nat} (h:u<=v):rk a b u<=rk a b v:=by
 induction v with
 | zero=>have:u=0:=by omega
         subst this;exact Nat.le_refl _
 | succ v ih =>
   by_cases e:u=v+1
   ·subst e;exact Nat.le_refl _
   ·have:=ih (by omega)
    rw [rk_succ];omega
theorem rk_to (a b:List Nd) {u:Nat} (h:lfB a b u=true):∀ d,((List.range (u+1+d)).filter (lfB a b)).getD (rk a b u) 0=u:=by
 intro d
 induction d with
 | zero =>
   rw [Nat.add_zero,List.range_succ,List.filter_append]
   unfold rk
   rw [List.getD_eq_getElem?_getD,List.getElem?_append_right (Nat.le_refl _)]
   simp [h]
 | succ d ih =>
   rw [<- Nat.add_assoc,List.range_succ,List.filter_append]
   have h1:rk a b u < ((List.range (u+1+d)).filter (lfB a b)).length:=by
    have h2:=rk_mono a b (u:=u+1) (v:=u+1+d) (by omega)
    rw [rk_succ,h] at h2
    have h3:rk a b (u+1+d)=((List.range (u+1+d)).filter (lfB a b)).length:=rfl
    simp at h2
    omega
   rw [List.getD_eq_getElem?_getD,List.getElem?_append_left h1,<- List.getD_eq_getElem?_getD]
   exact ih
theorem lf_rk (a b:List Nd) {u:Nat} (hu:u < 8) (h:lfB a b u=true):(lfL a b).getD (rk a b u) 0=u:=by
 have:=rk_to a b h (7 - u)
 rw [show u+1+(7 - u)=8 by omega] at this
 exact this
def tkB (a b:List Nd) (j u:Nat):Bool := !lfB a b u||decide (rk a b u < j)
theorem tk_zero (a b:List Nd) (u:Nat):tkB a b 0 u=(numB a u||numB b u):=by
 unfold tkB lfB
 simp
theorem tk_least {a b:List Nd} {j:Nat}:∀ u,(∀ x,x < u->tkB a b j x=true)->rk a b u<=j:=by
 intro u
 induction u with
 | zero=>intro _;exact Nat.zero_le _
 | succ u ih =>
   intro h
   have h1:=h u (by omega)
   have h2:=ih (fun x hx=>h x (by omega))
   rw [rk_succ]
   unfold tkB at h1
   cases hl:lfB a b u
   ·simp;exact h2
   ·rw [hl] at h1
    simp at h1
    simp;omega
theorem tk_at {a b:List Nd} {j u:Nat} (h:∀ x,x < u->tkB a b j x=true) (hu:tkB a b j u=false):lfB a b u=true/\rk a b u=j:=by
 have h1:=tk_least u h
 unfold tkB at hu
 simp at hu
 exact ⟨hu.1,by omega⟩
theorem tk_set {a b:List Nd} {j u:Nat} (hl:lfB a b u=true) (hr:rk a b u=j) (x:Nat):tkB a b (j+1) x=if u=x then true else tkB a b j x:=by
 by_cases e:u=x
 ·subst e
  rw [if_pos rfl]
  unfold tkB
  rw [hr];simp
 ·rw [if_neg e]
  unfold tkB
  cases hx:lfB a b x
  ·rfl
  ·have h1:rk a b x≠j:=by
    intro h9
    by_cases hlt:u < x
    ·have h2:=rk_mono a b (u:=u+1) (v:=x) hlt
     rw [rk_succ,hl] at h2;simp at h2;omega
    ·have h2:=rk_mono a b (u:=x+1) (v:=u) (by omega)
     rw [rk_succ,hx] at h2;simp at h2;omega
   simp
   omega
def nwV (a b:List Nd) (v:Nat) (n:Nd):Nd:=if nmd n&&decide (n.k < (v:Int)) then nwN a b n else n
def tnTo (a b:List Nd) (v:Nat):List Nd:=b.map (nwV a b v)
theorem tn_len (a b:List Nd) (v:Nat):(tnTo a b v).length=b.length:=by unfold tnTo;rw [List.length_map]
def Nmk (l:List Nd):Prop:=∀ n∈l,nmd n=true->∃ k:Nat,n.k=(k:Int)/\k<=7
theorem nmk_of {l:List Nd} (h:termOk l=true):Nmk l:=by
 intro n hn hm
 obtain ⟨i,hi,rfl⟩:=List.getElem_of_mem hn
 rw [nth_get hi] at hm ⊢
 refine Pg9.var_of (term_node h hi) ?_
 unfold nmd at hm
 simp only [Bool.or_eq_true,beq_iff_eq] at hm
 exact hm
theorem tn_zero {a b:List Nd} (h:Nmk b):tnTo a b 0=b:=by
 unfold tnTo
 have:∀ n∈b,nwV a b 0 n=n:=fun n hn=>by
  unfold nwV
  cases hm:nmd n
  ·rfl
  ·obtain ⟨k,hk, -⟩:=h n hn hm
   rw [hk,decide_eq_false (by omega)];rfl
 rw [List.map_congr_left this,List.map_id']
theorem tn_all {a b:List Nd} (h:Nmk b):tnTo a b 8=b.map (nwN a b):=by
 unfold tnTo
 refine List.map_congr_left fun n hn=>?_
 unfold nwV
 cases hm:nmd n
 ·unfold nwN;rw [hm];rfl
 ·obtain ⟨k,hk,h7⟩:=h n hn hm
  rw [hk,decide_eq_true (by omega)];rfl
theorem tn_skip {a b:List Nd} (h:Nmk b) {v:Nat} (hv:shB a b v=false):tnTo a b (v+1)=tnTo a b v:=by
 unfold tnTo
 refine List.map_congr_left fun n hn=>?_
 unfold nwV
 cases hm:nmd n
 ·rfl
 ·obtain ⟨k,hk,h7⟩:=h n hn hm
  by_cases e:k=v
  ·subst e
   have e2:nwN a b n=n:=by
    unfold nwN nwK
    rw [hm,hk,Int.toNat_natCast,hv]
    cases n
    simp at hk ⊢
    exact hk.symm
   rw [e2]
   split<;>split<;>rfl
  ·have e3:decide (n.k < ((v+1:Nat):Int))=decide (n.k < (v:Int)):=by
    rw [hk]
    by_cases hlt:k < v
    ·rw [decide_eq_true (by omega),decide_eq_true (by omega)]
    ·rw [decide_eq_false (by omega),decide_eq_false (by omega)]
   rw [e3]
theorem nwK_ne {a b:List Nd} {v k:Nat} (hv:shB a b v=true) (hk:k≠v) (he:(shTo a b k).length < (lfL a b).length):nwK a b k≠v:=by
 unfold nwK
 split
 ·rw [List.getD_eq_getElem?_getD,List.getElem?_eq_getElem he]
  have h2:=(lfL_at a b he).2
  intro e
  simp only [Option.getD_some] at e
  rw [e] at h2
  unfold lfB at h2
  unfold shB at hv
  simp at h2 hv
  rw [hv.1] at h2
  cases h2.1
 ·exact hk
theorem tn_turn {a b:List Nd} (h:Nmk b) {v u:Nat} (hv:shB a b v=true) (hu:(lfL a b).getD (shTo a b v).length 0=u) (hl:(shTo a b v).length < (lfL a b).length):renL (tnTo a b v) (v:Int) (u:Int)=tnTo a b (v+1):=by
 unfold tnTo renL
 rw [List.map_map]
 refine List.map_congr_left fun n hn=>?_
 show renN (v:Int) (u:Int) (nwV a b v n)=_
 unfold nwV
 cases hm:nmd n
 ·simp only [Bool.false_and,Bool.false_eq_true,if_false]
  unfold renN
  rw [hm];rfl
 ·obtain ⟨k,hk,h7⟩:=h n hn hm
  simp only [Bool.true_and]
  by_cases e:k=v
  ·subst e
   rw [hk,if_neg (by simp),if_pos (by simp;omega)]
   unfold renN nwN nwK
   rw [hm,hk,Int.toNat_natCast,hv,hu]
   simp
  ·by_cases hlt:k < v
   ·rw [hk,if_pos (by simpa using hlt),if_pos (by simp;omega)]
    have h3:nwK a b k≠v:=nwK_ne hv e (Nat.lt_of_le_of_lt (shTo_mono a b (by omega)) hl)
    unfold renN nwN
    rw [hm,hk,Int.toNat_natCast]
    simp only [if_true]
    rw [if_neg]
    intro h9
    simp only [Bool.and_eq_true,beq_iff_eq] at h9
    exact h3 (by omega)
   ·rw [hk,if_neg (by simp;omega),if_neg (by simp;omega)]
    unfold renN
    rw [hm,hk,if_neg]
    simp
    omega
end Aq14
end Go.Proofs.YtbellafdjfliiaaGreat
