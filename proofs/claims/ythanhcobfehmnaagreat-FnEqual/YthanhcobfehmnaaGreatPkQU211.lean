import Derived.Test.YthanhcobfehmnaaGreatSp8
namespace Go.Proofs.YthanhcobfehmnaaGreat
set_option maxRecDepth 100000
set_option maxHeartbeats 8000000
set_option linter.unusedVariables false
namespace Sp9
open Go.RowKit
open Nd0 Nd1 Tm0 Tm1 Tm4 Ap0 Ap1 Sp2 Sp4 Sp8
theorem ows_empty {w:World} {B b:Nat} (h:Ows w B (.slice (some ⟨b,0,none⟩) 0 0) []) (x:Nat):w.cell? ⟨b,x,none⟩=none:=by
 rcases h.2 with ⟨h0,_⟩|⟨g,cap,cur,hv,hb,hg,hn,hm,hs,ht⟩
 ·cases h0
 ·simp only [Value.slice.injEq,Option.some.injEq,Addr.mk.injEq] at hv
  obtain ⟨⟨rfl,_⟩,_,rfl⟩:=hv
  rw [cell_of_row w b x cur _ _ hg]
  have:cur.size=0:=by simpa using hs
  simp [this]
theorem sFree (w:World) (a:Option Addr) (l:List Nd) (c:Nat) (hN:Nodes w a l) :
 Calls Tryz.prog 79 #[.slice a l.length c] w fun e w'=>(∃ v,e=.returned v/\Ows w' w.heap.size v (freeL l))/\Below w.heap.size w w':=by
 have HN:Hid (Nodes w a l):=hN
 clear hN
 have hlit:Ows (w.alloc (.cells #[] 3)) w.heap.size (.slice (some ⟨w.heap.size,0,none⟩) 0 0) []:=Ows.lit w _ (Nat.le_refl _)
 have HLIT:Hid (Ows (w.alloc (.cells #[] 3)) w.heap.size (.slice (some ⟨w.heap.size,0,none⟩) 0 0) []):=hlit
 clear hlit
 have HB0:Hid (Below w.heap.size w (w.alloc (.cells #[] 3))):=(Below.refl _ _).alloc (Nat.le_refl _) _
 cases hT:termOk l
 ·have HR:Hid (freeL l=[]):=by show freeL l=[];simp [freeL,hT]
  go_enter Tryz.func79,Tryz.ntmps79
  go_wp2_with fail
  refine (sTermOk _ a l c (HN.out.below HB0.out)).mono ?_
  rintro e w1 ⟨rfl,hb1⟩
  have HB1:Hid (Below (w.alloc (.cells #[] 3)).heap.size (w.alloc (.cells #[] 3)) w1):=hb1
  clear hb1
  go_wp2
  go_ret
  refine ⟨⟨_,rfl,?_⟩,HB0.out.trans (HB1.out.mono HB0.out.size)⟩
  rw [HR.out]
  exact HLIT.out.kept (S:=fun _=>False) (Kept.ofBelow HB1.out) (fun _ _ h=>h)
 ·have HR:Hid (freeL l=freeTo l 8):=by show freeL l=_;simp [freeL,hT]
  have HT:Hid (termOk l=true):=hT
  obtain ⟨hl1,hl2⟩:=term_len hT
  go_enter Tryz.func79,Tryz.ntmps79
  go_wp2_with fail
  refine (sTermOk _ a l c (HN.out.below HB0.out)).mono ?_
  rintro e w1 ⟨rfl,hb1⟩
  have HO1:Hid (Ows w1 w.heap.size (.slice (some ⟨w.heap.size,0,none⟩) 0 0) []):=HLIT.out.kept (S:=fun _=>False) (Kept.ofBelow hb1) (fun _ _ h=>h)
  have HB1:Hid (Below w.heap.size w w1):=HB0.out.trans (hb1.mono HB0.out.size)
  have hs1:w.heap.size < w1.heap.size:=by have:=hb1.size;simp at this;omega
  clear hb1
  go_wp2_with fail
  refine (sFreeTop _ a l c (HN.out.below HB1.out) HT.out).mono ?_
  rintro e w2 ⟨⟨gi,ci,rfl,hg2,hci⟩,hb2⟩
  have HO2:Hid (Ows w2 w.heap.size (.slice (some ⟨w.heap.size,0,none⟩) 0 0) []):=HO1.out.kept (S:=fun _=>False) (Kept.ofBelow hb2) (fun _ _ h=>h)
  have HB2:Hid (Below w.heap.size w w2):=HB1.out.trans (hb2.mono HB1.out.size)
  have HCI:Hid (∀ x,x < 8->w2.cell? ⟨gi,x,none⟩=some (.bool (flag (freeTop l) x))):=hci
  have hgn:gi≠w.heap.size:=by
   intro e
   have h9:=hci 0 (by omega)
   rw [e,ows_empty HO2.out] at h9
   cases h9
  clear hb2 hT hci
  go_wp2_with fail
  go_loopw [3,5] (fun v q wr=>∃ k:Nat,k<=8/\q=.int .i64 k/\Below w.heap.size w wr/\gi < wr.heap.size/\(∀ x,x < 8->wr.cell? ⟨gi,x,none⟩=some (.bool (flag (freeTop l) x)))/\Ows wr w.heap.size v (freeTo l k)/\(∀ b,v.ownBlock=some b->b≠gi)) (fun _ q _=>8 - (intOf q).toNat)
  case atStart =>
   refine ⟨0,Nat.zero_le _,rfl,HB2.out,hg2,HCI.out,HO2.out,fun b hb=>?_⟩
   have:b=w.heap.size:=by simpa [Value.ownBlock] using hb.symm
   omega
  case round =>
   obtain ⟨k,hk,rfl,hb,hgw,hci,how,hne⟩:=hrel
   have HB:Hid (Below w.heap.size w wr):=hb
   have HI:Hid (∀ x,x < 8->wr.cell? ⟨gi,x,none⟩=some (.bool (flag (freeTop l) x))):=hci
   have HO:Hid (Ows wr w.heap.size u3 (freeTo l k)):=how
   have HNE:Hid (∀ b,u3.ownBlock=some b->b≠gi):=hne
   have hBs:w.heap.size<=wr.heap.size:=hb.size
   clear hb how hne
   by_cases hlt:k < 8
   ·have hlz:(k:Int) < 8:=by omega
    have cI:=hci k hlt
    clear hci
    have hrl:=freeTo_length l k
    have HSC:Hid (freeTo l (k+1)=if flag (freeTop l) k then freeTo l k++[(k:Int)] else freeTo l k):=freeTo_succ l k
    cases hf:flag (freeTop l) k
    ·rw [hf] at cI
     go_wp2
     go_roundw
     case rel =>
      refine ⟨k+1,by omega,by go_num,HB.out,hgw,HI.out,?_,HNE.out⟩
      have h9:=HSC.out
      rw [hf] at h9
      rw [h9]
      exact HO.out
     case measure=>simp [intOf];omega
    ·rw [hf] at cI
     go_wp2_with (at_builtin;go_must (refine app_int _ rfl _ _ rfl w.heap.size u3 (freeTo l k) (k:Int) rfl rfl HO.out hBs (by omega) ?_;intro g cp w3 ho3 hk3 hg3))
     have HO3:Hid (Ows w3 w.heap.size (.slice (some ⟨g,0,none⟩) ((freeTo l k).length+1) cp) (freeTo l k++[(k:Int)])):=ho3
     have HK3:Hid (Kept (fun b=>u3.ownBlock=some b) wr w3):=hk3
     have HG3:Hid (u3.ownBlock=some g\/wr.heap.size<=g):=hg3
     clear ho3 hk3 hg3
     go_wp2
     go_roundw
     case rel =>
      refine ⟨k+1,by omega,by go_num,HB.out.trans (HK3.out.below (fun b hb=>(HO.out.lt b hb).1) hBs),Nat.lt_of_lt_of_le hgw HK3.out.size,(fun x hx=>by rw [HK3.out.cell (p:=⟨gi,x,none⟩) hgw (fun h=>HNE.out gi h rfl)];exact HI.out x hx),?_,?_⟩
      ·have h9:=HSC.out
       rw [hf] at h9
       rw [h9]
       exact HO3.out
      ·intro b hb
       have e:b=g:=by simpa [Value.ownBlock] using hb.symm
       subst e
       rcases HG3.out with h|h
       ·exact HNE.out _ h
       ·omega
     case measure=>simp [intOf];omega
   ·have e:k=8:=by omega
    subst e
    go_wp2
    go_ret
    exact ⟨⟨_,rfl,by rw [HR.out];exact HO.out⟩,HB.out⟩
end Sp9
namespace Tm5
open Nd0 Pl1 Tm0 Tm1
def quant (op:Int):Bool:=op==19||op==20
def outer (op:Int):Bool:=op==2||op==3||op==4||quant op
def below (bs:List Bool) (ps:List Int):Bool:=ps.any fun p=>flag bs p.toNat
def holdTo (l:List Nd):Nat->List Bool
 | 0=>[]
 | k+1=>holdTo l k++[quant (nth l k).op||below (holdTo l k) (parts (nth l k))]
theorem holdTo_length (l:List Nd) (k:Nat):(holdTo l k).length=k:=by
 induction k with
 | zero=>rfl
 | succ k ih=>show (holdTo l k++[_]).length=_;rw [List.length_append,ih];rfl
theorem below_take (bs:List Bool) (ps:List Int) (k:Nat) (h:k < ps.length):below bs (ps.take (k+1))=(below bs (ps.take k)||flag bs (ps[k]).toNat):=by
 unfold below
 rw [List.take_succ_eq_append_getElem h,List.any_append]
 simp
end Tm5
namespace Sp10
open Go.RowKit
open Nd0 Nd1 Tm0 Tm1 Tm5 Ap1 Sp2
open Sp7 (nodeAt_of)
theorem sQuant (op:Int) (w:World) :
 Calls Tryz.prog 28 #[.int .i64 op] w fun e w'=>e=.returned (.bool (quant op))/\w'=w:=by
 cases h1:(op==19)<;>cases h2:(op==20)
 all_goals
  go_enter Tryz.func28,Tryz.ntmps28
  go_wp2
  go_ret
  exact ⟨ret_bool (by unfold quant;rw [h1,h2];rfl),rfl⟩
theorem sOuter (op:Int) (w:World) :
 Calls Tryz.prog 114 #[.int .i64 op] w fun e w'=>e=.returned (.bool (outer op))/\w'=w:=by
 cases h1:(op==2)<;>cases h2:(op==3)<;>cases h3:(op==4)
 all_goals
  go_enter Tryz.func114,Tryz.ntmps114
  go_wp2_with (go_at_call 28;refine (sQuant _ _).mono ?_;rintro e w' ⟨rfl,rfl⟩)
  go_ret
  exact ⟨ret_bool (by unfold outer;rw [h1,h2,h3];rfl),rfl⟩
theorem sHolder (w:World) (a:Option Addr) (l:List Nd) (c:Nat) (hN:Nodes w a l) (hT:termOk l=true) :
 Calls Tryz.prog 113 #[.slice a l.length c] w fun e w'=>(∃ v,e=.returned v/\Owb w' w.heap.size v (holdTo l l.length))/\Below w.heap.size w w':=by
 have HN:Hid (Nodes w a l):=hN
 have HT:Hid (termOk l=true):=hT
 obtain ⟨hl1,hl2⟩:=term_len hT
 rcases hN.2 with h0|⟨xb,xo,rfl,hxc⟩
 ·omega
 clear hN hT hxc
 go_enter Tryz.func113,Tryz.ntmps113
 go_wp2
 go_loopw [3,4] (fun vo q wr=>∃ k:Nat,k<=l.length/\q=.int .i64 k/\Below w.heap.size w wr/\∃ go co,vo=.slice (some ⟨go,0,none⟩) k co/\Owb wr w.heap.size vo (holdTo l k)) (fun _ q _=>l.length - (intOf q).toNat)
 case atStart=>exact ⟨0,Nat.zero_le _,rfl,(Below.refl _ _).alloc (Nat.le_refl _) _,_,_,rfl,Owb.lit w _ (Nat.le_refl _)⟩
 case round =>
  obtain ⟨k,hk,rfl,hb,go,co,rfl,hoo⟩:=hrel
  have HB:Hid (Below w.heap.size w wr):=hb
  have HO:Hid (Owb wr w.heap.size (.slice (some ⟨go,0,none⟩) k co) (holdTo l k)):=hoo
  have hbs:w.heap.size<=wr.heap.size:=hb.size
  have hhl:(holdTo l k).length=k:=holdTo_length l k
  by_cases hlt:k < l.length
  ·have hlz:(k:Int) < (l.length:Int):=by omega
   have HSC:Hid (holdTo l (k+1)=holdTo l k++[quant (nth l k).op||below (holdTo l k) (parts (nth l k))]):=rfl
   have HPO0:=parts_ok (term_node HT.out hlt)
   obtain ⟨p0,p1,p2,p3,p4,p5⟩:=nodeAt_of (HN.out.below hb) hlt
   clear hb hoo
   generalize holdTo l k=bs at HO HSC hhl
   generalize nth l k=n at HSC HPO0 p0 p1 p2 p3 p4 p5
   have HPO:Hid (∀ j (hj:j < (parts n).length),0<=(parts n)[j]/\(parts n)[j] < k):=HPO0
   clear HPO0
   obtain ⟨wi,rfl⟩:∃ wi:World,wi=wr:=⟨_,rfl⟩
   go_wp2_with fail
   refine (sQuant n.op _).mono ?_
   rintro e wj ⟨rfl,rfl⟩
   go_wp2_with fail
   refine (sParts n _).mono ?_
   rintro e w4 ⟨⟨pa,pc,rfl,hpi⟩,hb4⟩
   have HP:Hid (WInts w4 wj.heap.size pa (parts n)):=hpi
   have HB4:Hid (Below w.heap.size w w4):=HB.out.trans (hb4.mono hbs)
   have HO4:Hid (Owb w4 w.heap.size (.slice (some ⟨go,0,none⟩) k co) bs):=HO.out.kept (S:=fun _=>False) (Kept.ofBelow hb4) (fun _ _ h=>h)
   have hs4:w.heap.size<=w4.heap.size:=HB4.out.size
   clear hpi hb4 p0 p1 p2 p3 p4 p5
   have hpl:=parts_le n
   go_wp2_with fail
   go_loop [5,7] (fun f q=>∃ j:Nat,j<=(parts n).length/\q=.int .i64 j/\f=.bool (quant n.op||below bs ((parts n).take j))) (fun _ q=>(parts n).length - (intOf q).toNat)
   case atStart=>exact ⟨0,Nat.zero_le _,rfl,by rw [List.take_zero];simp [below]⟩
   case round =>
    obtain ⟨j,hj,rfl,rfl⟩:=hrel
    by_cases hlj:j < (parts n).length
    ·have hljz:(j:Int) < ((parts n).length:Int):=by omega
     have HST:Hid (below bs ((parts n).take (j+1))=(below bs ((parts n).take j)||flag bs ((parts n)[j]).toNat)):=below_take bs (parts n) j hlj
     cases hcur:(quant n.op||below bs ((parts n).take j))
     ·rcases HP.out.2 with h0|⟨pb,po,rfl,hpB,hpc⟩
      ·omega
      have r0:=(hpc j hlj).1
      obtain ⟨hx0,hx1⟩:=HPO.out j hlj
      clear hpc
      generalize (parts n)[j]=x at r0 hx0 hx1 HST
      have r2:=(HO4.out.cell' hhl x.toNat (by omega)).1
      rw [flag_get] at r2
      have hxz:x < (k:Int):=hx1
      go_wp2
      go_round
      case rel =>
       refine ⟨j+1,by omega,by go_num,?_⟩
       rw [HST.out,<- Bool.or_assoc,hcur];rfl
      case measure=>simp [intOf];omega
     ·go_wp2
      go_round
      case rel =>
       refine ⟨j+1,by omega,by go_num,?_⟩
       rw [HST.out,<- Bool.or_assoc,hcur];rfl
      case measure=>simp [intOf];omega
    ·have ej:j=(parts n).length:=by omega
     subst ej
     rw [List.take_length]
     go_wp2_with (at_builtin;go_must (refine app_bool _ rfl _ _ rfl w.heap.size (.slice (some ⟨go,0,none⟩) k co) bs _ rfl rfl HO4.out hs4 (by omega) ?_;intro g cp w5 ho5 hk5 hg5))
     have HO5:Hid (Owb w5 w.heap.size (.slice (some ⟨g,0,none⟩) (bs.length+1) cp) (bs++[quant n.op||below bs (parts n)])):=ho5
     have HB5:Hid (Below w.heap.size w w5):=HB4.out.trans (hk5.below (fun b hb=>(HO4.out.lt b hb).1) hs4)
     clear ho5 hk5 hg5
     go_wp2
     go_roundw
     case rel =>
      refine ⟨k+1,by omega,by go_num,HB5.out,g,cp,rfl,?_⟩
      rw [HSC.out]
      have h9:=HO5.out
      rw [hhl] at h9
      exact h9
     case measure=>simp [intOf];omega
  ·have e:k=l.length:=by omega
   subst e
   clear hoo
   go_wp2
   go_ret
   exact ⟨⟨_,rfl,HO.out⟩,HB.out⟩
end Sp10
namespace Rw0
open Go.RowKit
open Nd0
def Row (w:World) (g n:Nat) (f:Nat->Value):Prop:=∀ i,i < n->w.cell? ⟨g,i,none⟩=some (f i)/\w.frozen? ⟨g,i,none⟩=false
theorem Row.set {w:World} {g n:Nat} {f:Nat->Value} (h:Row w g n f) {p:Nat} (hp:p < n) (v:Value):Row (w.setCell ⟨g,p,none⟩ v) g n (fun i=>if i=p then v else f i):=by
 intro i hi
 by_cases e:i=p
 ·subst e
  dsimp only
  rw [if_pos rfl]
  exact ⟨set_same (h i hi).1,by simp only [World.frozen?_setCell];exact (h i hi).2⟩
 ·dsimp only
  rw [if_neg e]
  exact ⟨by rw [set_other (by intro x;cases x;exact e rfl)];exact (h i hi).1,by simp only [World.frozen?_setCell];exact (h i hi).2⟩
theorem Row.kept {w w':World} {g n:Nat} {f:Nat->Value} (h:Row w g n f) {S:Nat->Prop} (k:Kept S w w') (hs:¬ S g):Row w' g n f:=fun i hi =>
 ⟨by rw [k.cell (p:=⟨g,i,none⟩) (lt_of_cell (h i hi).1) hs];exact (h i hi).1,by rw [k.frozen (p:=⟨g,i,none⟩) (lt_of_cell (h i hi).1) hs];exact (h i hi).2⟩
theorem Row.below {w w':World} {g n:Nat} {f:Nat->Value} (h:Row w g n f) (k:Below w.heap.size w w'):Row w' g n f:=h.kept (S:=fun _=>False) (Kept.ofBelow k) (fun h=>h)
theorem Row.congr {w:World} {g n:Nat} {f f':Nat->Value} (h:Row w g n f) (e:∀ i,i < n->f i=f' i):Row w g n f':=fun i hi=>by rw [<- e i hi];exact h i hi
theorem Row.new (w:World) (cs:Array Value) (T n:Nat) (f:Nat->Value) (h:∀ i,i < n->cs[i]? = some (f i)):Row (w.alloc (.cells cs T)) w.heap.size n f:=by
 intro i hi
 refine ⟨?_,by simp⟩
 rw [World.cell?_alloc_new]
 exact h i hi
theorem Row.drew {w:World} {g n:Nat} {f:Nat->Value} (h:Row w g n f):Row w.drew g n f:=fun i hi=>h i hi
theorem Row.lt {w:World} {g n:Nat} {f:Nat->Value} (h:Row w g n f) (hn:0 < n):g < w.heap.size:=lt_of_cell (p:=⟨g,0,none⟩) (h 0 hn).1
end Rw0
namespace Tm6
open Nd0 Pl1 Tm0 Tm1 Tm4 Tm5
def wd (ws:List Int) (p:Int):Int:=ws.getD p.toNat 0
theorem wd_get {ws:List Int} {i:Nat} (h:i < ws.length):ws[i]=wd ws (i:Int):=by simp [wd,List.getD,h]
def qStep (l:List Nd) (ws:List Int) (k:Nat):Option (List Int) :=
 if flag (reachL l) k&&quant (nth l k).op then (if wd ws (nth l k).k=0 then some (ws.set (nth l k).k.toNat (nth l k).b) else none) else some ws
def quantsTo (l:List Nd):Nat->Option (List Int)
 | 0=>some (List.replicate 8 0)
 | k+1=>(quantsTo l k).bind fun ws=>qStep l ws k
def badNode (l:List Nd) (ws:List Int) (k:Nat):Bool :=
 ((nth l k).op==1&&wd ws (nth l k).k != (nth l k).w)||(flag (holdTo l l.length) k && !outer (nth l k).op)
def addUses (us:List Int) (ps:List Int):List Int:=ps.foldl (fun u p=>u.set p.toNat (wd u p+1)) us
def uStep (l:List Nd) (ws us:List Int) (k:Nat):Option (List Int) :=
 if flag (reachL l) k then (if badNode l ws k then none else some (addUses us (parts (nth l k)))) else some us
def usesTo (l:List Nd) (ws:List Int):Nat->Option (List Int)
 | 0=>some (List.replicate l.length 0)
 | k+1=>(usesTo l ws k).bind fun us=>uStep l ws us k
def twice (l:List Nd) (us:List Int) (k:Nat):Bool:=(List.range k).any fun i=>flag (reachL l) i&&flag (holdTo l l.length) i&&decide (1 < wd us (i:Int))
def sentB (l:List Nd):Bool :=
 termOk l&&decide ((nth l (l.length - 1)).w=1)&&decide ((freeL l).length=0) &&
  match quantsTo l l.length with
  | none=>false
  | some ws=>match usesTo l ws l.length with
    | none=>false
    | some us => !twice l us l.length
theorem quants_none {l:List Nd} {k:Nat} (h:quantsTo l k=none):∀ j,k<=j->quantsTo l j=none:=by
 intro j hj
 induction j with
 | zero=>have:k=0:=by omega
         subst this;exact h
 | succ j ih =>
   by_cases e:k=j+1
   ·subst e;exact h
   ·show (quantsTo l j).bind _=none
    rw [ih (by omega)];rfl
theorem uses_none {l:List Nd} {ws:List Int} {k:Nat} (h:usesTo l ws k=none):∀ j,k<=j->usesTo l ws j=none:=by
 intro j hj
 induction j with
 | zero=>have:k=0:=by omega
         subst this;exact h
 | succ j ih =>
   by_cases e:k=j+1
   ·subst e;exact h
   ·show (usesTo l ws j).bind _=none
    rw [ih (by omega)];rfl
theorem quants_succ {l:List Nd} {k:Nat} {ws:List Int} (h:quantsTo l k=some ws):quantsTo l (k+1)=qStep l ws k:=by
 show (quantsTo l k).bind _=_;rw [h];rfl
theorem uses_succ {l:List Nd} {k:Nat} {ws us:List Int} (h:usesTo l ws k=some us):usesTo l ws (k+1)=uStep l ws us k:=by
 show (usesTo l ws k).bind _=_;rw [h];rfl
theorem sent_term {l:List Nd} (h:termOk l=false):sentB l=false:=by unfold sentB;rw [h];rfl
theorem sent_root {l:List Nd} (h:¬ (nth l (l.length - 1)).w=1):sentB l=false:=by unfold sentB;rw [decide_eq_false h];simp
theorem sent_free {l:List Nd} (h:¬ (freeL l).length=0):sentB l=false:=by unfold sentB;rw [decide_eq_false h];simp
theorem sent_quants {l:List Nd} {k:Nat} (hk:k<=l.length) (h:quantsTo l k=none):sentB l=false:=by
 unfold sentB;rw [quants_none h _ hk];simp
theorem sent_uses {l:List Nd} {k:Nat} {ws:List Int} (hk:k<=l.length) (hw:quantsTo l l.length=some ws) (h:usesTo l ws k=none):sentB l=false:=by
 unfold sentB;rw [hw];simp only;rw [uses_none h _ hk];simp
theorem sent_twice {l:List Nd} {ws us:List Int} (h1:termOk l=true) (h2:(nth l (l.length - 1)).w=1) (h3:(freeL l).length=0) (hw:quantsTo l l.length=some ws) (hu:usesTo l ws l.length=some us):sentB l = !twice l us l.length:=by
 unfold sentB;rw [h1,decide_eq_true h2,decide_eq_true h3,hw];simp only;rw [hu];simp
theorem shape_var {l:List Nd} {k:Nat} (h:nodeOk l k=true):((nth l k).op=1\/quant (nth l k).op=true)->0<=(nth l k).k/\(nth l k).k<=7:=by
 intro hop
 simp only [nodeOk,Bool.and_eq_true] at h
 have hs:=h.2
 unfold shapeOk at hs
 rcases hop with h1|h1
 ·rw [if_neg (by omega),if_pos h1] at hs
  simp at hs;omega
 ·have h2:(nth l k).op=19\/(nth l k).op=20:=by simpa [quant] using h1
  rw [if_neg (by omega),if_neg (by omega),if_neg (by omega),if_neg (by omega),if_neg (by omega),if_neg (by omega),if_neg (by omega),if_neg (by omega),if_pos h2] at hs
  simp at hs;omega
end Tm6
namespace Rw1
open Go.RowKit
open Nd0 Tm1 Tm6 Ap0 Ap1 Rw0
theorem row_bools {w:World} {B:Nat} {v:Value} {l:List Bool} (h:Owb w B v l) (hl:1<=l.length):∃ g c,v=.slice (some ⟨g,0,none⟩) l.length c/\B<=g/\g < w.heap.size/\Row w g l.length (fun i=>.bool (flag l i)):=by
 obtain ⟨g,c,rfl,h1,h2⟩:=h.at hl
 refine ⟨g,c,rfl,h1,h2,fun i hi=>?_⟩
 have h9:=h.cell i hi
 rw [flag_get] at h9
 exact h9
theorem row_ints {w:World} {B:Nat} {v:Value} {l:List Int} (h:Ows w B v l) (hl:1<=l.length):∃ g c,v=.slice (some ⟨g,0,none⟩) l.length c/\B<=g/\g < w.heap.size/\Row w g l.length (fun i=>.int .i64 (wd l (i:Int))):=by
 have hlt:=h.lt
 obtain ⟨h1,h2⟩:=h
 rcases h2 with ⟨rfl,h0⟩|⟨g,cap,cur,rfl,hb,hg,hn,hm,hs,ht⟩
 ·omega
 ·refine ⟨g,cap,rfl,hb,(hlt g rfl).2,fun i hi=>⟨?_,by simp [World.frozen?,hg]⟩⟩
  rw [cell_of_row w g i cur _ _ hg]
  have e:(cur.toList.take (l.length*1))[i]? = some (.int .i64 l[i]):=by rw [ht];simp [hi]
  rw [List.getElem?_take_of_lt (by omega)] at e
  rw [wd_get hi] at e
  simpa using e
theorem wd_set {us:List Int} {i:Nat} (h:i < us.length) (x:Int) (j:Nat):wd (us.set i x) (j:Int)=if j=i then x else wd us (j:Int):=by
 by_cases e:j=i
 ·subst e;simp [wd,List.getD,h]
 ·have e':¬ i=j:=fun x=>e x.symm
  simp [wd,List.getD,e,e']
theorem row_set_int {w:World} {g n:Nat} {us:List Int} (h:Row w g n (fun i=>.int .i64 (wd us (i:Int)))) (hn:us.length=n) {p:Nat} (hp:p < n) (x:Int):Row (w.setCell ⟨g,p,none⟩ (.int .i64 x)) g n (fun i=>.int .i64 (wd (us.set p x) (i:Int))):=by
 refine (h.set hp _).congr (fun i hi=>?_)
 rw [wd_set (by omega)]
 by_cases e:i=p
 ·rw [if_pos e,if_pos e]
 ·rw [if_neg e,if_neg e]
end Rw1
namespace Tm9
open Nd0 Pl1 Tm0 Tm1 Tm4 Tm5 Tm6 Rw1
theorem addUses_length (ps:List Int):∀ us:List Int,(addUses us ps).length=us.length:=by
 induction ps with
 | nil=>intro us;rfl
 | cons p ps ih=>intro us;show (addUses (us.set p.toNat (wd us p+1)) ps).length=_;rw [ih,List.length_set]
theorem uses_length {l:List Nd} {ws:List Int}:∀ {k:Nat} {us:List Int},usesTo l ws k=some us->us.length=l.length:=by
 intro k
 induction k with
 | zero=>intro us h;cases h;simp
 | succ k ih =>
   intro us h
   cases hu:usesTo l ws k with
   | none=>rw [uses_none hu _ (Nat.le_succ _)] at h;cases h
   | some u0 =>
     rw [uses_succ hu] at h
     unfold uStep at h
     split at h
     ·split at h
      ·cases h
      ·cases h;rw [addUses_length];exact ih hu
     ·cases h;exact ih hu
def Upto (us:List Int) (B:Int):Prop:=∀ p:Int,0<=wd us p/\wd us p<=B
theorem upto_zero (n:Nat):Upto (List.replicate n 0) 0:=by
 intro p
 have:wd (List.replicate n 0) p=0:=by
  unfold wd;rw [List.getD_eq_getElem?_getD]
  rcases Nat.lt_or_ge p.toNat n with h|h
  ·rw [List.getElem?_replicate,if_pos h];rfl
  ·rw [List.getElem?_replicate,if_neg (by omega)];rfl
 rw [this];exact ⟨Int.le_refl _,Int.le_refl _⟩
theorem upto_mono {us:List Int} {B C:Int} (h:Upto us B) (hc:B<=C):Upto us C:=fun p=>⟨(h p).1,Int.le_trans (h p).2 hc⟩
theorem wd_toNat (us:List Int) (q:Int):wd us q=wd us ((q.toNat:Nat):Int):=by unfold wd;rw [Int.toNat_natCast]
theorem upto_set {us:List Int} {B:Int} (h:Upto us B) (p:Nat):Upto (us.set p (wd us (p:Int)+1)) (B+1):=by
 intro q
 have hq:=h q
 have hp:=h (p:Int)
 by_cases hl:p < us.length
 ·have e:=wd_toNat (us.set p (wd us (p:Int)+1)) q
  have e2:=wd_toNat us q
  rw [e,wd_set hl]
  split
  ·omega
  ·rw [<- e2];omega
 ·rw [List.set_eq_of_length_le (by omega)];omega
theorem twice_succ (l:List Nd) (us:List Int) (k:Nat):twice l us (k+1)=(twice l us k||(flag (reachL l) k&&flag (holdTo l l.length) k&&decide (1 < wd us (k:Int)))):=by
 unfold twice
 rw [List.range_succ,List.any_append]
 simp
theorem twice_found {l:List Nd} {us:List Int} {k n:Nat} (h:k < n) (h1:flag (reachL l) k=true) (h2:flag (holdTo l l.length) k=true) (h3:1 < wd us (k:Int)):twice l us n=true:=by
 unfold twice
 rw [List.any_eq_true]
 exact ⟨k,List.mem_range.2 h,by rw [h1,h2];simpa using h3⟩
end Tm9
end Go.Proofs.YthanhcobfehmnaaGreat
