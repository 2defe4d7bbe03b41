import Derived.Test.YtebejleeadofcaaGreatPkFR9
import Derived.Test.YtebejleeadofcaaGreatSp8
import Derived.Test.YtebejleeadofcaaGreatSp7
import Derived.Test.YtebejleeadofcaaGreatAp3
import Derived.Test.YtebejleeadofcaaGreatPkFR2
namespace Go.Proofs.YtebejleeadofcaaGreat
set_option maxRecDepth 100000
set_option maxHeartbeats 8000000
set_option linter.unusedVariables false
namespace Sp9
open Go.RowKit
open Nd0 Nd1 Tm0 Tm1 Tm4 Ap0 Ap1 Sp2 Sp4 Sp8
theorem ows_empty {w:World} {B b:Nat} (h:Ows w B (.slice (some ⟨b,0,none⟩) 0 0) []) (x:Nat):w.cell? ⟨b,x,none⟩=none:=by
 rcases h.2 with ⟨h0,_⟩|⟨g,cap,cur,hv,hb,hg,hn,hm,hs,ht⟩
 ·cases h0
 ·simp only [Value.slice.injEq,Option.some.injEq,Addr.mk.injEq] at hv
  obtain ⟨⟨rfl,_⟩,_,rfl⟩:=hv
  rw [cell_of_row w b x cur _ _ hg]
  have:cur.size=0:=by simpa using hs
  simp [this]
theorem sFree (w:World) (a:Option Addr) (l:List Nd) (c:Nat) (hN:Nodes w a l) :
 Calls Tryz.prog 53 #[.slice a l.length c] w fun e w'=>(∃ v,e=.returned v/\Ows w' w.heap.size v (freeL l))/\Below w.heap.size w w':=by
 have HN:Hid (Nodes w a l):=hN
 clear hN
 have hlit:Ows (w.alloc (.cells #[] 3)) w.heap.size (.slice (some ⟨w.heap.size,0,none⟩) 0 0) []:=Ows.lit w _ (Nat.le_refl _)
 have HLIT:Hid (Ows (w.alloc (.cells #[] 3)) w.heap.size (.slice (some ⟨w.heap.size,0,none⟩) 0 0) []):=hlit
 clear hlit
 have HB0:Hid (Below w.heap.size w (w.alloc (.cells #[] 3))):=(Below.refl _ _).alloc (Nat.le_refl _) _
 cases hT:termOk l
 ·have HR:Hid (freeL l=[]):=by show freeL l=[];simp [freeL,hT]
  go_enter Tryz.func53,Tryz.ntmps53
  go_wp2_with fail
  refine (sTermOk _ a l c (HN.out.below HB0.out)).mono ?_
  rintro e w1 ⟨rfl,hb1⟩
  have HB1:Hid (Below (w.alloc (.cells #[] 3)).heap.size (w.alloc (.cells #[] 3)) w1):=hb1
  clear hb1
  go_wp2
  go_ret
  refine ⟨⟨_,rfl,?_⟩,HB0.out.trans (HB1.out.mono HB0.out.size)⟩
  rw [HR.out]
  exact HLIT.out.kept (S:=fun _=>False) (Kept.ofBelow HB1.out) (fun _ _ h=>h)
 ·have HR:Hid (freeL l=freeTo l 8):=by show freeL l=_;simp [freeL,hT]
  have HT:Hid (termOk l=true):=hT
  obtain ⟨hl1,hl2⟩:=term_len hT
  go_enter Tryz.func53,Tryz.ntmps53
  go_wp2_with fail
  refine (sTermOk _ a l c (HN.out.below HB0.out)).mono ?_
  rintro e w1 ⟨rfl,hb1⟩
  have HO1:Hid (Ows w1 w.heap.size (.slice (some ⟨w.heap.size,0,none⟩) 0 0) []):=HLIT.out.kept (S:=fun _=>False) (Kept.ofBelow hb1) (fun _ _ h=>h)
  have HB1:Hid (Below w.heap.size w w1):=HB0.out.trans (hb1.mono HB0.out.size)
  have hs1:w.heap.size < w1.heap.size:=by have:=hb1.size;simp at this;omega
  clear hb1
  go_wp2_with fail
  refine (sFreeTop _ a l c (HN.out.below HB1.out) HT.out).mono ?_
  rintro e w2 ⟨⟨gi,ci,rfl,hg2,hci⟩,hb2⟩
  have HO2:Hid (Ows w2 w.heap.size (.slice (some ⟨w.heap.size,0,none⟩) 0 0) []):=HO1.out.kept (S:=fun _=>False) (Kept.ofBelow hb2) (fun _ _ h=>h)
  have HB2:Hid (Below w.heap.size w w2):=HB1.out.trans (hb2.mono HB1.out.size)
  have HCI:Hid (∀ x,x < 8->w2.cell? ⟨gi,x,none⟩=some (.bool (flag (freeTop l) x))):=hci
  have hgn:gi≠w.heap.size:=by
   intro e
   have h9:=hci 0 (by omega)
   rw [e,ows_empty HO2.out] at h9
   cases h9
  clear hb2 hT hci
  go_wp2_with fail
  go_loopw [3,5] (fun v q wr=>∃ k:Nat,k<=8/\q=.int .i64 k/\Below w.heap.size w wr/\gi < wr.heap.size/\(∀ x,x < 8->wr.cell? ⟨gi,x,none⟩=some (.bool (flag (freeTop l) x)))/\Ows wr w.heap.size v (freeTo l k)/\(∀ b,v.ownBlock=some b->b≠gi)) (fun _ q _=>8 - (intOf q).toNat)
  case atStart =>
   refine ⟨0,Nat.zero_le _,rfl,HB2.out,hg2,HCI.out,HO2.out,fun b hb=>?_⟩
   have:b=w.heap.size:=by simpa [Value.ownBlock] using hb.symm
   omega
  case round =>
   obtain ⟨k,hk,rfl,hb,hgw,hci,how,hne⟩:=hrel
   have HB:Hid (Below w.heap.size w wr):=hb
   have HI:Hid (∀ x,x < 8->wr.cell? ⟨gi,x,none⟩=some (.bool (flag (freeTop l) x))):=hci
   have HO:Hid (Ows wr w.heap.size u3 (freeTo l k)):=how
   have HNE:Hid (∀ b,u3.ownBlock=some b->b≠gi):=hne
   have hBs:w.heap.size<=wr.heap.size:=hb.size
   clear hb how hne
   by_cases hlt:k < 8
   ·have hlz:(k:Int) < 8:=by omega
    have cI:=hci k hlt
    clear hci
    have hrl:=freeTo_length l k
    have HSC:Hid (freeTo l (k+1)=if flag (freeTop l) k then freeTo l k++[(k:Int)] else freeTo l k):=freeTo_succ l k
    cases hf:flag (freeTop l) k
    ·rw [hf] at cI
     go_wp2
     go_roundw
     case rel =>
      refine ⟨k+1,by omega,by go_num,HB.out,hgw,HI.out,?_,HNE.out⟩
      have h9:=HSC.out
      rw [hf] at h9
      rw [h9]
      exact HO.out
     case measure=>simp [intOf];omega
    ·rw [hf] at cI
     go_wp2_with (at_builtin;go_must (refine app_int _ rfl _ _ rfl w.heap.size u3 (freeTo l k) (k:Int) rfl rfl HO.out hBs (by omega) ?_;intro g cp w3 ho3 hk3 hg3))
     have HO3:Hid (Ows w3 w.heap.size (.slice (some ⟨g,0,none⟩) ((freeTo l k).length+1) cp) (freeTo l k++[(k:Int)])):=ho3
     have HK3:Hid (Kept (fun b=>u3.ownBlock=some b) wr w3):=hk3
     have HG3:Hid (u3.ownBlock=some g\/wr.heap.size<=g):=hg3
     clear ho3 hk3 hg3
     go_wp2
     go_roundw
     case rel =>
      refine ⟨k+1,by omega,by go_num,HB.out.trans (HK3.out.below (fun b hb=>(HO.out.lt b hb).1) hBs),Nat.lt_of_lt_of_le hgw HK3.out.size,(fun x hx=>by rw [HK3.out.cell (p:=⟨gi,x,none⟩) hgw (fun h=>HNE.out gi h rfl)];exact HI.out x hx),?_,?_⟩
      ·have h9:=HSC.out
       rw [hf] at h9
       rw [h9]
       exact HO3.out
      ·intro b hb
       have e:b=g:=by simpa [Value.ownBlock] using hb.symm
       subst e
       rcases HG3.out with h|h
       ·exact HNE.out _ h
       ·omega
     case measure=>simp [intOf];omega
   ·have e:k=8:=by omega
    subst e
    go_wp2
    go_ret
    exact ⟨⟨_,rfl,by rw [HR.out];exact HO.out⟩,HB.out⟩
end Sp9
namespace Sp10
open Go.RowKit
open Nd0 Nd1 Tm0 Tm1 Tm5 Ap1 Sp2
open Sp7 (nodeAt_of)
theorem sQuant (op:Int) (w:World) :
 Calls Tryz.prog 56 #[.int .i64 op] w fun e w'=>e=.returned (.bool (quant op))/\w'=w:=by
 cases h1:(op==19)<;>cases h2:(op==20)
 all_goals
  go_enter Tryz.func56,Tryz.ntmps56
  go_wp2
  go_ret
  exact ⟨ret_bool (by unfold quant;rw [h1,h2];rfl),rfl⟩
theorem sOuter (op:Int) (w:World) :
 Calls Tryz.prog 57 #[.int .i64 op] w fun e w'=>e=.returned (.bool (outer op))/\w'=w:=by
 cases h1:(op==2)<;>cases h2:(op==3)<;>cases h3:(op==4)
 all_goals
  go_enter Tryz.func57,Tryz.ntmps57
  go_wp2_with (go_at_call 56;refine (sQuant _ _).mono ?_;rintro e w' ⟨rfl,rfl⟩)
  go_ret
  exact ⟨ret_bool (by unfold outer;rw [h1,h2,h3];rfl),rfl⟩
theorem sHolder (w:World) (a:Option Addr) (l:List Nd) (c:Nat) (hN:Nodes w a l) (hT:termOk l=true) :
 Calls Tryz.prog 55 #[.slice a l.length c] w fun e w'=>(∃ v,e=.returned v/\Owb w' w.heap.size v (holdTo l l.length))/\Below w.heap.size w w':=by
 have HN:Hid (Nodes w a l):=hN
 have HT:Hid (termOk l=true):=hT
 obtain ⟨hl1,hl2⟩:=term_len hT
 rcases hN.2 with h0|⟨xb,xo,rfl,hxc⟩
 ·omega
 clear hN hT hxc
 go_enter Tryz.func55,Tryz.ntmps55
 go_wp2
 go_loopw [3,4] (fun vo q wr=>∃ k:Nat,k<=l.length/\q=.int .i64 k/\Below w.heap.size w wr/\∃ go co,vo=.slice (some ⟨go,0,none⟩) k co/\Owb wr w.heap.size vo (holdTo l k)) (fun _ q _=>l.length - (intOf q).toNat)
 case atStart=>exact ⟨0,Nat.zero_le _,rfl,(Below.refl _ _).alloc (Nat.le_refl _) _,_,_,rfl,Owb.lit w _ (Nat.le_refl _)⟩
 case round =>
  obtain ⟨k,hk,rfl,hb,go,co,rfl,hoo⟩:=hrel
  have HB:Hid (Below w.heap.size w wr):=hb
  have HO:Hid (Owb wr w.heap.size (.slice (some ⟨go,0,none⟩) k co) (holdTo l k)):=hoo
  have hbs:w.heap.size<=wr.heap.size:=hb.size
  have hhl:(holdTo l k).length=k:=holdTo_length l k
  by_cases hlt:k < l.length
  ·have hlz:(k:Int) < (l.length:Int):=by omega
   have HSC:Hid (holdTo l (k+1)=holdTo l k++[quant (nth l k).op||below (holdTo l k) (parts (nth l k))]):=rfl
   have HPO0:=parts_ok (term_node HT.out hlt)
   obtain ⟨p0,p1,p2,p3,p4,p5⟩:=nodeAt_of (HN.out.below hb) hlt
   clear hb hoo
   generalize holdTo l k=bs at HO HSC hhl
   generalize nth l k=n at HSC HPO0 p0 p1 p2 p3 p4 p5
   have HPO:Hid (∀ j (hj:j < (parts n).length),0<=(parts n)[j]/\(parts n)[j] < k):=HPO0
   clear HPO0
   obtain ⟨wi,rfl⟩:∃ wi:World,wi=wr:=⟨_,rfl⟩
   go_wp2_with fail
   refine (sQuant n.op _).mono ?_
   rintro e wj ⟨rfl,rfl⟩
   go_wp2_with fail
   refine (sParts n _).mono ?_
   rintro e w4 ⟨⟨pa,pc,rfl,hpi⟩,hb4⟩
   have HP:Hid (WInts w4 wj.heap.size pa (parts n)):=hpi
   have HB4:Hid (Below w.heap.size w w4):=HB.out.trans (hb4.mono hbs)
   have HO4:Hid (Owb w4 w.heap.size (.slice (some ⟨go,0,none⟩) k co) bs):=HO.out.kept (S:=fun _=>False) (Kept.ofBelow hb4) (fun _ _ h=>h)
   have hs4:w.heap.size<=w4.heap.size:=HB4.out.size
   clear hpi hb4 p0 p1 p2 p3 p4 p5
   have hpl:=parts_le n
   go_wp2_with fail
   go_loop [5,7] (fun f q=>∃ j:Nat,j<=(parts n).length/\q=.int .i64 j/\f=.bool (quant n.op||below bs ((parts n).take j))) (fun _ q=>(parts n).length - (intOf q).toNat)
   case atStart=>exact ⟨0,Nat.zero_le _,rfl,by rw [List.take_zero];simp [below]⟩
   case round =>
    obtain ⟨j,hj,rfl,rfl⟩:=hrel
    by_cases hlj:j < (parts n).length
    ·have hljz:(j:Int) < ((parts n).length:Int):=by omega
     have HST:Hid (below bs ((parts n).take (j+1))=(below bs ((parts n).take j)||flag bs ((parts n)[j]).toNat)):=below_take bs (parts n) j hlj
     cases hcur:(quant n.op||below bs ((parts n).take j))
     ·rcases HP.out.2 with h0|⟨pb,po,rfl,hpB,hpc⟩
      ·omega
      have r0:=(hpc j hlj).1
      obtain ⟨hx0,hx1⟩:=HPO.out j hlj
      clear hpc
      generalize (parts n)[j]=x at r0 hx0 hx1 HST
      have r2:=(HO4.out.cell' hhl x.toNat (by omega)).1
      rw [flag_get] at r2
      have hxz:x < (k:Int):=hx1
      go_wp2
      go_round
      case rel =>
       refine ⟨j+1,by omega,by go_num,?_⟩
       rw [HST.out,<- Bool.or_assoc,hcur];rfl
      case measure=>simp [intOf];omega
     ·go_wp2
      go_round
      case rel =>
       refine ⟨j+1,by omega,by go_num,?_⟩
       rw [HST.out,<- Bool.or_assoc,hcur];rfl
      case measure=>simp [intOf];omega
    ·have ej:j=(parts n).length:=by omega
     subst ej
     rw [List.take_length]
     go_wp2_with (at_builtin;go_must (refine app_bool _ rfl _ _ rfl w.heap.size (.slice (some ⟨go,0,none⟩) k co) bs _ rfl rfl HO4.out hs4 (by omega) ?_;intro g cp w5 ho5 hk5 hg5))
     have HO5:Hid (Owb w5 w.heap.size (.slice (some ⟨g,0,none⟩) (bs.length+1) cp) (bs++[quant n.op||below bs (parts n)])):=ho5
     have HB5:Hid (Below w.heap.size w w5):=HB4.out.trans (hk5.below (fun b hb=>(HO4.out.lt b hb).1) hs4)
     clear ho5 hk5 hg5
     go_wp2
     go_roundw
     case rel =>
      refine ⟨k+1,by omega,by go_num,HB5.out,g,cp,rfl,?_⟩
      rw [HSC.out]
      have h9:=HO5.out
      rw [hhl] at h9
      exact h9
     case measure=>simp [intOf];omega
  ·have e:k=l.length:=by omega
   subst e
   clear hoo
   go_wp2
   go_ret
   exact ⟨⟨_,rfl,HO.out⟩,HB.out⟩
end Sp10
end Go.Proofs.YtebejleeadofcaaGreat
