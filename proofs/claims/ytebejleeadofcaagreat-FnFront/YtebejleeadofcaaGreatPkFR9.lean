import Derived.WalkSpells
import Derived.Deep.Light
import Derived.Test.YtebejleeadofcaaGreatSp3
import Derived.Test.YtebejleeadofcaaGreatSp2
import Derived.Test.YtebejleeadofcaaGreatPkFR3
import Derived.Test.YtebejleeadofcaaGreatPkFR2
namespace Go.Proofs.YtebejleeadofcaaGreat
set_option maxRecDepth 100000
set_option maxHeartbeats 8000000
set_option linter.unusedVariables false
namespace Sp4
open Go.RowKit
open Nd0 Nd1 Tm0 Ap0 Sp2 Sp3
theorem sTermOk (w:World) (a:Option Addr) (l:List Nd) (c:Nat) (hN:Nodes w a l) :
 Calls Tryz.prog 52 #[.slice a l.length c] w fun e w'=>e=.returned (.bool (termOk l))/\Below w.heap.size w w':=by
 have HN:Hid (Nodes w a l):=hN
 have hm:=hN.1
 unfold maxLen at hm
 clear hN
 by_cases hl:1<=l.length/\l.length<=80
 ·have hd:decide (1<=(l.length:Int)/\(l.length:Int)<=80)=true:=by simp;omega
  obtain ⟨hl1,hl2⟩:=hl
  go_enter Tryz.func52,Tryz.ntmps52
  go_wp2_with (go_at_call 75;refine (sIn _ _ _ _).mono ?_;rintro e w' ⟨rfl,rfl⟩)
  go_loopw [3] (fun q wr=>∃ k:Nat,k<=l.length/\q=.int .i64 k/\Below w'.heap.size w' wr/\∀ j,j < k->nodeOk l j=true) (fun q _=>l.length - (intOf q).toNat)
  case atStart=>exact ⟨0,Nat.zero_le _,rfl,Below.refl _ _,fun j hj=>by omega⟩
  case round =>
   obtain ⟨k,hk,rfl,hb,hall⟩:=hrel
   have HB:Hid (Below w'.heap.size w' wr):=hb
   have HA:Hid (∀ j,j < k->nodeOk l j=true):=hall
   clear hb hall
   by_cases hlt:k < l.length
   ·have hlz:(k:Int) < (l.length:Int):=by omega
    have HS:=sNode wr a l c k hlt (by omega) (HN.out.below HB.out) (fun j hj=>node_width (HA.out j hj))
    have HSH:Hid (Calls Tryz.prog 76 #[.slice a l.length c,.int .i64 k] wr fun e w'=>e=.returned (.bool (nodeOk l k))/\Below wr.heap.size wr w'):=HS
    clear HS
    cases hno:nodeOk l k
    ·have HT:Hid (termOk l=false):=term_bad k hlt hno
     go_wp2_with fail
     refine HSH.out.mono ?_
     rintro e w2 ⟨rfl,hb2⟩
     have HB2:Hid (Below w'.heap.size w' w2):=HB.out.trans (hb2.mono HB.out.size)
     clear hb2
     go_wp2
     go_ret
     exact ⟨ret_bool HT.out.symm,HB2.out⟩
    ·go_wp2_with fail
     refine HSH.out.mono ?_
     rintro e w2 ⟨rfl,hb2⟩
     have HB2:Hid (Below w'.heap.size w' w2):=HB.out.trans (hb2.mono HB.out.size)
     clear hb2
     go_wp2
     go_roundw
     case rel =>
      refine ⟨k+1,by omega,by go_num,HB2.out,fun j hj=>?_⟩
      by_cases e:j=k
      ·subst e;exact hno
      ·exact HA.out j (by omega)
     case measure=>simp [intOf];omega
   ·have HT:Hid (termOk l=true):=term_good ⟨hl1,hl2⟩ (fun j hj=>HA.out j (by omega))
    go_wp2
    go_ret
    exact ⟨ret_bool HT.out.symm,HB.out⟩
 ·have hd:decide (1<=(l.length:Int)/\(l.length:Int)<=80)=false:=by simp;omega
  have HT:Hid (termOk l=false):=term_long hl
  go_enter Tryz.func52,Tryz.ntmps52
  go_wp2_with (go_at_call 75;refine (sIn _ _ _ _).mono ?_;rintro e w' ⟨rfl,rfl⟩)
  go_ret
  exact ⟨ret_bool HT.out.symm,Below.refl _ _⟩
end Sp4
namespace Sp5
open Go.RowKit
open Nd0 Nd1 Tm0 Tm1 Ap1 Sp2
theorem sReach (w:World) (a:Option Addr) (l:List Nd) (c:Nat) (hN:Nodes w a l) (hT:termOk l=true) :
 Calls Tryz.prog 54 #[.slice a l.length c] w fun e w'=>(∃ v,e=.returned v/\Owb w' w.heap.size v (reachL l))/\Below w.heap.size w w':=by
 have HN:Hid (Nodes w a l):=hN
 have HT:Hid (termOk l=true):=hT
 obtain ⟨hl1,hl2⟩:=term_len hT
 clear hN hT
 go_enter Tryz.func54,Tryz.ntmps54
 go_wp2
 go_loopw [3,4] (fun v q wr=>∃ k:Nat,k<=l.length/\q=.int .i64 k/\Below w.heap.size w wr/\Owb wr w.heap.size v ((reachInit l.length).take k)) (fun _ q _=>l.length - (intOf q).toNat)
 case atStart=>exact ⟨0,Nat.zero_le _,rfl,(Below.refl _ _).alloc (Nat.le_refl _) _,Owb.lit w _ (Nat.le_refl _)⟩
 case round =>
  obtain ⟨k,hk,rfl,hb,hown⟩:=hrel
  have HB:Hid (Below w.heap.size w wr):=hb
  have HO:Hid (Owb wr w.heap.size u3 ((reachInit l.length).take k)):=hown
  have hBs:w.heap.size<=wr.heap.size:=hb.size
  clear hb
  by_cases hlt:k < l.length
  ·clear hown
   have hlen:((reachInit l.length).take k).length=k:=by rw [List.length_take,reachInit_length];omega
   have HT2:Hid ((reachInit l.length).take (k+1)=(reachInit l.length).take k++[((k:Int)==(l.length:Int) - 1)]):=by
    show (reachInit l.length).take (k+1)=_
    rw [List.take_succ_eq_append_getElem (by rw [reachInit_length];exact hlt)]
    congr 2
    simp only [reachInit,List.getElem_map,List.getElem_range]
    rw [Bool.eq_iff_iff]
    simp
    omega
   have hlz:(k:Int) < (l.length:Int):=by omega
   go_wp2_with (at_builtin;go_must (refine app_bool _ rfl _ _ rfl w.heap.size u3 ((reachInit l.length).take k) ((k:Int)==(l.length:Int) - 1) rfl rfl HO.out hBs (by omega) ?_;intro g cp w3 ho3 hk3 hg3))
   have HO3:Hid (Owb w3 w.heap.size (.slice (some ⟨g,0,none⟩) (((reachInit l.length).take k).length+1) cp) ((reachInit l.length).take k++[((k:Int)==(l.length:Int) - 1)])):=ho3
   have HK3:Hid (Kept (fun k=>u3.ownBlock=some k) wr w3):=hk3
   clear ho3 hk3 hg3
   go_wp2
   go_roundw
   case rel =>
    refine ⟨k+1,by omega,by go_num,HB.out.trans (HK3.out.below (fun k hk=>(HO.out.lt k hk).1) hBs),?_⟩
    rw [HT2.out]
    have h9:=HO3.out
    rw [hlen] at h9
    exact h9
   case measure=>simp [intOf];omega
  ·have e2:k=l.length:=by omega
   subst e2
   have hown2:Owb wr w.heap.size u3 (reachInit l.length):=by
    have h9:=hown
    rw [List.take_of_length_le (by rw [reachInit_length];exact Nat.le_refl _)] at h9
    exact h9
   obtain ⟨g,cp,hv,hg1,hg2⟩:=hown2.at (by rw [reachInit_length];exact hl1)
   rw [reachInit_length] at hv
   subst hv
   clear hown HO
   have HO:Hid (Owb wr w.heap.size (.slice (some ⟨g,0,none⟩) l.length cp) (reachInit l.length)):=hown2
   clear hown2
   have HBO:Hid (Below w.heap.size w wr):=HB.out
   obtain ⟨wa,rfl⟩:∃ wa:World,wa=wr:=⟨_,rfl⟩
   go_wp2
   go_loopw [5] (fun q wr=>∃ j:Nat,j<=l.length/\q=.int .i64 ((j:Int) - 1)/\∃ bs:List Bool,Owb wr w.heap.size (.slice (some ⟨g,0,none⟩) l.length cp) bs/\bs.length=l.length/\reachDown l j bs=reachL l/\Below w.heap.size w wr/\g < wr.heap.size) (fun q _=>(intOf q+1).toNat)
   case atStart=>exact ⟨l.length,Nat.le_refl _,rfl,_,HO.out,reachInit_length _,rfl,HBO.out,hg2⟩
   case round =>
    obtain ⟨j,hj,rfl,bs,ho,hbl,hrd,hbb,hgs⟩:=hrel
    cases j with
    | zero =>
      have hneg:¬ (0:Int)<=((0:Nat):Int) - 1:=by omega
      go_wp2
      go_ret
      exact ⟨⟨_,rfl,hrd ▸ ho⟩,hbb⟩
    | succ i =>
      have hp:(0:Int)<=((i+1:Nat):Int) - 1:=by omega
      have hie:((i+1:Nat):Int) - 1=(i:Int):=by omega
      have HRD:Hid (reachDown l (i+1) bs=reachL l):=hrd
      have HOB:Hid (Owb wr w.heap.size (.slice (some ⟨g,0,none⟩) l.length cp) bs):=ho
      have HBB:Hid (Below w.heap.size w wr):=hbb
      have HBL:Hid (bs.length=l.length):=hbl
      clear hrd ho hbb hbl
      rw [hie]
      clear hie hp
      have hiz:(i:Int) < (l.length:Int):=by omega
      rcases (HN.out.below HBB.out).2 with h0|⟨xb,xo,rfl,hc⟩
      ·omega
      obtain ⟨p0,p1,p2,p3,p4,p5⟩:=hc i (by omega)
      rw [nth_get (by omega:i < l.length)] at p0 p1 p2 p3 p4 p5
      clear hc
      have HPO:=parts_ok (term_node HT.out (by omega:i < l.length))
      generalize hn:nth l i=n at p0 p1 p2 p3 p4 p5 HPO
      have HD:Hid (nth l i=n):=hn
      have HPO':Hid (∀ k (hk:k < (parts n).length),0<=(parts n)[k]/\(parts n)[k] < i):=HPO
      clear hn HPO
      obtain ⟨wb,rfl⟩:∃ wb:World,wb=wr:=⟨_,rfl⟩
      go_wp2_with fail
      refine (sParts n _).mono ?_
      rintro e w1 ⟨⟨pa,pc,rfl,hpi⟩,hb1⟩
      have HP:Hid (WInts w1 wb.heap.size pa (parts n)):=hpi
      have HB1:Hid (Below wb.heap.size wb w1):=hb1
      clear hpi hb1 p0 p1 p2 p3 p4 p5
      have hpl:=parts_le n
      go_wp2_with fail
      have HOW1:Hid (Owb w1 w.heap.size (.slice (some ⟨g,0,none⟩) l.length cp) bs):=HOB.out.kept (S:=fun _=>False) (Kept.ofBelow HB1.out) (fun _ _ h=>h)
      go_loopw [7] (fun q wr=>∃ k:Nat,k<=(parts n).length/\q=.int .i64 k/\∃ b3:List Bool,Owb wr w.heap.size (.slice (some ⟨g,0,none⟩) l.length cp) b3/\b3.length=l.length/\flag b3 i=flag bs i/\(flag bs i=true->markAll b3 ((parts n).drop k)=markAll bs (parts n))/\(flag bs i=false->b3=bs)/\Kept (fun x=>x=g) w1 wr) (fun q _=>(parts n).length - (intOf q).toNat)
      case atStart=>exact ⟨0,Nat.zero_le _,rfl,bs,HOW1.out,HBL.out,rfl,fun _=>rfl,fun _=>rfl,Kept.refl _ _⟩
      case round =>
       obtain ⟨k,hk,rfl,b3,ho3,hl3,hf3,hm3,he3,hk3⟩:=hrel
       have HO3:Hid (Owb wr w.heap.size (.slice (some ⟨g,0,none⟩) l.length cp) b3):=ho3
       have HL3:Hid (b3.length=l.length):=hl3
       have HF3:Hid (flag b3 i=flag bs i):=hf3
       have HM3:Hid (flag bs i=true->markAll b3 ((parts n).drop k)=markAll bs (parts n)):=hm3
       have HE3:Hid (flag bs i=false->b3=bs):=he3
       have HK3:Hid (Kept (fun x=>x=g) w1 wr):=hk3
       have cI:wr.cell? ⟨g,i,none⟩=some (.bool (flag bs i)):=by
        have h9:=(ho3.cell' hl3 i (by omega)).1
        rw [flag_get,hf3] at h9
        exact h9
       have HBEL:Hid (Below w.heap.size w wr):=(HBB.out.trans (HB1.out.mono HBB.out.size)).trans (hk3.below (fun k hk=>by subst hk;exact hg1) (Nat.le_trans HBB.out.size HB1.out.size))
       have HSZ:Hid (g < wr.heap.size):=by
        have h1:=HB1.out.size
        have h2:=hk3.size
        show g < _
        omega
       clear hl3 hf3 hm3 he3 hk3
       have HEND:Hid ((flag bs i=true->k=(parts n).length)->reachDown l i b3=reachL l):=by
        show (flag bs i=true->k=(parts n).length)->reachDown l i b3=reachL l
        intro hend
        rw [<- HRD.out]
        show _=reachDown l i (reachStep l bs i)
        congr 1
        unfold reachStep
        cases hfb:flag bs i
        ·rw [HE3.out hfb];rfl
        ·have h9:=HM3.out hfb
         rw [hend hfb,List.drop_length] at h9
         rw [HD.out]
         exact h9
       by_cases hlt:k < (parts n).length
       ·have hlz:(k:Int) < ((parts n).length:Int):=by omega
        cases hfb:flag bs i
        ·rw [hfb] at cI
         clear ho3
         go_wp2
         go_roundw
         case rel=>exact ⟨i,by omega,by go_num,b3,HO3.out,HL3.out,HEND.out (fun h=>by rw [hfb] at h;cases h),HBEL.out,HSZ.out⟩
         case measure=>simp [intOf]
        ·rw [hfb] at cI
         rcases (HP.out.kept HK3.out (fun x hx e=>by
          subst hx
          rcases HP.out.2 with h0|⟨pb,po,hpe,hpB,_⟩
          ·omega
          ·cases hpe;simp at e;omega)).2 with h0|⟨pb,po,rfl,hpB,hpc⟩
         ·omega
         have q0:=(hpc k hlt).1
         obtain ⟨hx0,hx1⟩:=HPO'.out k hlt
         have HDR:Hid ((parts n).drop k=(parts n)[k] :: (parts n).drop (k+1)):=List.drop_eq_getElem_cons hlt
         clear hpc
         generalize (parts n)[k]=x at q0 hx0 hx1 HDR
         obtain ⟨c1,c2⟩:=ho3.cell' HL3.out x.toNat (by omega)
         clear ho3
         have hxz:x < (l.length:Int):=by omega
         go_wp2
         go_roundw
         case rel =>
          have hle:x.toNat < b3.length:=by rw [HL3.out];omega
          refine ⟨k+1,by omega,by go_num,b3.set x.toNat true,HO3.out.set' HL3.out _ _,by rw [List.length_set];exact HL3.out,?_,?_,?_,HK3.out.setCell rfl _⟩
          ·rw [flag_set hle,if_neg (by omega)];exact HF3.out.trans hfb
          ·intro _
           have h9:=HM3.out hfb
           rw [HDR.out] at h9
           exact h9
          ·intro h;cases h
         case measure=>simp [intOf];omega
       ·clear ho3
        go_wp2
        go_roundw
        case rel=>exact ⟨i,by omega,by go_num,b3,HO3.out,HL3.out,HEND.out (fun _=>by omega),HBEL.out,HSZ.out⟩
        case measure=>simp [intOf]
end Sp5
namespace Sp6
open Go.RowKit
open Nd0 Nd1 Tm0 Tm1 Tm2 Ap0 Ap1 Sp2 Sp4 Sp5
end Sp6
end Go.Proofs.YtebejleeadofcaaGreat
