import Derived.Test.YthanhcobfehmnaaGreatSp3
namespace Go.Proofs.YthanhcobfehmnaaGreat
set_option maxRecDepth 100000
set_option maxHeartbeats 8000000
set_option linter.unusedVariables false
namespace Sp4
open Go.RowKit
open Nd0 Nd1 Tm0 Ap0 Sp2 Sp3
theorem sTermOk (w:World) (a:Option Addr) (l:List Nd) (c:Nat) (hN:Nodes w a l) :
 Calls Tryz.prog 18 #[.slice a l.length c] w fun e w'=>e=.returned (.bool (termOk l))/\Below w.heap.size w w':=by
 have HN:Hid (Nodes w a l):=hN
 have hm:=hN.1
 unfold maxLen at hm
 clear hN
 by_cases hl:1<=l.length/\l.length<=80
 ·have hd:decide (1<=(l.length:Int)/\(l.length:Int)<=80)=true:=by simp;omega
  obtain ⟨hl1,hl2⟩:=hl
  go_enter Tryz.func18,Tryz.ntmps18
  go_wp2_with (go_at_call 41;refine (sIn _ _ _ _).mono ?_;rintro e w' ⟨rfl,rfl⟩)
  go_loopw [3] (fun q wr=>∃ k:Nat,k<=l.length/\q=.int .i64 k/\Below w'.heap.size w' wr/\∀ j,j < k->nodeOk l j=true) (fun q _=>l.length - (intOf q).toNat)
  case atStart=>exact ⟨0,Nat.zero_le _,rfl,Below.refl _ _,fun j hj=>by omega⟩
  case round =>
   obtain ⟨k,hk,rfl,hb,hall⟩:=hrel
   have HB:Hid (Below w'.heap.size w' wr):=hb
   have HA:Hid (∀ j,j < k->nodeOk l j=true):=hall
   clear hb hall
   by_cases hlt:k < l.length
   ·have hlz:(k:Int) < (l.length:Int):=by omega
    have HS:=sNode wr a l c k hlt (by omega) (HN.out.below HB.out) (fun j hj=>node_width (HA.out j hj))
    have HSH:Hid (Calls Tryz.prog 42 #[.slice a l.length c,.int .i64 k] wr fun e w'=>e=.returned (.bool (nodeOk l k))/\Below wr.heap.size wr w'):=HS
    clear HS
    cases hno:nodeOk l k
    ·have HT:Hid (termOk l=false):=term_bad k hlt hno
     go_wp2_with fail
     refine HSH.out.mono ?_
     rintro e w2 ⟨rfl,hb2⟩
     have HB2:Hid (Below w'.heap.size w' w2):=HB.out.trans (hb2.mono HB.out.size)
     clear hb2
     go_wp2
     go_ret
     exact ⟨ret_bool HT.out.symm,HB2.out⟩
    ·go_wp2_with fail
     refine HSH.out.mono ?_
     rintro e w2 ⟨rfl,hb2⟩
     have HB2:Hid (Below w'.heap.size w' w2):=HB.out.trans (hb2.mono HB.out.size)
     clear hb2
     go_wp2
     go_roundw
     case rel =>
      refine ⟨k+1,by omega,by go_num,HB2.out,fun j hj=>?_⟩
      by_cases e:j=k
      ·subst e;exact hno
      ·exact HA.out j (by omega)
     case measure=>simp [intOf];omega
   ·have HT:Hid (termOk l=true):=term_good ⟨hl1,hl2⟩ (fun j hj=>HA.out j (by omega))
    go_wp2
    go_ret
    exact ⟨ret_bool HT.out.symm,HB.out⟩
 ·have hd:decide (1<=(l.length:Int)/\(l.length:Int)<=80)=false:=by simp;omega
  have HT:Hid (termOk l=false):=term_long hl
  go_enter Tryz.func18,Tryz.ntmps18
  go_wp2_with (go_at_call 41;refine (sIn _ _ _ _).mono ?_;rintro e w' ⟨rfl,rfl⟩)
  go_ret
  exact ⟨ret_bool HT.out.symm,Below.refl _ _⟩
end Sp4
namespace Ap1
open Go.RowKit
open Nd0
def WBools (w:World) (B:Nat) (a:Option Addr) (l:List Bool):Prop :=
 l.length<=maxLen/\(l.length=0\/∃ b o,a=some ⟨b,o,none⟩/\B<=b/\∀ i (h:i < l.length),w.cell? ⟨b,o+i,none⟩=some (.bool l[i])/\w.frozen? ⟨b,o+i,none⟩=false)
theorem infoBool:(Tryz.prog.info? 4).map (fun i=>(i.zero,i.size,i.bytes))=some (some (.bool false),1,1):=by kernel_rfl
def Owb (w:World) (B:Nat) (v:Value) (l:List Bool):Prop:=w.ownsRow B 4 1 v l.length (l.map fun x=>.bool x)
theorem Owb.form {w:World} {B:Nat} {v:Value} {l:List Bool} (h:Owb w B v l):∃ a c,v=.slice a l.length c/\WBools w B a l:=by
 obtain ⟨h1,h2⟩:=h
 rcases h2 with ⟨rfl,h0⟩|⟨g,cap,cur,rfl,hb,hg,hn,hm,hs,ht⟩
 ·have:l=[]:=List.eq_nil_of_length_eq_zero h0
  subst this
  exact ⟨none,0,rfl,Nat.zero_le _,.inl rfl⟩
 ·refine ⟨_,_,rfl,by omega,.inr ⟨g,0,rfl,hb,fun i hi=>⟨?_,?_⟩⟩⟩
  ·rw [Nat.zero_add,cell_of_row w g i cur _ _ hg]
   have e:(cur.toList.take (l.length*1))[i]? = some (.bool l[i]):=by rw [ht];simp [hi]
   rw [List.getElem?_take_of_lt (by omega)] at e
   simpa using e
  ·rw [Nat.zero_add]
   simp [World.frozen?,hg]
theorem Owb.lit (w:World) (B:Nat) (hB:B<=w.heap.size):Owb (w.alloc (.cells #[] 4)) B (.slice (some ⟨w.heap.size,0,none⟩) 0 0) [] :=
 World.ownsRow_lit w #[] 0 hB (Nat.zero_le _) rfl
theorem Owb.lt {w:World} {B:Nat} {v:Value} {l:List Bool} (h:Owb w B v l):∀ k,v.ownBlock=some k->B<=k/\k < w.heap.size:=World.ownsRow.lt h
theorem Owb.kept {w w':World} {B:Nat} {v:Value} {l:List Bool} (h:Owb w B v l) {S:Nat->Prop} (k:Kept S w w') (hs:∀ i,v.ownBlock=some i->¬ S i):Owb w' B v l:=by
 refine ⟨h.1,?_⟩
 rcases h.2 with hn|⟨g,cap,cur,rfl,hb,hgg,rest⟩
 ·exact .inl hn
 ·refine .inr ⟨g,cap,cur,rfl,hb,?_,rest⟩
  rw [k.block g (Array.getElem?_eq_some_iff.1 hgg).1 (hs g rfl)]
  exact hgg
theorem Owb.set {w:World} {B g cap:Nat} {l:List Bool} (h:Owb w B (.slice (some ⟨g,0,none⟩) l.length cap) l) (j:Nat) (x:Bool):Owb (w.setCell ⟨g,j,none⟩ (.bool x)) B (.slice (some ⟨g,0,none⟩) l.length cap) (l.set j x):=by
 have h1:=(World.ownsRow.stored h j (.bool x)).1
 unfold Owb
 rw [List.map_set,List.length_set]
 exact h1
theorem Owb.cell {w:World} {B g cap:Nat} {l:List Bool} (h:Owb w B (.slice (some ⟨g,0,none⟩) l.length cap) l) (j:Nat) (hj:j < l.length):w.cell? ⟨g,j,none⟩=some (.bool l[j])/\w.frozen? ⟨g,j,none⟩=false:=by
 obtain ⟨a,c,hv,hw⟩:=h.form
 cases hv
 rcases hw.2 with h0|⟨b,o,hb,_,hc⟩
 ·omega
 ·cases hb
  have:=hc j hj
  rw [Nat.zero_add] at this
  exact this
theorem Owb.set' {w:World} {B g cap n:Nat} {l:List Bool} (h:Owb w B (.slice (some ⟨g,0,none⟩) n cap) l) (hn:l.length=n) (j:Nat) (x:Bool):Owb (w.setCell ⟨g,j,none⟩ (.bool x)) B (.slice (some ⟨g,0,none⟩) n cap) (l.set j x):=by
 subst hn;exact h.set j x
theorem Owb.cell' {w:World} {B g cap n:Nat} {l:List Bool} (h:Owb w B (.slice (some ⟨g,0,none⟩) n cap) l) (hn:l.length=n) (j:Nat) (hj:j < n):w.cell? ⟨g,j,none⟩=some (.bool (l[j]'(by omega)))/\w.frozen? ⟨g,j,none⟩=false:=by
 subst hn;exact h.cell j hj
theorem Owb.at {w:World} {B:Nat} {v:Value} {l:List Bool} (h:Owb w B v l) (hl:1<=l.length):∃ g c,v=.slice (some ⟨g,0,none⟩) l.length c/\B<=g/\g < w.heap.size:=by
 rcases h.2 with ⟨rfl,h0⟩|⟨g,cap,cur,rfl,hb,hg,_⟩
 ·omega
 ·exact ⟨g,cap,rfl,hb,(Array.getElem?_eq_some_iff.1 hg).1⟩
theorem app_bool {ops:Array Oper} {rest:List Oper} {o:Oper} {a:Act} {Q:Exit->Act->World->Prop} (W:World) (hgd:o.guard=none) (s x:Operand)
 (ho:o.op=.call { callee:=.builtin .append,args := #[s,x],argTypes := #[89,89] })
 (B:Nat) (v:Value) (l:List Bool) (y:Bool) (hs:a.eval s=v) (hx:a.eval x=.slice (some ⟨W.heap.size,0,none⟩) 1 1)
 (hown:Owb W B v l) (hB:B<=W.heap.size) (hlen:l.length<=1048576)
 (h:∀ g cap w',Owb w' B (.slice (some ⟨g,0,none⟩) (l.length+1) cap) (l++[y])->Kept (fun k=>v.ownBlock=some k) W w'->(v.ownBlock=some g\/W.heap.size<=g)->wpList Tryz.prog ops Q rest (a.put o.dst (.slice (some ⟨g,0,none⟩) (l.length+1) cap)) w') :
 wpList Tryz.prog ops Q (o :: rest) a (W.alloc (.cells #[.bool y] 4)):=by
 obtain ⟨i,hi,hzz⟩:=Option.map_eq_some_iff.1 infoBool
 simp only [Prod.mk.injEq] at hzz
 obtain ⟨hz,hsz,hb⟩:=hzz
 refine wpList_append_lies (W.alloc (.cells #[.bool y] 4)) hgd s x 89 ho B 4 i (.bool false) 1 1 Tryz.underlying89 hi hz hsz hb rfl (by omega) v l.length (l.map fun x=>.bool x) hs (World.ownsRow.alloc hown _)
  ⟨W.heap.size,0,none⟩ 1 1 [.bool y] hx rfl ?_ ?_ (by omega) (by unfold maxLen;omega) (by omega) (by simp;omega) _ rfl ?_
 ·intro j u hu
  exact World.news_of_block (heap_alloc_new W _) j u hu
 ·intro u hu
  simp at hu
  subst hu
  rfl
 ·intro g cap w' h1 h2 h3 h4
  refine h g cap w' ?_ ?_ ?_
  ·unfold Owb
   simpa using h1
  ·have k1:Kept (fun k=>v.ownBlock=some k) W (W.alloc (.cells #[.bool y] 4)):=(Kept.refl _ W).alloc _
   exact k1.trans ⟨h2.os,h2.tape,h2.output,h2.size,fun k hk hn=>h2.block k hk (fun e=>hn e.symm)⟩
  ·rcases h3 with h3|h3
   ·exact .inl h3
   ·exact .inr (by rw [h3];simp)
end Ap1
namespace Tm1
open Nd0 Pl1 Tm0
def markAll (bs:List Bool) (ps:List Int):List Bool:=ps.foldl (fun b p=>b.set p.toNat true) bs
theorem markAll_length (ps:List Int):∀ bs:List Bool,(markAll bs ps).length=bs.length:=by
 induction ps with
 | nil=>intro bs;rfl
 | cons p ps ih=>intro bs;show (markAll (bs.set p.toNat true) ps).length=_;rw [ih,List.length_set]
def flag (bs:List Bool) (i:Nat):Bool:=bs.getD i false
theorem flag_get {bs:List Bool} {i:Nat} (h:i < bs.length):bs[i]=flag bs i:=by simp [flag,List.getD,h]
theorem flag_set {bs:List Bool} {i j:Nat} (h:i < bs.length) (x:Bool):flag (bs.set i x) j=if i=j then x else flag bs j:=by
 by_cases e:i=j
 ·subst e;simp [flag,List.getD,h]
 ·simp [flag,List.getD,e]
def reachStep (l:List Nd) (bs:List Bool) (i:Nat):List Bool:=if flag bs i then markAll bs (parts (nth l i)) else bs
def reachDown (l:List Nd):Nat->List Bool->List Bool
 | 0,bs=>bs
 | k+1,bs=>reachDown l k (reachStep l bs k)
def reachInit (n:Nat):List Bool:=(List.range n).map fun i=>i+1==n
def reachL (l:List Nd):List Bool:=reachDown l l.length (reachInit l.length)
theorem reachStep_length (l:List Nd) (bs:List Bool) (i:Nat):(reachStep l bs i).length=bs.length:=by
 unfold reachStep;split
 ·exact markAll_length _ _
 ·rfl
theorem reachDown_length (l:List Nd):∀ (k:Nat) (bs:List Bool),(reachDown l k bs).length=bs.length:=by
 intro k
 induction k with
 | zero=>intro bs;rfl
 | succ k ih=>intro bs;show (reachDown l k (reachStep l bs k)).length=_;rw [ih,reachStep_length]
theorem reachInit_length (n:Nat):(reachInit n).length=n:=by simp [reachInit]
theorem reachL_length (l:List Nd):(reachL l).length=l.length:=by unfold reachL;rw [reachDown_length,reachInit_length]
theorem parts_ok {l:List Nd} {i:Nat} (h:nodeOk l i=true):∀ k (hk:k < (parts (nth l i)).length),0<=(parts (nth l i))[k]/\(parts (nth l i))[k] < i:=by
 simp only [nodeOk,Bool.and_eq_true,List.all_eq_true,decide_eq_true_eq] at h
 intro k hk
 exact h.1.1 _ (List.getElem_mem hk)
end Tm1
namespace Sp5
open Go.RowKit
open Nd0 Nd1 Tm0 Tm1 Ap1 Sp2
theorem sReach (w:World) (a:Option Addr) (l:List Nd) (c:Nat) (hN:Nodes w a l) (hT:termOk l=true) :
 Calls Tryz.prog 64 #[.slice a l.length c] w fun e w'=>(∃ v,e=.returned v/\Owb w' w.heap.size v (reachL l))/\Below w.heap.size w w':=by
 have HN:Hid (Nodes w a l):=hN
 have HT:Hid (termOk l=true):=hT
 obtain ⟨hl1,hl2⟩:=term_len hT
 clear hN hT
 go_enter Tryz.func64,Tryz.ntmps64
 go_wp2
 go_loopw [3,4] (fun v q wr=>∃ k:Nat,k<=l.length/\q=.int .i64 k/\Below w.heap.size w wr/\Owb wr w.heap.size v ((reachInit l.length).take k)) (fun _ q _=>l.length - (intOf q).toNat)
 case atStart=>exact ⟨0,Nat.zero_le _,rfl,(Below.refl _ _).alloc (Nat.le_refl _) _,Owb.lit w _ (Nat.le_refl _)⟩
 case round =>
  obtain ⟨k,hk,rfl,hb,hown⟩:=hrel
  have HB:Hid (Below w.heap.size w wr):=hb
  have HO:Hid (Owb wr w.heap.size u3 ((reachInit l.length).take k)):=hown
  have hBs:w.heap.size<=wr.heap.size:=hb.size
  clear hb
  by_cases hlt:k < l.length
  ·clear hown
   have hlen:((reachInit l.length).take k).length=k:=by rw [List.length_take,reachInit_length];omega
   have HT2:Hid ((reachInit l.length).take (k+1)=(reachInit l.length).take k++[((k:Int)==(l.length:Int) - 1)]):=by
    show (reachInit l.length).take (k+1)=_
    rw [List.take_succ_eq_append_getElem (by rw [reachInit_length];exact hlt)]
    congr 2
    simp only [reachInit,List.getElem_map,List.getElem_range]
    rw [Bool.eq_iff_iff]
    simp
    omega
   have hlz:(k:Int) < (l.length:Int):=by omega
   go_wp2_with (at_builtin;go_must (refine app_bool _ rfl _ _ rfl w.heap.size u3 ((reachInit l.length).take k) ((k:Int)==(l.length:Int) - 1) rfl rfl HO.out hBs (by omega) ?_;intro g cp w3 ho3 hk3 hg3))
   have HO3:Hid (Owb w3 w.heap.size (.slice (some ⟨g,0,none⟩) (((reachInit l.length).take k).length+1) cp) ((reachInit l.length).take k++[((k:Int)==(l.length:Int) - 1)])):=ho3
   have HK3:Hid (Kept (fun k=>u3.ownBlock=some k) wr w3):=hk3
   clear ho3 hk3 hg3
   go_wp2
   go_roundw
   case rel =>
    refine ⟨k+1,by omega,by go_num,HB.out.trans (HK3.out.below (fun k hk=>(HO.out.lt k hk).1) hBs),?_⟩
    rw [HT2.out]
    have h9:=HO3.out
    rw [hlen] at h9
    exact h9
   case measure=>simp [intOf];omega
  ·have e2:k=l.length:=by omega
   subst e2
   have hown2:Owb wr w.heap.size u3 (reachInit l.length):=by
    have h9:=hown
    rw [List.take_of_length_le (by rw [reachInit_length];exact Nat.le_refl _)] at h9
    exact h9
   obtain ⟨g,cp,hv,hg1,hg2⟩:=hown2.at (by rw [reachInit_length];exact hl1)
   rw [reachInit_length] at hv
   subst hv
   clear hown HO
   have HO:Hid (Owb wr w.heap.size (.slice (some ⟨g,0,none⟩) l.length cp) (reachInit l.length)):=hown2
   clear hown2
   have HBO:Hid (Below w.heap.size w wr):=HB.out
   obtain ⟨wa,rfl⟩:∃ wa:World,wa=wr:=⟨_,rfl⟩
   go_wp2
   go_loopw [5] (fun q wr=>∃ j:Nat,j<=l.length/\q=.int .i64 ((j:Int) - 1)/\∃ bs:List Bool,Owb wr w.heap.size (.slice (some ⟨g,0,none⟩) l.length cp) bs/\bs.length=l.length/\reachDown l j bs=reachL l/\Below w.heap.size w wr/\g < wr.heap.size) (fun q _=>(intOf q+1).toNat)
   case atStart=>exact ⟨l.length,Nat.le_refl _,rfl,_,HO.out,reachInit_length _,rfl,HBO.out,hg2⟩
   case round =>
    obtain ⟨j,hj,rfl,bs,ho,hbl,hrd,hbb,hgs⟩:=hrel
    cases j with
    | zero =>
      have hneg:¬ (0:Int)<=((0:Nat):Int) - 1:=by omega
      go_wp2
      go_ret
      exact ⟨⟨_,rfl,hrd ▸ ho⟩,hbb⟩
    | succ i =>
      have hp:(0:Int)<=((i+1:Nat):Int) - 1:=by omega
      have hie:((i+1:Nat):Int) - 1=(i:Int):=by omega
      have HRD:Hid (reachDown l (i+1) bs=reachL l):=hrd
      have HOB:Hid (Owb wr w.heap.size (.slice (some ⟨g,0,none⟩) l.length cp) bs):=ho
      have HBB:Hid (Below w.heap.size w wr):=hbb
      have HBL:Hid (bs.length=l.length):=hbl
      clear hrd ho hbb hbl
      rw [hie]
      clear hie hp
      have hiz:(i:Int) < (l.length:Int):=by omega
      rcases (HN.out.below HBB.out).2 with h0|⟨xb,xo,rfl,hc⟩
      ·omega
      obtain ⟨p0,p1,p2,p3,p4,p5⟩:=hc i (by omega)
      rw [nth_get (by omega:i < l.length)] at p0 p1 p2 p3 p4 p5
      clear hc
      have HPO:=parts_ok (term_node HT.out (by omega:i < l.length))
      generalize hn:nth l i=n at p0 p1 p2 p3 p4 p5 HPO
      have HD:Hid (nth l i=n):=hn
      have HPO':Hid (∀ k (hk:k < (parts n).length),0<=(parts n)[k]/\(parts n)[k] < i):=HPO
      clear hn HPO
      obtain ⟨wb,rfl⟩:∃ wb:World,wb=wr:=⟨_,rfl⟩
      go_wp2_with fail
      refine (sParts n _).mono ?_
      rintro e w1 ⟨⟨pa,pc,rfl,hpi⟩,hb1⟩
      have HP:Hid (WInts w1 wb.heap.size pa (parts n)):=hpi
      have HB1:Hid (Below wb.heap.size wb w1):=hb1
      clear hpi hb1 p0 p1 p2 p3 p4 p5
      have hpl:=parts_le n
      go_wp2_with fail
      have HOW1:Hid (Owb w1 w.heap.size (.slice (some ⟨g,0,none⟩) l.length cp) bs):=HOB.out.kept (S:=fun _=>False) (Kept.ofBelow HB1.out) (fun _ _ h=>h)
      go_loopw [7] (fun q wr=>∃ k:Nat,k<=(parts n).length/\q=.int .i64 k/\∃ b3:List Bool,Owb wr w.heap.size (.slice (some ⟨g,0,none⟩) l.length cp) b3/\b3.length=l.length/\flag b3 i=flag bs i/\(flag bs i=true->markAll b3 ((parts n).drop k)=markAll bs (parts n))/\(flag bs i=false->b3=bs)/\Kept (fun x=>x=g) w1 wr) (fun q _=>(parts n).length - (intOf q).toNat)
      case atStart=>exact ⟨0,Nat.zero_le _,rfl,bs,HOW1.out,HBL.out,rfl,fun _=>rfl,fun _=>rfl,Kept.refl _ _⟩
      case round =>
       obtain ⟨k,hk,rfl,b3,ho3,hl3,hf3,hm3,he3,hk3⟩:=hrel
       have HO3:Hid (Owb wr w.heap.size (.slice (some ⟨g,0,none⟩) l.length cp) b3):=ho3
       have HL3:Hid (b3.length=l.length):=hl3
       have HF3:Hid (flag b3 i=flag bs i):=hf3
       have HM3:Hid (flag bs i=true->markAll b3 ((parts n).drop k)=markAll bs (parts n)):=hm3
       have HE3:Hid (flag bs i=false->b3=bs):=he3
       have HK3:Hid (Kept (fun x=>x=g) w1 wr):=hk3
       have cI:wr.cell? ⟨g,i,none⟩=some (.bool (flag bs i)):=by
        have h9:=(ho3.cell' hl3 i (by omega)).1
        rw [flag_get,hf3] at h9
        exact h9
       have HBEL:Hid (Below w.heap.size w wr):=(HBB.out.trans (HB1.out.mono HBB.out.size)).trans (hk3.below (fun k hk=>by subst hk;exact hg1) (Nat.le_trans HBB.out.size HB1.out.size))
       have HSZ:Hid (g < wr.heap.size):=by
        have h1:=HB1.out.size
        have h2:=hk3.size
        show g < _
        omega
       clear hl3 hf3 hm3 he3 hk3
       have HEND:Hid ((flag bs i=true->k=(parts n).length)->reachDown l i b3=reachL l):=by
        show (flag bs i=true->k=(parts n).length)->reachDown l i b3=reachL l
        intro hend
        rw [<- HRD.out]
        show _=reachDown l i (reachStep l bs i)
        congr 1
        unfold reachStep
        cases hfb:flag bs i
        ·rw [HE3.out hfb];rfl
        ·have h9:=HM3.out hfb
         rw [hend hfb,List.drop_length] at h9
         rw [HD.out]
         exact h9
       by_cases hlt:k < (parts n).length
       ·have hlz:(k:Int) < ((parts n).length:Int):=by omega
        cases hfb:flag bs i
        ·rw [hfb] at cI
         clear ho3
         go_wp2
         go_roundw
         case rel=>exact ⟨i,by omega,by go_num,b3,HO3.out,HL3.out,HEND.out (fun h=>by rw [hfb] at h;cases h),HBEL.out,HSZ.out⟩
         case measure=>simp [intOf]
        ·rw [hfb] at cI
         rcases (HP.out.kept HK3.out (fun x hx e=>by
          subst hx
          rcases HP.out.2 with h0|⟨pb,po,hpe,hpB,_⟩
          ·omega
          ·cases hpe;simp at e;omega)).2 with h0|⟨pb,po,rfl,hpB,hpc⟩
         ·omega
         have q0:=(hpc k hlt).1
         obtain ⟨hx0,hx1⟩:=HPO'.out k hlt
         have HDR:Hid ((parts n).drop k=(parts n)[k] :: (parts n).drop (k+1)):=List.drop_eq_getElem_cons hlt
         clear hpc
         generalize (parts n)[k]=x at q0 hx0 hx1 HDR
         obtain ⟨c1,c2⟩:=ho3.cell' HL3.out x.toNat (by omega)
         clear ho3
         have hxz:x < (l.length:Int):=by omega
         go_wp2
         go_roundw
         case rel =>
          have hle:x.toNat < b3.length:=by rw [HL3.out];omega
          refine ⟨k+1,by omega,by go_num,b3.set x.toNat true,HO3.out.set' HL3.out _ _,by rw [List.length_set];exact HL3.out,?_,?_,?_,HK3.out.setCell rfl _⟩
          ·rw [flag_set hle,if_neg (by omega)];exact HF3.out.trans hfb
          ·intro _
           have h9:=HM3.out hfb
           rw [HDR.out] at h9
           exact h9
          ·intro h;cases h
         case measure=>simp [intOf];omega
       ·clear ho3
        go_wp2
        go_roundw
        case rel=>exact ⟨i,by omega,by go_num,b3,HO3.out,HL3.out,HEND.out (fun _=>by omega),HBEL.out,HSZ.out⟩
        case measure=>simp [intOf]
end Sp5
namespace Tm2
open Nd0 Pl1 Tm0 Tm1
def reachTo (l:List Nd) (k:Nat):List Int:=((List.range k).filter (flag (reachL l))).map fun (i:Nat)=>(i:Int)
def reachedL (l:List Nd):List Int:=if termOk l then reachTo l l.length else []
theorem reachTo_succ (l:List Nd) (k:Nat):reachTo l (k+1)=if flag (reachL l) k then reachTo l k++[(k:Int)] else reachTo l k:=by
 unfold reachTo
 rw [List.range_succ,List.filter_append,List.map_append]
 cases h:flag (reachL l) k<;>simp [h]
theorem reachTo_length (l:List Nd) (k:Nat):(reachTo l k).length<=k:=by
 unfold reachTo
 rw [List.length_map]
 exact Nat.le_trans (List.length_filter_le _ _) (by simp)
end Tm2
namespace Sp6
open Go.RowKit
open Nd0 Nd1 Tm0 Tm1 Tm2 Ap0 Ap1 Sp2 Sp4 Sp5
end Sp6
namespace Tm3
open Nd0 Pl1 Tm0 Tm1 Tm2
def plc (l:List Nd) (p:Int):Int:=((reachTo l p.toNat).length:Int)
def places (l:List Nd) (k:Nat):List Int:=(List.range k).map fun i=>((reachTo l i).length:Int)
theorem places_length (l:List Nd) (k:Nat):(places l k).length=k:=by simp [places]
theorem places_get (l:List Nd) (k i:Nat) (h:i < (places l k).length):(places l k)[i]=plc l (i:Int):=by simp [places,plc]
theorem places_succ (l:List Nd) (k:Nat):places l (k+1)=places l k++[((reachTo l k).length:Int)]:=by
 unfold places;rw [List.range_succ,List.map_append];rfl
def remap (l:List Nd) (n:Nd):Nd :=
 ⟨n.op,n.w,n.k,if 0 < (parts n).length then plc l n.a else n.a,if 1 < (parts n).length then plc l n.b else n.b,if 2 < (parts n).length then plc l n.c else n.c⟩
def pruneTo (l:List Nd) (k:Nat):List Nd:=((List.range k).filter (flag (reachL l))).map fun i=>remap l (nth l i)
def pruneL (l:List Nd):List Nd:=if termOk l then pruneTo l l.length else []
theorem pruneTo_succ (l:List Nd) (k:Nat):pruneTo l (k+1)=if flag (reachL l) k then pruneTo l k++[remap l (nth l k)] else pruneTo l k:=by
 unfold pruneTo
 rw [List.range_succ,List.filter_append,List.map_append]
 cases h:flag (reachL l) k<;>simp [h]
theorem pruneTo_length (l:List Nd) (k:Nat):(pruneTo l k).length=(reachTo l k).length:=by simp [pruneTo,reachTo]
theorem pruneL_le (l:List Nd):(pruneL l).length<=l.length:=by
 unfold pruneL;split
 ·rw [pruneTo_length];exact reachTo_length l _
 ·exact Nat.zero_le _
theorem parts_cases (n:Nd):parts n=[]\/parts n=[n.a]\/parts n=[n.a,n.b]\/parts n=[n.a,n.b,n.c]:=by
 unfold parts
 split
 ·exact .inr (.inl rfl)
 ·split
  ·exact .inr (.inr (.inl rfl))
  ·split
   ·exact .inr (.inr (.inr rfl))
   ·exact .inl rfl
end Tm3
end Go.Proofs.YthanhcobfehmnaaGreat
