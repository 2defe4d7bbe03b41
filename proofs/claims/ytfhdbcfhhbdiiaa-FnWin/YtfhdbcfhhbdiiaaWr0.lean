import Derived.Test.YtfhdbcfhhbdiiaaPkXW12
namespace Go.Proofs.Ytfhdbcfhhbdiiaa
set_option maxRecDepth 100000
set_option maxHeartbeats 8000000
set_option linter.unusedVariables false
namespace Wr0
open Go.RowKit
open Nd0 (Kept Ints WInts IntsIn At Ats marks marks_length lt_of_cell set_same set_other)
open Nd6 (markIntB heldIntB)
open Op6 (Pk PkAt Pks)
open Wp0 Wp7
/-- A pick in memory. -/
structure Pq where
 a:Option Addr
 c:Nat
 l:List Int
 v:Int
def Pq.pk (q:Pq):Pk:=⟨q.l,q.v⟩
/-- The block that its values lie in. -/
def Pq.own (q:Pq) (b:Nat):Prop:=Ats q.l.length q.a b
def Pq.cells (q:Pq):List Value:=[.slice q.a q.l.length q.c,.int .i64 q.v]
def flatP (qs:List Pq):List Value:=qs.flatMap Pq.cells
theorem flatP_length (qs:List Pq):(flatP qs).length=qs.length*2:=by
 induction qs with
 | nil=>rfl
 | cons q r ih =>
   show (q.cells++flatP r).length=_
   rw [List.length_append,ih,List.length_cons,show q.cells.length=2 from rfl]
   omega
theorem flatP_app (l m:List Pq):flatP (l++m)=flatP l++flatP m:=by simp [flatP]
theorem flatP_get (qs:List Pq):∀ (i d:Nat) (h:i < qs.length),d < 2->(flatP qs)[i*2+d]? = (qs[i].cells)[d]? := by
 induction qs with
 | nil=>intro i d h;cases h
 | cons q r ih =>
   intro i d h hd
   show (q.cells++flatP r)[i*2+d]? = _
   cases i with
   | zero =>
     rw [List.getElem?_append_left (by show _ < 2;omega),Nat.zero_mul,Nat.zero_add]
     rfl
   | succ i =>
     rw [List.getElem?_append_right (by show 2<=_;omega),show (i+1)*2+d - q.cells.length=i*2+d from by show _ - 2=_;omega]
     exact ih i d (by simpa using h) hd
/-- A list of picks of one's own in block g, its values in blocks apart. -/
structure Lq (W:World) (B g cap:Nat) (qs:List Pq):Prop where
 row:W.ownsRow B 61 2 (.slice (some ⟨g,0,none⟩) qs.length cap) qs.length (flatP qs)
 ins:∀ q∈qs,WInts W B q.a q.l
 two:qs.Pairwise fun p q=>∀ b,p.own b->¬ q.own b
 out:∀ q∈qs,¬ q.own g
theorem Lq.lt {W:World} {B g cap:Nat} {qs:List Pq} (h:Lq W B g cap qs):B<=g/\g < W.heap.size:=World.ownsRow.lt h.row g rfl
theorem wi_own {W:World} {B:Nat} {q:Pq} (h:WInts W B q.a q.l) {b:Nat} (hb:q.own b):B<=b/\b < W.heap.size:=by
 obtain ⟨h0,x,hx,rfl⟩:=hb
 rcases h.2 with e|⟨b,o,ha,hB,hc⟩
 ·omega
 ·rw [ha] at hx
  cases hx
  exact ⟨hB,lt_of_cell (hc 0 h0).1⟩
theorem wi_kept {W W':World} {B:Nat} {q:Pq} (h:WInts W B q.a q.l) {S:Nat->Prop} (k:Kept S W W') (hs:∀ b,q.own b->¬ S b):WInts W' B q.a q.l:=by
 refine ⟨h.1,?_⟩
 rcases h.2 with e|⟨b,o,ha,hB,hc⟩
 ·exact .inl e
 ·refine .inr ⟨b,o,ha,hB,fun i hi=>?_⟩
  have hn:¬ S b:=hs b ⟨by omega,_,ha,rfl⟩
  have hl:=lt_of_cell (hc i hi).1
  exact ⟨by rw [k.cell (p:=⟨b,o+i,none⟩) hl hn];exact (hc i hi).1,by rw [k.frozen (p:=⟨b,o+i,none⟩) hl hn];exact (hc i hi).2⟩
theorem Lq.kept {W W':World} {B g cap:Nat} {qs:List Pq} (h:Lq W B g cap qs) {S:Nat->Prop} (k:Kept S W W') (hg:¬ S g) (hs:∀ q∈qs,∀ b,q.own b->¬ S b):Lq W' B g cap qs:=by
 refine ⟨⟨h.row.1,?_⟩,fun q hq=>wi_kept (h.ins q hq) k (hs q hq),h.two,h.out⟩
 rcases h.row.2 with ⟨e,_⟩|⟨g',cap',cur,e,hb,hgg,rest⟩
 ·cases e
 ·cases e
  exact .inr ⟨g,cap,cur,rfl,hb,by rw [k.block g (Array.getElem?_eq_some_iff.1 hgg).1 hg];exact hgg,rest⟩
theorem Lq.below {W W':World} {B g cap:Nat} {qs:List Pq} (h:Lq W B g cap qs) (k:Below W.heap.size W W'):Lq W' B g cap qs:=h.kept (S:=fun _=>False) (Kept.ofBelow k) (fun h=>h) (fun _ _ _ _ h=>h)
theorem Lq.at_ {W:World} {B g cap:Nat} {qs:List Pq} (h:Lq W B g cap qs) (i:Nat) (hi:i < qs.length) (d:Nat) (hd:d < 2):W.cell? ⟨g,i*2+d,none⟩=(qs[i].cells)[d]? /\ W.frozen? ⟨g,i*2+d,none⟩=false:=by
 rcases h.row.2 with ⟨e,_⟩|⟨g',cap',cur,e,hb,hgg,_,_,hsz,ht⟩
 ·cases e
 ·cases e
  refine ⟨?_,by simp [World.frozen?,hgg]⟩
  rw [cell_of_row W g (i*2+d) cur _ _ hgg]
  have e2:=flatP_get qs i d hi hd
  rw [<- ht,List.getElem?_take_of_lt (by omega)] at e2
  simpa using e2
theorem Lq.lit (W:World) (B:Nat) (hB:B<=W.heap.size):Lq (W.alloc (.cells #[] 61)) B W.heap.size 0 [] :=
 ⟨World.ownsRow_lit W #[] 0 hB (Nat.zero_le _) rfl,fun _ h=>(by cases h),List.Pairwise.nil,fun _ h=>(by cases h)⟩
theorem Lq.pks {W:World} {B g cap:Nat} {qs:List Pq} (h:Lq W B g cap qs) (hl:qs.length<=maxLen):Pks W (some ⟨g,0,none⟩) (qs.map Pq.pk):=by
 refine ⟨by rw [List.length_map];exact hl,.inr ⟨g,0,rfl,fun i hi=>?_⟩⟩
 rw [List.length_map] at hi
 rw [Nat.zero_add,List.getElem_map]
 have h0:=(h.at_ i hi 0 (by omega)).1
 have h1:=(h.at_ i hi 1 (by omega)).1
 exact ⟨qs[i].a,qs[i].c,h0,h1,(h.ins _ (List.getElem_mem hi)).ints⟩
/-- The marks ahead of the pick i. -/
def pre (qs:List Pq) (i:Nat):Nat:=((qs.take i).map fun q=>q.l.length+1).sum
theorem pre_succ {qs:List Pq} {i:Nat} (h:i < qs.length):pre qs (i+1)=pre qs i+(qs[i].l.length+1):=by
 unfold pre
 rw [List.take_succ_eq_append_getElem h]
 simp only [List.map_append,List.map_cons,List.map_nil,List.sum_append,List.sum_cons,List.sum_nil]
 omega
theorem pre_le (qs:List Pq) (n:Nat):∀ i,i<=n->n<=qs.length->pre qs i<=pre qs n:=by
 induction n with
 | zero=>intro i hi _;rw [show i=0 by omega];exact Nat.le_refl _
 | succ n ih =>
   intro i hi hn
   by_cases e:i=n+1
   ·rw [e];exact Nat.le_refl _
   ·have:=ih i (by omega) (by omega)
    rw [pre_succ (by omega)]
    omega
/-- The first j picks of the list in block g have their marks. -/
def Mk (W:World) (B g:Nat) (qs:List Pq) (k0:Int) (j:Nat):Prop :=
 ∀ i (h:i < qs.length),W.cell? ⟨g,i*2,none⟩=some (.slice qs[i].a qs[i].l.length qs[i].c)/\W.frozen? ⟨g,i*2+1,none⟩=false/\(∃ x:Int,W.cell? ⟨g,i*2+1,none⟩=some (.int .i64 x)/\(i < j->x=k0+pre qs i+qs[i].l.length))/\∃ l:List Int,l.length=qs[i].l.length/\WInts W B qs[i].a l/\(i < j->l=marks qs[i].l.length (k0+pre qs i))
theorem Lq.marked {W:World} {B g cap:Nat} {qs:List Pq} (h:Lq W B g cap qs) (k0:Int):Mk W B g qs k0 0:=fun i hi=>by
 have h0:=h.at_ i hi 0 (by omega)
 have h1:=h.at_ i hi 1 (by omega)
 exact ⟨h0.1,h1.2,⟨_,h1.1,fun e=>by omega⟩,_,rfl,h.ins _ (List.getElem_mem hi),fun e=>by omega⟩
theorem wi_of {W W':World} {B:Nat} {a:Option Addr} {l:List Int} (h:WInts W B a l) {S:Nat->Prop} (k:Kept S W W') (hs:∀ b,Ats l.length a b->¬ S b):WInts W' B a l:=wi_kept (q:=⟨a,0,l,0⟩) h k hs
theorem Mk.kept {W W':World} {B g:Nat} {qs:List Pq} {k0:Int} {j:Nat} (h:Mk W B g qs k0 j) {S:Nat->Prop} (k:Kept S W W') (hg:¬ S g) (hs:∀ q∈qs,∀ b,q.own b->¬ S b):Mk W' B g qs k0 j:=fun i hi=>by
 obtain ⟨h0,h1,⟨x,h2,h3⟩,l,h4,h5,h6⟩:=h i hi
 have hl:=lt_of_cell h0
 exact ⟨by rw [k.cell (p:=⟨g,i*2,none⟩) hl hg];exact h0,by rw [k.frozen (p:=⟨g,i*2+1,none⟩) hl hg];exact h1,⟨x,by rw [k.cell (p:=⟨g,i*2+1,none⟩) hl hg];exact h2,h3⟩,l,h4,wi_of h5 k (fun b hb=>hs _ (List.getElem_mem hi) b (by unfold Pq.own;rw [<- h4];exact hb)),h6⟩
theorem two_at {qs:List Pq} (h:qs.Pairwise fun p q=>∀ b,p.own b->¬ q.own b) {i j:Nat} (hi:i < qs.length) (hj:j < qs.length) (hn:i≠j) {b:Nat} (h1:qs[i].own b):¬ qs[j].own b:=by
 rcases Nat.lt_or_ge i j with e|e
 ·exact List.pairwise_iff_getElem.1 h i j hi hj e b h1
 ·exact fun h2=>List.pairwise_iff_getElem.1 h j i hj hi (by omega) b h2 h1
theorem markPickS (w:World) (B g cap:Nat) (qs:List Pq) (h:Lq w B g cap qs) (hn:qs.length<=1048576) (hs:pre qs qs.length<=1000000) :
 Calls Try.prog 21 #[.slice (some ⟨g,0,none⟩) qs.length cap,.int .i64 1] w fun e w'=>e=.returned (.int .i64 (1+(pre qs qs.length:Int)))/\Mk w' B g qs 1 qs.length/\Kept (fun b=>b=g\/∃ q∈qs,q.own b) w w':=by
 have H:Hid (Lq w B g cap qs):=h
 have HS:Hid (pre qs qs.length<=1000000):=hs
 have HL:Hid (∀ i (hi:i < qs.length),qs[i].l.length<=1000000):=fun i hi=>by
  have h1:=pre_le qs qs.length (i+1) hi (Nat.le_refl _)
  rw [pre_succ hi] at h1
  omega
 clear h hs
 go_enter Try.func21,Try.ntmps21
 go_wp2
 go_loopw [1,5] (fun q i wr=>∃ j:Nat,j<=qs.length/\i=.int .i64 j/\q=.int .i64 (1+(pre qs j:Int))/\Mk wr B g qs 1 j/\Kept (fun b=>b=g\/∃ q∈qs,q.own b) w wr) (fun _ i _=>qs.length - (intOf i).toNat)
 case atStart=>exact ⟨0,Nat.zero_le _,rfl,rfl,H.out.marked 1,Kept.refl _ _⟩
 case round =>
  obtain ⟨j,hj,rfl,rfl,hm,hk⟩:=hrel
  have HM:Hid (Mk wr B g qs 1 j):=hm
  have HK:Hid (Kept (fun b=>b=g\/∃ q∈qs,q.own b) w wr):=hk
  clear hm hk
  by_cases hlt:j < qs.length
  ·have hlz:(j:Int) < (qs.length:Int):=by omega
   obtain ⟨h0,h1,⟨x,h2,_⟩,l,h4,h5,_⟩:=HM.out j hlt
   have HLJ:=HL.out j hlt
   have hpj:=pre_le qs qs.length j hj (Nat.le_refl _)
   have hpb:=HS.out
   have hgl:=lt_of_cell h0
   have HMI:Hid (Calls Try.prog 48 #[.slice qs[j].a qs[j].l.length qs[j].c,.int .i64 (1+(pre qs j:Int))] wr fun e w'=>e=.returned (.int .i64 (1+(pre qs j:Int)+(qs[j].l.length:Int)))/\WInts w' B qs[j].a (marks qs[j].l.length (1+(pre qs j:Int)))/\Kept (Ats qs[j].l.length qs[j].a) wr w'):=by
    have:=markIntB wr B qs[j].a l qs[j].c h5 (1+(pre qs j:Int)) (by omega) (by omega) (by omega)
    rw [h4] at this
    exact this
   have H1:Hid (wr.frozen? ⟨g,j*2+1,none⟩=false):=h1
   have H2:Hid (wr.cell? ⟨g,j*2+1,none⟩=some (.int .i64 x)):=h2
   have HGN:Hid (¬ Ats qs[j].l.length qs[j].a g):=H.out.out _ (List.getElem_mem hlt)
   clear h1 h2 h4 h5
   obtain ⟨qa,hqa⟩:∃ y,y=qs[j].a:=⟨_,rfl⟩
   obtain ⟨ql,hql⟩:∃ y,y=qs[j].l.length:=⟨_,rfl⟩
   obtain ⟨qc,hqc⟩:∃ y,y=qs[j].c:=⟨_,rfl⟩
   obtain ⟨pj,hpq⟩:∃ y,y=pre qs j:=⟨_,rfl⟩
   have HQA:Hid (qa=qs[j].a):=hqa
   have HQL:Hid (ql=qs[j].l.length):=hql
   have HPJ:Hid (pj=pre qs j):=hpq
   rw [<- hqa,<- hql,<- hqc] at h0
   rw [<- hqa,<- hql,<- hqc,<- hpq] at HMI
   rw [<- hqa,<- hql] at HGN
   rw [<- hql] at HLJ
   rw [<- hpq] at hpj ⊢
   clear hqa hql hqc hpq
   go_wp2_with fail
   clear h0
   refine Calls.mono HMI.out ?_
   rintro e w1 ⟨rfl,hw1,hk1⟩
   have HW1:Hid (WInts w1 B qa (marks ql (1+(pj:Int)))):=hw1
   have HK1:Hid (Kept (Ats ql qa) wr w1):=hk1
   have c1:w1.cell? ⟨g,j*2+1,none⟩=some (.int .i64 x):=by rw [hk1.cell (p:=⟨g,j*2+1,none⟩) hgl HGN.out];exact H2.out
   have f1:w1.frozen? ⟨g,j*2+1,none⟩=false:=by rw [hk1.frozen (p:=⟨g,j*2+1,none⟩) hgl HGN.out];exact H1.out
   have gl1:=lt_of_cell c1
   clear hw1 hk1
   go_wp2
   go_roundw
   case rel =>
    obtain ⟨Y,hY⟩:∃ Y,Y=w1.setCell ⟨g,j*2+1,none⟩ (.int .i64 (1+(pj:Int)+(ql:Int))):=⟨_,rfl⟩
    rw [<- hY]
    have KY:Kept (fun b=>b=g) w1 Y:=by rw [hY];exact (Kept.refl (fun b=>b=g) w1).setCell (p:=⟨g,j*2+1,none⟩) rfl _
    have hqj:∀ b,Ats ql qa b->qs[j].own b:=fun b hb=>by unfold Pq.own;rw [<- HQA.out,<- HQL.out];exact hb
    refine ⟨j+1,by omega,by go_num,?_,fun i hi=>?_,((HK.out.trans (HK1.out.mono fun b hb=>.inr ⟨_,List.getElem_mem hlt,hqj b hb⟩)).trans (KY.mono fun b hb=>.inl hb))⟩
    ·rw [pre_succ hlt,<- HPJ.out,<- HQL.out]
     exact congrArg (Value.int .i64) (by omega)
    ·obtain ⟨i0,i1,⟨x',i2,i3⟩,l',i4,i5,i6⟩:=HM.out i hi
     have z0:Y.cell? ⟨g,i*2,none⟩=some (.slice qs[i].a qs[i].l.length qs[i].c):=by rw [hY,set_other (by simp<;>omega),HK1.out.cell (p:=⟨g,i*2,none⟩) hgl HGN.out];exact i0
     have z1:Y.frozen? ⟨g,i*2+1,none⟩=false:=by rw [hY,World.frozen?_setCell,HK1.out.frozen (p:=⟨g,i*2+1,none⟩) hgl HGN.out];exact i1
     by_cases e:i=j
     ·subst e
      refine ⟨z0,z1,⟨_,by rw [hY];exact set_same c1,fun _=>by rw [HPJ.out,HQL.out]⟩,marks ql (1+(pj:Int)),by rw [marks_length,HQL.out],?_,fun _=>by rw [HPJ.out,HQL.out]⟩
      rw [<- HQA.out]
      refine wi_of HW1.out KY fun b hb hbg=>?_
      rw [marks_length] at hb
      rw [hbg] at hb
      exact HGN.out hb
     ·have hne:∀ b,Ats l'.length qs[i].a b->¬ Ats ql qa b:=fun b hb h2=>two_at H.out.two hi hlt e (by unfold Pq.own;rw [<- i4];exact hb) (hqj b h2)
      refine ⟨z0,z1,⟨x',by rw [hY,set_other (by simp<;>omega),HK1.out.cell (p:=⟨g,i*2+1,none⟩) hgl HGN.out];exact i2,fun h=>i3 (by omega)⟩,l',i4,?_,fun h=>i6 (by omega)⟩
      refine wi_of (wi_of i5 HK1.out hne) KY fun b hb hbg=>?_
      rw [hbg] at hb
      exact H.out.out _ (List.getElem_mem hi) (by unfold Pq.own;rw [<- i4];exact hb)
   case measure=>simp [intOf];omega
  ·have hlz:¬ (j:Int) < (qs.length:Int):=by omega
   have e:j=qs.length:=by omega
   subst e
   go_wp2
   go_ret
   exact ⟨rfl,HM.out,HK.out⟩
theorem heldPickS (w:World) (B g cap:Nat) (qs:List Pq) (h:Mk w B g qs 1 qs.length) (hn:qs.length<=1048576) (hs:pre qs qs.length<=1000000) :
 Calls Try.prog 22 #[.slice (some ⟨g,0,none⟩) qs.length cap,.int .i64 1] w fun e w'=>e=.returned (.int .i64 (1+(pre qs qs.length:Int)))/\w'=w:=by
 have H:Hid (Mk w B g qs 1 qs.length):=h
 have HS:Hid (pre qs qs.length<=1000000):=hs
 clear h hs
 go_enter Try.func22,Try.ntmps22
 go_wp2
 go_loop [1,5] (fun q i=>∃ j:Nat,j<=qs.length/\i=.int .i64 j/\q=.int .i64 (1+(pre qs j:Int))) (fun _ i=>qs.length - (intOf i).toNat)
 case atStart=>exact ⟨0,Nat.zero_le _,rfl,rfl⟩
 case round =>
  obtain ⟨j,hj,rfl,rfl⟩:=hrel
  by_cases hlt:j < qs.length
  ·have hlz:(j:Int) < (qs.length:Int):=by omega
   obtain ⟨h0,_,⟨x,h2,h3⟩,l,h4,h5,h6⟩:=H.out j hlt
   have hx:=h3 hlt
   have hl:=h6 hlt
   subst hx hl
   have hp1:=pre_le qs qs.length (j+1) hlt (Nat.le_refl _)
   have hpb:=HS.out
   have HPS:Hid (pre qs (j+1)=pre qs j+(qs[j].l.length+1)):=pre_succ hlt
   rw [HPS.out] at hp1
   have hgl:=lt_of_cell h0
   have HMI:Hid (Calls Try.prog 49 #[.slice qs[j].a qs[j].l.length qs[j].c,.int .i64 (1+(pre qs j:Int))] w fun e w'=>e=.returned (.int .i64 (1+(pre qs j:Int)+(qs[j].l.length:Int)))/\w'=w):=heldIntB w qs[j].a qs[j].l.length qs[j].c (1+(pre qs j:Int)) h5.ints (by omega) (by omega) (by omega)
   clear h4 h5 h6 h3
   generalize qs[j].a=qa at *
   generalize qs[j].l.length=ql at *
   generalize qs[j].c=qc at *
   obtain ⟨pj,hpq⟩:∃ y,y=pre qs j:=⟨_,rfl⟩
   rw [<- hpq] at HMI HPS hp1 h2 ⊢
   clear hpq
   have hz0:¬ (1:Int)+(pj:Int)+(ql:Int) < 0:=by omega
   have hz1:((1:Int)+(pj:Int)+(ql:Int) != 1+(pj:Int)+(ql:Int))=false:=by simp
   go_wp2_with (go_at_call 49;refine Calls.mono HMI.out ?_;rintro e w' ⟨rfl,hw'⟩;have hw'':=hw'.symm;clear hw';subst hw'')
   go_round
   case rel=>exact ⟨j+1,by omega,by go_num,by rw [HPS.out];exact congrArg (Value.int .i64) (by omega)⟩
   case measure=>simp [intOf];omega
  ·have hlz:¬ (j:Int) < (qs.length:Int):=by omega
   have e:j=qs.length:=by omega
   subst e
   go_wp2
   go_ret
   exact ⟨rfl,rfl⟩
end Wr0
end Go.Proofs.Ytfhdbcfhhbdiiaa
