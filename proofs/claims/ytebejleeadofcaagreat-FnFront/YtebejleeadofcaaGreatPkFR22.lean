import Derived.WalkKit
import Derived.Laws.Bits64
import Derived.Laws.Bits64b
import Derived.Test.YtebejleeadofcaaGreatRows
import Derived.WalkSpells
import Derived.WalkLawsBesides
import Derived.Deep.QuietTactic
import Derived.BigQuiet
import Derived.Deep.RegionWith
import Derived.Laws.MakeOwn
import Derived.Deep.RegionHeld3
import Derived.Deep.AppendLies
import Derived.OwnWalk
import Derived.Laws.IdiomStrings
import Derived.Test.YtebejleeadofcaaGreatPkFR17
import Derived.Test.YtebejleeadofcaaGreatPkFR21
import Derived.Test.YtebejleeadofcaaGreatFr1
import Derived.Test.YtebejleeadofcaaGreatPkFR15
import Derived.Test.YtebejleeadofcaaGreatPkFR3
import Derived.Test.YtebejleeadofcaaGreatPkFR0
namespace Go.Proofs.YtebejleeadofcaaGreat
set_option maxRecDepth 100000
set_option maxHeartbeats 8000000
set_option linter.unusedVariables false
namespace Fb0
open Nd0 Qa0 Pl1 Tm0 Tm1 Tm3 Tm4 Tm5 Tm6 Tm8 Tm9 Tm10 Tm11 Tm12 Tm14 Tr0 Vl1 Vl4 Vl5 Fr0 Fr1 Fr2 Fr3 Fr5
theorem var_why {l:List Nd} (hD:Down l) {v:Nat} (hv:v < 8):∀ i,i < l.length->flag (row (freeRows l l.length) (i:Int)) v=true->∃ j,j<=i/\(nth l j).op=1/\(nth l j).k=(v:Int):=by
 intro i
 induction i using Nat.strongRecOn with
 | ind i ih =>
   intro hi hf
   rw [free_at hD hi hv] at hf
   unfold freeAt at hf
   split at hf
   ·cases hf
   ·simp only [Bool.or_eq_true,Bool.and_eq_true,beq_iff_eq] at hf
    rcases hf with ⟨h1,h2⟩|h
    ·exact ⟨i,Nat.le_refl _,h1,h2⟩
    ·unfold inParts at h
     obtain ⟨p,hp,hf⟩:=List.any_eq_true.1 h
     have:=hD i hi p hp
     obtain ⟨y,rfl⟩:∃ y:Nat,p=(y:Int):=⟨p.toNat,by omega⟩
     obtain ⟨j,h1,h2⟩:=ih y (by omega) (by omega) hf
     exact ⟨j,by omega,h2⟩
theorem free_why {l:List Nd} (hT:termOk l=true) {x:Int} (h:x∈freeL l):∃ i,i < l.length/\(nth l i).op=1/\(nth l i).k=x:=by
 unfold freeL at h
 rw [hT,if_pos rfl] at h
 unfold freeTo at h
 obtain ⟨v,hv,rfl⟩:=List.mem_map.1 h
 obtain ⟨h1,h2⟩:=List.mem_filter.1 hv
 have h8:=List.mem_range.1 h1
 have hl:=term_len hT
 unfold freeTop at h2
 have e:(l.length:Int) - 1=((l.length - 1:Nat):Int):=by omega
 rw [e] at h2
 obtain ⟨j,h3,h4,h5⟩:=var_why (down_of hT) h8 (l.length - 1) (by omega) h2
 exact ⟨j,by omega,h4,h5⟩
structure Bk (q:List Qu) (r m:List Nd) (k:Nat):Prop where
 len:m.length=r.length+k
 lo:∀ i,i < r.length->nth m i=nth r i
 hi:∀ i,r.length<=i->i < m.length->quant (nth m i).op=true/\parts (nth m i)=[(i:Int) - 1]
 term:termOk m=true
 wid:(nth m (m.length - 1)).w=1
 all:∀ i,i < m.length->flag (reachL m) i=true
 hold:∀ i,i < r.length->flag (holdTo m m.length) i=false
 ws:∃ ws,quantsTo m m.length=some ws/\(∀ j,q.length<=j+k->j < q.length->wd ws (qth q j).vr=(qth q j).bits)/\∀ v:Nat,(∀ j,q.length<=j+k->j < q.length->(qth q j).vr≠(v:Int))->wd ws (v:Int)=0
 use:∀ i,r.length<=i->i < m.length->wd (usesF m m.length) (i:Int)<=1
 free:∀ x∈freeL m,x∈freeL r/\∀ j,q.length<=j+k->j < q.length->(qth q j).vr≠x
 wk:wk (root m) false=q.drop (q.length - k)
 str:str (root m)=str (root r)
theorem no_hold {l:List Nd} (hD:Down l) (h:∀ i,i < l.length->quant (nth l i).op=false):∀ i,i < l.length->flag (holdTo l l.length) i=false:=by
 intro i
 induction i using Nat.strongRecOn with
 | ind i ih =>
   intro hi
   rw [hold_at hD hi,h i hi]
   have:below (holdTo l l.length) (parts (nth l i))=false:=by
    unfold below
    rw [List.any_eq_false]
    intro p hp
    have:=hD i hi p hp
    rw [ih p.toNat (by omega) (by omega)]
    simp
   rw [this];rfl
theorem no_quants {l:List Nd} (h:∀ i,i < l.length->quant (nth l i).op=false):∀ k,k<=l.length->quantsTo l k=some (List.replicate 8 0):=by
 intro k
 induction k with
 | zero=>intro _;rfl
 | succ k ih =>
   intro hk
   show (quantsTo l k).bind _=_
   rw [ih (by omega)]
   show qStep l _ k=_
   unfold qStep
   rw [h k (by omega),Bool.and_false]
   rfl
theorem wd_rep (v:Int):wd (List.replicate 8 0) v=0:=by
 unfold wd
 rw [List.getD_eq_getElem?_getD,List.getElem?_replicate]
 split<;>rfl
theorem wd_set_same {ws:List Int} (h8:ws.length=8) {v b:Int} (hv:0<=v/\v<=7):wd (ws.set v.toNat b) v=b:=by
 unfold wd
 rw [List.getD_eq_getElem?_getD,List.getElem?_set_self (by omega)]
 rfl
theorem wd_set_other {ws:List Int} {v u b:Int} (hv:0<=v) (hu:0<=u) (h:v≠u):wd (ws.set v.toNat b) u=wd ws u:=by
 unfold wd
 rw [List.getD_eq_getElem?_getD,List.getD_eq_getElem?_getD,List.getElem?_set_ne (by omega)]
theorem bk_zero {q:List Qu} {r:List Nd} (hT:termOk r=true) (hw:(nth r (r.length - 1)).w=1) (hR:∀ i,i < r.length->flag (reachL r) i=true) (hQ:∀ i,i < r.length->quant (nth r i).op=false):Bk q r r 0:=by
 have hD:=down_of hT
 have hl:=term_len hT
 refine ⟨rfl,fun _ _=>rfl,fun i h1 h2=>by omega,hT,hw,hR,no_hold hD hQ,⟨_,no_quants hQ _ (Nat.le_refl _),fun j h1 h2=>by omega,fun v _=>wd_rep _⟩,fun i h1 h2=>by omega,fun x hx=>⟨hx,fun j h1 h2=>by omega⟩,?_,rfl⟩
 rw [Nat.sub_zero,List.drop_length]
 exact wk_none hT (by omega) (no_hold hD hQ _ (by omega)) false
theorem bk_step {q:List Qu} {r m:List Nd} {k:Nat} (h:Bk q r m k) (hk:k < q.length) (h80:m.length < 80) (hx:0<=(qth q (q.length - 1 - k)).vr/\(qth q (q.length - 1 - k)).vr<=7/\1<=(qth q (q.length - 1 - k)).bits/\(qth q (q.length - 1 - k)).bits<=8)
 (hr:∀ j,j < q.length->0<=(qth q j).vr) (hd:∀ j,q.length<=j+k->j < q.length->(qth q j).vr≠(qth q (q.length - 1 - k)).vr) :
 Bk q r (m++[qNode (qth q (q.length - 1 - k)) ((m.length:Int) - 1)]) (k+1):=by
 obtain ⟨x,hxe⟩:∃ x,x=qth q (q.length - 1 - k):=⟨_,rfl⟩
 rw [<- hxe] at hx hd ⊢
 obtain ⟨n,hn⟩:∃ n,n=qNode x ((m.length:Int) - 1):=⟨_,rfl⟩
 rw [<- hn]
 have hop:n.op=19\/n.op=20:=by rw [hn];unfold qNode;cases x.all<;>simp
 have hnq:quant n.op=true:=by rcases hop with e|e<;>rw [e]<;>rfl
 have hT:=h.term
 have hlm:=term_len hT
 have hf:n=⟨n.op,1,x.vr,(m.length:Int) - 1,x.bits,0⟩:=by rw [hn];rfl
 have hkk:n.k=x.vr:=by rw [hn];rfl
 have hnb:n.b=x.bits:=by rw [hn];rfl
 have hnw:n.w=1:=by rw [hn];rfl
 have hT2:termOk (m++[n])=true:=by rw [hf];exact termOk_quant hT h.wid h80 hop ⟨hx.1,hx.2.1⟩ ⟨hx.2.2.1,hx.2.2.2⟩
 have hfr:freeL (m++[n])=(freeL m).filter (fun y=>y != x.vr):=by rw [hf];exact free_quant hT h.wid h80 hop ⟨hx.1,hx.2.1⟩ ⟨hx.2.2.1,hx.2.2.2⟩
 have hp:parts n=[(m.length:Int) - 1]:=by rw [parts_one (by omega)];rw [hn];rfl
 have hD:=down_of hT
 have hD2:=down_of hT2
 have hlen:(m++[n]).length=m.length+1:=by simp
 have hroot:root (m++[n])=.one n.op n.w n.k n.b (root m):=root_snoc hT hT2 hp (by omega)
 obtain ⟨ws,hws,hw1,hw2⟩:=h.ws
 have h8:=quants_len hws
 have hz:wd ws x.vr=0:=by
  have e:x.vr=((x.vr.toNat:Nat):Int):=by omega
  rw [e]
  exact hw2 _ (fun j h1 h2=>by rw [<- e];exact hd j h1 h2)
 have hqs:quantsTo (m++[n]) (m++[n]).length=some (ws.set x.vr.toNat x.bits):=by
  rw [hlen]
  show (quantsTo (m++[n]) m.length).bind _=_
  rw [quants_to hT hT2 hp _ (Nat.le_refl _),hws]
  show qStep (m++[n]) ws m.length=_
  unfold qStep
  have hrr:=reach_root (l:=m++[n]) (by simp)
  rw [hlen,Nat.add_sub_cancel] at hrr
  rw [hrr,nth_app_last,hnq,hkk,hnb,hz]
  rfl
 have hle:r.length<=m.length:=by rw [h.len];omega
 have hjk:∀ j,q.length<=j+(k+1)->j < q.length->(q.length<=j+k\/(qth q j=x)):=fun j h1 h2=>by
  by_cases e:q.length<=j+k
  ·exact .inl e
  ·right
   have:j=q.length - 1 - k:=by omega
   rw [hxe,this]
 refine ⟨by rw [hlen,h.len];omega,fun i hi=>by rw [nth_app_left (by omega)];exact h.lo i hi,fun i h1 h2=>?_,hT2,by rw [hlen,Nat.add_sub_cancel,nth_app_last];exact hnw,fun i hi=>?_,fun i hi=>?_,⟨_,hqs,fun j h1 h2=>?_,fun v hv=>?_⟩,fun i h1 h2=>?_,fun y hy=>?_,?_,?_⟩
 ·by_cases e:i < m.length
  ·rw [nth_app_left e];exact h.hi i h1 e
  ·have e2:i=m.length:=by omega
   subst e2
   rw [nth_app_last];exact ⟨hnq,hp⟩
 ·by_cases e:i < m.length
  ·rw [flag_snoc hT hT2 hp e];exact h.all i e
  ·have e2:i=(m++[n]).length - 1:=by omega
   rw [e2]
   exact reach_root (by simp)
 ·rw [hold_snoc m n (by omega)];exact h.hold i hi
 ·rcases hjk j h1 h2 with e|e
  ·rw [wd_set_other hx.1 (hr j h2) (fun e2=>hd j e h2 e2.symm)];exact hw1 j e h2
  ·rw [e];exact wd_set_same h8 ⟨hx.1,hx.2.1⟩
 ·have hne:x.vr≠(v:Int):=by rw [hxe];exact hv _ (by omega) (by omega)
  rw [wd_set_other hx.1 (by omega) hne]
  exact hw2 v (fun j h1 h2=>hv j (by omega) h2)
 ·have hrr:=reach_root (l:=m++[n]) (by simp)
  rw [hlen,Nat.add_sub_cancel] at hrr
  rw [hlen]
  by_cases e:i=m.length
  ·subst e
   rw [<- hlen]
   rw [uses_above hD2 _ (Nat.le_refl _) _ (by omega)]
   omega
  ·have hlt:i < m.length:=by omega
   have hu:usesF (m++[n]) (m.length+1)=addUses (usesF (m++[n]) m.length) (parts n):=by
    show (if flag (reachL (m++[n])) m.length then addUses (usesF (m++[n]) m.length) (parts (nth (m++[n]) m.length)) else _)=_
    rw [hrr,if_pos rfl,nth_app_last]
   rw [hu,addUses_wd _ _ _ (fun p hp'=>by rw [usesF_length,hlen];rw [hp] at hp';simp at hp';omega),uses_to hT hT2 hp _ (Nat.le_refl _) i hlt]
   by_cases e2:i=m.length - 1
   ·have h0:wd (usesF m m.length) (i:Int)=0:=uses_above hD _ (Nat.le_refl _) _ (by omega)
    rw [h0]
    have:times (parts n) i<=1:=by
     unfold times
     refine Nat.le_trans (List.length_filter_le _ _) ?_
     rw [hp];simp
    omega
   ·have h0:times (parts n) i=0:=times_zero (fun p hp'=>by rw [hp] at hp';simp at hp';omega)
    have:=h.use i h1 hlt
    omega
 ·rw [hfr] at hy
  obtain ⟨hy1,hy2⟩:=List.mem_filter.1 hy
  obtain ⟨h3,h4⟩:=h.free y hy1
  refine ⟨h3,fun j h1 h2=>?_⟩
  rcases hjk j h1 h2 with e|e
  ·exact h4 j e h2
  ·rw [e]
   intro e2
   rw [e2] at hy2
   simp at hy2
 ·rw [hroot]
  have e1:wk (.one n.op n.w n.k n.b (root m)) false=⟨(n.op==19) != false,n.k,n.b⟩ :: wk (root m) false:=by
   simp only [wk]
   rw [if_neg (by omega),hnq,if_pos rfl]
  rw [e1,h.wk]
  have e2:q.drop (q.length - (k+1))=qth q (q.length - 1 - k) :: q.drop (q.length - k):=by
   have h9:=List.drop_eq_getElem_cons (l:=q) (i:=q.length - (k+1)) (by omega)
   rw [h9,qth_get,show q.length - (k+1)=q.length - 1 - k by omega,show q.length - 1 - k+1=q.length - k by omega]
  rw [e2,<- hxe]
  congr 1
  rw [hkk,hnb]
  have e3:((n.op==19) != false)=x.all:=by
   rw [hn];unfold qNode
   cases x.all<;>rfl
  rw [e3]
 ·rw [hroot,<- h.str]
  show (if quant n.op then str (root m) else _)=_
  rw [hnq,if_pos rfl]
theorem bk_all {q:List Qu} {r:List Nd} (hT:termOk r=true) (hw:(nth r (r.length - 1)).w=1) (hR:∀ i,i < r.length->flag (reachL r) i=true) (hQ:∀ i,i < r.length->quant (nth r i).op=false)
 (hq:∀ j,j < q.length->0<=(qth q j).vr/\(qth q j).vr<=7/\1<=(qth q j).bits/\(qth q j).bits<=8) (hd:∀ i j,i < j->j < q.length->(qth q i).vr≠(qth q j).vr) (h80:r.length+q.length<=80) :
 ∀ k,k<=q.length->Bk q r (backTo q r k) k:=by
 intro k
 induction k with
 | zero=>intro _;exact bk_zero hT hw hR hQ
 | succ k ih =>
   intro hk
   have h1:=ih (by omega)
   exact bk_step h1 (by omega) (by rw [h1.len];omega) (hq _ (by omega)) (fun j hj=>(hq j hj).1) (fun j h2 h3 e=>hd (q.length - 1 - k) j (by omega) h3 e.symm)
end Fb0
namespace Fr4
open Nd0 Qa0 Pl1 Pl2 Tm0 Tm1 Tm5 Tm6 Tr0 Vl1 Vl2 Vm0 Fr0 Fr1
theorem wq_ty {q:List Qu}:∀ k ws,k<=q.length->wqTo q k=some ws->∀ i,i < k->TyQ ws (qth q i):=by
 intro k
 induction k with
 | zero=>intro ws _ _ i hi;exact absurd hi (Nat.not_lt_zero _)
 | succ k ih =>
   intro ws hk h i hi
   cases hq:wqTo q k with
   | none=>rw [wq_none hq (k+1) (by omega)] at h;cases h
   | some us =>
     have h8:=wq_len us hq
     rw [wq_succ hq] at h
     unfold wqStep at h
     split at h
     ·rename_i hc
      cases h
      by_cases e:i=k
      ·subst e
       refine ⟨hc.1,hc.2.1,hc.2.2.1,hc.2.2.2.1,?_⟩
       unfold wd
       simp [List.getD,h8,show (qth q i).vr.toNat < 8 by omega]
      ·obtain ⟨h1,h2,h3,h4,h5⟩:=ih us (by omega) hq i (by omega)
       refine ⟨h1,h2,h3,h4,?_⟩
       have hne:(qth q k).vr.toNat≠(qth q i).vr.toNat:=fun he=>by
        have h6:(qth q k).vr=(qth q i).vr:=by omega
        have h7:=hc.2.2.2.2
        rw [h6,<- h5] at h7
        omega
       unfold wd
       rw [show (us.set (qth q k).vr.toNat (qth q k).bits).getD (qth q i).vr.toNat 0=us.getD (qth q i).vr.toNat 0 by simp [List.getD,List.getElem?_set_ne hne]]
       exact h5
     ·cases h
theorem env_zero (ws:List Int) (h:∀ v:Nat,v < 8->0<=wd ws (v:Int)/\wd ws (v:Int)<=8):EnvOk ws (List.replicate 8 0):=by
 refine ⟨by simp,fun v hv h0=>?_⟩
 have h1:=h v hv
 have e:wd (List.replicate 8 0) (v:Int)=0:=Tm14.wd_zeros 8 _
 rw [e]
 exact wok_zero (by omega) (by omega)
theorem wq_bound {q:List Qu}:∀ k ws,wqTo q k=some ws->∀ v:Nat,v < 8->0<=wd ws (v:Int)/\wd ws (v:Int)<=8:=by
 intro k
 induction k with
 | zero=>intro ws h v hv;cases h;rw [Tm14.wd_zeros];omega
 | succ k ih =>
   intro ws h v hv
   cases hq:wqTo q k with
   | none=>rw [wq_none hq (k+1) (by omega)] at h;cases h
   | some us =>
     have h8:=wq_len us hq
     rw [wq_succ hq] at h
     unfold wqStep at h
     split at h
     ·rename_i hc
      cases h
      by_cases e:(qth q k).vr.toNat=v
      ·unfold wd
       rw [Int.toNat_natCast,<- e]
       simp [List.getD,h8,show (qth q k).vr.toNat < 8 by omega]
       omega
      ·have:=ih us hq v hv
       unfold wd at this ⊢
       rw [Int.toNat_natCast] at this ⊢
       rw [show (us.set (qth q k).vr.toNat (qth q k).bits).getD v 0=us.getD v 0 by simp [List.getD,List.getElem?_set_ne e]]
       exact this
     ·cases h
theorem rest_ty {q:List Qu} {l:List Nd} {ws:List Int} (hT:termOk l=true) (hg:∀ i,i < l.length->badF l ws i=false):∀ i,i < l.length->flag (reachL l) i=true->Ty ws (tr l i):=by
 have hD:=Tm8.down_of hT
 intro i
 induction i using Nat.strongRecOn with
 | ind i ih =>
   intro hi hf
   have hp:∀ p∈parts (nth l i),Ty ws (tr l p.toNat):=fun p hp=>by
    have h1:=hD i hi p hp
    exact ih _ (by omega) (by omega) (Tm8.reach_closed hD hi hf hp)
   have hb:=hg i hi
   unfold badF at hb
   rw [hf,Bool.true_and,Bool.or_eq_false_iff] at hb
   rw [tr_at hD hi]
   by_cases h1:(nth l i).op=2\/(nth l i).op=17\/(nth l i).op=19\/(nth l i).op=20
   ·rw [parts_one h1] at hp
    rw [mk_one h1]
    exact ⟨hp _ (by simp),fun h=>by rw [hb.1] at h;cases h⟩
   ·by_cases h2:3<=(nth l i).op/\(nth l i).op<=16
    ·rw [parts_two h2] at hp
     rw [mk_two h2]
     exact ⟨hp _ (by simp),hp _ (by simp)⟩
    ·by_cases h3:(nth l i).op=18
     ·rw [parts_three h3] at hp
      rw [mk_three h3]
      exact ⟨hp _ (by simp),hp _ (by simp),hp _ (by simp)⟩
     ·rw [mk_leaf h1 h2 h3]
      intro h4
      have h5:=hb.2
      rw [h4] at h5
      simp at h5
      exact h5.symm
end Fr4
namespace To0
open Nd0 Qa0 Pl1 Tm0 Tm1 Tm6 Tm8 Tr0 Vl1 Vl2 Fr0 Fr1 Fr4
def bitL:List Qu->Nat
 | []=>0
 | x :: q=>x.bits.toNat+bitL q
def envL:List Qu->Nat->List Int
 | [],_=>List.replicate 8 0
 | x :: q,p=>(envL q p).set x.vr.toNat ((p / 2 ^ bitL q % 2 ^ x.bits.toNat:Nat):Int)
theorem drop_qth {q:List Qu} {i:Nat} (h:i < q.length):q.drop i=qth q i :: q.drop (i+1):=by
 rw [<- qth_get h];exact List.drop_eq_getElem_cons h
theorem bit_drop {q:List Qu} {i:Nat} (h:i < q.length):bitL (q.drop i)=(qth q i).bits.toNat+bitL (q.drop (i+1)):=by rw [drop_qth h];rfl
theorem bit_bq {q:List Qu}:∀ k n,k<=q.length->bqTo q k=some n->bitL q=n+bitL (q.drop k):=by
 intro k
 induction k with
 | zero=>intro n _ h;cases h;simp
 | succ k ih =>
   intro n hk h
   cases hb:bqTo q k with
   | none=>rw [bq_none hb (k+1) (by omega)] at h;cases h
   | some m =>
     by_cases hc:1<=(qth q k).bits/\(qth q k).bits<=8
     ·rw [bq_succ hb hc] at h
      cases h
      rw [ih m (by omega) hb,bit_drop (by omega)]
      omega
     ·rw [bq_bad hc] at h;cases h
theorem bit_all {q:List Qu} {n:Nat} (h:bqTo q q.length=some n):bitL q=n:=by
 rw [bit_bq q.length n (Nat.le_refl _) h,List.drop_length];rfl
def Ap (q:List Qu):Prop:=∀ i k,i < k->k < q.length->(qth q i).vr.toNat≠(qth q k).vr.toNat
theorem ap_of {q:List Qu} {ws:List Int} (h:wqTo q q.length=some ws):Ap q:=by
 intro i k hi hk
 cases hw:wqTo q k with
 | none=>rw [wq_none hw _ (by omega)] at h;cases h
 | some us =>
   have h1:=wq_ty k us (by omega) hw i hi
   cases hw1:wqTo q (k+1) with
   | none=>rw [wq_none hw1 _ (by omega)] at h;cases h
   | some vs =>
     rw [wq_succ hw] at hw1
     unfold wqStep at hw1
     split at hw1
     ·rename_i hc
      obtain ⟨c1,c2,c3,c4,c5⟩:=hc
      obtain ⟨t1,t2,t3,t4,t5⟩:=h1
      intro e
      have:(qth q i).vr=(qth q k).vr:=by omega
      rw [this,c5] at t5
      omega
     ·cases hw1
theorem wdz (v:Nat):wd (List.replicate 8 0) (v:Int)=0:=by
 unfold wd
 rw [List.getD_eq_getElem?_getD,List.getElem?_replicate]
 split<;>rfl
structure Fo (q:List Qu) (l:List Nd) (ws:List Int):Prop where
 term:termOk l=true
 rt:Rt (root l)
 wid:(root l).wid=1
 ty:Ty ws (root l)
 env:EnvOk ws (List.replicate 8 0)
 tq:∀ x∈q,TyQ ws x
 ap:Ap q
theorem fo_all {q:List Qu} {l:List Nd} (h:frontOkB q l=true):∃ ws,Fo q l ws:=by
 obtain ⟨hT,hr,ws,hw,hg⟩:=fo_of h
 have h1:=term_len hT
 have hrt:=rt_all (down_of hT) (fun k hk=>term_node hT hk) (l.length - 1) (by omega)
 refine ⟨ws,hT,hrt.1,hrt.2.trans hr,rest_ty (q:=q) hT hg (l.length - 1) (by omega) (reach_root h1.1),env_zero ws (wq_bound _ _ hw),fun x hx=>?_,ap_of hw⟩
 obtain ⟨i,hi,rfl⟩:=List.mem_iff_getElem.1 hx
 rw [qth_get hi]
 exact wq_ty _ _ (Nat.le_refl _) hw i hi
def atL (q:List Qu) (l:List Nd) (p:Nat):Bool:=decide (vT (root l) (envL q p)=1)
end To0
namespace Ta0
end Ta0
namespace Ta1
open Go.RowKit
open Ta0
end Ta1
namespace Ss0
open Go.RowKit
open Nd0 Tx0
end Ss0
namespace Ss1
open Go.RowKit
open Nd0 Tx0 Ss0
open Ws1 (sIn ret_int)
end Ss1
namespace Ta2
open Go.RowKit
open Ta0 Ta1
end Ta2
namespace Tc2
open Go.RowKit
open Ta0 Ta1
end Tc2
namespace Tc3
open Go.RowKit
open Ta0 Ta1 Tc2
end Tc3
namespace Tc4
open Go.RowKit
open Ta0 Ta1 Tc2
open Nd0 (Kept set_other set_same lt_of_cell)
end Tc4
namespace Tc5
open Go.RowKit
open Ta0 Ta1 Tc2 Tc4
open Nd0 (Kept set_other set_same lt_of_cell)
end Tc5
namespace Ap9
open Go.RowKit
open Nd0
end Ap9
namespace Td1
open Go.RowKit
open Ta0 Ta1 Tc2 Tc5 Ap9
open Nd0 (Kept set_other set_same lt_of_cell)
end Td1
namespace Ta3
open Go.RowKit
open Ta0 Ta1 Ta2 Td1
def hb (n b:Nat) (F:Nat->Bool) (p:Nat):Bool:=F (b*2 ^ n+p)
theorem p1 (n:Nat):2 ^ (n+1)=2 ^ n+2 ^ n:=by rw [Nat.pow_succ];omega
end Ta3
namespace De0
open Go.RowKit
open Ta1 Ta3
def dc:List Bool->(Nat->Bool)->Bool
 | [],F=>F 0
 | q :: r,F=>if q=true then dc r (hb r.length 0 F)&&dc r (hb r.length 1 F) else dc r (hb r.length 0 F)||dc r (hb r.length 1 F)
theorem half_lt {n b p:Nat} (hb:b<=1) (hp:p < 2 ^ n):b*2 ^ n+p < 2 ^ (n+1):=by
 rw [p1]
 have:b*2 ^ n<=1*2 ^ n:=Nat.mul_le_mul_right _ hb
 omega
theorem dc_ext (r:List Bool):∀ {F G:Nat->Bool},(∀ p,p < 2 ^ r.length->F p=G p)->dc r F=dc r G:=by
 induction r with
 | nil=>exact fun h=>h 0 (by simp)
 | cons q r ih =>
   intro F G h
   have e:∀ b,b<=1->dc r (hb r.length b F)=dc r (hb r.length b G):=fun b hb1=>ih fun p hp=>h _ (half_lt hb1 hp)
   rw [dc,dc,e 0 (by omega),e 1 (by omega)]
end De0
namespace Dh0
open Nd0 Qa0 Tm6 Tr0 Vl1 Fr0 Fr1 To0 De0
open Ta3 (hb)
def rowL:List Qu->List Bool
 | []=>[]
 | x :: q=>List.replicate x.bits.toNat x.all++rowL q
theorem rowL_len (q:List Qu):(rowL q).length=bitL q:=by
 induction q with
 | nil=>rfl
 | cons x q ih=>simp only [rowL,bitL,List.length_append,List.length_replicate,ih]
theorem rowL_app (p q:List Qu):rowL (p++q)=rowL p++rowL q:=by
 induction p with
 | nil=>rfl
 | cons x p ih=>simp only [List.cons_append,rowL,ih,List.append_assoc]
theorem rowTo_L (q:List Qu):∀ k,k<=q.length->rowTo q k=rowL (q.take k):=by
 intro k
 induction k with
 | zero=>intro _;simp [rowTo,rowL]
 | succ k ih =>
   intro hk
   have e:q.take (k+1)=q.take k++[qth q k]:=by rw [List.take_succ_eq_append_getElem (by omega),qth_get (by omega)]
   rw [e,rowL_app,<- ih (by omega)]
   simp [rowTo,rowL]
theorem rows_L {q:List Qu} (h:fewB q=true):rowsL q=rowL q:=by
 unfold rowsL
 rw [h,if_pos rfl,rowTo_L q q.length (Nat.le_refl _),List.take_length]
theorem dc_cons (q:Bool) (r:List Bool) (F:Nat->Bool):dc (q :: r) F=if q=true then dc r (hb r.length 0 F)&&dc r (hb r.length 1 F) else dc r (hb r.length 0 F)||dc r (hb r.length 1 F):=rfl
theorem dc_rep (al:Bool) (r:List Bool):∀ (b:Nat) (F:Nat->Bool),dc (List.replicate b al++r) F=true↔(if al=true then ∀ i,i < 2 ^ b->dc r (fun p=>F (i*2 ^ r.length+p))=true else ∃ i,i < 2 ^ b/\dc r (fun p=>F (i*2 ^ r.length+p))=true):=by
 intro b
 induction b with
 | zero =>
   intro F
   have e:dc r F=dc r (fun p=>F (0*2 ^ r.length+p)):=dc_ext r fun p _=>by rw [Nat.zero_mul,Nat.zero_add]
   show dc r F=true↔_
   rw [e]
   split
   ·exact ⟨fun h i hi=>by obtain rfl:i=0:=by omega
                          exact h,fun h=>h 0 (by omega)⟩
   ·exact ⟨fun h=>⟨0,by omega,h⟩,fun ⟨i,hi,h⟩=>by
     obtain rfl:i=0:=by omega
     exact h⟩
 | succ b ih =>
   intro F
   have hL:(List.replicate b al++r).length=b+r.length:=by simp
   have hblk:∀ c i,dc r (fun p=>hb (b+r.length) c F (i*2 ^ r.length+p))=dc r (fun p=>F ((c*2 ^ b+i)*2 ^ r.length+p)):=fun c i=>dc_ext r fun p _=>by
    show F _=F _
    rw [Nat.pow_add,Nat.add_mul,Nat.mul_assoc,Nat.add_assoc]
   have h0:=ih (hb (b+r.length) 0 F)
   have h1:=ih (hb (b+r.length) 1 F)
   have e2:2 ^ (b+1)=2 ^ b+2 ^ b:=by rw [Nat.pow_succ];omega
   rw [List.replicate_succ,List.cons_append]
   rw [dc_cons,hL]
   cases al with
   | true =>
     simp only [if_true] at h0 h1 ⊢
     rw [Bool.and_eq_true,h0,h1]
     constructor
     ·rintro ⟨k0,k1⟩ i hi
      by_cases hc:i < 2 ^ b
      ·have:=k0 i hc
       rw [hblk] at this
       simpa using this
      ·have:=k1 (i - 2 ^ b) (by omega)
       rw [hblk] at this
       have e:1*2 ^ b+(i - 2 ^ b)=i:=by omega
       rw [e] at this
       exact this
     ·intro k
      refine ⟨fun i hi=>?_,fun i hi=>?_⟩
      ·rw [hblk]
       have:=k i (by omega)
       simpa using this
      ·rw [hblk]
       have:=k (2 ^ b+i) (by omega)
       rw [Nat.one_mul]
       exact this
   | false =>
     simp only [Bool.false_eq_true,if_false] at h0 h1 ⊢
     rw [Bool.or_eq_true,h0,h1]
     constructor
     ·rintro (⟨i,hi,k⟩|⟨i,hi,k⟩)
      ·rw [hblk] at k
       exact ⟨i,by omega,by simpa using k⟩
      ·rw [hblk,Nat.one_mul] at k
       exact ⟨2 ^ b+i,by omega,k⟩
     ·rintro ⟨i,hi,k⟩
      by_cases hc:i < 2 ^ b
      ·exact .inl ⟨i,hc,by rw [hblk];simpa using k⟩
      ·refine .inr ⟨i - 2 ^ b,by omega,?_⟩
       rw [hblk]
       have e:1*2 ^ b+(i - 2 ^ b)=i:=by omega
       rw [e]
       exact k
def envE:List Int->List Qu->Nat->List Int
 | e,[],_=>e
 | e,x :: q,p=>envE (e.set x.vr.toNat ((p / 2 ^ bitL q % 2 ^ x.bits.toNat:Nat):Int)) q p
theorem env_mod:∀ (q:List Qu) (e:List Int) (i p:Nat),envE e q (i*2 ^ bitL q+p)=envE e q p:=by
 intro q
 induction q with
 | nil=>intro e i p;rfl
 | cons x q ih =>
   intro e i p
   have e1:i*2 ^ bitL (x :: q)+p=i*2 ^ x.bits.toNat*2 ^ bitL q+p:=by
    show i*2 ^ (x.bits.toNat+bitL q)+p=_
    rw [Nat.pow_add,Nat.mul_assoc]
   rw [e1]
   unfold envE
   rw [ih]
   congr 2
   have e2:(i*2 ^ x.bits.toNat*2 ^ bitL q+p) / 2 ^ bitL q=i*2 ^ x.bits.toNat+p / 2 ^ bitL q:=by
    rw [Nat.add_comm,Nat.add_mul_div_right _ _ (Nat.two_pow_pos _),Nat.add_comm]
   rw [e2,Nat.add_comm,Nat.add_mul_mod_self_right]
theorem dc_HF (P:List Int->Bool):∀ (q:List Qu) (e:List Int),dc (rowL q) (fun p=>P (envE e q p))=true↔HF q (fun e=>P e=true) e:=by
 intro q
 induction q with
 | nil=>intro e;exact Iff.rfl
 | cons x q ih =>
   intro e
   show dc (List.replicate x.bits.toNat x.all++rowL q) _=true↔_
   rw [dc_rep,rowL_len]
   have hstep:∀ i,i < 2 ^ x.bits.toNat->dc (rowL q) (fun p=>P (envE e (x :: q) (i*2 ^ bitL q+p)))=dc (rowL q) (fun p=>P (envE (e.set x.vr.toNat (i:Int)) q p)):=fun i hi=>dc_ext _ fun p hp=>by
    rw [rowL_len] at hp
    have e1:(i*2 ^ bitL q+p) / 2 ^ bitL q % 2 ^ x.bits.toNat=i:=by
     rw [Nat.add_comm,Nat.add_mul_div_right _ _ (Nat.two_pow_pos _),Nat.div_eq_of_lt hp,Nat.zero_add,Nat.mod_eq_of_lt hi]
    show P (envE (e.set x.vr.toNat (((i*2 ^ bitL q+p) / 2 ^ bitL q % 2 ^ x.bits.toNat:Nat):Int)) q (i*2 ^ bitL q+p))=_
    rw [e1,env_mod]
   unfold HF
   split
   ·exact ⟨fun h i hi=>(ih _).1 ((hstep i hi).symm.trans (h i hi)),fun h i hi=>(hstep i hi).trans ((ih _).2 (h i hi))⟩
   ·exact ⟨fun ⟨i,hi,h⟩=>⟨i,hi,(ih _).1 ((hstep i hi).symm.trans h)⟩,fun ⟨i,hi,h⟩=>⟨i,hi,(hstep i hi).trans ((ih _).2 h)⟩⟩
theorem env_set:∀ (q:List Qu) (e:List Int) (v:Nat) (a:Int) (p:Nat),(∀ x∈q,x.vr.toNat≠v)->envE (e.set v a) q p=(envE e q p).set v a:=by
 intro q
 induction q with
 | nil=>intro e v a p _;rfl
 | cons x q ih =>
   intro e v a p h
   unfold envE
   rw [List.set_comm _ _ (fun e=>h x (by simp) e.symm),ih _ v a p (fun y hy=>h y (by simp [hy]))]
theorem env_L:∀ (q:List Qu) (p:Nat),q.Pairwise (fun x y=>x.vr.toNat≠y.vr.toNat)->envE (List.replicate 8 0) q p=envL q p:=by
 intro q
 induction q with
 | nil=>intro p _;rfl
 | cons x q ih =>
   intro p h
   obtain ⟨h1,h2⟩:=List.pairwise_cons.1 h
   unfold envE envL
   rw [env_set q _ _ _ p (fun y hy=>(h1 y hy).symm),ih p h2]
theorem pair_of {q:List Qu} (h:Ap q):q.Pairwise (fun x y=>x.vr.toNat≠y.vr.toNat):=by
 rw [List.pairwise_iff_getElem]
 intro i j hi hj hij
 rw [qth_get hi,qth_get hj]
 exact h i j hij hj
theorem verdict {q:List Qu} {l:List Nd} {ws:List Int} (h:Fo q l ws):dc (rowL q) (atL q l)=true↔HF q (fun e=>vT (root l) e=1) (List.replicate 8 0):=by
 have h1:=dc_HF (fun e=>decide (vT (root l) e=1)) q (List.replicate 8 0)
 have e:dc (rowL q) (atL q l)=dc (rowL q) (fun p=>decide (vT (root l) (envE (List.replicate 8 0) q p)=1)):=dc_ext _ fun p _=>by
  rw [env_L q p (pair_of h.ap)]
  rfl
 rw [e,h1]
 simp only [decide_eq_true_eq]
end Dh0
end Go.Proofs.YtebejleeadofcaaGreat
