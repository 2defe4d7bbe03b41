import Derived.Test.YthanhcobfehmnaaGreatPkQU218
namespace Go.Proofs.YthanhcobfehmnaaGreat
set_option maxRecDepth 100000
set_option maxHeartbeats 8000000
set_option linter.unusedVariables false
namespace Lw4
open Go.RowKit
open Dr0 Dr1
open Ws1 (ret_int ret_bool)
theorem lbig (w:World) (a:Option Addr) (len cap:Nat) (b:Bool) (hb:b=decide (1048576 < len)) :
 Calls Tryz.prog 4 #[.slice a len cap] w fun e w'=>e=.returned (.bool b)/\w'=w:=by
 subst hb
 go_enter Tryz.func4,Tryz.ntmps4
 go_wp2
 go_ret
 exact ⟨ret_bool (by rw [Bool.eq_iff_iff];simp;omega),rfl⟩
end Lw4
namespace Lat
open Go.RowKit
open Nd0
open Dr0 (Bytes)
open Ws1 (ret_int ret_bool)
theorem lat3 (w:World) (a:Option Addr) (len cap:Nat) (i:Int) (h0:0<=i) (hk:i<=1000) (hb:Bytes w a len) (hs:len<=1048576) :
 ∃ x:Int,0<=x/\x<=255/\∀ W:World,Below w.heap.size w W->Calls Tryz.prog 8 #[.slice a len cap,.int .i64 i] W fun e w'=>e=.returned (.int .i64 x)/\w'=W:=by
 obtain ⟨k,rfl⟩:=Int.eq_ofNat_of_zero_le h0
 by_cases hlt:k < len
 ·rcases hb.2 with h0|⟨xb,xo,rfl,hcell⟩
  ·omega
  obtain ⟨v,hv0,hv1,hv⟩:=hcell k hlt
  refine ⟨v,by omega,by omega,fun W hW=>?_⟩
  have hv2:W.cell? ⟨xb,xo+k,none⟩=some (.int .u8 v):=(hW.cell (p:=⟨xb,xo+k,none⟩) (lt_of_cell hv)).trans hv
  clear hcell hb hW hv
  go_enter Tryz.func8,Tryz.ntmps8
  go_wp2
  go_ret
  exact ⟨ret_int (by omega),rfl⟩
 ·refine ⟨((k:Int)*7+(len:Int)) % 256,by omega,by omega,fun W hW=>?_⟩
  clear hb hW
  go_enter Tryz.func8,Tryz.ntmps8
  go_wp2
  go_ret
  exact ⟨rfl,rfl⟩
end Lat
namespace Vc0
open Nd0 Pl1 Tm0 Tm1 Tm3 Tm4 Tm5 Tm8 Tm12 Tm14 Tr0 Vl1 Vl2
theorem need_two {x y:Option (List Nat)} {r:List Nat} (h:(x.bind fun r=>y.bind fun s=>some (orL r s))=some r):∃ a b,x=some a/\y=some b/\r=orL a b:=by
 obtain ⟨a,h1,h⟩:=Option.bind_eq_some_iff.1 h
 obtain ⟨b,h2,h⟩:=Option.bind_eq_some_iff.1 h
 exact ⟨a,b,h1,h2,(Option.some.inj h).symm⟩
theorem need_three {x y z:Option (List Nat)} {r:List Nat} (h:(x.bind fun r=>y.bind fun s=>z.bind fun u=>some (orL (orL r s) u))=some r):∃ a b c,x=some a/\y=some b/\z=some c/\r=orL (orL a b) c:=by
 obtain ⟨a,h1,h⟩:=Option.bind_eq_some_iff.1 h
 obtain ⟨b,h2,h⟩:=Option.bind_eq_some_iff.1 h
 obtain ⟨c,h3,h⟩:=Option.bind_eq_some_iff.1 h
 exact ⟨a,b,c,h1,h2,h3,(Option.some.inj h).symm⟩
theorem or_ne {r s:List Nat} {v:Nat} (hv:v < 8) (h:(orL r s).getD v 0≠0):r.getD v 0≠0\/s.getD v 0≠0:=by
 rw [or_at r s hv] at h
 by_cases h1:r.getD v 0=0
 ·right;intro h2;rw [h1,h2] at h;exact h rfl
 ·exact .inl h1
theorem or_l {r s:List Nat} {v:Nat} (hv:v < 8) (h:r.getD v 0≠0):(orL r s).getD v 0≠0:=by
 rw [or_at r s hv]
 intro h2
 exact h (Nat.or_eq_zero_iff.1 h2).1
theorem or_r {r s:List Nat} {v:Nat} (hv:v < 8) (h:s.getD v 0≠0):(orL r s).getD v 0≠0:=by
 rw [or_at r s hv]
 intro h2
 exact h (Nat.or_eq_zero_iff.1 h2).2
theorem getD_set (l:List Nat) (k v x:Nat):(l.set k x).getD v 0=if k=v/\k < l.length then x else l.getD v 0:=by
 rw [List.getD_eq_getElem?_getD,List.getElem?_set,List.getD_eq_getElem?_getD]
 by_cases e:k=v
 ·subst e
  by_cases h:k < l.length
  ·simp [h]
  ·simp [h]
 ·rw [if_neg e,if_neg (by intro h;exact e h.1)]
theorem getI_set (l:List Int) (k v:Nat) (x:Int):(l.set k x).getD v 0=if k=v/\k < l.length then x else l.getD v 0:=by
 rw [List.getD_eq_getElem?_getD,List.getElem?_set,List.getD_eq_getElem?_getD]
 by_cases e:k=v
 ·subst e
  by_cases h:k < l.length
  ·simp [h]
  ·simp [h]
 ·rw [if_neg e,if_neg (by intro h;exact e h.1)]
theorem agree:∀ (x:Tr) (r:List Nat) (e e':List Int),Rt x->needT x=some r->e.length=8->e'.length=8->(∀ v,v < 8->r.getD v 0≠0->e.getD v 0=e'.getD v 0)->vT x e=vT x e':=by
 intro x
 induction x with
 | leaf op w k =>
   intro r e e' hr hn he he' h
   obtain ⟨h1,h8,hk⟩:=hr
   simp only [needT] at hn
   cases hn
   simp only [vT]
   rcases hk with ⟨rfl,_⟩|⟨rfl,hk0,hk7⟩
   ·rfl
   ·rw [if_pos rfl,if_pos rfl]
    refine h k.toNat (by omega) ?_
    rw [List.getD_eq_getElem?_getD,List.getElem?_map,List.getElem?_range (by omega)]
    simp only [Option.map_some,Option.getD_some]
    rw [if_pos ⟨trivial,by omega⟩]
    exact Nat.ne_of_gt (Nat.two_pow_pos _)
 | one op w k b x ih =>
   intro r e e' hr hn he he' h
   obtain ⟨h1,h8,hx,hop⟩:=hr
   simp only [needT] at hn
   obtain ⟨s,h2,hn⟩:=Option.bind_eq_some_iff.1 hn
   have hs:=need_len _ _ h2
   by_cases hq:op=19\/op=20
   ·have hqq:quant op=true:=by rcases hq with rfl|rfl<;>rfl
    rw [hqq,if_pos rfl] at hn
    split at hn
    ·cases hn
    ·have hn:=(Option.some.inj hn).symm
     subst hn
     have hk:0<=k/\k<=7:=by
      rcases hop with h9|h9|h9
      ·omega
      ·omega
      ·exact ⟨h9.2.2.2.1,h9.2.2.2.2.1⟩
     have hg:∀ i:Int,vT x (e.set k.toNat i)=vT x (e'.set k.toNat i):=fun i=>ih s _ _ hx h2 (by rw [List.length_set];exact he) (by rw [List.length_set];exact he') (fun v hv hne=>by
      rw [getI_set,getI_set,he,he']
      by_cases e9:k.toNat=v
      ·rw [if_pos ⟨e9,by omega⟩,if_pos ⟨e9,by omega⟩]
      ·rw [if_neg (by omega),if_neg (by omega)]
       refine h v hv ?_
       rw [getD_set,if_neg (by omega)]
       exact hne)
     simp only [vT,hg]
     rcases hq with h9|h9
     ·rw [if_pos h9,if_pos h9]
     ·have h0:¬ op=19:=by omega
      simp only [if_neg h0,if_pos h9]
   ·have hqq:quant op=false:=by
     unfold quant
     simp
     omega
    rw [hqq] at hn
    simp only [Bool.false_eq_true,if_false] at hn
    have hn:=Option.some.inj hn
    subst hn
    simp only [vT]
    rw [if_neg (by omega),if_neg (by omega),if_neg (by omega),if_neg (by omega),ih s e e' hx h2 he he' h]
 | two op w x y ihx ihy =>
   intro r e e' hr hn he he' h
   obtain ⟨h1,h8,hx,hy,hop⟩:=hr
   simp only [needT] at hn
   obtain ⟨a,b,ha,hb,rfl⟩:=need_two hn
   simp only [vT]
   rw [ihx a e e' hx ha he he' (fun v hv hne=>h v hv (or_l hv hne)),ihy b e e' hy hb he he' (fun v hv hne=>h v hv (or_r hv hne))]
 | three op w x y z ihx ihy ihz =>
   intro r e e' hr hn he he' h
   obtain ⟨h1,h8,hx,hy,hz,hop⟩:=hr
   simp only [needT] at hn
   obtain ⟨a,b,c,ha,hb,hc,rfl⟩:=need_three hn
   simp only [vT]
   rw [ihx a e e' hx ha he he' (fun v hv hne=>h v hv (or_l hv (or_l hv hne))),ihy b e e' hy hb he he' (fun v hv hne=>h v hv (or_l hv (or_r hv hne))),ihz c e e' hz hc he he' (fun v hv hne=>h v hv (or_r hv hne))]
theorem need_free {l:List Nd} (hT:termOk l=true):∀ i,i < l.length->∀ r,needT (tr l i)=some r->∀ v,v < 8->r.getD v 0≠0->flag (row (freeRows l l.length) (i:Int)) v=true:=by
 have hD:=down_of hT
 intro i
 induction i using Nat.strongRecOn with
 | ind i ih =>
   intro hi r hr v hv hne
   have hrt:=(rt_all hD (fun k hk=>term_node hT hk) i hi).1
   rw [tr_at hD hi] at hr hrt
   rw [free_at hD hi hv]
   have hd:=hD i hi
   have hp:∀ p∈parts (nth l i),∀ s,needT (tr l p.toNat)=some s->s.getD v 0≠0->inParts (freeRows l l.length) (parts (nth l i)) v=true:=fun p hp s hs hn2=>by
    have h9:=hd p hp
    have h8:=ih p.toNat (by omega) (by omega) s hs v hv hn2
    rw [show ((p.toNat:Nat):Int)=p by omega] at h8
    unfold inParts
    exact List.any_eq_true.2 ⟨p,hp,h8⟩
   generalize nth l i=n at hr hrt hp
   have hgo:(quant n.op=true->n.k≠(v:Int))->inParts (freeRows l l.length) (parts n) v=true->freeAt (freeRows l l.length) n v=true:=fun h1 h2=>by
    unfold freeAt
    rw [h2,Bool.or_true]
    by_cases hq:quant n.op=true
    ·have h3:=h1 hq
     rw [show (n.k==(v:Int))=false by simpa using h3,Bool.and_false];rfl
    ·have h4:(n.op==19||n.op==20)=false:=by
      unfold quant at hq
      simpa using hq
     rw [h4];rfl
   by_cases h1:n.op=2\/n.op=17\/n.op=19\/n.op=20
   ·rw [mk_one h1] at hr hrt
    rw [parts_one h1] at hp
    simp only [needT] at hr
    obtain ⟨s,h2,hn⟩:=Option.bind_eq_some_iff.1 hr
    have hs:=need_len _ _ h2
    by_cases hq:quant n.op=true
    ·rw [hq,if_pos rfl] at hn
     split at hn
     ·cases hn
     ·have hn:=(Option.some.inj hn).symm
      subst hn
      have hk:0<=n.k/\n.k<=7:=by
       obtain ⟨_,_,_,hop⟩:=hrt
       rcases hop with h9|h9|h9
       ·rw [h9.1] at hq;cases hq
       ·rw [h9.1] at hq;cases hq
       ·exact ⟨h9.2.2.2.1,h9.2.2.2.2.1⟩
      rw [getD_set] at hne
      by_cases e9:n.k.toNat=v
      ·rw [if_pos ⟨e9,by omega⟩] at hne;exact absurd rfl hne
      ·rw [if_neg (by omega)] at hne
       exact hgo (fun _=>by omega) (by rw [parts_one h1];exact hp n.a (by simp) s h2 hne)
    ·have hqq:quant n.op=false:=by simpa using hq
     rw [hqq] at hn
     simp only [Bool.false_eq_true,if_false] at hn
     have hn:=Option.some.inj hn
     subst hn
     exact hgo (fun h=>absurd h hq) (by rw [parts_one h1];exact hp n.a (by simp) s h2 hne)
   ·by_cases h2:3<=n.op/\n.op<=16
    ·have hnq:¬ quant n.op=true:=by unfold quant;simp;omega
     rw [mk_two h2] at hr
     rw [parts_two h2] at hp
     simp only [needT] at hr
     obtain ⟨a,b,ha,hb,rfl⟩:=need_two hr
     refine hgo (fun h=>absurd h hnq) ?_
     rw [parts_two h2]
     rcases or_ne hv hne with h9|h9
     ·exact hp n.a (by simp) a ha h9
     ·exact hp n.b (by simp) b hb h9
    ·by_cases h3:n.op=18
     ·have hnq:¬ quant n.op=true:=by unfold quant;simp;omega
      rw [mk_three h3] at hr
      rw [parts_three h3] at hp
      simp only [needT] at hr
      obtain ⟨a,b,c,ha,hb,hc,rfl⟩:=need_three hr
      refine hgo (fun h=>absurd h hnq) ?_
      rw [parts_three h3]
      rcases or_ne hv hne with h9|h9
      ·rcases or_ne hv h9 with h9|h9
       ·exact hp n.a (by simp) a ha h9
       ·exact hp n.b (by simp) b hb h9
      ·exact hp n.c (by simp) c hc h9
     ·rw [mk_leaf h1 h2 h3] at hr
      simp only [needT] at hr
      cases hr
      rw [List.getD_eq_getElem?_getD,List.getElem?_map,List.getElem?_range hv] at hne
      simp only [Option.map_some,Option.getD_some] at hne
      split at hne
      ·rename_i hc
       unfold freeAt
       rw [show (n.op==19||n.op==20)=false by simp;omega,show (n.op==1)=true by simpa using hc.1,show (n.k==(v:Int))=true by simpa using hc.2]
       rfl
      ·exact absurd rfl hne
end Vc0
namespace Aq2
open Nd0 Pl1 Tm0 Tm1 Tm3 Tm4 Tm5 Tm7 Tm8 Tm12 Tm13 Tm14 Aq0
def isVar (n:Nd) (v:Nat):Bool:=n.op==1&&n.k==(v:Int)
def isQ (n:Nd) (v:Nat):Bool:=quant n.op&&n.k==(v:Int)
def mn (a b:Int):Int:=if b < a then b else a
def least (l:List Int):Int:=l.foldl mn 80
theorem least_snoc (l:List Int) (x:Int):least (l++[x])=mn (least l) x:=by simp [least]
def ffAt (v:Nat) (i:Nat) (n:Nd) (ps:List Int):Int:=if isVar n v then (i:Int) else if isQ n v then 80 else least ps
def ffF (i:Nat) (n:Nd) (ps:List (List Int)):List Int:=(List.range 8).map fun v=>ffAt v i n (ps.map fun r=>r.getD v 80)
def ffTo (l:List Nd) (v k:Nat):List Int:=wk 80 (ffAt v) l k
def ffTop (l:List Nd) (v:Nat):Int:=(ffTo l v l.length).getD (l.length - 1) 80
theorem rows_at (l:List Nd) {v:Nat} (hv:v < 8):∀ k i,i < k->k<=l.length->Down l->((wk [] ffF l k).getD i []).getD v 80=(ffTo l v k).getD i 80:=by
 intro k
 induction k with
 | zero=>intro i hi;omega
 | succ k ih =>
   intro i hi hk hD
   by_cases e:i < k
   ·rw [wk_old [] ffF l (k:=k) e (by omega),ih i e (by omega) hD]
    exact (wk_old 80 (ffAt v) l (k:=k) e (by omega)).symm
   ·have e2:i=k:=by omega
    subst e2
    unfold ffTo
    rw [wk_new,wk_new]
    unfold ffF
    rw [List.getD_eq_getElem?_getD,List.getElem?_map,List.getElem?_range hv]
    show ffAt v i (nth l i) _=_
    congr 1
    rw [List.map_map]
    apply List.map_congr_left
    intro p hp
    have:=hD i (by omega) p hp
    exact ih p.toNat (by omega) (by omega) hD
theorem mn_le (a b:Int):mn a b<=a/\mn a b<=b/\(mn a b=a\/mn a b=b):=by unfold mn;split<;>omega
theorem fold_le:∀ (l:List Int) (a:Int),l.foldl mn a<=a/\(∀ x∈l,l.foldl mn a<=x)/\(l.foldl mn a=a\/l.foldl mn a∈l):=by
 intro l
 induction l with
 | nil=>intro a;exact ⟨Int.le_refl _,(fun x hx=>by cases hx),.inl rfl⟩
 | cons y l ih =>
   intro a
   have h:=mn_le a y
   have k:=ih (mn a y)
   refine ⟨Int.le_trans k.1 h.1,fun x hx=>?_,?_⟩
   ·rcases List.mem_cons.1 hx with rfl|hx
    ·exact Int.le_trans k.1 h.2.1
    ·exact k.2.1 x hx
   ·show l.foldl mn (mn a y)=a\/l.foldl mn (mn a y)∈y :: l
    rcases k.2.2 with e|e
    ·rw [e]
     rcases h.2.2 with e2|e2
     ·exact .inl e2
     ·exact .inr (by rw [e2];simp)
    ·exact .inr (List.mem_cons_of_mem _ e)
theorem least_le (l:List Int):least l<=80/\(∀ x∈l,least l<=x)/\(least l=80\/least l∈l):=fold_le l 80
def vStep (l:List Nd) (v:Nat) (bs:List Bool) (i:Nat):List Bool:=if flag bs i && !isQ (nth l i) v then markAll bs (parts (nth l i)) else bs
def vDown (l:List Nd) (v:Nat):Nat->List Bool->List Bool
 | 0,bs=>bs
 | k+1,bs=>vDown l v k (vStep l v bs k)
def vL (l:List Nd) (v:Nat):List Bool:=vDown l v l.length (reachInit l.length)
theorem vStep_length (l:List Nd) (v:Nat) (bs:List Bool) (i:Nat):(vStep l v bs i).length=bs.length:=by
 unfold vStep;split
 ·exact markAll_length _ _
 ·rfl
theorem vDown_length (l:List Nd) (v:Nat):∀ (k:Nat) (bs:List Bool),(vDown l v k bs).length=bs.length:=by
 intro k
 induction k with
 | zero=>intro bs;rfl
 | succ k ih=>intro bs;show (vDown l v k _).length=_;rw [ih,vStep_length]
theorem vStep_flag {l:List Nd} (v:Nat) (bs:List Bool) (k i:Nat) (hi:i < bs.length):flag (vStep l v bs k) i=(flag bs i||((flag bs k && !isQ (nth l k) v)&&(parts (nth l k)).any fun p=>p.toNat==i)):=by
 unfold vStep
 split
 ·next h=>rw [markAll_flag _ _ _ hi,h];simp
 ·next h=>simp [Bool.eq_false_iff.2 h]
theorem v_high {l:List Nd} (hD:Down l) (v:Nat):∀ (k:Nat) (bs:List Bool),bs.length=l.length->k<=l.length->∀ i,k<=i+1->i < l.length->flag (vDown l v k bs) i=flag bs i:=by
 intro k
 induction k with
 | zero=>intro bs _ _ i _ _;rfl
 | succ k ih =>
   intro bs hb hk i hi hl
   show flag (vDown l v k (vStep l v bs k)) i=_
   rw [ih _ (by rw [vStep_length];exact hb) (by omega) i (by omega) hl,vStep_flag v bs k i (by omega)]
   have:(parts (nth l k)).any (fun p=>p.toNat==i)=false:=by
    rw [List.any_eq_false]
    intro p hp
    have:=hD k (by omega) p hp
    simp;omega
   rw [this];simp
theorem v_closed {l:List Nd} (hD:Down l) (v:Nat):∀ (k:Nat) (bs:List Bool),bs.length=l.length->k<=l.length->(∀ i,k<=i->i < l.length->flag bs i=true->isQ (nth l i) v=false->∀ p∈parts (nth l i),flag bs p.toNat=true) ->
 ∀ i,i < l.length->flag (vDown l v k bs) i=true->isQ (nth l i) v=false->∀ p∈parts (nth l i),flag (vDown l v k bs) p.toNat=true:=by
 intro k
 induction k with
 | zero=>intro bs hb _ h i hi hf hq p hp;exact h i (by omega) hi hf hq p hp
 | succ k ih =>
   intro bs hb hk h i hi hf hq p hp
   refine ih (vStep l v bs k) (by rw [vStep_length];exact hb) (by omega) (fun j hj hjl hfj hqj q hq'=>?_) i hi hf hq p hp
   have hqb:=hD j hjl q hq'
   rw [vStep_flag v bs k _ (by omega)] at hfj ⊢
   by_cases e:j=k
   ·subst e
    have hno:(parts (nth l j)).any (fun p=>p.toNat==j)=false:=by
     rw [List.any_eq_false]
     intro p hp
     have:=hD j hjl p hp
     simp;omega
    rw [hno] at hfj
    simp at hfj
    rw [hfj,hqj]
    have:(parts (nth l j)).any (fun p=>p.toNat==q.toNat)=true:=List.any_eq_true.2 ⟨q,hq',by simp⟩
    rw [this];simp
   ·have hno:(parts (nth l k)).any (fun p=>p.toNat==j)=false:=by
     rw [List.any_eq_false]
     intro p hp
     have:=hD k (by omega) p hp
     simp;omega
    rw [hno] at hfj
    simp at hfj
    rw [h j (by omega) hjl hfj hqj q hq']
    simp
theorem v_more {l:List Nd} (v:Nat):∀ (k:Nat) (bs:List Bool),bs.length=l.length->∀ i,i < l.length->flag bs i=true->flag (vDown l v k bs) i=true:=by
 intro k
 induction k with
 | zero=>intro bs _ i _ h;exact h
 | succ k ih =>
   intro bs hb i hi h
   exact ih _ (by rw [vStep_length];exact hb) i hi (by rw [vStep_flag v bs k i (by omega),h];rfl)
theorem v_why {l:List Nd} (hD:Down l) (v:Nat):∀ (k:Nat) (bs:List Bool),bs.length=l.length->k<=l.length->∀ i,i < l.length->flag (vDown l v k bs) i=true ->
 flag bs i=true\/∃ j,i < j/\j < l.length/\flag (vDown l v k bs) j=true/\isQ (nth l j) v=false/\(i:Int)∈parts (nth l j):=by
 intro k
 induction k with
 | zero=>intro bs _ _ i _ h;exact .inl h
 | succ k ih =>
   intro bs hb hk i hi h
   have hb':(vStep l v bs k).length=l.length:=by rw [vStep_length];exact hb
   rcases ih _ hb' (by omega) i hi h with h1|⟨j,h1⟩
   ·rw [vStep_flag v bs k i (by omega)] at h1
    cases hf:flag bs i
    ·rw [hf] at h1
     simp only [Bool.false_or,Bool.and_eq_true] at h1
     obtain ⟨⟨h2,h3⟩,h4⟩:=h1
     obtain ⟨p,hp,hpi⟩:=List.any_eq_true.1 h4
     have hpd:=hD k (by omega) p hp
     have e:p=(i:Int):=by simp at hpi;omega
     subst e
     refine .inr ⟨k,by omega,by omega,?_,by simpa using h3,hp⟩
     exact v_more v k _ hb' k (by omega) (by rw [vStep_flag v bs k k (by omega),h2];rfl)
    ·exact .inl rfl
   ·exact .inr ⟨j,h1⟩
def vWid (l:List Nd) (v:Nat):Nat->Int
 | 0=>1
 | k+1=>if flag (vL l v) (l.length - (k+1))&&isVar (nth l (l.length - (k+1))) v then (nth l (l.length - (k+1))).w else vWid l v k
def widL (l:List Nd) (v:Nat):Int:=vWid l v l.length
theorem isVar_parts {n:Nd} {v:Nat} (h:isVar n v=true):parts n=[]:=by
 have:n.op=1:=by unfold isVar at h;simp at h;exact h.1
 exact parts_none (by omega) (by omega) (by omega)
theorem ff_at {l:List Nd} (hD:Down l) (v:Nat) {i:Nat} (hi:i < l.length):(ffTo l v l.length).getD i 80=ffAt v i (nth l i) ((parts (nth l i)).map fun p=>(ffTo l v l.length).getD p.toNat 80) :=
 wk_at 80 (ffAt v) hD hi hi
theorem v_root {l:List Nd} (hD:Down l) (v:Nat) (h:1<=l.length):flag (vL l v) (l.length - 1)=true :=
 v_more v _ _ (reachInit_length _) _ (by omega) (by rw [init_flag _ _ (by omega)];simp;omega)
theorem ff_down {l:List Nd} (hD:Down l) (v:Nat) (h1:1<=l.length):∀ d i,l.length=i+1+d->flag (vL l v) i=true->ffTop l v<=(ffTo l v l.length).getD i 80:=by
 intro d
 induction d using Nat.strongRecOn with
 | ind d ih =>
   intro i hd hf
   rcases v_why hD v l.length _ (reachInit_length _) (Nat.le_refl _) i (by omega) hf with h|⟨j,hij,hjl,hfj,hqj,hp⟩
   ·rw [init_flag _ _ (by omega)] at h
    have:i=l.length - 1:=by simp at h;omega
    subst this;exact Int.le_refl _
   ·refine Int.le_trans (ih (l.length - 1 - j) (by omega) j (by omega) hfj) ?_
    rw [ff_at hD v hjl]
    unfold ffAt
    have hv:isVar (nth l j) v=false:=by
     cases e:isVar (nth l j) v
     ·rfl
     ·rw [isVar_parts e] at hp;cases hp
    rw [hv,hqj]
    simp only [Bool.false_eq_true,if_false]
    refine (least_le _).2.1 _ (List.mem_map.2 ⟨(i:Int),hp,?_⟩)
    rw [Int.toNat_natCast]
theorem ff_up {l:List Nd} (hD:Down l) (v:Nat):∀ i,i < l.length->flag (vL l v) i=true ->
 (ffTo l v l.length).getD i 80=80\/∃ j,j<=i/\(ffTo l v l.length).getD i 80=(j:Int)/\flag (vL l v) j=true/\isVar (nth l j) v=true:=by
 intro i
 induction i using Nat.strongRecOn with
 | ind i ih =>
   intro hi hf
   rw [ff_at hD v hi]
   unfold ffAt
   cases hv:isVar (nth l i) v
   ·cases hq:isQ (nth l i) v
    ·simp only [Bool.false_eq_true,if_false]
     rcases (least_le ((parts (nth l i)).map fun p=>(ffTo l v l.length).getD p.toNat 80)).2.2 with e|e
     ·exact .inl e
     ·obtain ⟨p,hp,he⟩:=List.mem_map.1 e
      have hpd:=hD i hi p hp
      have hfp:=v_closed hD v l.length _ (reachInit_length _) (Nat.le_refl _) (fun a h1 h2=>by omega) i hi hf hq p hp
      rw [<- he]
      rcases ih p.toNat (by omega) (by omega) hfp with h|⟨j,h1,h2⟩
      ·exact .inl h
      ·exact .inr ⟨j,by omega,h2⟩
    ·exact .inl (by simp)
   ·exact .inr ⟨i,Nat.le_refl _,by simp,hf,hv⟩
theorem wid_ff {l:List Nd} (hD:Down l) (v:Nat) (h1:1<=l.length) (h80:l.length<=80) (h:¬ ffTop l v=80):∃ j:Nat,ffTop l v=(j:Int)/\j < l.length/\widL l v=(nth l j).w:=by
 rcases ff_up hD v (l.length - 1) (by omega) (v_root hD v h1) with e|⟨j,hj,he,hf,hv⟩
 ·exact absurd e h
 ·refine ⟨j,he,by omega,?_⟩
  have hmin:∀ i,i < l.length->flag (vL l v) i=true->isVar (nth l i) v=true->j<=i:=by
   intro i hi hfi hvi
   have h9:=ff_down hD v h1 (l.length - 1 - i) i (by omega) hfi
   rw [ff_at hD v hi] at h9
   unfold ffAt at h9
   rw [hvi,if_pos rfl] at h9
   have:ffTop l v=(j:Int):=he
   omega
  have:∀ k,k<=l.length->l.length - k<=j->vWid l v k=(nth l j).w:=by
   intro k
   induction k with
   | zero=>intro _ h9;omega
   | succ k ih =>
     intro hk h9
     unfold vWid
     by_cases e:l.length - (k+1)=j
     ·rw [e,hf,hv];simp
     ·have hn:(flag (vL l v) (l.length - (k+1))&&isVar (nth l (l.length - (k+1))) v)=false:=by
       rw [Bool.eq_false_iff]
       intro hc
       simp only [Bool.and_eq_true] at hc
       have:=hmin _ (by omega) hc.1 hc.2
       omega
      rw [hn]
      exact ih (by omega) (by omega)
  exact this l.length (Nat.le_refl _) (by omega)
theorem ff_free {l:List Nd} (hD:Down l) (h80:l.length<=80) {v:Nat} (hv:v < 8):∀ i,i < l.length->(flag (row (freeRows l l.length) (i:Int)) v=true↔¬ (ffTo l v l.length).getD i 80=80):=by
 intro i
 induction i using Nat.strongRecOn with
 | ind i ih =>
   intro hi
   rw [free_at hD hi hv,ff_at hD v hi]
   have hq':(((nth l i).op==19||(nth l i).op==20)&&(nth l i).k==(v:Int))=isQ (nth l i) v:=rfl
   have hv':((nth l i).op==1&&(nth l i).k==(v:Int))=isVar (nth l i) v:=rfl
   unfold freeAt ffAt
   rw [hq',hv']
   cases hvv:isVar (nth l i) v
   ·cases hq:isQ (nth l i) v
    ·simp only [Bool.false_eq_true,if_false,Bool.false_or]
     have hl:=least_le ((parts (nth l i)).map fun p=>(ffTo l v l.length).getD p.toNat 80)
     unfold inParts
     rw [List.any_eq_true]
     constructor
     ·rintro ⟨p,hp,hf⟩
      have hpd:=hD i hi p hp
      have e:((p.toNat:Nat):Int)=p:=by omega
      rw [<- e] at hf
      have h9:=(ih p.toNat (by omega) (by omega)).1 hf
      have h8:=hl.2.1 _ (List.mem_map.2 ⟨p,hp,rfl⟩)
      have h7:(ffTo l v l.length).getD p.toNat 80<=80:=by
       rw [ff_at hD v (by omega)]
       unfold ffAt
       split
       ·omega
       ·split
        ·omega
        ·exact (least_le _).1
      omega
     ·intro h9
      rcases hl.2.2 with e|e
      ·exact absurd e h9
      ·obtain ⟨p,hp,he⟩:=List.mem_map.1 e
       have hpd:=hD i hi p hp
       refine ⟨p,hp,?_⟩
       have e2:((p.toNat:Nat):Int)=p:=by omega
       rw [<- e2]
       exact (ih p.toNat (by omega) (by omega)).2 (by rw [he];exact h9)
    ·simp
   ·have hq:isQ (nth l i) v=false:=by
     unfold isVar at hvv
     unfold isQ quant
     simp only [Bool.and_eq_true,beq_iff_eq] at hvv
     rw [hvv.1];rfl
    rw [hq]
    simp;omega
theorem free_top {l:List Nd} (hD:Down l) (h1:1<=l.length) (h80:l.length<=80) {v:Nat} (hv:v < 8):flag (freeTop l) v=true↔¬ ffTop l v=80:=by
 have h:=ff_free hD h80 hv (l.length - 1) (by omega)
 have e:((l.length - 1:Nat):Int)=(l.length:Int) - 1:=by omega
 rw [e] at h
 exact h
end Aq2
namespace Aq12
open Nd0 Pl1 Tm0 Tm1 Tm3 Tm4 Tm5 Tm7 Tm8 Tm12 Tm13 Tm14 Aq0 Aq2
def clN (v:Nat) (p u:Int):Nd:=⟨19,1,(v:Int),p,u,0⟩
def clTo (l:List Nd):Nat->List Nd
 | 0=>[]
 | k+1=>if ffTop l (7 - k)=80 then clTo l k else clTo l k++[clN (7 - k) ((l.length:Int)+((clTo l k).length:Int) - 1) (widL l (7 - k))]
theorem clTo_le (l:List Nd):∀ k,(clTo l k).length<=k:=by
 intro k
 induction k with
 | zero=>exact Nat.le_refl _
 | succ k ih =>
   unfold clTo
   split
   ·omega
   ·rw [List.length_append];show _+1<=_;omega
theorem clTo_skip {l:List Nd} {k:Nat} (h:ffTop l (7 - k)=80):clTo l (k+1)=clTo l k:=by
 show (if _ then _ else _)=_
 rw [if_pos h]
theorem clTo_more {l:List Nd} {k:Nat} (h:¬ ffTop l (7 - k)=80):clTo l (k+1)=clTo l k++[clN (7 - k) ((l.length:Int)+((clTo l k).length:Int) - 1) (widL l (7 - k))]:=by
 show (if _ then _ else _)=_
 rw [if_neg h]
def clAll (l:List Nd):List Nd:=l++clTo l 8
def clB (l:List Nd):Bool:=termOk l&&(nth l (l.length - 1)).w==1&&termOk (clAll l)
def clL (l:List Nd):List Nd:=if clB l then clAll l else []
theorem clL_le (l:List Nd):(clL l).length<=80:=by
 unfold clL
 split
 ·rename_i h
  unfold clB at h
  simp only [Bool.and_eq_true] at h
  exact (term_len h.2).2
 ·exact Nat.zero_le _
theorem cl_term {l:List Nd} (h:termOk l=false):clB l=false/\clL l=[]:=by
 have h1:clB l=false:=by unfold clB;rw [h];rfl
 exact ⟨h1,by unfold clL;rw [h1];rfl⟩
theorem cl_wid {l:List Nd} (h:((nth l (l.length - 1)).w==1)=false):clB l=false/\clL l=[]:=by
 have h1:clB l=false:=by unfold clB;rw [h,Bool.and_false];rfl
 exact ⟨h1,by unfold clL;rw [h1];rfl⟩
theorem cl_all {l:List Nd} (hT:termOk l=true) (h:((nth l (l.length - 1)).w==1)=true):clB l=termOk (clAll l)/\clL l=if termOk (clAll l) then clAll l else []:=by
 have h1:clB l=termOk (clAll l):=by unfold clB;rw [hT,h];rfl
 exact ⟨h1,by unfold clL;rw [h1]⟩
theorem cl_less {l:List Nd} (h1:1<=l.length):∀ d k,k+d=8->termOk (clAll l)=true->termOk (l++clTo l k)=true:=by
 intro d
 induction d with
 | zero=>intro k hk h;have:k=8:=by omega
         subst this;exact h
 | succ d ih =>
   intro k hk h
   have h2:=ih (k+1) (by omega) h
   by_cases e:ffTop l (7 - k)=80
   ·rw [clTo_skip e] at h2;exact h2
   ·rw [clTo_more e,<- List.append_assoc] at h2
    exact term_less h2 (by rw [List.length_append];omega)
end Aq12
end Go.Proofs.YthanhcobfehmnaaGreat
