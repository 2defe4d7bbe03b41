import Derived.Test.YtbellafdjfliiaaGreatPkBOM13
import Derived.Test.YtbellafdjfliiaaGreatPkBOM14
import Derived.Test.YtbellafdjfliiaaGreatPkBOM16
import Derived.Test.YtbellafdjfliiaaGreatPkBOM15
namespace Go.Proofs.YtbellafdjfliiaaGreat
set_option maxRecDepth 100000
set_option maxHeartbeats 8000000
set_option linter.unusedVariables false
namespace Aq4
open Nd0 Pl1 Tm0 Tm1 Tm2 Tm3 Tm4 Tm5 Tm6 Tm7 Tm8 Tm9 Tm10 Tm11 Tm12 Tm13 Tm14 Tr0 Vl1 Vl2 Vl4 Vl5 Fr1 Aq0
open Aq1 (nth_map down_map)
def rsN (G:Int->Int) (n:Nd):Nd:=if nmd n then { n with k:=G n.k } else n
def Inj (G:Int->Int) (l:List Nd):Prop :=
 (∀ v:Nat,v < 8->numB l v=true->0<=G (v:Int)/\G (v:Int)<=7)/\∀ v t:Nat,v < 8->t < 8->numB l v=true->numB l t=true->G (v:Int)=G (t:Int)->v=t
theorem rs_op (G:Int->Int) (n:Nd):(rsN G n).op=n.op:=by unfold rsN;split<;>rfl
theorem rs_w (G:Int->Int) (n:Nd):(rsN G n).w=n.w:=by unfold rsN;split<;>rfl
theorem rs_a (G:Int->Int) (n:Nd):(rsN G n).a=n.a:=by unfold rsN;split<;>rfl
theorem rs_b (G:Int->Int) (n:Nd):(rsN G n).b=n.b:=by unfold rsN;split<;>rfl
theorem rs_c (G:Int->Int) (n:Nd):(rsN G n).c=n.c:=by unfold rsN;split<;>rfl
theorem rs_parts (G:Int->Int) (n:Nd):parts (rsN G n)=parts n:=Aq1.parts_op (rs_op G n) (rs_a G n) (rs_b G n) (rs_c G n)
theorem rs_k {G:Int->Int} {n:Nd} (h:nmd n=true):(rsN G n).k=G n.k:=by unfold rsN;rw [h];rfl
theorem rs_not {G:Int->Int} {n:Nd} (h:nmd n=false):rsN G n=n:=by unfold rsN;rw [h];rfl
theorem rs_len (G:Int->Int) (l:List Nd):(l.map (rsN G)).length=l.length:=List.length_map _
section
variable {G:Int->Int} {l:List Nd}
theorem num_at {i:Nat} (hi:i < l.length) (hn:nmd (nth l i)=true) {v:Nat} (hv:(nth l i).k=(v:Int)):numB l v=true:=by
 unfold numB
 rw [List.any_eq_true]
 exact ⟨l[i],List.getElem_mem hi,by rw [nth_get hi,hn,hv];simp⟩
theorem k_at (hT:termOk l=true) {i:Nat} (hi:i < l.length) (hn:nmd (nth l i)=true):∃ v:Nat,(nth l i).k=(v:Int)/\v < 8/\numB l v=true:=by
 have h:=shape_var (term_node hT hi) (by unfold nmd at hn;simp only [Bool.or_eq_true,beq_iff_eq] at hn;exact hn)
 refine ⟨(nth l i).k.toNat,by omega,by omega,num_at hi hn (by omega)⟩
theorem rs_node (hT:termOk l=true) (hJ:Inj G l) {i:Nat} (hi:i < l.length):nodeOk (l.map (rsN G)) i=nodeOk l i:=by
 have e1:(parts (nth (l.map (rsN G)) i)).map (width (l.map (rsN G)))=(parts (nth l i)).map (width l):=by
  rw [nth_map _ hi,rs_parts]
  apply List.map_congr_left
  intro p hp
  have:=down_of hT i hi p hp
  unfold width
  rw [nth_map _ (by omega),rs_w]
 simp only [nodeOk]
 rw [e1,nth_map _ hi,rs_parts,rs_w]
 congr 1
 cases hn:nmd (nth l i)
 ·rw [rs_not hn]
 ·obtain ⟨v,hk,hv,hu⟩:=k_at hT hi hn
  have hg:=hJ.1 v hv hu
  unfold shapeOk
  rw [rs_op,rs_k hn,rs_a,rs_b,rs_c,rs_w,hk]
  unfold nmd quant at hn
  simp only [Bool.or_eq_true,beq_iff_eq] at hn
  have hv7:(v:Int)<=7:=by omega
  rcases hn with h|h|h
  ·rw [h];simp [hg.1,hg.2,hv7]
  ·rw [h];simp [hg.1,hg.2,hv7]
  ·rw [h];simp [hg.1,hg.2,hv7]
theorem rs_term (hT:termOk l=true) (hJ:Inj G l):termOk (l.map (rsN G))=true:=by
 have hl:=term_len hT
 exact term_good (by rw [rs_len];exact hl) fun k hk=>by rw [rs_len] at hk;rw [rs_node hT hJ hk];exact term_node hT hk
theorem rs_reach (G:Int->Int) (l:List Nd):reachL (l.map (rsN G))=reachL l:=by
 unfold reachL
 rw [rs_len]
 have:∀ k (bs:List Bool),k<=l.length->reachDown (l.map (rsN G)) k bs=reachDown l k bs:=by
  intro k
  induction k with
  | zero=>intro bs _;rfl
  | succ k ih =>
    intro bs hk
    show reachDown (l.map (rsN G)) k (reachStep (l.map (rsN G)) bs k)=reachDown l k (reachStep l bs k)
    have e:reachStep (l.map (rsN G)) bs k=reachStep l bs k:=by
     unfold reachStep
     rw [nth_map _ (by omega),rs_parts]
    rw [e,ih _ (by omega)]
 exact this l.length _ (Nat.le_refl _)
theorem rs_hold (G:Int->Int) (l:List Nd):∀ k,k<=l.length->holdTo (l.map (rsN G)) k=holdTo l k:=by
 intro k
 induction k with
 | zero=>intro _;rfl
 | succ k ih =>
   intro hk
   show holdTo (l.map (rsN G)) k++[_]=holdTo l k++[_]
   rw [ih (by omega),nth_map _ (by omega),rs_op,rs_parts]
theorem rs_uses (G:Int->Int) (l:List Nd):∀ k,k<=l.length->usesF (l.map (rsN G)) k=usesF l k:=by
 intro k
 induction k with
 | zero=>intro _;show List.replicate _ _=List.replicate _ _;rw [rs_len]
 | succ k ih =>
   intro hk
   unfold usesF
   rw [rs_reach,ih (by omega),nth_map _ (by omega),rs_parts]
theorem rs_mov (G:Int->Int) (l:List Nd) (h:Mov l):Mov (l.map (rsN G)):=by
 have hh:=rs_hold G l l.length (Nat.le_refl _)
 have hu:=rs_uses G l l.length (Nat.le_refl _)
 constructor
 ·intro i hi hf hh'
  rw [rs_len] at hi hh'
  rw [rs_reach] at hf
  rw [hh] at hh'
  rw [nth_map _ hi,rs_op]
  exact h.1 i hi hf hh'
 ·intro i hi hf hh'
  rw [rs_len] at hi hh' ⊢
  rw [rs_reach] at hf
  rw [hh] at hh'
  rw [hu]
  exact h.2 i hi hf hh'
theorem rs_bits (G:Int->Int) (l:List Nd):∀ k,k<=l.length->bitsTo (l.map (rsN G)) k=bitsTo l k:=by
 intro k
 induction k with
 | zero=>intro _;rfl
 | succ k ih =>
   intro hk
   unfold bitsTo
   rw [rs_reach,ih (by omega),nth_map _ (by omega),rs_op,rs_b]
theorem rs_free (hT:termOk l=true) (hJ:Inj G l):∀ i,i < l.length->∀ t:Nat,t < 8->flag (row (freeRows (l.map (rsN G)) (l.map (rsN G)).length) (i:Int)) t=true ->
 ∃ v:Nat,v < 8/\numB l v=true/\G (v:Int)=(t:Int)/\flag (row (freeRows l l.length) (i:Int)) v=true:=by
 have hT2:=rs_term hT hJ
 intro i
 induction i using Nat.strongRecOn with
 | ind i ih =>
   intro hi t ht hf
   rw [free_at (down_of hT2) (by rw [rs_len];exact hi) ht,nth_map _ hi] at hf
   unfold freeAt at hf
   rw [rs_op,rs_parts] at hf
   cases hn:nmd (nth l i)
   ·rw [rs_not hn] at hf
    have hq:((nth l i).op==19||(nth l i).op==20)=false:=by
     unfold nmd quant at hn
     rw [Bool.or_eq_false_iff] at hn
     exact hn.2
    have h1:((nth l i).op==1)=false:=by
     unfold nmd at hn
     rw [Bool.or_eq_false_iff] at hn
     exact hn.1
    rw [hq,h1] at hf
    simp only [Bool.false_and,Bool.false_eq_true,if_false,Bool.false_or] at hf
    unfold inParts at hf
    obtain ⟨p,hp,hpf⟩:=List.any_eq_true.1 hf
    have hd:=down_of hT i hi p hp
    have e:((p.toNat:Nat):Int)=p:=by omega
    rw [<- e] at hpf
    obtain ⟨v,h2,h3,h4,h5⟩:=ih p.toNat (by omega) (by omega) t ht hpf
    refine ⟨v,h2,h3,h4,?_⟩
    rw [free_at (down_of hT) hi h2]
    unfold freeAt
    rw [hq,h1]
    simp only [Bool.false_and,Bool.false_eq_true,if_false,Bool.false_or]
    unfold inParts
    rw [List.any_eq_true]
    exact ⟨p,hp,by rw [<- e];exact h5⟩
   ·obtain ⟨x,hk,hx,hu⟩:=k_at hT hi hn
    rw [rs_k hn,hk] at hf
    cases hq:((nth l i).op==19||(nth l i).op==20)
    ·rw [hq] at hf
     have h1:(nth l i).op=1:=by
      unfold nmd quant at hn
      rw [hq,Bool.or_false] at hn
      exact beq_iff_eq.1 hn
     have hp0:parts (nth l i)=[]:=parts_none (by omega) (by omega) (by omega)
     rw [hp0,h1] at hf
     simp only [Bool.false_and,Bool.false_eq_true,if_false,inParts,List.any_nil,Bool.or_false,beq_self_eq_true,Bool.true_and,beq_iff_eq] at hf
     refine ⟨x,hx,hu,hf,?_⟩
     rw [free_at (down_of hT) hi hx]
     unfold freeAt
     rw [hq,h1,hk]
     simp
    ·rw [hq] at hf
     have h1:((nth l i).op==1)=false:=by
      rw [Bool.or_eq_true] at hq
      rcases hq with h|h
      ·rw [beq_iff_eq.1 h];rfl
      ·rw [beq_iff_eq.1 h];rfl
     rw [h1] at hf
     by_cases hg:G (x:Int)=(t:Int)
     ·rw [hg] at hf;simp at hf
     ·have hg2:(G (x:Int)==(t:Int))=false:=beq_eq_false_iff_ne.2 hg
      rw [hg2] at hf
      simp only [Bool.and_false,Bool.false_eq_true,if_false,Bool.false_or] at hf
      unfold inParts at hf
      obtain ⟨p,hp,hpf⟩:=List.any_eq_true.1 hf
      have hd:=down_of hT i hi p hp
      have e:((p.toNat:Nat):Int)=p:=by omega
      rw [<- e] at hpf
      obtain ⟨v,h2,h3,h4,h5⟩:=ih p.toNat (by omega) (by omega) t ht hpf
      refine ⟨v,h2,h3,h4,?_⟩
      have hne:((x:Int)==(v:Int))=false:=beq_eq_false_iff_ne.2 (fun e9=>hg (by rw [e9];exact h4))
      rw [free_at (down_of hT) hi h2]
      unfold freeAt
      rw [hq,h1,hk,hne]
      simp only [Bool.and_false,Bool.false_eq_true,if_false,Bool.false_or]
      unfold inParts
      rw [List.any_eq_true]
      exact ⟨p,hp,by rw [<- e];exact h5⟩
theorem rs_closed (hT:termOk l=true) (hJ:Inj G l) (h:(freeL l).length=0):(freeL (l.map (rsN G))).length=0:=by
 have hT2:=rs_term hT hJ
 have hl:=term_len hT
 unfold freeL
 rw [hT2,if_pos rfl]
 unfold freeTo
 rw [List.length_map,List.length_eq_zero_iff,List.filter_eq_nil_iff]
 intro t ht hf
 have ht8:=List.mem_range.1 ht
 have e:((l.map (rsN G)).length:Int) - 1=((l.length - 1:Nat):Int):=by rw [rs_len];omega
 unfold freeTop at hf
 rw [e] at hf
 obtain ⟨v,h2,_,_,h5⟩:=rs_free hT hJ (l.length - 1) (by omega) t ht8 hf
 rw [Fr3.free_none hT h v h2] at h5
 cases h5
def Rel (G:Int->Int) (l:List Nd) (ws ws':List Int):Prop:=ws.length=8/\ws'.length=8/\∀ v:Nat,v < 8->numB l v=true->wd ws' (G (v:Int))=wd ws (v:Int)
theorem rel_set (hJ:Inj G l) {ws ws':List Int} (h:Rel G l ws ws') {v:Nat} (hv:v < 8) (hu:numB l v=true) (x:Int):Rel G l (ws.set v x) (ws'.set (G (v:Int)).toNat x):=by
 refine ⟨by rw [List.length_set];exact h.1,by rw [List.length_set];exact h.2.1,fun t ht hut=>?_⟩
 have hgv:=hJ.1 v hv hu
 have hgt:=hJ.1 t ht hut
 by_cases e:v=t
 ·subst e
  unfold wd
  simp [List.getD,h.1,h.2.1,hv,show (G (v:Int)).toNat < 8 by omega]
 ·have ne:(G (v:Int)).toNat≠(G (t:Int)).toNat:=fun e9=>e (hJ.2 v t hv ht hu hut (by omega))
  have h9:=h.2.2 t ht hut
  unfold wd at h9 ⊢
  simp only [List.getD,List.getElem?_set_ne ne,Int.toNat_natCast,List.getElem?_set_ne e]
  simpa [List.getD] using h9
theorem rs_quants (hT:termOk l=true) (hJ:Inj G l):∀ k,k<=l.length->∀ ws,quantsTo l k=some ws->∃ ws',quantsTo (l.map (rsN G)) k=some ws'/\Rel G l ws ws':=by
 intro k
 induction k with
 | zero =>
   intro _ ws h
   have h':some (List.replicate 8 (0:Int))=some ws:=h
   cases h'
   refine ⟨_,rfl,by simp,by simp,fun v hv hu=>?_⟩
   have hg:=hJ.1 v hv hu
   unfold wd
   rw [List.getD_eq_getElem?_getD,List.getD_eq_getElem?_getD,List.getElem?_replicate,List.getElem?_replicate,if_pos (by omega),if_pos (by omega)]
 | succ k ih =>
   intro hk ws h
   cases h0:quantsTo l k with
   | none =>
     have h9:(quantsTo l k).bind (fun ws=>qStep l ws k)=some ws:=h
     rw [h0] at h9;cases h9
   | some w0 =>
     obtain ⟨w1,hw1,hr⟩:=ih (by omega) w0 h0
     rw [quants_succ h0] at h
     rw [quants_succ hw1]
     unfold qStep at h ⊢
     rw [rs_reach,nth_map _ (by omega),rs_op,rs_b]
     cases hq:(flag (reachL l) k&&quant (nth l k).op)
     ·rw [hq] at h
      simp only [Bool.false_eq_true,if_false,Option.some.injEq] at h ⊢
      subst h
      exact ⟨w1,rfl,hr⟩
     ·rw [hq] at h
      simp only [if_true] at h ⊢
      simp only [Bool.and_eq_true] at hq
      have hn:nmd (nth l k)=true:=by unfold nmd;rw [hq.2];simp
      obtain ⟨v,hkv,hv,hu⟩:=k_at hT (by omega) hn
      rw [hkv] at h
      rw [rs_k hn,hkv]
      by_cases hz:wd w0 (v:Int)=0
      ·rw [if_pos hz] at h
       rw [if_pos (by rw [hr.2.2 v hv hu];exact hz)]
       cases h
       exact ⟨_,rfl,by rw [Int.toNat_natCast];exact rel_set hJ hr hv hu _⟩
      ·rw [if_neg hz] at h;cases h
theorem rs_sent (hJ:Inj G l) (hS:sentB l=true):sentB (l.map (rsN G))=true:=by
 obtain ⟨hT,hw,hf,ws,hq,hwid,hm⟩:=(sent_iff l).1 hS
 have hl:=term_len hT
 obtain ⟨ws',hq',hr⟩:=rs_quants hT hJ l.length (Nat.le_refl _) ws hq
 refine (sent_iff _).2 ⟨rs_term hT hJ,?_,rs_closed hT hJ hf,ws',by rw [rs_len];exact hq',?_,rs_mov G l hm⟩
 ·rw [rs_len,nth_map _ (by omega),rs_w];exact hw
 ·intro i hi hfl ho
  rw [rs_len] at hi
  rw [rs_reach] at hfl
  rw [nth_map _ hi,rs_op] at ho
  have hn:nmd (nth l i)=true:=by unfold nmd;rw [ho];rfl
  obtain ⟨v,hkv,hv,hu⟩:=k_at hT hi hn
  rw [nth_map _ hi,rs_w,rs_k hn,hwid i hi hfl ho,hkv,hr.2.2 v hv hu]
theorem rs_bitsL (hJ:Inj G l) (hS:sentB l=true):bitsL (l.map (rsN G))=bitsL l:=by
 unfold bitsL
 rw [hS,rs_sent hJ hS,if_pos rfl,if_pos rfl,rs_len,rs_bits _ _ _ (Nat.le_refl _)]
end
end Aq4
namespace Jn4
open Nd0 Pl1 Tm0 Tm1 Tm3 Tm4 Tm5 Tm6 Tm8 Tm10 Tm11 Tm12 Tm13 Tm14 Aq0 Aq1 Aq4 Aq13 Jn0 Jn3
def gB (a b:List Nd) (x:Int):Int:=((nwK a b x.toNat:Nat):Int)
theorem nw_rs (a b l:List Nd):l.map (nwN a b)=l.map (rsN (gB a b)):=rfl
theorem both_jn (a b:List Nd):bothAll a b=jnL a (b.map (rsN (gB a b))):=by
 rw [<- nw_rs]
 unfold bothAll jnL bothN
 rw [List.length_map]
theorem lf_not {a b:List Nd} {j:Nat} (h:j < (lfL a b).length):numB a ((lfL a b).getD j 0)=false/\numB b ((lfL a b).getD j 0)=false:=by
 rw [List.getD_eq_getElem?_getD,List.getElem?_eq_getElem h]
 have h2:=(lfL_at a b h).2
 unfold lfB at h2
 simp only [Bool.not_eq_true',Bool.or_eq_false_iff] at h2
 exact h2
theorem sh_lt {a b:List Nd} (he:enough a b=true) {v:Nat} (hv:v < 8) (hs:shB a b v=true):(shTo a b v).length < (lfL a b).length:=by
 have h1:(shTo a b v).length < (shTo a b (v+1)).length:=by rw [shTo_succ,hs];simp
 have h2:=shTo_mono a b (j:=v+1) (k:=8) (by omega)
 have h3:(shTo a b 8).length<=(lfL a b).length:=of_decide_eq_true he
 omega
theorem sh_inj {a b:List Nd} {v t:Nat} (hv:shB a b v=true) (ht:shB a b t=true) (h:(shTo a b v).length=(shTo a b t).length):v=t:=by
 have key:∀ {v t:Nat},shB a b v=true->v < t->(shTo a b v).length < (shTo a b t).length:=fun {v t} hv hlt=>by
  have h1:(shTo a b v).length < (shTo a b (v+1)).length:=by rw [shTo_succ,hv];simp
  have h2:=shTo_mono a b (j:=v+1) (k:=t) (by omega)
  omega
 by_cases h1:v < t
 ·have:=key hv h1;omega
 ·by_cases h2:t < v
  ·have:=key ht h2;omega
  ·omega
theorem lf_inj {a b:List Nd} {i j:Nat} (hi:i < (lfL a b).length) (hj:j < (lfL a b).length) (h:(lfL a b).getD i 0=(lfL a b).getD j 0):i=j:=by
 have hn:(lfL a b).Pairwise (· < ·):=by
  unfold lfL
  exact List.Pairwise.filter _ List.pairwise_lt_range
 have hn:=List.pairwise_iff_getElem.1 hn
 rw [List.getD_eq_getElem?_getD,List.getElem?_eq_getElem hi,List.getD_eq_getElem?_getD,List.getElem?_eq_getElem hj] at h
 simp only [Option.getD_some] at h
 by_cases h1:i < j
 ·have:=hn i j hi hj h1
  omega
 ·by_cases h2:j < i
  ·have:=hn j i hj hi h2
   omega
  ·omega
theorem nw_inj {a b:List Nd} (he:enough a b=true):Inj (gB a b) b:=by
 refine ⟨fun v hv _=>?_,fun v t hv ht hnv hnt h=>?_⟩
 ·have:=nwK_lt a b he hv
  unfold gB
  rw [Int.toNat_natCast]
  omega
 ·unfold gB at h
  rw [Int.toNat_natCast,Int.toNat_natCast] at h
  have h:nwK a b v=nwK a b t:=by omega
  unfold nwK at h
  cases hs:shB a b v
  ·rw [hs] at h
   cases hs2:shB a b t
   ·rw [hs2] at h;exact h
   ·rw [hs2] at h
    simp only [Bool.false_eq_true,if_false,if_true] at h
    have:=(lf_not (sh_lt he ht hs2)).2
    rw [<- h,hnv] at this
    cases this
  ·rw [hs] at h
   cases hs2:shB a b t
   ·rw [hs2] at h
    simp only [Bool.false_eq_true,if_false,if_true] at h
    have:=(lf_not (sh_lt he hv hs)).2
    rw [h,hnt] at this
    cases this
   ·rw [hs2] at h
    simp only [if_true] at h
    exact sh_inj hs hs2 (lf_inj (sh_lt he hv hs) (sh_lt he ht hs2) h)
theorem nw_apart {a b:List Nd} (hT:termOk b=true) (he:enough a b=true):∀ v:Nat,v < 8->numB a v=true->numB (b.map (rsN (gB a b))) v=false:=by
 intro v hv ha
 cases hn:numB (b.map (rsN (gB a b))) v
 ·rfl
 ·exfalso
  unfold numB at hn
  obtain ⟨m,hm,hk⟩:=List.any_eq_true.1 hn
  obtain ⟨n,hnb,rfl⟩:=List.mem_map.1 hm
  simp only [Bool.and_eq_true,beq_iff_eq] at hk
  obtain ⟨h1,h2⟩:=hk
  have hnm:nmd n=true:=by
   unfold nmd at h1 ⊢
   rw [rs_op] at h1
   exact h1
  rw [rs_k hnm] at h2
  obtain ⟨i,hi,rfl⟩:=List.getElem_of_mem hnb
  rw [nth_get hi] at hnm h2
  have hkr:0<=(nth b i).k/\(nth b i).k<=7:=by
   unfold nmd at hnm
   cases hq:quant (nth b i).op
   ·rw [hq,Bool.or_false] at hnm
    exact var_k hT hi (by simpa using hnm)
   ·exact quant_k hT hi hq
  have hnb2:=named hi hnm (v:=(nth b i).k.toNat) (by omega)
  unfold gB nwK at h2
  cases hs:shB a b (nth b i).k.toNat
  ·rw [hs] at h2
   simp only [Bool.false_eq_true,if_false] at h2
   have e:(nth b i).k.toNat=v:=by omega
   rw [e] at hs hnb2
   unfold shB at hs
   rw [ha,hnb2] at hs
   cases hs
  ·rw [hs] at h2
   simp only [if_true] at h2
   have h3:=(lf_not (sh_lt he (v:=(nth b i).k.toNat) (by omega) hs)).1
   have e:(lfL a b).getD (shTo a b (nth b i).k.toNat).length 0=v:=by omega
   rw [e,ha] at h3
   cases h3
theorem both_sent {a b:List Nd} (h:bothB a b=true):sentB (bothR a b)=true/\bitsL (bothR a b)=bitsL a+bitsL b:=by
 have hr:bothR a b=bothAll a b:=by unfold bothR;rw [h];rfl
 unfold bothB at h
 simp only [Bool.and_eq_true] at h
 obtain ⟨⟨⟨hA,hB⟩,he⟩,hT⟩:=h
 have hTA:=sent_ok hA
 have hTB:=sent_ok hB
 have hJ:=nw_inj he
 rw [hr]
 rw [both_jn] at hT ⊢
 have h1:=rs_sent hJ hB
 have h2:=rs_term hTB hJ
 have h3:=nw_apart hTB he
 exact ⟨jn_sent hTA h2 hT h3 hA h1,by rw [jn_bitsL hTA h2 hT h3 hA h1,rs_bitsL hJ hB]⟩
end Jn4
namespace Aq5
open Nd0 Pl1 Tm0 Tm1 Tm2 Tm3 Tm4 Tm5 Tm6 Tm7 Tm8 Tm11 Tm12 Tm13 Tm14 Tr0 Vl1 Vl2 Vl4 Vl5 Fr1 Aq0 Aq4
open Aq1 (nth_map down_map)
def rsT (G:Int->Int):Tr->Tr
 | .leaf op w k=>.leaf op w (if op=1 then G k else k)
 | .one op w k b x=>.one op w (if quant op then G k else k) b (rsT G x)
 | .two op w x y=>.two op w (rsT G x) (rsT G y)
 | .three op w x y z=>.three op w (rsT G x) (rsT G y) (rsT G z)
theorem rsT_wid (G:Int->Int) (x:Tr):(rsT G x).wid=x.wid:=by cases x<;>rfl
def TU (U:Nat->Bool):Tr->Prop
 | .leaf op _ k=>op=1->∃ v:Nat,k=(v:Int)/\v < 8/\U v=true
 | .one op _ k _ x=>TU U x/\(quant op=true->∃ v:Nat,k=(v:Int)/\v < 8/\U v=true)
 | .two _ _ x y=>TU U x/\TU U y
 | .three _ _ x y z=>TU U x/\TU U y/\TU U z
section
variable {G:Int->Int} {l:List Nd}
theorem tr_rs (hT:termOk l=true) (hJ:Inj G l):∀ i,i < l.length->tr (l.map (rsN G)) i=rsT G (tr l i):=by
 have hD:=down_of hT
 intro i
 induction i using Nat.strongRecOn with
 | ind i ih =>
   intro hi
   rw [tr_at (down_map hD (rsN G) (rs_parts G)) (by rw [rs_len];exact hi),tr_at hD hi,nth_map _ hi]
   have hp:∀ p∈parts (nth l i),tr (l.map (rsN G)) p.toNat=rsT G (tr l p.toNat):=fun p hp=>by
    have:=hD i hi p hp
    exact ih p.toNat (by omega) (by omega)
   generalize nth l i=n at hp
   have eo:=rs_op G n
   by_cases h1:n.op=2\/n.op=17\/n.op=19\/n.op=20
   ·rw [parts_one h1] at hp
    rw [mk_one h1,mk_one (n:=rsN G n) (by rw [eo];exact h1),eo,rs_w,rs_b,rs_a,hp n.a (by simp)]
    have hk:(rsN G n).k=if quant n.op then G n.k else n.k:=by
     unfold rsN nmd
     have h9:(n.op==1)=false:=beq_eq_false_iff_ne.2 (by omega)
     rw [h9,Bool.false_or]
     split<;>rfl
    rw [hk];rfl
   ·by_cases h2:3<=n.op/\n.op<=16
    ·rw [parts_two h2] at hp
     rw [mk_two h2,mk_two (n:=rsN G n) (by rw [eo];exact h2),eo,rs_w,rs_a,rs_b,hp n.a (by simp),hp n.b (by simp)]
     rfl
    ·by_cases h3:n.op=18
     ·rw [parts_three h3] at hp
      rw [mk_three h3,mk_three (n:=rsN G n) (by rw [eo];exact h3),eo,rs_w,rs_a,rs_b,rs_c,hp n.a (by simp),hp n.b (by simp),hp n.c (by simp)]
      rfl
     ·rw [mk_leaf (n:=n) h1 h2 h3,mk_leaf (n:=rsN G n) (by rw [eo];exact h1) (by rw [eo];exact h2) (by rw [eo];exact h3),eo,rs_w]
      have hk:(rsN G n).k=if n.op=1 then G n.k else n.k:=by
       unfold rsN nmd quant
       have h9:(n.op==19)=false:=beq_eq_false_iff_ne.2 (by omega)
       have h8:(n.op==20)=false:=beq_eq_false_iff_ne.2 (by omega)
       rw [h9,h8,Bool.or_false,Bool.or_false]
       by_cases h:n.op=1
       ·rw [if_pos (beq_iff_eq.2 h),if_pos h]
       ·rw [if_neg (fun e=>h (beq_iff_eq.1 e)),if_neg h]
      rw [hk];rfl
theorem tu_all (hT:termOk l=true):∀ i,i < l.length->TU (numB l) (tr l i):=by
 have hD:=down_of hT
 intro i
 induction i using Nat.strongRecOn with
 | ind i ih =>
   intro hi
   rw [tr_at hD hi]
   have hp:∀ p∈parts (nth l i),TU (numB l) (tr l p.toNat):=fun p hp=>by
    have:=hD i hi p hp
    exact ih p.toNat (by omega) (by omega)
   have hk:nmd (nth l i)=true->∃ v:Nat,(nth l i).k=(v:Int)/\v < 8/\numB l v=true:=fun h=>k_at hT hi h
   generalize nth l i=n at hp hk
   by_cases h1:n.op=2\/n.op=17\/n.op=19\/n.op=20
   ·rw [parts_one h1] at hp
    rw [mk_one h1]
    exact ⟨hp n.a (by simp),fun hq=>hk (by unfold nmd;rw [hq];simp)⟩
   ·by_cases h2:3<=n.op/\n.op<=16
    ·rw [parts_two h2] at hp
     rw [mk_two h2]
     exact ⟨hp n.a (by simp),hp n.b (by simp)⟩
    ·by_cases h3:n.op=18
     ·rw [parts_three h3] at hp
      rw [mk_three h3]
      exact ⟨hp n.a (by simp),hp n.b (by simp),hp n.c (by simp)⟩
     ·rw [mk_leaf (n:=n) h1 h2 h3]
      exact fun h=>hk (by unfold nmd;rw [h];rfl)
theorem rel_at {e e':List Int} (hJ:Inj G l) (h:Rel G l e e') {v:Nat} (hv:v < 8) (hu:numB l v=true):e'.getD (G (v:Int)).toNat 0=e.getD v 0:=by
 have:=h.2.2 v hv hu
 unfold wd at this
 rw [Int.toNat_natCast] at this
 exact this
theorem v_rs (hJ:Inj G l):∀ (x:Tr) (e e':List Int),TU (numB l) x->Rel G l e e'->vT (rsT G x) e'=vT x e:=by
 intro x
 induction x with
 | leaf op w k =>
   intro e e' hU hR
   show (if op=1 then e'.getD (if op=1 then G k else k).toNat 0 else applyL op w (if op=1 then G k else k) 1 0 0 0)=if op=1 then e.getD k.toNat 0 else applyL op w k 1 0 0 0
   by_cases h:op=1
   ·rw [if_pos h,if_pos h,if_pos h]
    obtain ⟨v,rfl,hv,hu⟩:=hU h
    rw [Int.toNat_natCast]
    exact rel_at hJ hR hv hu
   ·rw [if_neg h,if_neg h,if_neg h]
 | one op w k b x ih =>
   intro e e' hU hR
   show (if op=19 then _ else if op=20 then _ else _)=if op=19 then _ else if op=20 then _ else _
   cases hq:quant op
   ·have h1:¬ op=19:=fun h=>by rw [h] at hq;cases hq
    have h2:¬ op=20:=fun h=>by rw [h] at hq;cases hq
    rw [if_neg h1,if_neg h1,if_neg h2,if_neg h2]
    rw [rsT_wid,ih e e' hU.1 hR];rfl
   ·obtain ⟨v,rfl,hv,hu⟩:=hU.2 hq
    have hf:∀ i:Int,vT (rsT G x) (e'.set (G (v:Int)).toNat i)=vT x (e.set (v:Int).toNat i):=fun i=>by
     rw [Int.toNat_natCast]
     exact ih _ _ hU.1 (rel_set hJ hR hv hu i)
    have hall:(List.range (2 ^ b.toNat)).all (fun i=>vT (rsT G x) (e'.set (G (v:Int)).toNat (i:Int))==1)=(List.range (2 ^ b.toNat)).all (fun i=>vT x (e.set (v:Int).toNat (i:Int))==1):=by
     congr 1;funext i;rw [hf]
    have hany:(List.range (2 ^ b.toNat)).any (fun i=>vT (rsT G x) (e'.set (G (v:Int)).toNat (i:Int))==1)=(List.range (2 ^ b.toNat)).any (fun i=>vT x (e.set (v:Int).toNat (i:Int))==1):=by
     congr 1;funext i;rw [hf]
    have ho:op=19\/op=20:=by simpa [quant] using hq
    rcases ho with rfl|rfl
    ·show (if (List.range (2 ^ b.toNat)).all (fun i=>vT (rsT G x) (e'.set (G (v:Int)).toNat (i:Int))==1)=true then (1:Int) else 0)=(if (List.range (2 ^ b.toNat)).all (fun i=>vT x (e.set (v:Int).toNat (i:Int))==1)=true then 1 else 0)
     rw [hall]
    ·show (if (List.range (2 ^ b.toNat)).any (fun i=>vT (rsT G x) (e'.set (G (v:Int)).toNat (i:Int))==1)=true then (1:Int) else 0)=(if (List.range (2 ^ b.toNat)).any (fun i=>vT x (e.set (v:Int).toNat (i:Int))==1)=true then 1 else 0)
     rw [hany]
 | two op w x y ihx ihy =>
   intro e e' hU hR
   show applyL op w 0 (rsT G x).wid (vT (rsT G x) e') (vT (rsT G y) e') 0=applyL op w 0 x.wid (vT x e) (vT y e) 0
   rw [rsT_wid,ihx e e' hU.1 hR,ihy e e' hU.2 hR]
 | three op w x y z ihx ihy ihz =>
   intro e e' hU hR
   show applyL op w 0 (rsT G x).wid (vT (rsT G x) e') (vT (rsT G y) e') (vT (rsT G z) e')=applyL op w 0 x.wid (vT x e) (vT y e) (vT z e)
   rw [rsT_wid,ihx e e' hU.1 hR,ihy e e' hU.2.1 hR,ihz e e' hU.2.2 hR]
theorem holds_some {t:List Nd} (hS:sentB t=true) (hb:bitsL t<=12):holdsL t=some (vT (root t) (List.replicate 8 0)):=by
 obtain ⟨ws,_,hR,_,hTy,_⟩:=Fr3.sent_tree hS
 obtain ⟨r,hr,_⟩:=need_ty (root t) hR hTy
 have hfit:fitT (root t) (List.replicate 8 0)=true:=by
  unfold fitT
  rw [hr]
  refine fit_iff.2 (fun v hv j h1 h8 _=>?_)
  refine wok_iff.2 ⟨by omega,by omega,?_,?_⟩
  ·rw [List.getD_eq_getElem?_getD,List.getElem?_replicate,if_pos hv];exact Int.le_refl _
  ·rw [List.getD_eq_getElem?_getD,List.getElem?_replicate,if_pos hv];exact p2_pos _
 have hbt:bitsTo t t.length<=12:=by
  unfold bitsL at hb
  rw [hS,if_pos rfl] at hb
  exact hb
 unfold holdsL valueL
 rw [hS,if_pos rfl,sent_ok hS,hfit,decide_eq_true hbt]
 rfl
theorem rs_holds (hJ:Inj G l) (hS:sentB l=true) (hb:bitsL l<=12):holdsL (l.map (rsN G))=holdsL l:=by
 have hT:=sent_ok hS
 have hl:=term_len hT
 rw [holds_some hS hb,holds_some (rs_sent hJ hS) (by rw [rs_bitsL hJ hS];exact hb)]
 congr 1
 unfold root
 rw [rs_len,tr_rs hT hJ _ (by omega)]
 refine v_rs hJ _ _ _ (tu_all hT _ (by omega)) ⟨by simp,by simp,fun v hv hu=>?_⟩
 have hg:=hJ.1 v hv hu
 unfold wd
 rw [List.getD_eq_getElem?_getD,List.getD_eq_getElem?_getD,List.getElem?_replicate,List.getElem?_replicate,if_pos (by omega),if_pos (by omega)]
end
end Aq5
namespace Jn5
open Nd0 Pl1 Tm0 Tm1 Tm3 Tm4 Tm5 Tm6 Tm8 Tm11 Tm12 Tm13 Tm14 Tr0 Vl1 Vl2 Vl3 Vl5 Aq0 Aq1 Aq4 Aq5 Aq13 Jn0 Jn3 Jn4
theorem mk_sh (m:Nat) {n:Nd} (hp:∀ p∈parts n,0<=p) {f g:Nat->Tr} (h:∀ p∈parts n,f (m+p.toNat)=g p.toNat):mkF (shN (m:Int) n) f=mkF n g:=by
 have ht:∀ p:Int,0<=p->(p+(m:Int)).toNat=m+p.toNat:=fun p h0=>by omega
 by_cases h1:n.op=2\/n.op=17\/n.op=19\/n.op=20
 ·have hps:=parts_one h1
  rw [hps] at h hp
  have e:shN (m:Int) n=⟨n.op,n.w,n.k,n.a+m,n.b,n.c⟩:=by unfold shN;rw [hps];rfl
  rw [e,mk_one (n:=⟨n.op,n.w,n.k,n.a+m,n.b,n.c⟩) h1 f,mk_one h1 g]
  show Tr.one _ _ _ _ (f (n.a+(m:Int)).toNat)=_
  rw [ht n.a (hp n.a (by simp)),h n.a (by simp)]
 ·by_cases h2:3<=n.op/\n.op<=16
  ·have hps:=parts_two h2
   rw [hps] at h hp
   have e:shN (m:Int) n=⟨n.op,n.w,n.k,n.a+m,n.b+m,n.c⟩:=by unfold shN;rw [hps];rfl
   rw [e,mk_two (n:=⟨n.op,n.w,n.k,n.a+m,n.b+m,n.c⟩) h2 f,mk_two h2 g]
   show Tr.two _ _ (f (n.a+(m:Int)).toNat) (f (n.b+(m:Int)).toNat)=_
   rw [ht n.a (hp n.a (by simp)),ht n.b (hp n.b (by simp)),h n.a (by simp),h n.b (by simp)]
  ·by_cases h3:n.op=18
   ·have hps:=parts_three h3
    rw [hps] at h hp
    have e:shN (m:Int) n=⟨n.op,n.w,n.k,n.a+m,n.b+m,n.c+m⟩:=by unfold shN;rw [hps];rfl
    rw [e,mk_three (n:=⟨n.op,n.w,n.k,n.a+m,n.b+m,n.c+m⟩) h3 f,mk_three h3 g]
    show Tr.three _ _ (f (n.a+(m:Int)).toNat) (f (n.b+(m:Int)).toNat) (f (n.c+(m:Int)).toNat)=_
    rw [ht n.a (hp n.a (by simp)),ht n.b (hp n.b (by simp)),ht n.c (hp n.c (by simp)),h n.a (by simp),h n.b (by simp),h n.c (by simp)]
   ·rw [mk_leaf h1 h2 h3,mk_leaf (n:=shN (m:Int) n) h1 h2 h3]
    rfl
theorem jn_tr_a {a b:List Nd} (hA:Down a) (hJ:Down (jnL a b)):∀ i,i < a.length->tr (jnL a b) i=tr a i:=by
 intro i
 induction i using Nat.strongRecOn with
 | ind i ih =>
   intro hi
   rw [tr_at hJ (by rw [jn_len];omega),tr_at hA hi,jn_a hi]
   exact mk_congr fun p hp=>by
    have:=hA i hi p hp
    exact ih p.toNat (by omega) (by omega)
theorem jn_tr_b {a b:List Nd} (hB:Down b) (hJ:Down (jnL a b)):∀ j,j < b.length->tr (jnL a b) (a.length+j)=tr b j:=by
 intro j
 induction j using Nat.strongRecOn with
 | ind j ih =>
   intro hj
   rw [tr_at hJ (by rw [jn_len];omega),tr_at hB hj,jn_b hj]
   have hd:=hB j hj
   exact mk_sh a.length (fun p hp=>(hd p hp).1) (fun p hp=>by
    have h9:=hd p hp
    exact ih p.toNat (by omega) (by omega))
theorem jn_root_tr {a b:List Nd} (hA:termOk a=true) (hB:termOk b=true) (hJ:termOk (jnL a b)=true):root (jnL a b)=.two 3 1 (root a) (root b):=by
 have ha:=(term_len hA).1
 have hb:=(term_len hB).1
 unfold root
 rw [tr_at (down_of hJ) (by rw [jn_len];omega),jn_len,Nat.add_sub_cancel,jn_r,mk_two (n:=bothN a b) (show 3<=(3:Int)/\(3:Int)<=16 by omega)]
 have e1:(bothN a b).a.toNat=a.length - 1:=by show ((a.length:Int) - 1).toNat=_;omega
 have e2:(bothN a b).b.toNat=a.length+(b.length - 1):=by show ((a.length:Int)+(b.length:Int) - 1).toNat=_;omega
 rw [e1,e2,jn_tr_a (down_of hA) (down_of hJ) _ (by omega),jn_tr_b (down_of hB) (down_of hJ) _ (by omega)]
 rfl
theorem holds_parts {l:List Nd} {x:Int} (h:holdsL l=some x):sentB l=true/\bitsL l<=12/\x=vT (root l) (List.replicate 8 0)/\(x=0\/x=1):=by
 unfold holdsL at h
 cases hs:sentB l
 ·rw [hs] at h;cases h
 ·rw [hs,if_pos rfl] at h
  obtain ⟨_,_,hb,_,hx⟩:=value_parts.1 h
  refine ⟨rfl,by unfold bitsL;rw [hs,if_pos rfl];exact hb,hx.symm,?_⟩
  have g4:=value_wok h
  rw [((sent_iff l).1 hs).2.1] at g4
  obtain ⟨_,_,g5,g6⟩:=wok_iff.1 g4
  have g7:p2 (1:Int).toNat=2:=rfl
  rw [g7] at g6
  omega
theorem bits_pos {l:List Nd} (hS:sentB l=true):0<=bitsL l:=by
 have hT:=sent_ok hS
 unfold bitsL
 rw [hS,if_pos rfl]
 have:∀ k,k<=l.length->0<=bitsTo l k:=by
  intro k
  induction k with
  | zero=>intro _;exact Int.le_refl _
  | succ k ih =>
    intro hk
    simp only [bitsTo]
    split
    ·rename_i hc
     simp only [Bool.and_eq_true] at hc
     have hq:=hc.2
     have hrt:=rt_at hT (i:=k) (by omega)
     have h1:(nth l k).op=19\/(nth l k).op=20:=by
      unfold quant at hq
      simpa using hq
     rw [mk_one (by rcases h1 with h|h<;>omega)] at hrt
     obtain ⟨_,_,_,hop⟩:=hrt
     have h0:=ih (by omega)
     rcases hop with h9|h9|h9
     ·omega
     ·omega
     ·omega
    ·exact ih (by omega)
 exact this _ (Nat.le_refl _)
theorem both_holds {a b:List Nd} (h:bothB a b=true) {z:Int} (hz:holdsL (bothR a b)=some z):∃ x y,holdsL a=some x/\holdsL b=some y/\(x=0\/x=1)/\(y=0\/y=1)/\z=nAnd x y:=by
 obtain ⟨hs,hbits⟩:=both_sent h
 obtain ⟨_,g1,g2,_⟩:=holds_parts hz
 have hr:bothR a b=bothAll a b:=by unfold bothR;rw [h];rfl
 unfold bothB at h
 simp only [Bool.and_eq_true] at h
 obtain ⟨⟨⟨hA,hB⟩,he⟩,hT⟩:=h
 have pa:=bits_pos hA
 have pb:=bits_pos hB
 have hJ:=nw_inj he
 have hTB:=sent_ok hB
 have hTB2:=rs_term hTB hJ
 have h1:=holds_some hA (by omega)
 have h2:=holds_some (rs_sent hJ hB) (by rw [rs_bitsL hJ hB];omega)
 have h3:=rs_holds hJ hB (by omega)
 rw [h2] at h3
 obtain ⟨_,_,_,x01⟩:=holds_parts h1
 obtain ⟨_,_,_,y01⟩:=holds_parts h2
 refine ⟨_,_,h1,h3.symm,x01,y01,?_⟩
 rw [g2,hr]
 rw [both_jn] at hT ⊢
 rw [jn_root_tr (sent_ok hA) hTB2 hT]
 have w1:(root a).wid=1:=by
  have h9:=(rt_all (down_of (sent_ok hA)) (fun i hi=>term_node (sent_ok hA) hi) (a.length - 1) (by have:=(term_len (sent_ok hA)).1;omega)).2
  rw [((sent_iff a).1 hA).2.1] at h9
  exact h9
 simp only [vT]
 rw [w1,app_in (by decide) (by decide) (by omega) (by omega) (by decide)]
 rfl
end Jn5
end Go.Proofs.YtbellafdjfliiaaGreat
