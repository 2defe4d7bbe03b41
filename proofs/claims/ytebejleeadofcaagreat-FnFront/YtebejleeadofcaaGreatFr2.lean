import Derived.Test.YtebejleeadofcaaGreatFr1
namespace Go.Proofs.YtebejleeadofcaaGreat
set_option maxRecDepth 100000
set_option maxHeartbeats 8000000
set_option linter.unusedVariables false
namespace Fr2
open Nd0 Qa0 Pl1 Pl2 Tm0 Tm1 Tm2 Tm3 Tm4 Tm5 Tm6 Tm8 Tm10 Tm11 Tm13 Tm14 Tr0 Vl1 Vl2 Vm0 Fr0 Fr1
def belTo (l:List Nd):Nat->List Nat
 | 0=>[]
 | k+1=>belTo l k++[if quant (nth l k).op then (belTo l k).getD (nth l k).a.toNat 0 else k]
def bel (l:List Nd) (i:Nat):Nat:=(belTo l l.length).getD i 0
theorem belTo_length (l:List Nd) (k:Nat):(belTo l k).length=k:=by
 induction k with
 | zero=>rfl
 | succ k ih=>show (belTo l k++[_]).length=_;rw [List.length_append,ih];rfl
theorem bel_prefix (l:List Nd) {i k:Nat} (hi:i < k):∀ n,k<=n->(belTo l n).getD i 0=(belTo l k).getD i 0:=by
 intro n hn
 obtain ⟨d,rfl⟩:∃ d,n=k+d:=⟨n - k,by omega⟩
 clear hn
 induction d with
 | zero=>rfl
 | succ d ih =>
   rw [<- ih]
   show (belTo l (k+d)++[_]).getD i 0=_
   rw [List.getD_eq_getElem?_getD,List.getElem?_append_left (by rw [belTo_length];omega),<- List.getD_eq_getElem?_getD]
theorem bel_at {l:List Nd} (hD:Down l) {i:Nat} (hi:i < l.length):bel l i=if quant (nth l i).op then bel l (nth l i).a.toNat else i:=by
 unfold bel
 rw [bel_prefix l (k:=i+1) (by omega) l.length (by omega)]
 show (belTo l i++[_]).getD i 0=_
 rw [List.getD_eq_getElem?_getD,List.getElem?_append_right (by rw [belTo_length];exact Nat.le_refl _),belTo_length,Nat.sub_self]
 show (if quant (nth l i).op then (belTo l i).getD (nth l i).a.toNat 0 else i)=_
 by_cases hq:quant (nth l i).op=true
 ·rw [if_pos hq,if_pos hq]
  have hq2:(nth l i).op=19\/(nth l i).op=20:=by simpa [quant] using hq
  have:=hD i hi (nth l i).a (by rw [parts_one (by omega)];simp)
  exact (bel_prefix l (i:=(nth l i).a.toNat) (k:=i) (by omega) l.length (by omega)).symm
 ·rw [if_neg hq,if_neg hq]
theorem bel_quant {l:List Nd} (hD:Down l) {i:Nat} (hi:i < l.length) (hq:quant (nth l i).op=true):bel l i=bel l (nth l i).a.toNat:=by rw [bel_at hD hi,if_pos hq]
theorem bel_other {l:List Nd} (hD:Down l) {i:Nat} (hi:i < l.length) (hq:quant (nth l i).op=false):bel l i=i:=by rw [bel_at hD hi,hq];rfl
theorem bel_le {l:List Nd} (hD:Down l):∀ i,i < l.length->bel l i<=i/\quant (nth l (bel l i)).op=false:=by
 intro i
 induction i using Nat.strongRecOn with
 | ind i ih =>
   intro hi
   cases hq:quant (nth l i).op with
   | false=>rw [bel_other hD hi hq];exact ⟨Nat.le_refl _,hq⟩
   | true =>
     rw [bel_quant hD hi hq]
     have hq2:(nth l i).op=19\/(nth l i).op=20:=by simpa [quant] using hq
     have:=hD i hi (nth l i).a (by rw [parts_one (by omega)];simp)
     have h2:=ih (nth l i).a.toNat (by omega) (by omega)
     exact ⟨by omega,h2.2⟩
def thrN (l:List Nd) (n:Nd):Nd :=
 ⟨n.op,n.w,n.k,if 0 < (parts n).length then (bel l n.a.toNat:Int) else n.a,if 1 < (parts n).length then (bel l n.b.toNat:Int) else n.b,if 2 < (parts n).length then (bel l n.c.toNat:Int) else n.c⟩
def thrTo (l:List Nd) (k:Nat):List Nd:=(List.range k).map fun i=>thrN l (nth l i)
theorem thrTo_length (l:List Nd) (k:Nat):(thrTo l k).length=k:=by simp [thrTo]
theorem thrTo_nth (l:List Nd) {k i:Nat} (h:i < k):nth (thrTo l k) i=thrN l (nth l i):=by simp [nth,thrTo,List.getD,h]
def cutL (l:List Nd):List Nd:=thrTo l (bel l (l.length - 1)+1)
theorem cutL_take (l:List Nd) (h:bel l (l.length - 1) < l.length):(thrTo l l.length).take (bel l (l.length - 1)+1)=cutL l:=by
 unfold cutL thrTo
 rw [<- List.map_take,List.take_range,Nat.min_eq_left (by omega)]
def restL (l:List Nd):List Nd:=pruneL (cutL l)
def frontQ (l:List Nd):List Qu:=if sentB l then wk (root l) false else []
def frontR (l:List Nd):List Nd:=if sentB l then restL l else []
theorem frontR_le (l:List Nd):(frontR l).length<=l.length+1:=by
 unfold frontR
 split
 ·unfold restL
  refine Nat.le_trans (pruneL_le _) ?_
  unfold cutL
  rw [thrTo_length]
  rename_i h
  have hT:=sent_ok h
  have:=bel_le (down_of hT) (l.length - 1) (by have:=term_len hT;omega)
  omega
 ·exact Nat.zero_le _
theorem thr_parts (l:List Nd) (n:Nd):parts (thrN l n)=(parts n).map fun p=>((bel l p.toNat:Nat):Int):=by
 by_cases h1:n.op=2\/n.op=17\/n.op=19\/n.op=20
 ·have hp:=parts_one h1
  rw [parts_one (n:=thrN l n) (by exact h1),hp]
  simp [thrN,hp]
 ·by_cases h2:3<=n.op/\n.op<=16
  ·have hp:=parts_two h2
   rw [parts_two (n:=thrN l n) (by exact h2),hp]
   simp [thrN,hp]
  ·by_cases h3:n.op=18
   ·have hp:=parts_three h3
    rw [parts_three (n:=thrN l n) (by exact h3),hp]
    simp [thrN,hp]
   ·rw [parts_none (n:=thrN l n) (by exact h1) (by exact h2) (by exact h3),parts_none h1 h2 h3]
    rfl
theorem thr_down {l:List Nd} (hD:Down l) {k:Nat} (hk:k<=l.length):Down (thrTo l k):=by
 intro i hi p hp
 rw [thrTo_length] at hi
 rw [thrTo_nth l hi,thr_parts] at hp
 obtain ⟨x,hx,rfl⟩:=List.mem_map.1 hp
 have h1:=hD i (by omega) x hx
 have h2:=(bel_le hD x.toNat (by omega)).1
 omega
theorem tr_thr {l:List Nd} (hD:Down l) {k:Nat} (hk:k<=l.length):∀ i,i < k->tr (thrTo l k) (bel l i)=str (tr l i):=by
 intro i
 induction i using Nat.strongRecOn with
 | ind i ih =>
   intro hi
   have hil:i < l.length:=by omega
   cases hq:quant (nth l i).op with
   | true =>
     have hq2:(nth l i).op=19\/(nth l i).op=20:=by simpa [quant] using hq
     have h1:=hD i hil (nth l i).a (by rw [parts_one (by omega)];simp)
     rw [bel_quant hD hil hq,ih _ (by omega) (by omega),tr_at hD hil,mk_one (by omega)]
     simp only [str]
     rw [if_pos hq]
   | false =>
     rw [bel_other hD hil hq,tr_at (thr_down hD hk) (by rw [thrTo_length];exact hi),thrTo_nth l hi,tr_at hD hil]
     have hp:∀ p∈parts (nth l i),tr (thrTo l k) (bel l p.toNat)=str (tr l p.toNat):=fun p hp=>by
      have:=hD i hil p hp
      exact ih _ (by omega) (by omega)
     generalize nth l i=n at hp hq
     by_cases h1:n.op=2\/n.op=17\/n.op=19\/n.op=20
     ·have hl:=parts_one h1
      rw [hl] at hp
      rw [mk_one (n:=thrN l n) (by exact h1),mk_one h1]
      have e1:(thrN l n).a=(bel l n.a.toNat:Int):=by unfold thrN;simp [hl]
      have e2:(thrN l n).b=n.b:=by unfold thrN;simp [hl]
      rw [e1,e2,Int.toNat_natCast,hp n.a (by simp)]
      simp only [str]
      rw [hq]
      rfl
     ·by_cases h2:3<=n.op/\n.op<=16
      ·have hl:=parts_two h2
       rw [hl] at hp
       rw [mk_two (n:=thrN l n) (by exact h2),mk_two h2]
       have e1:(thrN l n).a=(bel l n.a.toNat:Int):=by unfold thrN;simp [hl]
       have e2:(thrN l n).b=(bel l n.b.toNat:Int):=by unfold thrN;simp [hl]
       rw [e1,e2,Int.toNat_natCast,Int.toNat_natCast,hp n.a (by simp),hp n.b (by simp)]
       rfl
      ·by_cases h3:n.op=18
       ·have hl:=parts_three h3
        rw [hl] at hp
        rw [mk_three (n:=thrN l n) (by exact h3),mk_three h3]
        have e1:(thrN l n).a=(bel l n.a.toNat:Int):=by unfold thrN;simp [hl]
        have e2:(thrN l n).b=(bel l n.b.toNat:Int):=by unfold thrN;simp [hl]
        have e3:(thrN l n).c=(bel l n.c.toNat:Int):=by unfold thrN;simp [hl]
        rw [e1,e2,e3,Int.toNat_natCast,Int.toNat_natCast,Int.toNat_natCast,hp n.a (by simp),hp n.b (by simp),hp n.c (by simp)]
        rfl
       ·rw [mk_leaf (n:=thrN l n) (by exact h1) (by exact h2) (by exact h3),mk_leaf h1 h2 h3]
        rfl
theorem bel_width {l:List Nd} (hT:termOk l=true):∀ i,i < l.length->(nth l (bel l i)).w=(nth l i).w:=by
 intro i
 have hD:=down_of hT
 induction i using Nat.strongRecOn with
 | ind i ih =>
   intro hi
   cases hq:quant (nth l i).op with
   | false=>rw [bel_other hD hi hq]
   | true =>
     have hq2:(nth l i).op=19\/(nth l i).op=20:=by simpa [quant] using hq
     have h1:=hD i hi (nth l i).a (by rw [parts_one (by omega)];simp)
     rw [bel_quant hD hi hq,ih _ (by omega) (by omega)]
     have h2:=(rt_all hD (fun k hk=>term_node hT hk) i hi).1
     rw [tr_at hD hi,mk_one (by omega)] at h2
     have h3:=h2.2.2.2
     have h4:=(rt_all hD (fun k hk=>term_node hT hk) (nth l i).a.toNat (by omega)).2
     rcases h3 with h5|h5|h5
     ·omega
     ·omega
     ·rw [<- h4,h5.2.1,h5.2.2.1]
theorem thr_node {l:List Nd} (hT:termOk l=true) {k i:Nat} (hk:k<=l.length) (hi:i < k):nodeOk (thrTo l k) i=true:=by
 have hD:=down_of hT
 have hil:i < l.length:=by omega
 have hok:=term_node hT hil
 have hd:=hD i hil
 simp only [nodeOk,Bool.and_eq_true,List.all_eq_true] at hok ⊢
 rw [thrTo_nth l hi,thr_parts]
 refine ⟨⟨?_,hok.1.2⟩,?_⟩
 ·intro p hp
  obtain ⟨x,hx,rfl⟩:=List.mem_map.1 hp
  have h1:=hd x hx
  have h2:=(bel_le hD x.toNat (by omega)).1
  simp only [decide_eq_true_eq]
  omega
 ·have e:((parts (nth l i)).map fun p=>((bel l p.toNat:Nat):Int)).map (width (thrTo l k))=(parts (nth l i)).map (width l):=by
   rw [List.map_map]
   refine List.map_congr_left (fun p hp=>?_)
   have h1:=hd p hp
   have h2:=(bel_le hD p.toNat (by omega)).1
   show (nth (thrTo l k) ((bel l p.toNat:Nat):Int).toNat).w=_
   rw [Int.toNat_natCast,thrTo_nth l (by omega)]
   show (nth l (bel l p.toNat)).w=_
   rw [bel_width hT _ (by omega)]
   rfl
  rw [e]
  have hs:=hok.2
  generalize (parts (nth l i)).map (width l)=ws at hs
  have hz:∀ n:Nd,shapeOk n ws=true->shapeOk (thrN l n) ws=true:=by
   intro n hn
   by_cases h1:n.op=2\/n.op=17\/n.op=19\/n.op=20
   ·have hl:=parts_one h1
    have e2:(thrN l n).b=n.b:=by unfold thrN;simp [hl]
    have e3:(thrN l n).c=n.c:=by unfold thrN;simp [hl]
    have h0:¬ n.op=0:=by omega
    have h9:¬ n.op=1:=by omega
    unfold shapeOk at hn ⊢
    rw [e2,e3]
    rw [if_neg h0,if_neg h9] at hn
    show (if n.op=0 then _ else if n.op=1 then _ else _)=true
    rw [if_neg h0,if_neg h9]
    exact hn
   ·by_cases h2:3<=n.op/\n.op<=16
    ·have hl:=parts_two h2
     have e3:(thrN l n).c=n.c:=by unfold thrN;simp [hl]
     have h0:¬ n.op=0:=by omega
     have h9:¬ n.op=1:=by omega
     have h8:¬ n.op=2:=by omega
     have h7:¬ n.op=17:=by omega
     have h6:¬ n.op=18:=by omega
     have h5:¬ (n.op=19\/n.op=20):=by omega
     unfold shapeOk at hn ⊢
     rw [e3]
     rw [if_neg h0,if_neg h9,if_neg h8,if_neg h7,if_neg h6,if_neg h5] at hn
     show (if n.op=0 then _ else if n.op=1 then _ else if n.op=2 then _ else if 3<=n.op/\n.op<=12 then _ else if 13<=n.op/\n.op<=15 then _ else if n.op=16 then _ else if n.op=17 then _ else if n.op=18 then _ else if n.op=19\/n.op=20 then _ else _)=true
     rw [if_neg h0,if_neg h9,if_neg h8,if_neg h7,if_neg h6,if_neg h5]
     exact hn
    ·by_cases h3:n.op=18
     ·have h0:¬ n.op=0:=by omega
      have h9:¬ n.op=1:=by omega
      have h8:¬ n.op=2:=by omega
      have g1:¬ (3<=n.op/\n.op<=12):=by omega
      have g2:¬ (13<=n.op/\n.op<=15):=by omega
      have g3:¬ n.op=16:=by omega
      have h7:¬ n.op=17:=by omega
      unfold shapeOk at hn ⊢
      rw [if_neg h0,if_neg h9,if_neg h8,if_neg g1,if_neg g2,if_neg g3,if_neg h7,if_pos h3] at hn
      show (if n.op=0 then _ else if n.op=1 then _ else if n.op=2 then _ else if 3<=n.op/\n.op<=12 then _ else if 13<=n.op/\n.op<=15 then _ else if n.op=16 then _ else if n.op=17 then _ else if n.op=18 then _ else _)=true
      rw [if_neg h0,if_neg h9,if_neg h8,if_neg g1,if_neg g2,if_neg g3,if_neg h7,if_pos h3]
      exact hn
     ·have hl:=parts_none h1 h2 h3
      have e0:thrN l n=n:=by unfold thrN;simp [hl]
      rw [e0];exact hn
  exact hz _ hs
theorem cut_term {l:List Nd} (hT:termOk l=true):termOk (cutL l)=true:=by
 obtain ⟨h1,h2⟩:=term_len hT
 have hb:=(bel_le (down_of hT) (l.length - 1) (by omega)).1
 refine term_good ?_ (fun k hk=>?_)
 ·unfold cutL;rw [thrTo_length];omega
 ·unfold cutL at hk ⊢
  rw [thrTo_length] at hk
  exact thr_node hT (by omega) hk
theorem cut_root {l:List Nd} (hT:termOk l=true):root (cutL l)=str (root l):=by
 obtain ⟨h1,h2⟩:=term_len hT
 have hD:=down_of hT
 have hb:=(bel_le hD (l.length - 1) (by omega)).1
 unfold root
 have e:(cutL l).length - 1=bel l (l.length - 1):=by unfold cutL;rw [thrTo_length];omega
 rw [e]
 have h3:=tr_thr hD (Nat.le_refl l.length) (l.length - 1) (by omega)
 rw [<- h3]
 have h4:thrTo l l.length=cutL l++(thrTo l l.length).drop (bel l (l.length - 1)+1):=by
  rw [<- cutL_take l (by omega),List.take_append_drop]
 rw [h4,tr_app]
 unfold cutL
 rw [thrTo_length];omega
theorem rest_root {l:List Nd} (hT:termOk l=true):root (restL l)=str (root l):=by
 unfold restL
 rw [root_prune (cut_term hT),cut_root hT]
end Fr2
end Go.Proofs.YtebejleeadofcaaGreat
