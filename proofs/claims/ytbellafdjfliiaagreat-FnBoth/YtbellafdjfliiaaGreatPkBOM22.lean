import Derived.Test.YtbellafdjfliiaaGreatPkBOM16
import Derived.Test.YtbellafdjfliiaaGreatPkBOM1
import Derived.Test.YtbellafdjfliiaaGreatPkBOM9
namespace Go.Proofs.YtbellafdjfliiaaGreat
set_option maxRecDepth 100000
set_option maxHeartbeats 8000000
set_option linter.unusedVariables false
namespace Vm1
open Nd0 Pl1 Pl2 Tm0 Tm1 Tm3 Tm5 Tm6 Tm8 Tm11 Tm13 Tm14 Tr0 Vl1 Vl2 Vm0
def rowN (l:List Nd) (j:Nat):List Nat:=(needT (tr l j)).getD []
def preN (l:List Nd) (n:Nd) (v:Nat):Nat->Nat
 | 0=>if n.op=1/\n.k=(v:Int) then 2 ^ n.w.toNat else 0
 | d+1=>preN l n v d ||| (rowN l ((parts n).getD d 0).toNat).getD v 0
def preA (l:List Nd) (n:Nd) (v:Nat):Nat:=preN l n v (parts n).length
def badQ (l:List Nd) (n:Nd):Bool:=quant n.op&&decide (preA l n n.k.toNat≠0/\preA l n n.k.toNat≠2 ^ n.b.toNat)
theorem getD_map8 (f:Nat->Nat) {v:Nat} (hv:v < 8):((List.range 8).map f).getD v 0=f v:=by
 rw [List.getD_eq_getElem?_getD,List.getElem?_map,List.getElem?_range hv];rfl
theorem need_row {l:List Nd} {i:Nat} (hp:∀ p∈parts (nth l i),(needT (tr l p.toNat)).isSome=true):∀ p∈parts (nth l i),needT (tr l p.toNat)=some (rowN l p.toNat):=fun p h=>by
 obtain ⟨r,hr⟩:=Option.isSome_iff_exists.1 (hp p h)
 unfold rowN;rw [hr];rfl
section
variable {l:List Nd} (hD:Down l) {i:Nat} (hi:i < l.length) (hp:∀ p∈parts (nth l i),(needT (tr l p.toNat)).isSome=true)
include hD hi hp
theorem need_none (hb:badQ l (nth l i)=true):needT (tr l i)=none:=by
 have hr:=need_row hp
 unfold badQ at hb
 simp only [Bool.and_eq_true] at hb
 obtain ⟨hq,hb⟩:=hb
 have hb:=of_decide_eq_true hb
 rw [tr_at hD hi]
 generalize nth l i=n at hr hq hb
 have hq2:n.op=19\/n.op=20:=by simpa [quant] using hq
 have h1:n.op=2\/n.op=17\/n.op=19\/n.op=20:=by omega
 rw [mk_one h1]
 have hpp:=parts_one h1
 simp only [needT]
 rw [hr n.a (by rw [hpp];simp)]
 simp only [Option.bind_some,hq,if_true]
 have e:preA l n n.k.toNat=(rowN l n.a.toNat).getD n.k.toNat 0:=by
  unfold preA
  rw [hpp]
  show preN l n n.k.toNat (0+1)=_
  unfold preN
  rw [hpp]
  have:¬ (n.op=1/\n.k=(n.k.toNat:Int)):=fun h=>by omega
  simp only [preN]
  rw [if_neg this]
  simp
 rw [e] at hb
 rw [if_pos hb]
theorem need_some (hb:badQ l (nth l i)=false) (hk:quant (nth l i).op=true->0<=(nth l i).k):∃ r,needT (tr l i)=some r/\∀ v,v < 8->r.getD v 0=if quant (nth l i).op/\(nth l i).k=(v:Int) then 0 else preA l (nth l i) v:=by
 have hr:=need_row hp
 unfold badQ at hb
 rw [tr_at hD hi]
 generalize nth l i=n at hr hb hk
 by_cases h1:n.op=2\/n.op=17\/n.op=19\/n.op=20
 ·rw [mk_one h1]
  have hpp:=parts_one h1
  simp only [needT]
  have hra:=hr n.a (by rw [hpp];simp)
  have hrl:=need_len _ _ hra
  have e:∀ v,preA l n v=(rowN l n.a.toNat).getD v 0:=fun v=>by
   unfold preA
   rw [hpp]
   show preN l n v (0+1)=_
   unfold preN
   rw [hpp]
   have:¬ (n.op=1/\n.k=(v:Int)):=fun h=>by omega
   simp only [preN]
   rw [if_neg this]
   simp
  rw [hra]
  simp only [Option.bind_some]
  cases hq:quant n.op
  ·simp only [Bool.false_eq_true,if_false]
   exact ⟨_,rfl,fun v hv=>by rw [if_neg (by simp),e v]⟩
  ·simp only [if_true]
   rw [hq] at hb
   simp only [Bool.true_and] at hb
   have hb:=of_decide_eq_false hb
   rw [e] at hb
   rw [if_neg hb]
   refine ⟨_,rfl,fun v hv=>?_⟩
   have h0:=hk hq
   by_cases ev:n.k=(v:Int)
   ·rw [if_pos ⟨by simp,ev⟩]
    have:n.k.toNat=v:=by omega
    rw [this,List.getD_eq_getElem?_getD,List.getElem?_set_self (by rw [hrl];exact hv)];rfl
   ·rw [if_neg (fun h=>ev h.2),e v,List.getD_eq_getElem?_getD,List.getElem?_set_ne (by omega),<- List.getD_eq_getElem?_getD]
 ·have hq:quant n.op=false:=by
   have:¬ n.op=19/\¬ n.op=20:=by omega
   simp [quant,this]
  by_cases h2:3<=n.op/\n.op<=16
  ·rw [mk_two h2]
   have hpp:=parts_two h2
   simp only [needT]
   rw [hr n.a (by rw [hpp];simp),hr n.b (by rw [hpp];simp)]
   simp only [Option.bind_some]
   refine ⟨_,rfl,fun v hv=>?_⟩
   rw [hq,if_neg (by simp),or_at _ _ hv]
   unfold preA
   rw [hpp]
   show _=preN l n v (0+1+1)
   have:¬ (n.op=1/\n.k=(v:Int)):=fun h=>by omega
   simp only [preN,hpp]
   rw [if_neg this]
   simp
  ·by_cases h3:n.op=18
   ·rw [mk_three h3]
    have hpp:=parts_three h3
    simp only [needT]
    rw [hr n.a (by rw [hpp];simp),hr n.b (by rw [hpp];simp),hr n.c (by rw [hpp];simp)]
    simp only [Option.bind_some]
    refine ⟨_,rfl,fun v hv=>?_⟩
    rw [hq,if_neg (by simp),or_at _ _ hv,or_at _ _ hv]
    unfold preA
    rw [hpp]
    show _=preN l n v (0+1+1+1)
    have:¬ (n.op=1/\n.k=(v:Int)):=fun h=>by omega
    simp only [preN,hpp]
    rw [if_neg this]
    simp
   ·rw [mk_leaf h1 h2 h3]
    have hpp:=parts_none h1 h2 h3
    simp only [needT]
    refine ⟨_,rfl,fun v hv=>?_⟩
    rw [hq,if_neg (by simp),getD_map8 _ hv]
    unfold preA
    rw [hpp]
    rfl
end
theorem part_none {l:List Nd} (hD:Down l) {i:Nat} (hi:i < l.length) {p:Int} (hp:p∈parts (nth l i)) (h:needT (tr l p.toNat)=none):needT (tr l i)=none:=by
 rw [tr_at hD hi]
 generalize nth l i=n at hp
 by_cases h1:n.op=2\/n.op=17\/n.op=19\/n.op=20
 ·rw [mk_one h1]
  rw [parts_one h1] at hp
  simp only [List.mem_cons,List.not_mem_nil,or_false] at hp
  subst hp
  simp only [needT]
  rw [h];rfl
 ·by_cases h2:3<=n.op/\n.op<=16
  ·rw [mk_two h2]
   rw [parts_two h2] at hp
   simp only [List.mem_cons,List.not_mem_nil,or_false] at hp
   simp only [needT]
   rcases hp with rfl|rfl
   ·rw [h];rfl
   ·rw [h];cases needT (tr l n.a.toNat)<;>rfl
  ·by_cases h3:n.op=18
   ·rw [mk_three h3]
    rw [parts_three h3] at hp
    simp only [List.mem_cons,List.not_mem_nil,or_false] at hp
    simp only [needT]
    rcases hp with rfl|rfl|rfl
    ·rw [h];rfl
    ·rw [h];cases needT (tr l n.a.toNat)<;>rfl
    ·rw [h];cases needT (tr l n.a.toNat)<;>cases needT (tr l n.b.toNat)<;>rfl
   ·rw [parts_none h1 h2 h3] at hp
    cases hp
theorem root_none {l:List Nd} (hD:Down l):∀ d i,l.length=i+1+d->flag (reachL l) i=true->needT (tr l i)=none->needT (root l)=none:=by
 intro d
 induction d using Nat.strongRecOn with
 | ind d ih =>
   intro i hi hf hn
   rcases reach_why hD (i:=i) (by omega) hf with e|⟨j,h1,h2,h3,h4⟩
   ·unfold root;rw [<- e];exact hn
   ·refine ih (l.length - (j+1)) (by omega) j (by omega) h3 (part_none hD (by omega) h4 ?_)
    rw [Int.toNat_natCast];exact hn
theorem need_bd:∀ (x:Tr) (r:List Nat),Rt x->needT x=some r->∀ v,r.getD v 0 < 2 ^ 9:=by
 have hor:∀ (r s:List Nat) (v:Nat),(∀ v,r.getD v 0 < 2 ^ 9)->(∀ v,s.getD v 0 < 2 ^ 9)->(orL r s).getD v 0 < 2 ^ 9:=by
  intro r s v hr hs
  by_cases hv:v < 8
  ·rw [or_at r s hv];exact Nat.or_lt_two_pow (hr v) (hs v)
  ·rw [List.getD_eq_getElem?_getD,List.getElem?_eq_none (by unfold orL;simp;omega)];decide
 intro x
 induction x with
 | leaf op w k =>
   intro r hR h v
   simp only [needT] at h
   cases h
   by_cases hv:v < 8
   ·rw [getD_map8 _ hv]
    split
    ·have h8:w.toNat<=8:=by have:=hR.2.1;omega
     exact Nat.lt_of_le_of_lt (Nat.pow_le_pow_right (by omega) h8) (by decide)
    ·decide
   ·rw [List.getD_eq_getElem?_getD,List.getElem?_eq_none (by simp;omega)];decide
 | one op w k b x ih =>
   intro r hR h v
   simp only [needT] at h
   cases hn:needT x with
   | none=>rw [hn] at h;cases h
   | some s =>
     rw [hn] at h
     simp only [Option.bind_some] at h
     have hs:=ih s hR.2.2.1 hn
     split at h
     ·split at h
      ·cases h
      ·cases h
       rw [List.getD_eq_getElem?_getD]
       by_cases e:k.toNat=v
       ·subst e
        by_cases hl:k.toNat < s.length
        ·rw [List.getElem?_set_self hl];decide
        ·rw [List.getElem?_eq_none (by rw [List.length_set];omega)];decide
       ·rw [List.getElem?_set_ne e,<- List.getD_eq_getElem?_getD];exact hs v
     ·cases h;exact hs v
 | two op w x y ihx ihy =>
   intro r hR h v
   simp only [needT] at h
   cases hx:needT x with
   | none=>rw [hx] at h;cases h
   | some s =>
     cases hy:needT y with
     | none=>rw [hx,hy] at h;cases h
     | some t =>
       rw [hx,hy] at h
       simp only [Option.bind_some] at h
       cases h
       exact hor s t v (ihx s hR.2.2.1 hx) (ihy t hR.2.2.2.1 hy)
 | three op w x y z ihx ihy ihz =>
   intro r hR h v
   simp only [needT] at h
   cases hx:needT x with
   | none=>rw [hx] at h;cases h
   | some s =>
     cases hy:needT y with
     | none=>rw [hx,hy] at h;cases h
     | some t =>
       cases hz:needT z with
       | none=>rw [hx,hy,hz] at h;cases h
       | some u =>
         rw [hx,hy,hz] at h
         simp only [Option.bind_some] at h
         cases h
         exact hor _ u v (fun v=>hor s t v (ihx s hR.2.2.1 hx) (ihy t hR.2.2.2.1 hy)) (ihz u hR.2.2.2.2.1 hz)
end Vm1
namespace Ap6
open Go.RowKit
open Nd0 Tm1 Tm6
theorem infoRow:(Tryz.prog.info? 35).map (fun i=>(i.zero,i.size,i.bytes))=some (some (.slice none 0 0),1,24):=by kernel_rfl
def Owv (w:World) (B:Nat) (v:Value) (xs:List Value):Prop:=w.ownsRow B 35 1 v xs.length xs
theorem Owv.lit (w:World) (B:Nat) (hB:B<=w.heap.size):Owv (w.alloc (.cells #[] 35)) B (.slice (some ⟨w.heap.size,0,none⟩) 0 0) [] :=
 World.ownsRow_lit w #[] 0 hB (Nat.zero_le _) rfl
theorem Owv.lt {w:World} {B:Nat} {v:Value} {l:List Value} (h:Owv w B v l):∀ k,v.ownBlock=some k->B<=k/\k < w.heap.size:=World.ownsRow.lt h
theorem Owv.kept {w w':World} {B:Nat} {v:Value} {l:List Value} (h:Owv w B v l) {S:Nat->Prop} (k:Kept S w w') (hs:∀ i,v.ownBlock=some i->¬ S i):Owv w' B v l:=by
 refine ⟨h.1,?_⟩
 rcases h.2 with hn|⟨g,cap,cur,rfl,hb,hgg,rest⟩
 ·exact .inl hn
 ·refine .inr ⟨g,cap,cur,rfl,hb,?_,rest⟩
  rw [k.block g (Array.getElem?_eq_some_iff.1 hgg).1 (hs g rfl)]
  exact hgg
theorem Owv.at {w:World} {B:Nat} {v:Value} {l:List Value} (h:Owv w B v l) (hl:1<=l.length):∃ g c,v=.slice (some ⟨g,0,none⟩) l.length c/\(∀ i,i < l.length->w.cell? ⟨g,i,none⟩=l[i]?):=by
 rcases h.2 with ⟨rfl,h0⟩|⟨g,cap,cur,rfl,hb,hg,hn,hm,hs,ht⟩
 ·omega
 ·refine ⟨g,cap,rfl,fun i hi=>?_⟩
  rw [cell_of_row w g i cur _ _ hg]
  have e:(cur.toList.take (l.length*1))[i]? = l[i]? := by rw [ht]
  rw [List.getElem?_take_of_lt (by omega)] at e
  simpa using e
theorem app_row {ops:Array Oper} {rest:List Oper} {o:Oper} {a:Act} {Q:Exit->Act->World->Prop} (W:World) (hgd:o.guard=none) (s x:Operand)
 (ho:o.op=.call { callee:=.builtin .append,args := #[s,x],argTypes := #[96,96] })
 (B:Nat) (v:Value) (l:List Value) (ya:Option Addr) (yn yc:Nat) (hs:a.eval s=v) (hx:a.eval x=.slice (some ⟨W.heap.size,0,none⟩) 1 1)
 (hown:Owv W B v l) (hB:B<=W.heap.size) (hlen:l.length<=1048576)
 (h:∀ g cap w',Owv w' B (.slice (some ⟨g,0,none⟩) (l.length+1) cap) (l++[.slice ya yn yc])->Kept (fun k=>v.ownBlock=some k) W w'->(v.ownBlock=some g\/W.heap.size<=g)->wpList Tryz.prog ops Q rest (a.put o.dst (.slice (some ⟨g,0,none⟩) (l.length+1) cap)) w') :
 wpList Tryz.prog ops Q (o :: rest) a (W.alloc (.cells #[.slice ya yn yc] 35)):=by
 obtain ⟨i,hi,hzz⟩:=Option.map_eq_some_iff.1 infoRow
 simp only [Prod.mk.injEq] at hzz
 obtain ⟨hz,hsz,hb⟩:=hzz
 refine wpList_append_lies (W.alloc (.cells #[.slice ya yn yc] 35)) hgd s x 96 ho B 35 i (.slice none 0 0) 1 24 Tryz.underlying96 hi hz hsz hb rfl (by omega) v l.length l hs (World.ownsRow.alloc hown _)
  ⟨W.heap.size,0,none⟩ 1 1 [.slice ya yn yc] hx rfl ?_ ?_ (by omega) (by unfold maxLen;omega) (by omega) (by simp;omega) _ rfl ?_
 ·intro j u hu
  exact World.news_of_block (heap_alloc_new W _) j u hu
 ·intro u hu
  simp at hu
  subst hu
  rfl
 ·intro g cap w' h1 h2 h3 h4
  refine h g cap w' ?_ ?_ ?_
  ·unfold Owv
   simpa using h1
  ·have k1:Kept (fun k=>v.ownBlock=some k) W (W.alloc (.cells #[.slice ya yn yc] 35)):=(Kept.refl _ W).alloc _
   exact k1.trans ⟨h2.os,h2.tape,h2.output,h2.size,fun k hk hn=>h2.block k hk (fun e=>hn e.symm)⟩
  ·rcases h3 with h3|h3
   ·exact .inl h3
   ·exact .inr (by rw [h3];simp)
def Rws (w:World) (v:Value) (vs:List Value) (rows:List (List Int)):Prop :=
 vs.length=rows.length/\∀ j,j < rows.length->∃ g c,vs[j]? = some (.slice (some ⟨g,0,none⟩) 8 c)/\g < w.heap.size/\v.ownBlock≠some g/\∀ x,x < 8->w.cell? ⟨g,x,none⟩=some (.int .i64 (wd (rows.getD j []) (x:Int)))
theorem Rws.kept {w w':World} {v:Value} {vs:List Value} {rows:List (List Int)} (h:Rws w v vs rows) (k:Kept (fun b=>v.ownBlock=some b) w w'):Rws w' v vs rows:=by
 refine ⟨h.1,fun j hj=>?_⟩
 obtain ⟨g,c,h1,h2,h3,h4⟩:=h.2 j hj
 exact ⟨g,c,h1,Nat.lt_of_lt_of_le h2 k.size,h3,fun x hx=>by rw [k.cell (p:=⟨g,x,none⟩) h2 h3];exact h4 x hx⟩
theorem Rws.below {w w':World} {v:Value} {vs:List Value} {rows:List (List Int)} (h:Rws w v vs rows) (k:Below w.heap.size w w'):Rws w' v vs rows:=h.kept (Kept.ofBelow k)
end Ap6
end Go.Proofs.YtbellafdjfliiaaGreat
