import Derived.Test.YtfhdbcfhhbdiiaaWr3
import Derived.Test.YtfhdbcfhhbdiiaaPkWI0
namespace Go.Proofs.Ytfhdbcfhhbdiiaa
set_option maxRecDepth 100000
set_option maxHeartbeats 8000000
set_option linter.unusedVariables false
namespace Wt0
open Go.RowKit
open Op6 (Pk)
open Ta2 (bitB plc)
open Ta3 (hb)
open Td1 (knw knw_same)
open De0 (dc)
open Dp5 (chV)
open Mc0 (dc_con con_of)
open Wp9 (findP bit_in)
open Wp10 (chk knw_zero)
open Wp14 (plc_snoc fp_find)
open Wp13 (sp fp)
open Wp20 (val_of)
open Dq1 (ownF)
open Vo0 (valB)
open Wr3 (wn kn_v ch_v oth_v)
theorem find_none {ps:List Pk} {z:List Int} (h:∀ p∈ps,p.l≠z):findP ps z = -1:=by
 induction ps with
 | nil=>rfl
 | cons p r ih =>
   unfold findP
   rw [if_neg (h p (List.mem_cons_self ..))]
   exact ih fun q hq=>h q (List.mem_cons_of_mem _ hq)
theorem find_left {xs ys:List Pk} {z:List Int} (h:∀ p∈ys,p.l≠z):findP (xs++ys) z=findP xs z:=by
 induction xs with
 | nil=>exact find_none h
 | cons p r ih =>
   show findP (p :: (r++ys)) z=_
   unfold findP
   rw [ih]
theorem find_right {xs ys:List Pk} {z:List Int} (h:∀ p∈xs,p.l≠z):findP (xs++ys) z=findP ys z:=by
 induction xs with
 | nil=>rfl
 | cons p r ih =>
   show findP (p :: (r++ys)) z=_
   conv=>lhs;unfold findP
   rw [if_neg (h p (List.mem_cons_self ..))]
   exact ih fun q hq=>h q (List.mem_cons_of_mem _ hq)
theorem chk_ext (v:Int) (ps ps':List Pk) (row:List Bool):∀ (F:Nat->Bool) (vs:List Int),(∀ us,findP ps (vs++us)=findP ps' (vs++us))->chk ps v row F vs=chk ps' v row F vs:=by
 induction row with
 | nil=>exact fun F vs h=>rfl
 | cons q r ih =>
   intro F vs h
   have h0:=ih (hb r.length 0 F) (vs++[0]) (fun us=>by rw [List.append_assoc];exact h _)
   have h1:=ih (hb r.length 1 F) (vs++[1]) (fun us=>by rw [List.append_assoc];exact h _)
   have hv:=h []
   rw [List.append_nil] at hv
   unfold chk
   rw [h0,h1,hv]
theorem wn_pre (v:Int) (row:List Bool):∀ (F:Nat->Bool) (vs:List Int),∀ p∈wn v row F vs,∃ us,p.l=vs++us:=by
 induction row with
 | nil=>exact fun F vs p hp=>by cases hp
 | cons q r ih =>
   intro F vs p hp
   have hx:∀ (b:Nat) (c:Int),p∈wn v r (hb r.length b F) (vs++[c])->∃ us,p.l=vs++us:=fun b c h=>by
    obtain ⟨us,hu⟩:=ih _ _ p h
    exact ⟨c :: us,by rw [hu,List.append_assoc];rfl⟩
   unfold wn at hp
   split at hp
   ·cases hp
   ·split at hp
    ·rcases List.mem_cons.1 hp with e|e
     ·exact ⟨[],by rw [e,List.append_nil]⟩
     ·split at e
      ·exact hx 1 1 e
      ·exact hx 0 0 e
    ·rcases List.mem_append.1 hp with e|e
     ·exact hx 0 0 e
     ·exact hx 1 1 e
theorem app_ne {vs us us':List Int} {a b:Int} (h:a≠b):(vs++[a])++us≠(vs++[b])++us':=fun e=>by
 rw [List.append_assoc,List.append_assoc] at e
 have:=List.append_cancel_left e
 exact h (List.cons.inj this).1
/-- A strategy of Win checks. -/
theorem wn_chk (v:Int) (row:List Bool):∀ (F:Nat->Bool) (vs:List Int) (d:Bool),dc row F=d->v=(d.toNat:Int)->chk (wn v row F vs) v row F vs=true:=by
 induction row with
 | nil =>
   intro F vs d hd hv
   show decide (knw 0 F=v)=true
   have:=kn_v (row:=[]) (F:=F) (knw_zero F) hd
   rw [hv]
   exact decide_eq_true this
 | cons q r ih =>
   intro F vs d hd hv
   by_cases hk:0<=knw (r.length+1) F
   ·unfold chk
    rw [if_pos hk,hv]
    exact decide_eq_true (kn_v (row:=q :: r) hk hd)
   ·by_cases hown:(q==(v==0))=true
    ·obtain ⟨x,hx1,hxc,hxd⟩:=ch_v q r F
     have e:wn v (q :: r) F vs=⟨vs,(x:Int)⟩ :: wn v r (hb r.length x F) (vs++[(x:Int)]):=by
      conv=>lhs;unfold wn
      rw [if_neg hk,if_pos hown,hxc]
      have h2:x=0\/x=1:=by omega
      rcases h2 with rfl|rfl<;>rfl
     have hf:findP (wn v (q :: r) F vs) vs=(x:Int):=by
      rw [e]
      unfold findP
      rw [if_pos rfl]
      exact if_pos (bit_in.2 ⟨by show (0:Int)<=(x:Int);omega,by show (x:Int)<=1;omega⟩)
     have hrest:chk (wn v (q :: r) F vs) v r (hb r.length x F) (vs++[(x:Int)])=true:=by
      rw [chk_ext v _ (wn v r (hb r.length x F) (vs++[(x:Int)])) r _ _ (fun us=>by
       rw [e]
       refine find_right (xs:=[⟨vs,(x:Int)⟩]) fun p hp hpe=>?_
       rw [List.mem_singleton.1 hp] at hpe
       have:=congrArg List.length hpe
       simp at this)]
      exact ih _ _ d (hxd.trans hd) hv
     unfold chk
     rw [if_neg hk,if_pos hown,hf]
     have h2:x=0\/x=1:=by omega
     rcases h2 with rfl|rfl
     ·exact hrest
     ·exact hrest
    ·obtain ⟨h0,h1⟩:=oth_v hv (Bool.eq_false_iff.mpr hown) hd
     have e:wn v (q :: r) F vs=wn v r (hb r.length 0 F) (vs++[0])++wn v r (hb r.length 1 F) (vs++[1]):=by
      conv=>lhs;unfold wn
      rw [if_neg hk,if_neg hown]
     have e0:chk (wn v (q :: r) F vs) v r (hb r.length 0 F) (vs++[0])=true:=by
      rw [chk_ext v _ (wn v r (hb r.length 0 F) (vs++[0])) r _ _ (fun us=>by
       rw [e]
       refine find_left fun p hp hpe=>?_
       obtain ⟨us',hu⟩:=wn_pre v r _ _ p hp
       exact app_ne (by decide) (hu.symm.trans hpe))]
      exact ih _ _ d h0 hv
     have e1:chk (wn v (q :: r) F vs) v r (hb r.length 1 F) (vs++[1])=true:=by
      rw [chk_ext v _ (wn v r (hb r.length 1 F) (vs++[1])) r _ _ (fun us=>by
       rw [e]
       refine find_right fun p hp hpe=>?_
       obtain ⟨us',hu⟩:=wn_pre v r _ _ p hp
       exact app_ne (by decide) (hu.symm.trans hpe))]
      exact ih _ _ d h1 hv
     unfold chk
     rw [if_neg hk,if_neg hown,e0,e1]
     rfl
/-- What checks is of that verdict. -/
theorem chk_dc (ps:List Pk) (v:Int) (row:List Bool) (hv:v=0\/v=1):∀ (F:Nat->Bool) (vs:List Int),chk ps v row F vs=true->((dc row F).toNat:Int)=v:=by
 induction row with
 | nil =>
   intro F vs h
   have h1:knw 0 F=v:=of_decide_eq_true h
   rw [<- h1]
   exact (kn_v (row:=[]) (F:=F) (knw_zero F) rfl).symm
 | cons q r ih =>
   intro F vs h
   unfold chk at h
   split at h
   ·rename_i hk
    rw [<- of_decide_eq_true h]
    exact (kn_v (row:=q :: r) hk rfl).symm
   ·have e2:dc (q :: r) F=if q=true then dc r (hb r.length 0 F)&&dc r (hb r.length 1 F) else dc r (hb r.length 0 F)||dc r (hb r.length 1 F):=rfl
    have h0:=ih (hb r.length 0 F) (vs++[0])
    have h1:=ih (hb r.length 1 F) (vs++[1])
    rw [e2]
    generalize dc r (hb r.length 0 F)=d0 at *
    generalize dc r (hb r.length 1 F)=d1 at *
    split at h
    ·rename_i hown
     split at h
     ·have:=h0 h
      rcases hv with rfl|rfl<;>cases q<;>cases d0<;>cases d1<;>simp at hown this ⊢
     ·split at h
      ·have:=h1 h
       rcases hv with rfl|rfl<;>cases q<;>cases d0<;>cases d1<;>simp at hown this ⊢
      ·cases h
    ·rename_i hown
     obtain ⟨ha,hb'⟩:=Bool.and_eq_true_iff.1 h
     have t0:=h0 ha
     have t1:=h1 hb'
     rcases hv with rfl|rfl<;>cases q<;>cases d0<;>cases d1<;>simp at hown t0 t1 ⊢
/-- A game played out: what is owned by g, the others by the moves one behind the other. -/
def run (g:List Int->Int) (mv:Nat->Int):List Bool->Nat->List Int->List Int
 | [],_,vs=>vs
 | true :: r,k,vs=>run g mv r k (vs++[g vs])
 | false :: r,k,vs=>run g mv r (k+1) (vs++[mv k])
theorem plc_cons (b:Int) (us:List Int):plc (b :: us) (us.length+1)=b.toNat*2 ^ us.length+plc us us.length:=by
 obtain ⟨n,hn⟩:∃ n,n=us.length:=⟨_,rfl⟩
 induction n generalizing us with
 | zero =>
   have:=List.eq_nil_of_length_eq_zero hn.symm
   subst this
   show 2*0+([b].getD 0 0).toNat=b.toNat*1+0
   simp
 | succ n ih =>
   have hu:us≠[]:=fun e=>by rw [e] at hn;cases hn
   obtain ⟨us',y,rfl⟩:∃ l x,us=l++[x]:=⟨us.dropLast,us.getLast hu,(List.dropLast_concat_getLast hu).symm⟩
   have hl:us'.length=n:=by rw [List.length_append,List.length_singleton] at hn;omega
   have h1:=plc_snoc (b :: us') y
   have h2:=plc_snoc us' y
   have h3:=ih us' hl.symm
   rw [show (b :: (us'++[y]))=(b :: us')++[y] from rfl,show (us'++[y]).length+1=((b :: us')++[y]).length by simp,h1,h2,List.length_cons,h3,List.length_append,List.length_singleton,Nat.pow_succ,Nat.mul_add,Nat.mul_comm 2,Nat.mul_assoc]
   omega
theorem run_len (g:List Int->Int) (mv:Nat->Int) (OL:List Bool):∀ (k:Nat) (vs:List Int),∃ us,run g mv OL k vs=vs++us/\us.length=OL.length:=by
 induction OL with
 | nil=>exact fun k vs=>⟨[],by rw [List.append_nil];rfl,rfl⟩
 | cons q r ih =>
   intro k vs
   cases q with
   | true =>
     obtain ⟨us,h1,h2⟩:=ih k (vs++[g vs])
     exact ⟨g vs :: us,by show run g mv r k (vs++[g vs])=_;rw [h1,List.append_assoc];rfl,by rw [List.length_cons,List.length_cons,h2]⟩
   | false =>
     obtain ⟨us,h1,h2⟩:=ih (k+1) (vs++[mv k])
     exact ⟨mv k :: us,by show run g mv r (k+1) (vs++[mv k])=_;rw [h1,List.append_assoc];rfl,by rw [List.length_cons,List.length_cons,h2]⟩
theorem run_bits (g:List Int->Int) (mv:Nat->Int) (hmv:∀ k,bitB (mv k)=true) (N:Nat) (hg:∀ vs,(∀ b∈vs,bitB b=true)->vs.length<=N->bitB (g vs)=true) (OL:List Bool):∀ (k:Nat) (vs:List Int),(∀ b∈vs,bitB b=true)->vs.length+OL.length<=N->∃ us,run g mv OL k vs=vs++us/\us.length=OL.length/\∀ b∈us,bitB b=true:=by
 induction OL with
 | nil=>exact fun k vs _ _=>⟨[],by rw [List.append_nil];rfl,rfl,fun b hb=>by cases hb⟩
 | cons q r ih =>
   intro k vs hv hl
   rw [List.length_cons] at hl
   have go:∀ (x:Int) (k':Nat),bitB x=true->∃ us,run g mv r k' (vs++[x])=vs++us/\us.length=r.length+1/\∀ b∈us,bitB b=true:=fun x k' hx=>by
    obtain ⟨us,h1,h2,h3⟩:=ih k' (vs++[x]) (fun b hb=>by
     rcases List.mem_append.1 hb with e|e
     ·exact hv b e
     ·rw [List.mem_singleton.1 e];exact hx) (by rw [List.length_append,List.length_singleton];omega)
    refine ⟨x :: us,by rw [h1,List.append_assoc];rfl,by rw [List.length_cons,h2],fun b hb=>?_⟩
    rcases List.mem_cons.1 hb with e|e
    ·rw [e];exact hx
    ·exact h3 b e
   cases q with
   | true=>exact go (g vs) k (hg vs hv (by omega))
   | false=>exact go (mv k) (k+1) (hmv k)
theorem bits_at {us:List Int} (h:∀ b∈us,bitB b=true):∀ i,i < us.length->bitB (us.getD i 0)=true:=fun i hi=>by
 have e:us.getD i 0=us[i]:=by simp [List.getD,hi]
 rw [e]
 exact h _ (List.getElem_mem hi)
/-- Where a list checks, a game played by it ends at v. -/
theorem run_ok (ps:List Pk) (v:Int) (g:List Int->Int) (mv:Nat->Int) (hmv:∀ k,bitB (mv k)=true)
 (hg:∀ vs,(∀ b∈vs,bitB b=true)->vs.length<=12->bitB (g vs)=true/\(findP ps vs=0->g vs=0)/\(findP ps vs=1->g vs=1)) (row:List Bool) :
 ∀ (F:Nat->Bool) (k:Nat) (vs:List Int),chk ps v row F vs=true->(∀ b∈vs,bitB b=true)->vs.length+row.length<=12->∃ us,run g mv (row.map (ownF v)) k vs=vs++us/\us.length=row.length/\(∀ b∈us,bitB b=true)/\((F (plc us us.length)).toNat:Int)=v:=by
 induction row with
 | nil =>
   intro F k vs h _ _
   refine ⟨[],by rw [List.append_nil];rfl,rfl,fun b hb=>(by cases hb),?_⟩
   have h1:knw 0 F=v:=of_decide_eq_true h
   rw [<- h1,knw_same (fun j hj=>by have:j=0:=(by simpa using hj);rw [this])]
   rfl
 | cons q r ih =>
   intro F k vs h hv hl
   rw [List.length_cons] at hl
   by_cases hk:0<=knw (r.length+1) F
   ·obtain ⟨us,h1,h2,h3⟩:=run_bits g mv hmv 12 (fun vs a b=>(hg vs a b).1) ((q :: r).map (ownF v)) k vs hv (by rw [List.length_map,List.length_cons];omega)
    refine ⟨us,h1,by rw [h2,List.length_map],h3,?_⟩
    unfold chk at h
    rw [if_pos hk] at h
    have h4:knw (r.length+1) F=v:=of_decide_eq_true h
    have hc:=con_of hk
    rw [knw_same hc] at h4
    have hlt:=Ta2.plc_lt (l:=us) (k:=us.length) (bits_at h3)
    rw [hc _ (by rw [h2,List.length_map,List.length_cons] at hlt;rw [h2,List.length_map,List.length_cons];exact hlt)]
    exact h4
   ·have step:∀ (x:Nat) (k':Nat),x<=1->chk ps v r (hb r.length x F) (vs++[(x:Int)])=true->∃ us,run g mv (r.map (ownF v)) k' (vs++[(x:Int)])=vs++us/\us.length=r.length+1/\(∀ b∈us,bitB b=true)/\((F (plc us us.length)).toNat:Int)=v:=fun x k' hx hc=>by
     have hxb:bitB (x:Int)=true:=bit_in.2 ⟨by omega,by omega⟩
     obtain ⟨us,h1,h2,h3,h4⟩:=ih (hb r.length x F) k' (vs++[(x:Int)]) hc (fun b hb=>by
      rcases List.mem_append.1 hb with e|e
      ·exact hv b e
      ·rw [List.mem_singleton.1 e];exact hxb) (by rw [List.length_append,List.length_singleton];omega)
     refine ⟨(x:Int) :: us,by rw [h1,List.append_assoc];rfl,by rw [List.length_cons,h2],fun b hb=>?_,?_⟩
     ·rcases List.mem_cons.1 hb with e|e
      ·rw [e];exact hxb
      ·exact h3 b e
     ·rw [List.length_cons,plc_cons,h2]
      rw [h2] at h4
      exact h4
    unfold chk at h
    rw [if_neg hk] at h
    by_cases hown:(q==(v==0))=true
    ·rw [if_pos hown] at h
     have hr:run g mv ((q :: r).map (ownF v)) k vs=run g mv (r.map (ownF v)) k (vs++[g vs]):=by
      rw [List.map_cons,show ownF v q=true from hown]
      rfl
     rw [hr]
     obtain ⟨_,g0,g1⟩:=hg vs hv (by omega)
     by_cases f0:findP ps vs=0
     ·rw [if_pos f0] at h
      rw [g0 f0]
      exact step 0 k (by omega) h
     ·rw [if_neg f0] at h
      by_cases f1:findP ps vs=1
      ·rw [if_pos f1] at h
       rw [g1 f1]
       exact step 1 k (by omega) h
      ·rw [if_neg f1] at h
       cases h
    ·rw [if_neg hown] at h
     obtain ⟨ha,hb'⟩:=Bool.and_eq_true_iff.1 h
     have hr:run g mv ((q :: r).map (ownF v)) k vs=run g mv (r.map (ownF v)) (k+1) (vs++[mv k]):=by
      rw [List.map_cons,show ownF v q=false from Bool.eq_false_iff.mpr hown]
      rfl
     rw [hr]
     have hm:=bit_in.1 (hmv k)
     have hm2:mv k=0\/mv k=1:=by omega
     rcases hm2 with e|e
     ·rw [e]
      exact step 0 (k+1) (by omega) ha
     ·rw [e]
      exact step 1 (k+1) (by omega) hb'
theorem wn_bits (v:Int) (row:List Bool):∀ (F:Nat->Bool) (vs:List Int),∀ p∈wn v row F vs,bitB p.v=true:=by
 induction row with
 | nil=>exact fun F vs p hp=>by cases hp
 | cons q r ih =>
   intro F vs p hp
   unfold wn at hp
   split at hp
   ·cases hp
   ·split at hp
    ·rcases List.mem_cons.1 hp with e|e
     ·obtain ⟨x,hx1,hxc,_⟩:=ch_v q r F
      rw [e]
      show bitB (chV (q :: r) (r.length+1) F)=true
      rw [hxc]
      exact bit_in.2 ⟨by omega,by omega⟩
     ·split at e
      ·exact ih _ _ p e
      ·exact ih _ _ p e
    ·rcases List.mem_append.1 hp with e|e
     ·exact ih _ _ p e
     ·exact ih _ _ p e
theorem fp_mem {ps:List Pk} {x:Mv0.Sp} {z:Int} (h:fp ps x=some z):∃ p∈ps,p.v=z:=by
 induction ps with
 | nil=>cases h
 | cons p r ih =>
   unfold fp at h
   split at h
   ·exact ⟨p,List.mem_cons_self ..,Option.some.inj h⟩
   ·obtain ⟨q,hq,e⟩:=ih h
    exact ⟨q,List.mem_cons_of_mem _ hq,e⟩
/-- What a list of bits gives, as the program looks it up. -/
def gP (ps:List Pk) (vs:List Int):Int:=(fp ps (sp vs)).getD 0
theorem gP_bit {ps:List Pk} (h:∀ p∈ps,bitB p.v=true) (vs:List Int):bitB (gP ps vs)=true:=by
 unfold gP
 cases hf:fp ps (sp vs) with
 | none=>rfl
 | some z =>
   obtain ⟨p,hp,e⟩:=fp_mem hf
   rw [<- e]
   exact h p hp
theorem gP_ok {ps:List Pk} (h:∀ p∈ps,bitB p.v=true) (vs:List Int) (hv:∀ b∈vs,bitB b=true) (hl:vs.length<=12):bitB (gP ps vs)=true/\(findP ps vs=0->gP ps vs=0)/\(findP ps vs=1->gP ps vs=1):=by
 refine ⟨gP_bit h vs,?_⟩
 have hf:=fp_find (ps:=ps) (val_of hv hl)
 unfold gP
 cases he:fp ps (sp vs) with
 | none =>
   rw [he] at hf
   exact ⟨fun e=>(by rw [hf] at e;cases e),fun e=>(by rw [hf] at e;cases e)⟩
 | some z =>
   rw [he] at hf
   obtain ⟨p,hp,e⟩:=fp_mem he
   have hz:bitB z=true:=by rw [<- e];exact h p hp
   have hf2:findP ps vs=z:=hf.trans (if_pos hz)
   exact ⟨fun e=>(by rw [<- hf2];exact e),fun e=>(by rw [<- hf2];exact e)⟩
/-- Any game played by what Win gives ends at the verdict. -/
theorem win_plays {row:List Bool} {F:Nat->Bool} {d:Bool} (hd:dc row F=d) (hn:row.length<=12) (mv:Nat->Int) (hmv:∀ k,bitB (mv k)=true):Ta2.atB row.length F (run (gP (wn (d.toNat:Int) row F [])) mv (row.map (ownF (d.toNat:Int))) 0 [])=(d.toNat:Int):=by
 obtain ⟨us,h1,h2,h3,h4⟩:=run_ok (wn (d.toNat:Int) row F []) (d.toNat:Int) (gP (wn (d.toNat:Int) row F [])) mv hmv (fun vs hv hl=>gP_ok (wn_bits _ row F []) vs hv hl) row F 0 [] (wn_chk _ row F [] d hd rfl) (fun b hb=>by cases hb) (by simpa using hn)
 rw [h1,List.nil_append,Ta2.at_good h2 (bits_at h3)]
 exact h4
end Wt0
namespace Wp21
open Go.RowKit
open Nd0 (Kept Ints WInts lt_of_cell)
open Nd6 (Bools)
open Op6 (Pk PkAt Pks)
open Ta1 (tab tab_length)
open Ta2 (bitB)
open Tc2 (tv ret_bool)
open Ss0 (bs bs_size)
open Mv0 (Mv Sp Sm)
open Dq1 (ownF ownL ownL_yes)
open Wp10 (chk)
open Wp13 (sp fp)
open Ap0 Wp12 Wp15 Wp16 Wp17 Wp18 Wp19 Wp20
def kc (n:Nat) (N:Int) (S:ByteArray) (v:Int) (a:Option Addr) (o:Nat) (OL:List Bool) (gi:Value):Kn:=⟨n,n+1+1+1,n+1,n+1+1+1+1,n+1+1+1+1+1,n+1+1,N,S,v,a,o,OL,gi⟩
theorem ks_c (w:World) (N:Int) (S:ByteArray) (v:Int) (a:Option Addr) (o:Nat) (OL:List Bool) (gi:Value) (hB:Bools w a OL):Ks (kc w.heap.size N S v a o OL gi):=by
 refine ⟨?_,?_,?_,?_,?_,?_,?_⟩
 ·show w.heap.size < w.heap.size+1+1;omega
 ·show w.heap.size+1 < w.heap.size+1+1;omega
 ·show w.heap.size≠w.heap.size+1+1+1;omega
 ·show w.heap.size+1≠w.heap.size+1+1+1;omega
 ·show w.heap.size+1+1+1+1≠w.heap.size+1+1+1;omega
 ·show w.heap.size+1+1+1+1+1≠w.heap.size+1+1+1;omega
 ·intro x hx hl
  rcases hB.2 with e|⟨b,i,e,hc⟩
  ·have:0 < OL.length:=hl
   omega
  ·have hx':a=some x:=hx
   rw [e] at hx'
   cases hx'
   have:=lt_of_cell (hc 0 hl)
   show b < w.heap.size+1+1/\b≠w.heap.size+1+1+1
   have h2:b < w.heap.size:=this
   exact ⟨by omega,by omega⟩
theorem wl_c (w:World) (N:Int) (S:ByteArray) (v:Int) (a:Option Addr) (o:Nat) (OL:List Bool) (gi:Value) (mb bm c:Nat) (ps:List Pk) (hB:Bools w a OL) (hm:w.cell? ⟨mb,0,none⟩=some (.map (some bm))) (hM:Mv w bm c (fp ps)) (T0 T1 T3 T4 T5:Nat) :
 ∀ X,X=((((((w.alloc (.cells #[.int .i64 N,.string S,.int .i64 v,.slice a OL.length o] T0)).alloc (.cells #[gi] T1)).alloc (.cells #[] 3)).alloc (.cells #[.slice (some ⟨w.heap.size+1+1,0,none⟩) 0 0] T3)).alloc (.cells #[(kc w.heap.size N S v a o OL gi).from_] T4)).alloc (.cells #[(kc w.heap.size N S v a o OL gi).with_] T5))->Wl (kc w.heap.size N S v a o OL gi) (Jc mb bm c ps) () [] (.slice (some ⟨w.heap.size+1+1,0,none⟩) 0 0) X/\Below w.heap.size w X:=by
 intro X hX
 rw [hX]
 clear hX X
 obtain ⟨fr,hfr⟩:∃ x,x=(kc w.heap.size N S v a o OL gi).from_:=⟨_,rfl⟩
 obtain ⟨wi,hwi⟩:∃ x,x=(kc w.heap.size N S v a o OL gi).with_:=⟨_,rfl⟩
 rw [<- hfr,<- hwi]
 obtain ⟨X1,h1⟩:∃ X,X=w.alloc (.cells #[.int .i64 N,.string S,.int .i64 v,.slice a OL.length o] T0):=⟨_,rfl⟩
 have z1:X1.heap.size=w.heap.size+1:=by rw [h1];simp
 have g1:G4 X1 w.heap.size (.int .i64 N) (.string S) (.int .i64 v) (.slice a OL.length o):=by rw [h1];exact G4.made _ _ _ _ _ _
 have b1:Below w.heap.size w X1:=by rw [h1];exact (Below.refl _ _).alloc (Nat.le_refl _) _
 rw [<- h1]
 obtain ⟨X2,h2⟩:∃ X,X=X1.alloc (.cells #[gi] T1):=⟨_,rfl⟩
 have z2:X2.heap.size=w.heap.size+1+1:=by rw [h2,<- z1];simp
 have c2:X2.cell? ⟨w.heap.size+1,0,none⟩=some gi:=by rw [h2,<- z1];simp
 have b2:Below X1.heap.size X1 X2:=by rw [h2];exact (Below.refl _ _).alloc (Nat.le_refl _) _
 rw [<- h2]
 obtain ⟨X3,h3⟩:∃ X,X=X2.alloc (.cells #[] 3):=⟨_,rfl⟩
 have z3:X3.heap.size=w.heap.size+1+1+1:=by rw [h3,<- z2];simp
 have o3:Ows X3 (w.heap.size+1+1) (.slice (some ⟨w.heap.size+1+1,0,none⟩) 0 0) []:=by rw [h3,<- z2];exact Ows.lit X2 _ (Nat.le_refl _)
 have b3:Below X2.heap.size X2 X3:=by rw [h3];exact (Below.refl _ _).alloc (Nat.le_refl _) _
 rw [<- h3]
 obtain ⟨X4,h4⟩:∃ X,X=X3.alloc (.cells #[.slice (some ⟨w.heap.size+1+1,0,none⟩) 0 0] T3):=⟨_,rfl⟩
 have z4:X4.heap.size=w.heap.size+1+1+1+1:=by rw [h4,<- z3];simp
 have c4:X4.cell? ⟨w.heap.size+1+1+1,0,none⟩=some (.slice (some ⟨w.heap.size+1+1,0,none⟩) 0 0):=by rw [h4,<- z3];simp
 have f4:X4.frozen? ⟨w.heap.size+1+1+1,0,none⟩=false:=by rw [h4,<- z3];simp
 have b4:Below X3.heap.size X3 X4:=by rw [h4];exact (Below.refl _ _).alloc (Nat.le_refl _) _
 rw [<- h4]
 obtain ⟨X5,h5⟩:∃ X,X=X4.alloc (.cells #[fr] T4):=⟨_,rfl⟩
 have z5:X5.heap.size=w.heap.size+1+1+1+1+1:=by rw [h5,<- z4];simp
 have c5:X5.cell? ⟨w.heap.size+1+1+1+1,0,none⟩=some fr:=by rw [h5,<- z4];simp
 have b5:Below X4.heap.size X4 X5:=by rw [h5];exact (Below.refl _ _).alloc (Nat.le_refl _) _
 rw [<- h5]
 obtain ⟨X6,h6⟩:∃ X,X=X5.alloc (.cells #[wi] T5):=⟨_,rfl⟩
 have c6:X6.cell? ⟨w.heap.size+1+1+1+1+1,0,none⟩=some wi:=by rw [h6,<- z5];simp
 have b6:Below X5.heap.size X5 X6:=by rw [h6];exact (Below.refl _ _).alloc (Nat.le_refl _) _
 rw [<- h6]
 have a5:Below X4.heap.size X4 X6:=b5.trans (b6.mono b5.size)
 have a4:Below X3.heap.size X3 X6:=b4.trans (a5.mono b4.size)
 have a3:Below X2.heap.size X2 X6:=b3.trans (a4.mono b3.size)
 have a2:Below X1.heap.size X1 X6:=b2.trans (a3.mono b2.size)
 have a1:Below w.heap.size w X6:=b1.trans (a2.mono b1.size)
 have zz:=a5.size
 refine ⟨⟨g1.below a2,hB.below a1,?_,?_,?_,?_,?_,?_,?_,?_,?_⟩,a1⟩
 ·exact (a5.cell (p:=⟨w.heap.size+1+1+1,0,none⟩) (lt_of_cell c4)).trans c4
 ·exact (a5.frozen (p:=⟨w.heap.size+1+1+1,0,none⟩) (lt_of_cell c4)).trans f4
 ·exact o3.kept (S:=fun _=>False) (Kept.ofBelow a4) (fun _ _ h=>h)
 ·exact (a3.cell (p:=⟨w.heap.size+1,0,none⟩) (lt_of_cell c2)).trans c2
 ·rw [<- hfr];exact (b6.cell (p:=⟨w.heap.size+1+1+1+1,0,none⟩) (lt_of_cell c5)).trans c5
 ·rw [<- hwi];exact c6
 ·refine ⟨(a1.cell (p:=⟨mb,0,none⟩) (lt_of_cell hm)).trans hm,hM.below a1,fun b hb=>?_⟩
  have hb':w.heap.size+1+1=b:=by simpa [Value.ownBlock] using hb
  have l1:mb < w.heap.size:=lt_of_cell hm
  have l2:=hM.lt
  exact ⟨by omega,by omega⟩
 ·show w.heap.size+1+1<=X6.heap.size
  omega
 ·intro b hb
  have hb':w.heap.size+1+1=b:=by simpa [Value.ownBlock] using hb
  show b≠w.heap.size+1+1+1/\b≠w.heap.size+1+1+1+1/\b≠w.heap.size+1+1+1+1+1
  exact ⟨by omega,by omega,by omega⟩
theorem at_c (F:Nat->Bool) (v:Int) (row:List Bool) (ps:List Pk) (a:Option Addr) (o c mb bm:Nat) (w:World) (r:Bool) (hr:r=chk ps v row F []) (hn:row.length<=12) (hv:bitB v=true) (hB:Bools w a (ownL v row)) (hmm:w.cell? ⟨mb,0,none⟩=some (.map (some bm))) (hM:Mv w bm c (fp ps)) (T0 T1 T3 T4 T5:Nat) :
 Calls Try.prog 58 #[tv (row.length:Int) (bs (tab row.length F)),ptr w.heap.size,ptr (w.heap.size+1+1+1),ptr (w.heap.size+1),ptr (w.heap.size+1+1+1+1+1)] ((((((w.alloc (.cells #[.int .i64 (row.length:Int),.string (bs (tab row.length F)),.int .i64 v,.slice a (ownL v row).length o] T0)).alloc (.cells #[(.func (.func 36) #[] #[ptr mb])] T1)).alloc (.cells #[] 3)).alloc (.cells #[.slice (some ⟨w.heap.size+1+1,0,none⟩) 0 0] T3)).alloc (.cells #[(.func (.func 58) #[] #[ptr w.heap.size,ptr (w.heap.size+1+1+1),ptr (w.heap.size+1),ptr (w.heap.size+1+1+1+1+1)])] T4)).alloc (.cells #[(.func (.func 56) #[] #[ptr (w.heap.size+1+1+1),ptr (w.heap.size+1+1+1+1)])] T5)) fun e w'=>e=.returned (.bool r)/\Below w.heap.size w w':=by
 have H:=wl_c w (row.length:Int) (bs (tab row.length F)) v a o (ownL v row) (.func (.func 36) #[] #[ptr mb]) mb bm c ps hB hmm hM T0 T1 T3 T4 T5 ((((((w.alloc (.cells #[.int .i64 (row.length:Int),.string (bs (tab row.length F)),.int .i64 v,.slice a (ownL v row).length o] T0)).alloc (.cells #[(.func (.func 36) #[] #[ptr mb])] T1)).alloc (.cells #[] 3)).alloc (.cells #[.slice (some ⟨w.heap.size+1+1,0,none⟩) 0 0] T3)).alloc (.cells #[(.func (.func 58) #[] #[ptr w.heap.size,ptr (w.heap.size+1+1+1),ptr (w.heap.size+1),ptr (w.heap.size+1+1+1+1+1)])] T4)).alloc (.cells #[(.func (.func 56) #[] #[ptr (w.heap.size+1+1+1),ptr (w.heap.size+1+1+1+1)])] T5)) rfl
 have hl1:mb < w.heap.size:=lt_of_cell hmm
 have hl2:=hM.lt
 have h:=fc_all (k:=kc w.heap.size (row.length:Int) (bs (tab row.length F)) v a o (ownL v row) (.func (.func 36) #[] #[ptr mb])) (mb:=mb) (bm:=bm) (c:=c) (ps:=ps) (ks_c w _ _ v a o _ _ hB) (by show mb≠w.heap.size+1+1+1;omega) (by show bm≠w.heap.size+1+1+1;omega) rfl row F [] _ _ H.1 (fun _ h=>by cases h) (by show (ownL v row).drop 0=_;rw [List.drop_zero];exact ownL_yes hv) (by simpa using hn)
 refine h.mono ?_
 rintro e w' ⟨he,vv',_,hK,_,_⟩
 refine ⟨by rw [he,hr];rfl,H.2.trans (hK.below (B:=w.heap.size) (fun i hi=>?_) H.2.size)⟩
 rcases hi with e|e|e
 ·have e':i=w.heap.size+1+1+1:=e
  omega
 ·have e':w.heap.size+1+1=i:=by simpa [Value.ownBlock] using e
  omega
 ·exact e.elim
theorem iWalk (F:Nat->Bool) (v:Int) (row:List Bool) (ps:List Pk) (a:Option Addr) (o c mb bm:Nat) (w:World) (hn:row.length<=12) (hv:bitB v=true) (hB:Bools w a (ownL v row)) (hm:w.cell? ⟨mb,0,none⟩=some (.map (some bm))) (hM:Mv w bm c (fp ps)) :
 Calls Try.prog 29 #[gv (row.length:Int) (bs (tab row.length F)) v a (ownL v row).length o,.func (.func 36) #[] #[ptr mb]] w fun e w'=>e=.returned (.bool (chk ps v row F []))/\Below w.heap.size w w':=by
 have HV:Hid (bitB v=true/\Bools w a (ownL v row)/\w.cell? ⟨mb,0,none⟩=some (.map (some bm))/\Mv w bm c (fp ps)/\row.length<=12):=⟨hv,hB,hm,hM,hn⟩
 clear hv hB hm hM hn
 obtain ⟨r,hr⟩:∃ r,r=chk ps v row F []:=⟨_,rfl⟩
 have HR:Hid (r=chk ps v row F []):=hr
 rw [<- hr]
 clear hr
 obtain ⟨m,hm⟩:∃ m,m=(ownL v row).length:=⟨_,rfl⟩
 have HM:Hid (m=(ownL v row).length):=hm
 rw [<- hm]
 clear hm
 obtain ⟨S,hS⟩:∃ S,S=bs (tab row.length F):=⟨_,rfl⟩
 have HS:Hid (S=bs (tab row.length F)):=hS
 rw [<- hS]
 clear hS
 go_enter Try.func29,Try.ntmps29
 go_upto_region 5 with fail
 go_wp2_with fail
 have hm:=HM.out
 have hs:=HS.out
 subst hm hs
 obtain ⟨hv,hB,hmm,hM,hn⟩:=HV.out
 refine Calls.mono (R:=fun e w'=>e=.returned (.bool r)/\Below w.heap.size w w') ?_ ?_
 ·exact at_c F v row ps a o c mb bm w r HR.out hn hv hB hmm hM _ _ _ _ _
 ·rintro e w' ⟨rfl,hb⟩
  have HB:Hid (Below w.heap.size w w'):=hb
  clear hb
  go_wp2_with fail
  go_ret
  exact ⟨rfl,HB.out⟩
end Wp21
namespace Wp22
open Go.RowKit
open Nd0 (Kept Ints WInts lt_of_cell)
open Nd6 (Bools)
open Op6 (Pk PkAt Pks)
open Ta1 (tab tab_length)
open Ta2 (bitB)
open Tc2 (tv ret_bool)
open Tc5 (Lay)
open Ss0 (bs bs_size)
open Mv0 (Mv Sp Sm)
open Dq1 (ownF ownL ownL_yes)
open Wp10 (chk)
open Wp13 (sp fp iFirst)
open Ap0 Wp7 Wp12 Wp15 Wp21
theorem iChecks (row:List Bool) (F:Nat->Bool) (v:Int) (ps:List Pk) (ra la:Option Addr) (c lc:Nat) (w:World) (hn:row.length<=12) (hB:Bools w ra row) (hv:bitB v=true) (hl:ps.length<=5000) (hP:Pks w la ps) (hw:∀ p∈ps,(Lit.int .i64 p.v).wf=true) :
 Calls Try.prog 9 #[.slice ra row.length c,tv (row.length:Int) (bs (tab row.length F)),.int .i64 v,.slice la ps.length lc] w fun e w'=>e=.returned (.bool (chk ps v row F []))/\Below w.heap.size w w':=by
 obtain ⟨X0,hX0⟩:∃ X,X=w.alloc (.cells #[.int .i64 (row.length:Int),.string (bs (tab row.length F))] 26):=⟨_,rfl⟩
 have b0:Below w.heap.size w X0:=by rw [hX0];exact (Below.refl _ _).alloc (Nat.le_refl _) _
 have HB0:Hid (Below w.heap.size w X0):=b0
 have HL0:Hid (Lay X0 w.heap.size (.int .i64 (row.length:Int)) (.string (bs (tab row.length F)))):=by rw [hX0];exact Lay.made _ _ _ _
 have hE:w.alloc (.cells #[.int .i64 (row.length:Int),.string (bs (tab row.length F))] 26)=X0:=hX0.symm
 have HGA:Hid _:=iGame row.length F v row ra c X0 hn rfl (hB.below b0) hv
 have HFI:Hid (∀ W,Below w.heap.size w W->Calls Try.prog 35 #[.slice la ps.length lc] W fun e w'=>(∃ bm,e=.returned (.map (some bm))/\W.heap.size<=bm/\∃ k,Mv w' bm k (fp ps))/\Below W.heap.size W w'):=fun W hb=>iFirst W la ps lc (pks_below hP hb) (by omega) hw
 obtain ⟨r,hr⟩:∃ r,r=chk ps v row F []:=⟨_,rfl⟩
 rw [<- hr]
 have HWK:Hid (∀ a o cc mb bm W,Bools W a (ownL v row)->W.cell? ⟨mb,0,none⟩=some (.map (some bm))->Mv W bm cc (fp ps)->Calls Try.prog 29 #[gv (row.length:Int) (bs (tab row.length F)) v a (ownL v row).length o,.func (.func 36) #[] #[ptr mb]] W fun e w'=>e=.returned (.bool r)/\Below W.heap.size W w'):=fun a o cc mb bm W h1 h2 h3=>by
  rw [hr]
  exact iWalk F v row ps a o cc mb bm W hn hv h1 h2 h3
 have hlz:¬ (5000:Int) < (ps.length:Int):=by omega
 clear hX0 b0 hn hB hv hl hP hw hr
 generalize ownL v row=OL at *
 generalize bs (tab row.length F)=S at *
 go_enter Try.func9,Try.ntmps9
 go_upto_region 1 with fail
 clear hE
 obtain ⟨d0,d1,_,_⟩:=HL0.out
 have hd:=HL0.out.lt
 go_wp2_with fail
 clear d0 d1 hd
 refine Calls.mono HGA.out ?_
 rintro e w1 ⟨⟨ga,go,rfl,hb1'⟩,hb1⟩
 have HB1:Hid (Below w.heap.size w w1):=HB0.out.trans (hb1.mono HB0.out.size)
 have HO1:Hid (Bools w1 ga OL):=hb1'
 clear hb1 hb1' HB0 HL0 HGA
 go_upto_region 2 with fail
 obtain ⟨W2,hW2⟩:∃ X,X=w1.alloc (.cells #[.int .i64 (row.length:Int),.string S,.int .i64 v,.slice ga OL.length go] 55):=⟨_,rfl⟩
 obtain ⟨g,hg⟩:∃ g,g=w1.heap.size:=⟨_,rfl⟩
 have hb2:Below w1.heap.size w1 W2:=by rw [hW2];exact (Below.refl _ _).alloc (Nat.le_refl _) _
 have HB2:Hid (Below w.heap.size w W2):=HB1.out.trans (hb2.mono HB1.out.size)
 have HG2:Hid (G4 W2 g (.int .i64 (row.length:Int)) (.string S) (.int .i64 v) (.slice ga OL.length go)):=by rw [hW2,hg];exact G4.made _ _ _ _ _ _
 have HO2:Hid (Bools W2 ga OL):=HO1.out.below hb2
 rw [<- hW2,<- hg]
 clear hW2 hg hb2 HB1 HO1
 go_upto_region 4 with fail
 go_wp2_with fail
 refine (HFI.out _ HB2.out).mono ?_
 rintro e w3 ⟨⟨bm,rfl,hbm,kk,hM⟩,hb3⟩
 have HB3:Hid (Below w.heap.size w w3):=HB2.out.trans (hb3.mono HB2.out.size)
 have HG3:Hid (G4 w3 g (.int .i64 (row.length:Int)) (.string S) (.int .i64 v) (.slice ga OL.length go)):=HG2.out.below hb3
 have HO3:Hid (Bools w3 ga OL):=HO2.out.below hb3
 have HM3:Hid (Mv w3 bm kk (fp ps)):=hM
 clear hb3 hM hbm HB2 HG2 HO2
 go_upto_region 5 with fail
 have hmade:∀ T:Nat,(w3.alloc (.cells #[.map (some bm)] T)).cell? ⟨w3.heap.size,0,none⟩=some (.map (some bm))/\Below w3.heap.size w3 (w3.alloc (.cells #[.map (some bm)] T)):=fun T=>⟨by simp,(Below.refl _ _).alloc (Nat.le_refl _) _⟩
 generalize hW4:World.alloc w3 _=W4
 generalize hq:w3.heap.size=q at *
 have hc4:W4.cell? ⟨q,0,none⟩=some (.map (some bm)):=by rw [<- hW4];exact (hmade _).1
 have hb4:Below w3.heap.size w3 W4:=by rw [hq,<- hW4];exact (hmade _).2
 have HB4:Hid (Below w.heap.size w W4):=HB3.out.trans (hb4.mono HB3.out.size)
 have HG4:Hid (G4 W4 g (.int .i64 (row.length:Int)) (.string S) (.int .i64 v) (.slice ga OL.length go)):=HG3.out.below hb4
 have HC4:Hid (W4.cell? ⟨q,0,none⟩=some (.map (some bm))):=hc4
 have HK4:Hid (Calls Try.prog 29 #[gv (row.length:Int) S v ga OL.length go,.func (.func 36) #[] #[ptr q]] W4 fun e w'=>e=.returned (.bool r)/\Below W4.heap.size W4 w'):=HWK.out _ _ _ _ _ _ (HO3.out.below hb4) HC4.out (HM3.out.below hb4)
 clear hmade hW4 hq hc4 hb4 HB3 HG3 HO3 HM3
 obtain ⟨d0,d1,d2,d3,_,_,_,_⟩:=HG4.out
 have hd:=HG4.out.lt
 go_wp2_with fail
 clear d0 d1 d2 d3 hd
 refine Calls.mono HK4.out ?_
 rintro e w5 ⟨rfl,hb5⟩
 have HB5:Hid (Below w.heap.size w w5):=HB4.out.trans (hb5.mono HB4.out.size)
 clear hb5
 go_wp2_with fail
 go_ret
 exact ⟨rfl,HB5.out⟩
end Wp22
namespace Wt1
open Go.RowKit
open Nd0 (Kept Ints WInts lt_of_cell set_same set_other)
open Nd6 (Bools)
open Op6 (Pk PkAt Pks)
open Ta1 (tab)
open Ta2 (bitB plc atB)
open Tc2 (tv)
open Tc5 (Lay)
open Ss0 (bs)
open Mv0 (Mv Sp Sm law zeroInt key_eq)
open Dq1 (ownF ownL ownL_yes)
open Dp1 (iOne1)
open Wp13 (sp fp iFirst sp_small val_bits)
open Wp20 (val_of)
open Te3 (iTableAt)
open Ap0 Wp7 Wp12 Wp15 Wt0
set_option linter.unusedSimpArgs false
theorem mv_get {w:World} {bm c:Nat} {f:Sp->Option Int} (h:Mv w bm c f) {x:Sp} (hx:Sm x) :
 (Instr.lookup 65 (.map (some bm)) (Mv0.agg x) false).run Try.prog w=.ok (.int .i64 ((f x).getD 0)) w:=by
 obtain ⟨D,ho,hp⟩:=h
 obtain ⟨h1,h2⟩:=hp x hx
 obtain ⟨es,clock,hb,F,hs,hD⟩:=ho
 subst hD
 rcases Maps.fit_look false law Try.underlying65 (zeroInt w) hb F (key_eq hx) with ⟨hrun,_,hat⟩|⟨e0,y,_,_,hrun,hRv,hat,_⟩
 ·rw [Maps.has_false_of_atKey hat] at h1
  cases hf:f x with
  | none=>exact hrun
  | some u=>rw [hf] at h1;cases h1
 ·rw [Maps.has_true_of_atKey hat] at h1
  cases hf:f x with
  | none=>rw [hf] at h1;cases h1
  | some u =>
    have h3:=h2 u (.lit (.int .i64 0)) hf
    rw [hat] at h3
    obtain ⟨a,ha,hz,_⟩:=plainElem_int_inv Try.underlying3 hRv
    rw [ha] at hrun
    rw [hrun]
    rw [hz] at h3
    cases h3
    rfl
/-- The k-th move, as a bit. -/
def mvB (ml:List Int) (k:Nat):Int:=if k < ml.length/\ml.getD k 0≠0 then 1 else 0
theorem mvB_bit (ml:List Int) (k:Nat):bitB (mvB ml k)=true:=by unfold mvB;split<;>rfl
theorem iMove (nb mb:Nat) (ma:Option Addr) (ml:List Int) (mc k:Nat) (W:World) (hn:W.cell? ⟨nb,0,none⟩=some (.int .i64 (k:Int))) (hf:W.frozen? ⟨nb,0,none⟩=false) (hm:W.cell? ⟨mb,0,none⟩=some (.slice ma ml.length mc)) (hI:Ints W ma ml) (hk:k<=1000) (hne:mb≠nb) (hna:∀ x,ma=some x->0 < ml.length->x.block≠nb) :
 Calls Try.prog 66 #[ptr nb,ptr mb] W fun e w'=>e=.returned (.int .i64 (mvB ml k))/\w'.cell? ⟨nb,0,none⟩=some (.int .i64 ((k+1:Nat):Int))/\w'.frozen? ⟨nb,0,none⟩=false/\Kept (fun b=>b=nb) W w':=by
 obtain ⟨Y,hY⟩:∃ Y,Y=W.setCell ⟨nb,0,none⟩ (.int .i64 ((k:Int)+1)):=⟨_,rfl⟩
 have KY:Kept (fun b=>b=nb) W Y:=by rw [hY];exact (Kept.refl (fun b=>b=nb) W).setCell (p:=⟨nb,0,none⟩) rfl _
 have HK:Hid (Kept (fun b=>b=nb) W Y):=KY
 have HN:Hid (Y.cell? ⟨nb,0,none⟩=some (.int .i64 ((k:Int)+1))/\Y.frozen? ⟨nb,0,none⟩=false):=⟨by rw [hY];exact set_same hn,by rw [hY,World.frozen?_setCell];exact hf⟩
 have HM:Hid (Y.cell? ⟨mb,0,none⟩=some (.slice ma ml.length mc)):=by show _=_;rw [KY.cell (p:=⟨mb,0,none⟩) (lt_of_cell hm) hne];exact hm
 have HC:Hid (∀ (h:k < ml.length),∃ b o,ma=some ⟨b,o,none⟩/\Y.cell? ⟨b,o+k,none⟩=some (.int .i64 ml[k])):=fun h=>by
  rcases hI.2 with e|⟨b,o,e,hc⟩
  ·omega
  ·exact ⟨b,o,e,by rw [KY.cell (p:=⟨b,o+k,none⟩) (lt_of_cell (hc k h)) (hna ⟨b,o,none⟩ e (by omega))];exact hc k h⟩
 have nl:=lt_of_cell hn
 have hml:(ml.length:Int)<=9223372036854775807:=by have:=hI.1;unfold maxLen at this;omega
 clear KY hm hI hna
 go_enter Try.func66,Try.ntmps66
 go_upto_region 2 with fail
 rw [<- hY]
 clear hY hn hf nl
 obtain ⟨n0,n1⟩:=HN.out
 have nl:=lt_of_cell n0
 have m0:=HM.out
 have ml0:=lt_of_cell m0
 by_cases hlt:k < ml.length
 ·obtain ⟨b,o,rfl,x0⟩:=HC.out hlt
  have xl:=lt_of_cell x0
  have hlz:(k:Int)+1<=(ml.length:Int):=by omega
  have HV:Hid (mvB ml k=(((ml[k] != 0):Bool).toNat:Int)):=by
   show _=_
   have e:ml.getD k 0=ml[k]:=by simp [List.getD,hlt]
   unfold mvB
   rw [e]
   by_cases h0:ml[k]=0
   ·rw [h0,if_neg (fun h=>h.2 rfl)];rfl
   ·rw [if_pos ⟨hlt,h0⟩,show (ml[k] != 0)=true by simp [h0]];rfl
  generalize ml[k]=z at *
  have hw:IntKind.i64.wrap ((k:Int)+1 - 1)=(k:Int):=by rw [IntKind.wrap_i64]<;>omega
  go_wp2_with fail
  refine (iOne1 _ _).mono ?_
  rintro e w' ⟨rfl,hw'⟩
  have hw'':=hw'.symm
  clear hw'
  subst hw''
  go_wp2
  go_ret
  exact ⟨by rw [HV.out];rfl,by rw [HN.out.1];rfl,HN.out.2,HK.out⟩
 ·have hlz:¬ (k:Int)+1<=(ml.length:Int):=by omega
  have HV:Hid (mvB ml k=0):=by show _=_;unfold mvB;rw [if_neg (fun h=>hlt h.1)]
  go_wp2_with fail
  refine (iOne1 _ _).mono ?_
  rintro e w' ⟨rfl,hw'⟩
  have hw'':=hw'.symm
  clear hw'
  subst hw''
  go_wp2
  go_ret
  exact ⟨by rw [HV.out];rfl,by rw [HN.out.1];rfl,HN.out.2,HK.out⟩
theorem iMoves (ma:Option Addr) (m mc:Nat) (W:World) :
 Calls Try.prog 38 #[.slice ma m mc] W fun e w'=>e=.returned (.func (.func 66) #[] #[ptr (W.heap.size+1),ptr W.heap.size])/\w'.cell? ⟨W.heap.size,0,none⟩=some (.slice ma m mc)/\w'.cell? ⟨W.heap.size+1,0,none⟩=some (.int .i64 0)/\w'.frozen? ⟨W.heap.size+1,0,none⟩=false/\Below W.heap.size W w':=by
 go_enter Try.func38,Try.ntmps38
 go_wp2
 go_ret
 have e1:(W.alloc (.cells #[.slice ma m mc] 35)).heap.size=W.heap.size+1:=by simp
 have b1:Below (W.alloc (.cells #[.slice ma m mc] 35)).heap.size (W.alloc (.cells #[.slice ma m mc] 35)) ((W.alloc (.cells #[.slice ma m mc] 35)).alloc (.cells #[.int .i64 0] 3)):=(Below.refl _ _).alloc (Nat.le_refl _) _
 have c0:(W.alloc (.cells #[.slice ma m mc] 35)).cell? ⟨W.heap.size,0,none⟩=some (.slice ma m mc):=by simp
 refine ⟨rfl,by rw [b1.cell (p:=⟨W.heap.size,0,none⟩) (lt_of_cell c0)];exact c0,by rw [<- e1];simp,by rw [<- e1];simp,((Below.refl _ _).alloc (Nat.le_refl _) _).alloc (by simp) _⟩
theorem iPlay (row:List Bool) (F:Nat->Bool) (v:Int) (ps:List Pk) (ml:List Int) (ra la ma:Option Addr) (c lc mc:Nat) (w:World) (hn:row.length<=12) (hB:Bools w ra row) (hv:bitB v=true) (hl:ps.length<=5000) (hP:Pks w la ps) (hb:∀ p∈ps,bitB p.v=true) (hM:Ints w ma ml) (hml:ml.length<=1000) :
 Calls Try.prog 11 #[.slice ra row.length c,tv (row.length:Int) (bs (tab row.length F)),.int .i64 v,.slice la ps.length lc,.slice ma ml.length mc] w fun e w'=>e=.returned (.int .i64 (atB row.length F (run (gP ps) (mvB ml) (row.map (ownF v)) 0 [])))/\Below w.heap.size w w':=by
 have hwf:∀ p∈ps,(Lit.int .i64 p.v).wf=true:=fun p hp=>by
  have:=Wp9.bit_in.1 (hb p hp)
  have h2:p.v=0\/p.v=1:=by omega
  rcases h2 with e|e<;>rw [e]<;>rfl
 obtain ⟨X0,hX0⟩:∃ X,X=w.alloc (.cells #[.int .i64 (row.length:Int),.string (bs (tab row.length F))] 26):=⟨_,rfl⟩
 have b0:Below w.heap.size w X0:=by rw [hX0];exact (Below.refl _ _).alloc (Nat.le_refl _) _
 have HB0:Hid (Below w.heap.size w X0):=b0
 have HL0:Hid (Lay X0 w.heap.size (.int .i64 (row.length:Int)) (.string (bs (tab row.length F)))):=by rw [hX0];exact Lay.made _ _ _ _
 have hE:w.alloc (.cells #[.int .i64 (row.length:Int),.string (bs (tab row.length F))] 26)=X0:=hX0.symm
 have HGA:Hid _:=iGame row.length F v row ra c X0 hn rfl (hB.below b0) hv
 have HFI:Hid (∀ W,Below w.heap.size w W->Calls Try.prog 35 #[.slice la ps.length lc] W fun e w'=>(∃ bm,e=.returned (.map (some bm))/\W.heap.size<=bm/\∃ k,Mv w' bm k (fp ps))/\Below W.heap.size W w'):=fun W hb=>iFirst W la ps lc (pks_below hP hb) (by omega) hwf
 have HMI:Hid (Ints w ma ml):=hM
 have HGB:Hid (∀ vs,bitB (gP ps vs)=true):=fun vs=>gP_bit hb vs
 have HTA:Hid (∀ (W:World) (a:Option Addr) (l:List Int) (c:Nat),Ints W a l->Calls Try.prog 39 #[tv (row.length:Int) (bs (tab row.length F)),.slice a l.length c] W fun e w'=>e=.returned (.int .i64 (atB row.length F l))/\Below W.heap.size W w'):=fun W a l c h=>iTableAt row.length F a l c W hn h
 have HOL:Hid (ownL v row=row.map (ownF v)):=ownL_yes hv
 have HLE:Hid ((row.map (ownF v)).length=row.length):=List.length_map _
 have hn12:(row.map (ownF v)).length<=12:=by rw [List.length_map];exact hn
 rw [HOL.out] at HGA
 clear hX0 b0 hB hv hl hP hb hM hwf HOL
 generalize hOLE:row.map (ownF v)=OL at *
 have HOE:Hid (row.map (ownF v)=OL):=hOLE
 clear hOLE
 generalize bs (tab row.length F)=S at *
 obtain ⟨R,hR⟩:∃ R,R=run (gP ps) (mvB ml) OL 0 []:=⟨_,rfl⟩
 have HR:Hid (R=run (gP ps) (mvB ml) OL 0 []):=hR
 rw [<- hR]
 clear hR
 go_enter Try.func11,Try.ntmps11
 go_upto_region 1 with fail
 clear hE
 obtain ⟨d0,d1,_,_⟩:=HL0.out
 have hd:=HL0.out.lt
 go_wp2_with fail
 clear d0 d1 hd
 refine Calls.mono HGA.out ?_
 rintro e w1 ⟨⟨ga,go,rfl,hb1'⟩,hb1⟩
 have HB1:Hid (Below w.heap.size w w1):=HB0.out.trans (hb1.mono HB0.out.size)
 have HO1:Hid (Bools w1 ga OL):=hb1'
 have HT1:Hid (Lay w1 w.heap.size (.int .i64 (row.length:Int)) (.string S)):=HL0.out.below hb1
 clear hb1 hb1' HB0 HL0 HGA
 go_upto_region 2 with fail
 obtain ⟨W2,hW2⟩:∃ X,X=w1.alloc (.cells #[.int .i64 (row.length:Int),.string S,.int .i64 v,.slice ga OL.length go] 55):=⟨_,rfl⟩
 obtain ⟨g,hg⟩:∃ g,g=w1.heap.size:=⟨_,rfl⟩
 have hb2:Below w1.heap.size w1 W2:=by rw [hW2];exact (Below.refl _ _).alloc (Nat.le_refl _) _
 have HB2:Hid (Below w.heap.size w W2):=HB1.out.trans (hb2.mono HB1.out.size)
 have HG2:Hid (G4 W2 g (.int .i64 (row.length:Int)) (.string S) (.int .i64 v) (.slice ga OL.length go)):=by rw [hW2,hg];exact G4.made _ _ _ _ _ _
 have HO2:Hid (Bools W2 ga OL):=HO1.out.below hb2
 have HT2:Hid (Lay W2 w.heap.size (.int .i64 (row.length:Int)) (.string S)):=HT1.out.below hb2
 rw [<- hW2,<- hg]
 clear hW2 hg hb2 HB1 HO1 HT1
 go_upto_region 4 with fail
 go_wp2_with fail
 refine (HFI.out _ HB2.out).mono ?_
 rintro e w3 ⟨⟨bm,rfl,hbm,kk,hMv⟩,hb3⟩
 have HB3:Hid (Below w.heap.size w w3):=HB2.out.trans (hb3.mono HB2.out.size)
 have HG3:Hid (G4 w3 g (.int .i64 (row.length:Int)) (.string S) (.int .i64 v) (.slice ga OL.length go)):=HG2.out.below hb3
 have HO3:Hid (Bools w3 ga OL):=HO2.out.below hb3
 have HT3:Hid (Lay w3 w.heap.size (.int .i64 (row.length:Int)) (.string S)):=HT2.out.below hb3
 have HM3:Hid (Mv w3 bm kk (fp ps)):=hMv
 clear hb3 hMv hbm HB2 HG2 HO2 HT2
 go_wp2_with fail
 refine (iMoves ma ml.length mc w3).mono ?_
 rintro e w4 ⟨rfl,hm4,hn4,hf4,hb4⟩
 obtain ⟨mb,hmb⟩:∃ y,y=w3.heap.size:=⟨_,rfl⟩
 obtain ⟨nb,hnb⟩:∃ y,y=w3.heap.size+1:=⟨_,rfl⟩
 rw [<- hnb] at hn4 hf4 ⊢
 rw [<- hmb] at hm4 ⊢
 have hmn:mb+1=nb:=by omega
 have HB4:Hid (Below w.heap.size w w4):=HB3.out.trans (hb4.mono HB3.out.size)
 have HG4:Hid (G4 w4 g (.int .i64 (row.length:Int)) (.string S) (.int .i64 v) (.slice ga OL.length go)):=HG3.out.below hb4
 have HO4:Hid (Bools w4 ga OL):=HO3.out.below hb4
 have HT4:Hid (Lay w4 w.heap.size (.int .i64 (row.length:Int)) (.string S)):=HT3.out.below hb4
 have HM4:Hid (Mv w4 bm kk (fp ps)):=HM3.out.below hb4
 have HMI4:Hid (Ints w4 ma ml):=HMI.out.below HB4.out
 have HLW:Hid (w.heap.size < mb/\bm < mb/\(∀ x,ga=some x->0 < OL.length->x.block < mb)/\(∀ x,ma=some x->0 < ml.length->x.block < mb)/\w.heap.size<=mb):=by
  refine ⟨by rw [hmb];exact HT3.out.lt,by rw [hmb];exact HM3.out.lt,fun x hx h0=>by rw [hmb];exact Wr3.ra_lt HO3.out hx h0,fun x hx h0=>?_,by rw [hmb];exact HB3.out.size⟩
  rcases (HMI.out.below HB3.out).2 with e|⟨y,o,e,hc⟩
  ·omega
  ·rw [hx] at e
   cases e
   rw [hmb]
   exact lt_of_cell (hc 0 h0)
 have HN4:Hid (w4.cell? ⟨mb,0,none⟩=some (.slice ma ml.length mc)/\w4.cell? ⟨nb,0,none⟩=some (.int .i64 0)/\w4.frozen? ⟨nb,0,none⟩=false):=⟨hm4,hn4,hf4⟩
 have hnl:nb < w4.heap.size:=lt_of_cell hn4
 clear hm4 hn4 hf4 hb4 hmb hnb HB3 HG3 HO3 HT3 HM3
 obtain ⟨w5,hw5⟩:∃ X,X=w4.alloc (.cells #[] 3):=⟨_,rfl⟩
 have hb5:Below w4.heap.size w4 w5:=by rw [hw5];exact (Below.refl _ _).alloc (Nat.le_refl _) _
 have HO5:Hid (Ows w5 w4.heap.size (.slice (some ⟨w4.heap.size,0,none⟩) 0 0) []):=by rw [hw5];exact Ows.lit w4 _ (Nat.le_refl _)
 have HS5:Hid (w4.heap.size < w5.heap.size):=by show _ < _;rw [hw5];simp
 have HB5:Hid (Below w4.heap.size w4 w5):=hb5
 have HT5:Hid (w4.heap.size<=w5.heap.size):=hb5.size
 have HN5:Hid (w5.cell? ⟨nb,0,none⟩=some (.int .i64 0)/\w5.frozen? ⟨nb,0,none⟩=false):=⟨by rw [hb5.cell (p:=⟨nb,0,none⟩) hnl];exact HN4.out.2.1,by rw [hb5.frozen (p:=⟨nb,0,none⟩) hnl];exact HN4.out.2.2⟩
 have HG5:Hid (G4 w5 g (.int .i64 (row.length:Int)) (.string S) (.int .i64 v) (.slice ga OL.length go)):=HG4.out.below hb5
 clear hb5
 go_upto_region 6 with fail
 rw [<- hw5]
 clear hw5
 obtain ⟨_,_,_,g3,_,_,_,_⟩:=HG5.out
 have gl:=lt_of_cell g3
 go_wp2_with fail
 clear g3 gl
 go_loopw [15,35] (fun z i wr=>∃ (k j:Nat) (vs:List Int),k<=OL.length/\i=.int .i64 (k:Int)/\Ows wr w4.heap.size z vs/\vs.length=k/\j<=k/\wr.cell? ⟨nb,0,none⟩=some (.int .i64 (j:Int))/\wr.frozen? ⟨nb,0,none⟩=false/\Below nb w4 wr/\run (gP ps) (mvB ml) (OL.drop k) j vs=R/\∀ b∈vs,bitB b=true) (fun _ i _=>OL.length - (intOf i).toNat)
 case atStart=>exact ⟨0,0,[],Nat.zero_le _,rfl,HO5.out,rfl,Nat.le_refl _,HN5.out.1,HN5.out.2,HB5.out.mono (Nat.le_of_lt hnl),HR.out.symm,fun b hb=>by cases hb⟩
 case round =>
  obtain ⟨k,j,vs,hk,rfl,hows,rfl,hjk,hnc,hnf,hbr,hrun,hbits⟩:=hrel
  obtain ⟨va,vc,rfl,hwi⟩:=hows.form
  have HBR:Hid (Below nb w4 wr):=hbr
  have HOW:Hid (Ows wr w4.heap.size (.slice va vs.length vc) vs):=hows
  have HVI:Hid (Ints wr va vs):=hwi.ints
  have HNC:Hid (wr.cell? ⟨nb,0,none⟩=some (.int .i64 (j:Int))/\wr.frozen? ⟨nb,0,none⟩=false):=⟨hnc,hnf⟩
  have HBT:Hid (∀ b∈vs,bitB b=true):=hbits
  have HRN:Hid (run (gP ps) (mvB ml) (OL.drop vs.length) j vs=R):=hrun
  have hsz:=hbr.size
  clear hbr hows hwi hnc hnf hbits hrun
  by_cases hlt:vs.length < OL.length
  ·have hlz:(vs.length:Int) < (OL.length:Int):=by omega
   obtain ⟨ab,ao,hga,hfl⟩:∃ ab ao,ga=some ⟨ab,ao,none⟩/\wr.cell? ⟨ab,ao+vs.length,none⟩=some (.bool OL[vs.length]):=by
    rcases HO4.out.2 with e|⟨ab,ao,e,hc⟩
    ·omega
    ·have h1:=HLW.out.2.2.1 ⟨ab,ao,none⟩ e (by omega)
     exact ⟨ab,ao,e,by rw [HBR.out.cell (p:=⟨ab,ao+vs.length,none⟩) (by show ab < nb;have h2:ab < mb:=h1;omega)];exact hc vs.length hlt⟩
   have HDR:Hid (OL.drop vs.length=OL[vs.length] :: OL.drop (vs.length+1)):=List.drop_eq_getElem_cons hlt
   rw [HDR.out] at HRN
   have fl:=lt_of_cell hfl
   generalize OL[vs.length]=fg at hfl HRN
   cases fg
   ·have HMV:Hid _:=iMove nb mb ma ml mc j wr HNC.out.1 HNC.out.2 (by rw [HBR.out.cell (p:=⟨mb,0,none⟩) (by show mb < nb;omega)];exact HN4.out.1) (by
     refine ⟨HMI4.out.1,?_⟩
     rcases HMI4.out.2 with e|⟨y,o,e,hc⟩
     ·exact .inl e
     ·refine .inr ⟨y,o,e,fun i hi=>?_⟩
      have h1:=HLW.out.2.2.2.1 ⟨y,o,none⟩ e (by omega)
      rw [HBR.out.cell (p:=⟨y,o+i,none⟩) (by show y < nb;have h2:y < mb:=h1;omega)]
      exact hc i hi) (by omega) (by omega) (fun x hx h0=>by have:=HLW.out.2.2.2.1 x hx h0;omega)
    have HBM:Hid (bitB (mvB ml j)=true):=mvB_bit ml j
    have HRX:Hid (run (gP ps) (mvB ml) (OL.drop (vs.length+1)) (j+1) (vs++[mvB ml j])=R):=HRN.out
    generalize mvB ml j=mz at HMV HBM HRX
    subst hga
    go_upto_region 11 with fail
    clear hfl fl
    go_wp2_with fail
    refine Calls.mono HMV.out ?_
    rintro e w6 ⟨rfl,hn6,hf6,hk6⟩
    have HOW6:Hid (Ows w6 w4.heap.size (.slice va vs.length vc) vs):=HOW.out.kept hk6 (fun i hi e=>by have:=(HOW.out.lt i hi).1;omega)
    have HN6:Hid (w6.cell? ⟨nb,0,none⟩=some (.int .i64 ((j+1:Nat):Int))/\w6.frozen? ⟨nb,0,none⟩=false):=⟨hn6,hf6⟩
    have HB6:Hid (Below nb w4 w6):=HBR.out.trans (hk6.below (fun b hb=>by omega) (by omega))
    have hs6:=hk6.size
    clear hn6 hf6 hk6 HMV
    go_upto_region 12 with (at_builtin;go_must (refine app_int _ rfl _ _ rfl w4.heap.size (.slice va vs.length vc) vs mz rfl rfl HOW6.out (by omega) (by omega) ?_;intro g7 cp7 w7 ho7 hk7 hg7;have HO7:Hid (Ows w7 w4.heap.size (.slice (some ⟨g7,0,none⟩) (vs.length+1) cp7) (vs++[mz])):=ho7;have HK7:Hid (Kept (fun b=>((.slice va vs.length vc):Value).ownBlock=some b) w6 w7):=hk7;clear ho7 hk7 hg7))
    go_wp2
    go_roundw
    case rel =>
     have hne:∀ b,((.slice va vs.length vc):Value).ownBlock=some b->w4.heap.size<=b:=fun b hb=>(HOW6.out.lt b hb).1
     refine ⟨vs.length+1,j+1,vs++[mz],by omega,by go_num,HO7.out,by rw [List.length_append,List.length_singleton],by omega,by rw [HK7.out.cell (p:=⟨nb,0,none⟩) (lt_of_cell HN6.out.1) (fun h=>by have:=hne nb h;omega)];exact HN6.out.1,by rw [HK7.out.frozen (p:=⟨nb,0,none⟩) (lt_of_cell HN6.out.1) (fun h=>by have:=hne nb h;omega)];exact HN6.out.2,HB6.out.trans (HK7.out.below (fun b hb=>by have:=hne b hb;omega) (by omega)),HRX.out,fun b hb=>?_⟩
     rcases List.mem_append.1 hb with e|e
     ·exact HBT.out b e
     ·rw [List.mem_singleton.1 e];exact HBM.out
    case measure=>simp [intOf];omega
   ·have HSP:Hid _:=iSpot va vs vc wr (by omega) (bits_at HBT.out) HVI.out
    have HSM:Hid (Sm (sp vs)):=sp_small (val_of HBT.out (by omega))
    obtain ⟨X,hX⟩:∃ X:Sp,X=sp vs:=⟨_,rfl⟩
    have hX1:(vs.length:Int)=(X.1:Int):=by rw [hX];rfl
    have hX2:((plc vs vs.length:Nat):Int)=(X.2:Int):=by rw [hX];rfl
    rw [hX2] at HSP
    have HSP2:Hid (Calls Try.prog 37 #[.slice va vs.length vc] wr fun e w'=>e=.returned (Mv0.agg X)/\Below wr.heap.size wr w'):=Calls.mono HSP.out fun e w' h=>by rw [hX1] at h;exact h
    have HGV:Hid (gP ps vs=(fp ps X).getD 0):=by show _=_;rw [hX];rfl
    have HBM:Hid (bitB (gP ps vs)=true):=HGB.out vs
    have HRX:Hid (run (gP ps) (mvB ml) (OL.drop (vs.length+1)) j (vs++[gP ps vs])=R):=HRN.out
    rw [<- hX] at HSM
    clear HSP hX hX1 hX2
    subst hga
    go_upto_region 10 with fail
    clear hfl fl
    go_wp2_with fail
    refine Calls.mono HSP2.out ?_
    rintro e w6 ⟨rfl,hb6⟩
    have HB6:Hid (Below nb w4 w6):=HBR.out.trans (hb6.mono (by omega))
    have HOW6:Hid (Ows w6 w4.heap.size (.slice va vs.length vc) vs):=HOW.out.kept (S:=fun _=>False) (Kept.ofBelow hb6) (fun _ _ h=>h)
    have HN6:Hid (w6.cell? ⟨nb,0,none⟩=some (.int .i64 (j:Int))/\w6.frozen? ⟨nb,0,none⟩=false):=⟨by rw [hb6.cell (p:=⟨nb,0,none⟩) (lt_of_cell HNC.out.1)];exact HNC.out.1,by rw [hb6.frozen (p:=⟨nb,0,none⟩) (lt_of_cell HNC.out.1)];exact HNC.out.2⟩
    have hs6:=hb6.size
    have hlk:=mv_get (HM4.out.kept (w':=w6) (S:=fun b=>nb<=b) ⟨HB6.out.os,HB6.out.tape,HB6.out.output,HB6.out.size,fun b hb hn=>HB6.out.block b (by omega)⟩ (by have:=HLW.out.2.1;omega)) HSM.out
    rw [<- HGV.out] at hlk
    generalize gP ps vs=mz at hlk HBM HRX HGV
    clear hb6 HSP2 HGV
    go_upto_region 12 with (at_builtin;go_must (refine app_int _ rfl _ _ rfl w4.heap.size (.slice va vs.length vc) vs mz rfl rfl HOW6.out (by omega) (by omega) ?_;intro g7 cp7 w7 ho7 hk7 hg7;have HO7:Hid (Ows w7 w4.heap.size (.slice (some ⟨g7,0,none⟩) (vs.length+1) cp7) (vs++[mz])):=ho7;have HK7:Hid (Kept (fun b=>((.slice va vs.length vc):Value).ownBlock=some b) w6 w7):=hk7;clear ho7 hk7 hg7))
    clear hlk
    go_wp2
    go_roundw
    case rel =>
     have hne:∀ b,((.slice va vs.length vc):Value).ownBlock=some b->w4.heap.size<=b:=fun b hb=>(HOW6.out.lt b hb).1
     refine ⟨vs.length+1,j,vs++[mz],by omega,by go_num,HO7.out,by rw [List.length_append,List.length_singleton],by omega,by rw [HK7.out.cell (p:=⟨nb,0,none⟩) (lt_of_cell HN6.out.1) (fun h=>by have:=hne nb h;omega)];exact HN6.out.1,by rw [HK7.out.frozen (p:=⟨nb,0,none⟩) (lt_of_cell HN6.out.1) (fun h=>by have:=hne nb h;omega)];exact HN6.out.2,HB6.out.trans (HK7.out.below (fun b hb=>by have:=hne b hb;omega) (by omega)),HRX.out,fun b hb=>?_⟩
     rcases List.mem_append.1 hb with e|e
     ·exact HBT.out b e
     ·rw [List.mem_singleton.1 e];exact HBM.out
    case measure=>simp [intOf];omega
  ·have hlz:¬ (vs.length:Int) < (OL.length:Int):=by omega
   have hvr:vs=R:=by
    have h:=HRN.out
    rw [List.drop_of_length_le (by omega)] at h
    exact h
   have HVR:Hid (vs=R):=hvr
   clear hvr
   have HT6:Hid (Lay wr w.heap.size (.int .i64 (row.length:Int)) (.string S)):=HT4.out.kept (S:=fun b=>nb<=b) ⟨HBR.out.os,HBR.out.tape,HBR.out.output,HBR.out.size,fun b hb hn=>HBR.out.block b (by omega)⟩ (by have:=HLW.out.1;omega)
   obtain ⟨t0,t1,_,_⟩:=HT6.out
   have tl0:=lt_of_cell t0
   go_wp2_with fail
   refine (HTA.out _ va vs vc HVI.out).mono ?_
   rintro e w6 ⟨rfl,hb6⟩
   have HB6:Hid (Below w.heap.size w w6):=(HB4.out.trans (HBR.out.mono (by have:=HLW.out.2.2.2.2;omega))).trans (hb6.mono (by have:=HB4.out.size;omega))
   clear hb6
   go_wp2
   go_ret
   exact ⟨by rw [HVR.out];rfl,HB6.out⟩
end Wt1
end Go.Proofs.Ytfhdbcfhhbdiiaa
