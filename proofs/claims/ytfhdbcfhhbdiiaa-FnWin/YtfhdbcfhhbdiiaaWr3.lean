import Derived.Test.YtfhdbcfhhbdiiaaWr2
import Derived.Test.YtfhdbcfhhbdiiaaWr16
import Derived.Test.YtfhdbcfhhbdiiaaMc0
namespace Go.Proofs.Ytfhdbcfhhbdiiaa
set_option maxRecDepth 100000
set_option maxHeartbeats 8000000
set_option linter.unusedVariables false
namespace Wr3
open Go.RowKit
open Nd0 (Kept Ints WInts lt_of_cell)
open Nd6 (Bools)
open Op6 (Pk PkAt Pks)
open Ta1 (tab tab_length)
open Ta2 (bitB)
open Ta3 (hb)
open Tc2 (tv ret_bool)
open Td1 (knw knw_same)
open Te3 (iHalf)
open Ss0 (bs bs_size)
open Dq1 (ownF)
open De0 (dc)
open Dp5 (chV)
open Mc0 (dc_con con_of)
open Ap0 Wp12 Wp15 Wp16 Wp17 Wp18 Wr0 Wr1 Wr2 Wr16
/-- The picks of a strategy, from some values on. -/
def wn (v:Int):List Bool->(Nat->Bool)->List Int->List Pk
 | [],_,_=>[]
 | q :: r,F,vs=>if 0<=knw (r.length+1) F then [] else if (q==(v==0))=true then ⟨vs,chV (q :: r) (r.length+1) F⟩ :: (if chV (q :: r) (r.length+1) F=1 then wn v r (hb r.length 1 F) (vs++[1]) else wn v r (hb r.length 0 F) (vs++[0])) else wn v r (hb r.length 0 F) (vs++[0])++wn v r (hb r.length 1 F) (vs++[1])
theorem wn_len (v:Int) (row:List Bool):∀ (F:Nat->Bool) (vs:List Int),(wn v row F vs).length+1<=2 ^ row.length:=by
 induction row with
 | nil=>exact fun F vs=>Nat.le_refl _
 | cons q r ih =>
   intro F vs
   have h0:=ih (hb r.length 0 F) (vs++[0])
   have h1:=ih (hb r.length 1 F) (vs++[1])
   have hp:=Nat.two_pow_pos r.length
   rw [List.length_cons,Nat.pow_succ]
   unfold wn
   split
   ·simp;omega
   ·split
    ·split<;>simp<;>omega
    ·rw [List.length_append];omega
theorem wn_vals (v:Int) (row:List Bool):∀ (F:Nat->Bool) (vs:List Int),∀ p∈wn v row F vs,p.l.length<=vs.length+row.length:=by
 induction row with
 | nil=>exact fun F vs p hp=>by cases hp
 | cons q r ih =>
   intro F vs p hp
   have h0:p∈wn v r (hb r.length 0 F) (vs++[0])->p.l.length<=vs.length+(q :: r).length:=fun h=>by
    have:=ih _ _ p h
    rw [List.length_append,List.length_singleton] at this
    rw [List.length_cons];omega
   have h1:p∈wn v r (hb r.length 1 F) (vs++[1])->p.l.length<=vs.length+(q :: r).length:=fun h=>by
    have:=ih _ _ p h
    rw [List.length_append,List.length_singleton] at this
    rw [List.length_cons];omega
   unfold wn at hp
   split at hp
   ·cases hp
   ·split at hp
    ·rcases List.mem_cons.1 hp with e|e
     ·rw [e];exact Nat.le_add_right _ _
     ·split at e
      ·exact h1 e
      ·exact h0 e
    ·rcases List.mem_append.1 hp with e|e
     ·exact h0 e
     ·exact h1 e
theorem kn_v {row:List Bool} {F:Nat->Bool} {d:Bool} (h:0<=knw row.length F) (hd:dc row F=d):knw row.length F=(d.toNat:Int):=by
 have hc:=con_of h
 rw [knw_same hc,<- hd,dc_con row (fun j hj=>hc j hj)]
theorem ch_v (q:Bool) (r:List Bool) (F:Nat->Bool):∃ x:Nat,x<=1/\chV (q :: r) (r.length+1) F=(x:Int)/\dc r (hb r.length x F)=dc (q :: r) F:=by
 have e:chV (q :: r) (r.length+1) F=Dv0.fst (dc r (hb r.length 0 F)) (dc r (hb r.length 1 F)) ((dc (q :: r) F).toNat:Int):=rfl
 have e2:dc (q :: r) F=if q=true then dc r (hb r.length 0 F)&&dc r (hb r.length 1 F) else dc r (hb r.length 0 F)||dc r (hb r.length 1 F):=rfl
 rw [e,e2]
 cases h0:dc r (hb r.length 0 F)<;>cases h1:dc r (hb r.length 1 F)<;>cases q<;>first|exact ⟨0,by omega,rfl,h0⟩|exact ⟨1,by omega,rfl,h1⟩
theorem oth_v {q:Bool} {r:List Bool} {F:Nat->Bool} {v:Int} {d:Bool} (hv:v=(d.toNat:Int)) (hq:(q==(v==0))=false) (hd:dc (q :: r) F=d):dc r (hb r.length 0 F)=d/\dc r (hb r.length 1 F)=d:=by
 have e2:dc (q :: r) F=if q=true then dc r (hb r.length 0 F)&&dc r (hb r.length 1 F) else dc r (hb r.length 0 F)||dc r (hb r.length 1 F):=rfl
 rw [e2] at hd
 subst hv
 revert hq hd
 cases dc r (hb r.length 0 F)<;>cases dc r (hb r.length 1 F)<;>cases q<;>cases d<;>simp
/-- The list that is told: its block, its room, its picks. -/
structure Tl where
 g:Nat
 cap:Nat
 qs:List Pq
/-- The blocks that it takes. -/
def Ft (ml:Nat) (t:Tl) (b:Nat):Prop:=b=ml\/b=t.g\/∃ q∈t.qs,q.own b
def Sw (ml:Nat) (t:Tl) (b:Nat):Prop:=b=ml\/b=t.g
theorem Sw.ft {ml:Nat} {t:Tl} {b:Nat} (h:Sw ml t b):Ft ml t b:=h.imp id .inl
structure Kw (k:Kn) (mr:Nat) (ra:Option Addr) (row:List Bool):Prop where
 mv:mr≠k.vb
 rv:∀ x,ra=some x->0 < row.length->x.block≠k.vb
/-- What Win's giver keeps. -/
structure Jw (k:Kn) (ml mr:Nat) (ra:Option Addr) (row:List Bool) (rc B:Nat) (t:Tl) (vv:Value) (W:World):Prop where
 cm:W.cell? ⟨ml,0,none⟩=some (.slice (some ⟨t.g,0,none⟩) t.qs.length t.cap)
 fm:W.frozen? ⟨ml,0,none⟩=false
 cr:W.cell? ⟨mr,0,none⟩=some (.slice ra row.length rc)
 rb:Bools W ra row
 lq:Lq W B t.g t.cap t.qs
 mg:ml≠t.g
 mo:∀ q∈t.qs,¬ q.own ml
 ap:∀ b,Ft ml t b->b≠k.g/\b≠k.vb/\b≠k.gb/\b≠k.fb/\b≠k.wb/\b≠mr/\(∀ x,k.ao=some x->0 < k.OL.length->x.block≠b)/\∀ x,ra=some x->0 < row.length->x.block≠b
 vo:∀ b,vv.ownBlock=some b->¬ Ft ml t b/\b≠mr/\∀ x,ra=some x->0 < row.length->x.block≠b
theorem ra_lt {W:World} {ra:Option Addr} {row:List Bool} (h:Bools W ra row) {x:Addr} (hx:ra=some x) (hl:0 < row.length):x.block < W.heap.size:=by
 rcases h.2 with e|⟨b,o,e,hc⟩
 ·omega
 ·rw [hx] at e
  cases e
  exact lt_of_cell (hc 0 hl)
section
variable {k:Kn} {ml mr:Nat} {ra:Option Addr} {row0:List Bool} {rc B:Nat}
theorem Jw.lt {t:Tl} {vv:Value} {W:World} (h:Jw k ml mr ra row0 rc B t vv W) {b:Nat} (hb:Ft ml t b):b < W.heap.size:=by
 rcases hb with rfl|rfl|⟨q,hq,hb⟩
 ·exact lt_of_cell h.cm
 ·exact h.lq.lt.2
 ·exact (wi_own (h.lq.ins q hq) hb).2
theorem jm_w (kw:Kw k mr ra row0):Jm k (Jw k ml mr ra row0 rc B):=by
 intro t vv vv' W W' hj kk hn
 have nF:∀ b,Ft ml t b->¬ (b=k.vb\/vv.ownBlock=some b):=fun b hf hs=>by
  rcases hs with e|e
  ·exact (hj.ap b hf).2.1 e
  ·exact (hj.vo b e).1 hf
 have nr:¬ (mr=k.vb\/vv.ownBlock=some mr):=fun hs=>by
  rcases hs with e|e
  ·exact kw.mv e
  ·exact (hj.vo mr e).2.1 rfl
 have lm:ml < W.heap.size:=lt_of_cell hj.cm
 have lr:mr < W.heap.size:=lt_of_cell hj.cr
 refine ⟨by rw [kk.cell (p:=⟨ml,0,none⟩) lm (nF ml (.inl rfl))];exact hj.cm,by rw [kk.frozen (p:=⟨ml,0,none⟩) lm (nF ml (.inl rfl))];exact hj.fm,by rw [kk.cell (p:=⟨mr,0,none⟩) lr nr];exact hj.cr,bools_kept hj.rb kk (fun x hx hl hs=>?_),hj.lq.kept kk (nF _ (.inr (.inl rfl))) (fun q hq b hb=>nF b (.inr (.inr ⟨q,hq,hb⟩))),hj.mg,hj.mo,hj.ap,fun b hb=>?_⟩
 ·rcases hs with e|e
  ·exact kw.rv x hx hl e
  ·exact (hj.vo _ e).2.2 x hx hl rfl
 ·rcases hn b hb with e|e
  ·exact hj.vo b e
  ·exact ⟨fun hf=>by have:=hj.lt hf;omega,by omega,fun x hx hl=>by have:=ra_lt hj.rb hx hl;omega⟩
/-- The list has grown. -/
theorem wl_w {t t1:Tl} {vs:List Int} {vv:Value} {W W':World} (hW:Wl k (Jw k ml mr ra row0 rc B) t vs vv W) (kk:Kept (Sw ml t) W W') (hj:Jw k ml mr ra row0 rc B t1 vv W'):Wl k (Jw k ml mr ra row0 rc B) t1 vs vv W':=by
 have ap:=fun b (h:Sw ml t b)=>hW.j.ap b h.ft
 exact ⟨hW.gm.kept kk (fun h=>(ap _ h).1 rfl),bools_kept hW.ow kk (fun x hx hl hs=>(ap _ hs).2.2.2.2.2.2.1 x hx hl rfl),
  by rw [kk.cell (p:=⟨k.vb,0,none⟩) (lt_of_cell hW.vc) (fun h=>(ap _ h).2.1 rfl)];exact hW.vc,
  by rw [kk.frozen (p:=⟨k.vb,0,none⟩) (lt_of_cell hW.vc) (fun h=>(ap _ h).2.1 rfl)];exact hW.vf,
  hW.vo.kept kk (fun i hi hs=>(hW.j.vo i hi).1 hs.ft),
  by rw [kk.cell (p:=⟨k.gb,0,none⟩) (lt_of_cell hW.gi) (fun h=>(ap _ h).2.2.1 rfl)];exact hW.gi,
  by rw [kk.cell (p:=⟨k.fb,0,none⟩) (lt_of_cell hW.fr) (fun h=>(ap _ h).2.2.2.1 rfl)];exact hW.fr,
  by rw [kk.cell (p:=⟨k.wb,0,none⟩) (lt_of_cell hW.wi) (fun h=>(ap _ h).2.2.2.2.1 rfl)];exact hW.wi,
  hj,Nat.le_trans hW.bl kk.size,hW.nb⟩
theorem PoX.imp {T:Type} {J:T->Value->World->Prop} {SJ:T->Nat->Prop} {W:World} {t:T} {vs:List Int} {vv:Value} {R R':T->Prop} (h:∀ t,R t->R' t) {e:Ending} {W':World} (hp:PoX k J SJ W t vs vv R e W'):PoX k J SJ W t vs vv R' e W':=by
 obtain ⟨t',h1,h2⟩:=hp
 exact ⟨t',h t' h1,h2⟩
def pks (t:Tl):List Pk:=t.qs.map Pq.pk
theorem pks_len (t:Tl):(pks t).length=t.qs.length:=List.length_map _
/-- Where the walk is right. -/
def FW (k:Kn) (ml mr:Nat) (ra:Option Addr) (row0:List Bool) (rc B:Nat) (row:List Bool):Prop:=∀ (F:Nat->Bool) (vs:List Int) (t:Tl) (vv:Value) (W:World) (d:Bool),Wl k (Jw k ml mr ra row0 rc B) t vs vv W->k.OL.drop vs.length=row.map (ownF k.v)->row0.drop vs.length=row->vs.length+row.length=row0.length->dc row F=d->k.v=(d.toNat:Int)->t.qs.length+2 ^ row.length<=5000 ->
 Calls Try.prog 58 #[tv (row.length:Int) (bs (tab row.length F)),ptr k.g,ptr k.vb,ptr k.gb,ptr k.wb] W (PoX k (Jw k ml mr ra row0 rc B) (Sw ml) W t vs vv fun t'=>pks t'=pks t++wn k.v row F vs)
theorem fw_all (ks:Ks k) (kw:Kw k mr ra row0) (hg:k.give=.func (.func 30) #[] #[ptr mr,ptr ml]) (h12:row0.length<=12) (hrc:row0.length<=rc):∀ row,FW k ml mr ra row0 rc B row:=by
 have jm:=jm_w (ml:=ml) (rc:=rc) (B:=B) kw
 have hS:∀ (t:Tl) vv W,Jw k ml mr ra row0 rc B t vv W->∀ b,Sw ml t b->b < W.heap.size:=fun t vv W hj b hb=>hj.lt hb.ft
 have known:∀ (row:List Bool) (F:Nat->Bool) (vs:List Int) (t:Tl) (vv:Value) (W:World) (d:Bool),Wl k (Jw k ml mr ra row0 rc B) t vs vv W->vs.length+row.length=row0.length->dc row F=d->k.v=(d.toNat:Int)->0<=knw row.length F->wn k.v row F vs=[]->Calls Try.prog 58 #[tv (row.length:Int) (bs (tab row.length F)),ptr k.g,ptr k.vb,ptr k.gb,ptr k.wb] W (PoX k (Jw k ml mr ra row0 rc B) (Sw ml) W t vs vv fun t'=>pks t'=pks t++wn k.v row F vs):=fun row F vs t vv W d hW hl hd hv hk hw=>by
  refine (iFromKnown k _ (Sw ml) ks jm W t vs vv row.length F (by omega) true hW (by rw [kn_v hk hd];cases d<;>rfl) (by rw [kn_v hk hd,hv];simp)).mono ?_
  exact fun e w' h=>⟨t,by rw [hw,List.append_nil],h⟩
 intro row
 induction row with
 | nil=>exact fun F vs t vv W d hW ho hr hl hd hv hq=>known [] F vs t vv W d hW hl hd hv (by rw [show knw ([]:List Bool).length F=((F 0).toNat:Int) from knw_same (fun j hj=>by have:j=0:=(by simpa using hj);rw [this])];omega) rfl
 | cons q r ih =>
   intro F vs t vv W d hW ho hr hl hd hv hq
   by_cases hk:0<=knw (r.length+1) F
   ·exact known (q :: r) F vs t vv W d hW hl hd hv hk (by unfold wn;rw [if_pos hk])
   ·rw [List.length_cons] at hl hq ⊢
    have hkb:bitB (knw (r.length+1) F)=false:=decide_eq_false (by omega)
    have hlt:vs.length < k.OL.length:=by
     have:=congrArg List.length ho
     rw [List.length_drop,List.length_map,List.length_cons] at this
     omega
    have hqo:k.OL[vs.length]=(q==(k.v==0)):=by
     have:=ho
     rw [List.drop_eq_getElem_cons hlt,List.map_cons] at this
     exact (List.cons.inj this).1
    have ho':∀ b:Int,k.OL.drop (vs++[b]).length=r.map (ownF k.v):=fun b=>by
     have:=ho
     rw [List.drop_eq_getElem_cons hlt,List.map_cons] at this
     rw [List.length_append,List.length_singleton]
     exact (List.cons.inj this).2
    have hr':∀ b:Int,row0.drop (vs++[b]).length=r:=fun b=>by
     have:=hr
     rw [List.drop_eq_getElem_cons (by omega:vs.length < row0.length)] at this
     rw [List.length_append,List.length_singleton]
     exact (List.cons.inj this).2
    have hp:=Nat.two_pow_pos r.length
    rw [Nat.pow_succ] at hq
    have hw:∀ (b:Nat),b<=1->dc r (hb r.length b F)=d->∀ (t1:Tl) vv1 W1,t1.qs.length+2 ^ r.length<=5000->Wl k (Jw k ml mr ra row0 rc B) t1 vs vv1 W1->Calls Try.prog 56 #[.int .i64 (b:Int),tv ((r.length+1:Nat):Int) (bs (tab (r.length+1) F)),ptr k.vb,ptr k.fb] W1 (PoX k (Jw k ml mr ra row0 rc B) (Sw ml) W1 t1 vs vv1 fun t'=>pks t'=pks t1++wn k.v r (hb r.length b F) (vs++[(b:Int)])):=fun b hb1 hdb t1 vv1 W1 hq1 hW1 =>
     iWithX k _ (Sw ml) ks jm W1 t1 _ vs vv1 (b:Int) _ _ _ _ (by omega) hW1 (fun W=>iHalf r.length b F W (by omega) hb1) (fun vv2 W2 hW2 =>
      ih (hb r.length b F) (vs++[(b:Int)]) t1 vv2 W2 d hW2 (ho' _) (hr' _) (by rw [List.length_append,List.length_singleton];omega) hdb hv hq1)
    by_cases hown:(q==(k.v==0))=true
    ·obtain ⟨x,hx1,hxc,hxd⟩:=ch_v q r F
     have e:wn k.v (q :: r) F vs=⟨vs,(x:Int)⟩ :: wn k.v r (hb r.length x F) (vs++[(x:Int)]):=by
      conv=>lhs;unfold wn
      rw [if_neg hk,if_pos hown,hxc]
      have h2:x=0\/x=1:=by omega
      rcases h2 with rfl|rfl<;>rfl
     refine iFromOwnX k _ (Sw ml) ks jm hS W t (fun t1=>pks t1=pks t++[⟨vs,(x:Int)⟩]) _ vs vv (r.length+1) F (by omega) mr ml hg (x:Int) hW hkb hlt (by rw [hqo];exact hown) (fun W1 hW1=>?_) (fun t1 hR1 vv1 W1 hW1=>?_)
     ·obtain ⟨va,vc,evv,hI⟩:=hW1.vo.form
      subst evv
      have hj:=hW1.j
      refine (iWin1 W1 B t.g t.cap ml mr t.qs ra row0 rc va vs vc (r.length+1) F (x:Int) hj.cm hj.fm hj.cr hj.rb hrc hj.lq hI.ints hj.mg hj.mo (fun h=>(hj.ap ml (.inl rfl)).2.2.2.2.2.1 h.symm) (fun h=>(hj.ap t.g (.inr (.inl rfl))).2.2.2.2.2.1 h.symm) (by omega) (by omega) h12 (by omega) (by rw [hr,hxc])).mono ?_
      rintro e w' ⟨he,g',cap',p,hp1,hp2,hp3,hp4,hp5,hp6,hp7,hp8⟩
      have lm:ml < W1.heap.size:=lt_of_cell hj.cm
      have lr:mr < W1.heap.size:=lt_of_cell hj.cr
      have hft:∀ b,Ft ml ⟨g',cap',t.qs++[p]⟩ b->Ft ml t b\/W1.heap.size<=b:=fun b hb=>by
       rcases hb with h|h|⟨y,hy,h⟩
       ·exact .inl (.inl h)
       ·rcases hp7 with h2|h2
        ·exact .inl (.inr (.inl (by rw [h];exact h2)))
        ·exact .inr (by rw [h];exact h2)
       ·rcases List.mem_append.1 hy with h2|h2
        ·exact .inl (.inr (.inr ⟨y,h2,h⟩))
        ·rw [List.mem_singleton.1 h2] at h
         exact .inr (hp8 b h)
      refine ⟨he,⟨g',cap',t.qs++[p]⟩,?_,wl_w hW1 hp6 ⟨?_,hp4,?_,?_,hp5,?_,?_,?_,?_⟩,hp6,fun i hi=>?_⟩
      ·show (t.qs++[p]).map Pq.pk=_
       rw [List.map_append]
       show _++[(⟨p.l,p.v⟩:Pk)]=_
       rw [hp1,hp2]
       rfl
      ·show w'.cell? ⟨ml,0,none⟩=some (Value.slice (some ⟨g',0,none⟩) (t.qs++[p]).length cap')
       rw [List.length_append,List.length_singleton]
       exact hp3
      ·rw [hp6.cell (p:=⟨mr,0,none⟩) lr (fun h=>(hj.ap mr (Sw.ft h)).2.2.2.2.2.1 rfl)]
       exact hj.cr
      ·exact bools_kept hj.rb hp6 (fun y hy hyl hs=>(hj.ap _ (Sw.ft hs)).2.2.2.2.2.2.2 y hy hyl rfl)
      ·rcases hp7 with h|h
       ·intro h2
        exact hj.mg (h2.trans h)
       ·intro h2
        have h3:ml=g':=h2
        omega
      ·intro y hy h
       rcases List.mem_append.1 hy with h2|h2
       ·exact hj.mo y h2 h
       ·rw [List.mem_singleton.1 h2] at h
        have:=hp8 ml h
        omega
      ·intro b hb
       rcases hft b hb with h|h
       ·exact hj.ap b h
       ·have l1:k.g < W1.heap.size:=lt_of_cell hW1.gm.c0
        have l2:k.vb < W1.heap.size:=lt_of_cell hW1.vc
        have l3:k.gb < W1.heap.size:=lt_of_cell hW1.gi
        have l4:k.fb < W1.heap.size:=lt_of_cell hW1.fr
        have l5:k.wb < W1.heap.size:=lt_of_cell hW1.wi
        exact ⟨by omega,by omega,by omega,by omega,by omega,by omega,fun y hy hyl=>by have:=ra_lt hW1.ow hy hyl;omega,fun y hy hyl=>by have:=ra_lt hj.rb hy hyl;omega⟩
      ·intro b hb
       have h1:=hj.vo b hb
       refine ⟨fun hf=>?_,h1.2⟩
       rcases hft b hf with h|h
       ·exact h1.1 h
       ·have:=(hW1.vo.lt b hb).2
        omega
      ·rcases hi with h|h
       ·exact .inl (.inl h)
       ·rcases hp7 with h2|h2
        ·exact .inl (.inr (by rw [h];exact h2))
        ·exact .inr (by rw [h];exact h2)
     ·have hlen:=congrArg List.length hR1
      rw [List.length_append,pks_len,pks_len,List.length_singleton] at hlen
      refine (hw x hx1 (hxd.trans hd) t1 vv1 W1 (by omega) hW1).mono fun e' w' h=>PoX.imp (fun t' ht=>?_) h
      rw [ht,hR1,e,List.append_assoc]
      rfl
    ·obtain ⟨h0,h1⟩:=oth_v hv (Bool.eq_false_iff.mpr hown) hd
     have e:wn k.v (q :: r) F vs=wn k.v r (hb r.length 0 F) (vs++[0])++wn k.v r (hb r.length 1 F) (vs++[1]):=by
      conv=>lhs;unfold wn
      rw [if_neg hk,if_neg hown]
     refine iFromOtherX k _ (Sw ml) ks jm hS W t (fun t0=>pks t0=pks t++wn k.v r (hb r.length 0 F) (vs++[0])) _ vs vv (r.length+1) F (by omega) hW hkb hlt (by rw [hqo];exact Bool.eq_false_iff.mpr hown) (fun vv1 W1 hW1=>hw 0 (by omega) h0 t vv1 W1 (by omega) hW1) (fun t0 hR0 vv1 W1 hW1=>?_)
     have hlen:=congrArg List.length hR0
     have hwl:=wn_len k.v r (hb r.length 0 F) (vs++[0])
     rw [List.length_append,pks_len,pks_len] at hlen
     refine (hw 1 (by omega) h1 t0 vv1 W1 (by omega) hW1).mono fun e' w' h=>PoX.imp (fun t' ht=>?_) h
     rw [ht,hR0,e,List.append_assoc]
     rfl
end
end Wr3
end Go.Proofs.Ytfhdbcfhhbdiiaa
