import Derived.Deep.Upon
import Derived.Test.YthanhcobfehmnaaGreatPkQU228
namespace Go.Proofs.YthanhcobfehmnaaGreat
set_option maxRecDepth 100000
set_option maxHeartbeats 8000000
set_option linter.unusedVariables false
namespace Vc1
open Nd0 Pl1 Tm0 Tm1 Tm3 Tm4 Tm5 Tm6 Tm8 Tm12 Tm14 Tr0 Vl1 Vl2 Vl3 Vl4 Vl5 Aq0 Aq2 Aq12 Vc0
theorem ext8 {a b:List Int} (ha:a.length=8) (hb:b.length=8) (h:∀ v,v < 8->a.getD v 0=b.getD v 0):a=b:=by
 refine List.ext_getElem (by rw [ha,hb]) fun i h1 h2=>?_
 have:=h i (by omega)
 rw [List.getD_eq_getElem?_getD,List.getD_eq_getElem?_getD,List.getElem?_eq_getElem h1,List.getElem?_eq_getElem h2] at this
 exact this
theorem map8 (g:Nat->Int) {v:Nat} (hv:v < 8):((List.range 8).map g).getD v 0=g v:=by
 rw [List.getD_eq_getElem?_getD,List.getElem?_map,List.getElem?_range hv];rfl
theorem zero8 (v:Nat):(List.replicate 8 (0:Int)).getD v 0=0:=by
 rw [List.getD_eq_getElem?_getD,List.getElem?_replicate]
 split<;>rfl
section
variable {t:List Nd} (hT:termOk t=true) (hw:(nth t (t.length - 1)).w=1) (hA:termOk (clAll t)=true)
include hT hA
theorem ok_k {k:Nat} (hk:k<=8):termOk (t++clTo t k)=true:=cl_less (term_len hT).1 (8 - k) k (by omega) hA
omit hA hT in
theorem more_k {k:Nat} (h:¬ ffTop t (7 - k)=80):t++clTo t (k+1)=(t++clTo t k)++[⟨19,1,((7 - k:Nat):Int),((t++clTo t k).length:Int) - 1,widL t (7 - k),0⟩]:=by
 rw [clTo_more h,List.append_assoc,List.length_append]
 unfold clN
 congr 4
theorem len_k {k:Nat} (hk:k < 8) (h:¬ ffTop t (7 - k)=80):(t++clTo t k).length < 80:=by
 have h1:=(term_len (ok_k hT hA (k:=k+1) (by omega))).2
 rw [more_k h,List.length_append] at h1
 simp only [List.length_cons,List.length_nil] at h1
 omega
include hw
omit hA hT in
theorem w_k:∀ k,(nth (t++clTo t k) ((t++clTo t k).length - 1)).w=1:=by
 intro k
 induction k with
 | zero =>
   have e0:t++clTo t 0=t:=List.append_nil t
   rw [e0];exact hw
 | succ k ih =>
   by_cases h:ffTop t (7 - k)=80
   ·rw [clTo_skip h];exact ih
   ·rw [more_k h]
    have e:((t++clTo t k)++[(⟨19,1,((7 - k:Nat):Int),((t++clTo t k).length:Int) - 1,widL t (7 - k),0⟩:Nd)]).length - 1=(t++clTo t k).length:=by rw [List.length_append];rfl
    rw [e,nth_app_last]
omit hw in
theorem one_k {k:Nat} (hk:k < 8) (h:¬ ffTop t (7 - k)=80):root (t++clTo t (k+1))=.one 19 1 ((7 - k:Nat):Int) (widL t (7 - k)) (root (t++clTo t k))/\1<=widL t (7 - k)/\widL t (7 - k)<=8:=by
 have h1:=ok_k hT hA (k:=k+1) (by omega)
 have h2:=ok_k hT hA (k:=k) (by omega)
 have hrt:=(rt_all (down_of h1) (fun i hi=>term_node h1 hi) ((t++clTo t (k+1)).length - 1) (by have:=(term_len h1).1;omega)).1
 have e:root (t++clTo t (k+1))=.one 19 1 ((7 - k:Nat):Int) (widL t (7 - k)) (root (t++clTo t k)):=by
  rw [more_k h] at h1 ⊢
  exact root_snoc h2 h1 (parts_one (.inr (.inr (.inl rfl)))) (.inr (.inr (.inl rfl)))
 refine ⟨e,?_⟩
 have hrt:Rt (root (t++clTo t (k+1))):=hrt
 rw [e] at hrt
 obtain ⟨_,_,_,hop⟩:=hrt
 rcases hop with h9|h9|h9
 ·omega
 ·omega
 ·exact ⟨h9.2.2.2.2.2.1,h9.2.2.2.2.2.2⟩
theorem down {e:List Int} (h8:valueL (clAll t) e=some 1):∀ d k,k+d=8->∀ e':List Int,e'.length=8->(∀ v,v < 8->(ffTop t v=80\/8<=v+k)->e'.getD v 0=e.getD v 0) ->
 (∀ v,v < 8->¬ ffTop t v=80->v+k < 8->0<=e'.getD v 0/\e'.getD v 0 < ((2 ^ (widL t v).toNat:Nat):Int))->valueL (t++clTo t k) e'=some 1:=by
 have he:e.length=8:=(value_parts.1 h8).2.1
 intro d
 induction d with
 | zero =>
   intro k hk e' he' h1 _
   have hk8:k=8:=by omega
   subst hk8
   have:e'=e:=ext8 he' he (fun v hv=>h1 v hv (.inr (by omega)))
   rw [this];exact h8
 | succ d ih =>
   intro k hk e' he' h1 h2
   by_cases h:ffTop t (7 - k)=80
   ·have h9:=ih (k+1) (by omega) e' he' (fun v hv hc=>h1 v hv (by
     rcases hc with hc|hc
     ·exact .inl hc
     ·by_cases hvk:v=7 - k
      ·subst hvk;exact .inl h
      ·exact .inr (by omega))) (fun v hv hc hlt=>h2 v hv hc (by omega))
    rw [clTo_skip h] at h9
    exact h9
   ·obtain ⟨_,hb1,hb8⟩:=one_k hT hA (k:=k) (by omega) h
    have h9:=ih (k+1) (by omega) (e'.set (7 - k) (e.getD (7 - k) 0)) (by rw [List.length_set];exact he') (fun v hv hc=>by
     rw [getI_set]
     by_cases hvk:7 - k=v
     ·subst hvk
      rw [if_pos ⟨rfl,by omega⟩]
     ·rw [if_neg (by omega)]
      exact h1 v hv (by rcases hc with hc|hc
                        ·exact .inl hc
                        ·exact .inr (by omega))) (fun v hv hc hlt=>by
     rw [getI_set,if_neg (by omega)]
     exact h2 v hv hc (by omega))
    rw [more_k h] at h9
    obtain ⟨g1,g2⟩:=value_quant (ok_k hT hA (by omega)) (w_k hw k) (len_k hT hA (by omega) h) (.inl rfl) (by omega) ⟨hb1,hb8⟩ h9
    obtain ⟨r0,r1⟩:=h2 (7 - k) (by omega) h (by omega)
    have hi:(e'.getD (7 - k) 0).toNat < 2 ^ (widL t (7 - k)).toNat:=by omega
    have g3:=g1 _ hi
    have es:(e'.set (7 - k) (e.getD (7 - k) 0)).set ((7 - k:Nat):Int).toNat (((e'.getD (7 - k) 0).toNat:Nat):Int)=e':=by
     refine ext8 (by rw [List.length_set,List.length_set];exact he') he' fun v hv=>?_
     rw [Int.toNat_natCast,getI_set,List.length_set,getI_set]
     by_cases hvk:7 - k=v
     ·subst hvk
      rw [if_pos ⟨rfl,by omega⟩];omega
     ·rw [if_neg (by omega),if_neg (by omega)]
    rw [es] at g3
    simp only [vT] at g2
    have hall:((List.range (2 ^ (widL t (7 - k)).toNat)).all fun i=>vT (root (t++clTo t k)) ((e'.set (7 - k) (e.getD (7 - k) 0)).set ((7 - k:Nat):Int).toNat (i:Int))==1)=true:=by
     rw [if_pos trivial] at g2
     by_cases hc:((List.range (2 ^ (widL t (7 - k)).toNat)).all fun i=>vT (root (t++clTo t k)) ((e'.set (7 - k) (e.getD (7 - k) 0)).set ((7 - k:Nat):Int).toNat (i:Int))==1)=true
     ·exact hc
     ·rw [if_neg hc] at g2;cases g2
    have g4:=List.all_eq_true.1 hall _ (List.mem_range.2 hi)
    rw [es] at g4
    rw [g3]
    congr 1
    simpa using g4
omit hw in
theorem needs {r:List Nat} (h8:needT (root (clAll t))=some r):∀ d k,k+d=8->∃ s,needT (root (t++clTo t k))=some s:=by
 intro d
 induction d with
 | zero =>
   intro k hk
   have hk8:k=8:=by omega
   subst hk8
   exact ⟨r,h8⟩
 | succ d ih =>
   intro k hk
   obtain ⟨s,hs⟩:=ih (k+1) (by omega)
   by_cases h:ffTop t (7 - k)=80
   ·rw [clTo_skip h] at hs;exact ⟨s,hs⟩
   ·rw [(one_k hT hA (k:=k) (by omega) h).1] at hs
    simp only [needT] at hs
    obtain ⟨a,h2,_⟩:=Option.bind_eq_some_iff.1 hs
    exact ⟨a,h2⟩
omit hw in
theorem need_same {r r0:List Nat} (h8:needT (root (clAll t))=some r) (h0:needT (root t)=some r0):∀ k,k<=8->∀ s,needT (root (t++clTo t k))=some s->∀ v,v+k < 8->s.getD v 0=r0.getD v 0:=by
 intro k
 induction k with
 | zero =>
   intro _ s hs v _
   have hs:needT (root (t++[]))=some s:=hs
   rw [List.append_nil,h0] at hs
   rw [Option.some.inj hs]
 | succ k ih =>
   intro hk s hs v hv
   by_cases h:ffTop t (7 - k)=80
   ·rw [clTo_skip h] at hs
    exact ih (by omega) s hs v (by omega)
   ·rw [(one_k hT hA (k:=k) (by omega) h).1] at hs
    simp only [needT] at hs
    obtain ⟨a,h2,hn⟩:=Option.bind_eq_some_iff.1 hs
    rw [show quant 19=true from rfl,if_pos rfl] at hn
    split at hn
    ·cases hn
    ·have hn:=(Option.some.inj hn).symm
     subst hn
     rw [getD_set,if_neg (by omega)]
     exact ih (by omega) a h2 v (by omega)
omit hw in
theorem need_width {r r0:List Nat} (h8:needT (root (clAll t))=some r) (h0:needT (root t)=some r0) {v:Nat} (hv:v < 8) (hf:¬ ffTop t v=80) (hne:r0.getD v 0≠0):r0.getD v 0=2 ^ (widL t v).toNat/\1<=widL t v/\widL t v<=8:=by
 have e:7 - (7 - v)=v:=by omega
 obtain ⟨s,hs⟩:=needs hT hA h8 v (7 - v+1) (by omega)
 have h1:=one_k hT hA (k:=7 - v) (by omega) (by rw [e];exact hf)
 rw [h1.1] at hs
 simp only [needT] at hs
 obtain ⟨a,h2,hn⟩:=Option.bind_eq_some_iff.1 hs
 rw [show quant 19=true from rfl,if_pos rfl,e] at hn
 have h3:=need_same hT hA h8 h0 (7 - v) (by omega) a h2 v (by omega)
 rw [e] at h1
 refine ⟨?_,h1.2⟩
 rw [Int.toNat_natCast,h3] at hn
 split at hn
 ·cases hn
 ·rename_i hc
  by_cases h9:r0.getD v 0=2 ^ (widL t v).toNat
  ·exact h9
  ·exact absurd ⟨hne,h9⟩ hc
theorem closed_one (h:valueL (clAll t) (List.replicate 8 0)=some 1) {e:List Int} (he:e.length=8) (hf:fitT (root t) e=true):vT (root t) e=1:=by
 obtain ⟨_,_,_,hf8,_⟩:=value_parts.1 h
 obtain ⟨r,h8⟩:∃ r,needT (root (clAll t))=some r:=by
  unfold fitT at hf8
  cases hn:needT (root (clAll t)) with
  | none=>rw [hn] at hf8;cases hf8
  | some r=>exact ⟨r,rfl⟩
 obtain ⟨r0,h0,hF⟩:∃ r0,needT (root t)=some r0/\Fits r0 e:=by
  unfold fitT at hf
  cases hn:needT (root t) with
  | none=>rw [hn] at hf;cases hf
  | some r=>rw [hn] at hf;exact ⟨r,rfl,fit_iff.1 hf⟩
 obtain ⟨hl1,hl80⟩:=term_len hT
 have hD:=down_of hT
 have hfree:∀ v,v < 8->r0.getD v 0≠0->¬ ffTop t v=80:=fun v hv hne=>(free_top hD hl1 hl80 hv).1 (by
  have h1:=need_free hT (t.length - 1) (by omega) r0 h0 v hv hne
  unfold freeTop
  rw [show (t.length:Int) - 1=((t.length - 1:Nat):Int) by omega]
  exact h1)
 have hd:=down hT hw hA h 8 0 rfl ((List.range 8).map fun v=>if r0.getD v 0=0 then 0 else e.getD v 0) (by simp) (fun v hv hc=>by
  rw [map8 _ hv,zero8]
  by_cases hz:r0.getD v 0=0
  ·rw [if_pos hz]
  ·rcases hc with hc|hc
   ·exact absurd hc (hfree v hv hz)
   ·omega) (fun v hv hc _=>by
  rw [map8 _ hv]
  by_cases hz:r0.getD v 0=0
  ·rw [if_pos hz]
   exact ⟨Int.le_refl _,by exact_mod_cast Nat.two_pow_pos _⟩
  ·rw [if_neg hz]
   obtain ⟨g1,g2,g3⟩:=need_width hT hA h8 h0 hv hc hz
   have g4:=hF v hv (widL t v).toNat (by omega) (by omega) (by rw [g1,Nat.testBit_two_pow];simp)
   rw [show (((widL t v).toNat:Nat):Int)=widL t v by omega] at g4
   obtain ⟨_,_,g5,g6⟩:=wok_iff.1 g4
   rw [p2_nat] at g6
   exact ⟨g5,g6⟩)
 have hd:valueL (t++[]) _=some 1:=hd
 rw [List.append_nil] at hd
 have h1:=(value_parts.1 hd).2.2.2.2
 rw [<- h1]
 refine agree _ r0 _ _ (rt_all hD (fun i hi=>term_node hT hi) _ (by omega)).1 h0 he (by simp) fun v hv hne=>?_
 rw [map8 _ hv,if_neg hne]
theorem closed_zero:∀ k,k<=8->∀ e:List Int,valueL (t++clTo t k) e=some 0->∃ e',valueL t e'=some 0:=by
 intro k
 induction k with
 | zero =>
   intro _ e h
   have h:valueL (t++[]) e=some 0:=h
   rw [List.append_nil] at h
   exact ⟨e,h⟩
 | succ k ih =>
   intro hk e h9
   by_cases h:ffTop t (7 - k)=80
   ·rw [clTo_skip h] at h9
    exact ih (by omega) e h9
   ·obtain ⟨_,hb1,hb8⟩:=one_k hT hA (k:=k) (by omega) h
    rw [more_k h] at h9
    obtain ⟨g1,g2⟩:=value_quant (ok_k hT hA (by omega)) (w_k hw k) (len_k hT hA (by omega) h) (.inl rfl) (by omega) ⟨hb1,hb8⟩ h9
    simp only [vT] at g2
    rw [if_pos trivial] at g2
    by_cases hc:((List.range (2 ^ (widL t (7 - k)).toNat)).all fun i=>vT (root (t++clTo t k)) (e.set ((7 - k:Nat):Int).toNat (i:Int))==1)=true
    ·rw [if_pos hc] at g2;cases g2
    ·obtain ⟨i,hi,hne⟩:∃ i:Nat,i < 2 ^ (widL t (7 - k)).toNat/\vT (root (t++clTo t k)) (e.set ((7 - k:Nat):Int).toNat (i:Int))≠1:=by
      apply Classical.byContradiction
      intro hno
      apply hc
      rw [List.all_eq_true]
      intro i hi
      rw [beq_iff_eq]
      apply Classical.byContradiction
      intro h7
      exact hno ⟨i,List.mem_range.1 hi,h7⟩
     have g3:=g1 i hi
     have g4:=value_wok g3
     rw [w_k hw k] at g4
     obtain ⟨_,_,g5,g6⟩:=wok_iff.1 g4
     have g7:p2 (1:Int).toNat=2:=rfl
     have g8:vT (root (t++clTo t k)) (e.set ((7 - k:Nat):Int).toNat (i:Int))=0:=by
      rw [g7] at g6
      omega
     rw [g8] at g3
     exact ih (by omega) _ g3
end
theorem holds_closed {t:List Nd} {x:Int} (h:holdsL (clL t)=some x):clB t=true/\termOk t=true/\(nth t (t.length - 1)).w=1/\termOk (clAll t)=true/\clL t=clAll t/\sentB (clAll t)=true/\valueL (clAll t) (List.replicate 8 0)=some x/\(x=0\/x=1):=by
 unfold holdsL at h
 cases hs:sentB (clL t)
 ·rw [hs] at h;cases h
 ·rw [hs,if_pos rfl] at h
  have hb:clB t=true:=by
   cases hb:clB t
   ·have:clL t=[]:=by unfold clL;rw [hb];rfl
    rw [this,sent_term (by decide)] at hs
    cases hs
   ·rfl
  have hl:clL t=clAll t:=by unfold clL;rw [hb];rfl
  rw [hl] at h hs
  have hb2:=hb
  unfold clB at hb2
  simp only [Bool.and_eq_true,beq_iff_eq] at hb2
  refine ⟨hb,hb2.1.1,hb2.1.2,hb2.2,hl,hs,h,?_⟩
  have g4:=value_wok h
  have hw:=w_k hb2.1.2 8
  have hw:(nth (clAll t) ((clAll t).length - 1)).w=1:=hw
  rw [hw] at g4
  obtain ⟨_,_,g5,g6⟩:=wok_iff.1 g4
  have g7:p2 (1:Int).toNat=2:=rfl
  rw [g7] at g6
  omega
end Vc1
namespace Pg1
open Go.RowKit
open Nd0 Tm0 Tm5 Pl1 Ap0
open Ws1 (ret_int ret_bool)
def cnt (op:Int):Nat:=if op=2\/op=17\/op=19\/op=20 then 1 else if 3<=op/\op<=16 then 2 else if op=18 then 3 else 0
theorem cnt_parts (n:Nd):(parts n).length=cnt n.op:=by
 unfold parts cnt;split
 ·rfl
 ·split
  ·rfl
  ·split<;>rfl
theorem cnt_le (op:Int):cnt op<=3:=by unfold cnt;split;omega;split;omega;split<;>omega
def numbered (op:Int):Bool:=op==0||op==1||op==17||quant op
theorem iWidthOk (m:Int) (w:World) :
 Calls Tryz.prog 68 #[.int .i64 m] w fun e w'=>e=.returned (.bool (decide (1<=m/\m<=8)))/\w'=w:=by
 by_cases h1:1<=m<;>by_cases h2:m<=8
 all_goals
  go_enter Tryz.func68,Tryz.ntmps68
  go_wp2
  go_ret
  exact ⟨ret_bool (by simp<;>omega),rfl⟩
theorem iWordOk (m a:Int) (w:World) :
 Calls Tryz.prog 89 #[.int .i64 m,.int .i64 a] w fun e w'=>e=.returned (.bool (wok m a))/\w'=w:=by
 by_cases h:1<=m/\m<=8
 ·have hd:decide (1<=m/\m<=8)=true:=by simpa using h
  by_cases ha:0<=a
  all_goals
   go_enter Tryz.func89,Tryz.ntmps89
   go_wp2_with (go_at_call 68;refine (iWidthOk _ _).mono ?_;rintro e w' ⟨rfl,rfl⟩)
   go_ret
   exact ⟨ret_bool (by rw [Bool.eq_iff_iff];try rw [wrap_p2 _ (by omega)]
                       simp [wok];omega),rfl⟩
 ·have hd:decide (1<=m/\m<=8)=false:=by simpa using h
  go_enter Tryz.func89,Tryz.ntmps89
  go_wp2_with (go_at_call 68;refine (iWidthOk _ _).mono ?_;rintro e w' ⟨rfl,rfl⟩)
  go_ret
  exact ⟨ret_bool (by unfold wok;symm;rw [decide_eq_false_iff_not];omega),rfl⟩
theorem iVarOk (m:Int) (w:World) :
 Calls Tryz.prog 104 #[.int .i64 m] w fun e w'=>e=.returned (.bool (decide (0<=m/\m<=7)))/\w'=w:=by
 by_cases h1:0<=m<;>by_cases h2:m < 8
 all_goals
  go_enter Tryz.func104,Tryz.ntmps104
  go_wp2
  go_ret
  exact ⟨ret_bool (by simp<;>omega),rfl⟩
theorem iQuant (op:Int) (w:World) :
 Calls Tryz.prog 86 #[.int .i64 op] w fun e w'=>e=.returned (.bool (quant op))/\w'=w:=by
 cases h1:(op==19)<;>cases h2:(op==20)
 all_goals
  go_enter Tryz.func86,Tryz.ntmps86
  go_wp2
  go_ret
  exact ⟨ret_bool (by unfold quant;rw [h1,h2];rfl),rfl⟩
theorem iOuter (op:Int) (w:World) :
 Calls Tryz.prog 125 #[.int .i64 op] w fun e w'=>e=.returned (.bool (outer op))/\w'=w:=by
 cases h1:(op==2)<;>cases h2:(op==3)<;>cases h3:(op==4)
 all_goals
  go_enter Tryz.func125,Tryz.ntmps125
  go_wp2_with (go_at_call 86;refine (iQuant _ _).mono ?_;rintro e w' ⟨rfl,rfl⟩)
  go_ret
  exact ⟨ret_bool (by unfold outer;rw [h1,h2,h3];rfl),rfl⟩
theorem iNumbered (op:Int) (w:World) :
 Calls Tryz.prog 103 #[.int .i64 op] w fun e w'=>e=.returned (.bool (numbered op))/\w'=w:=by
 cases h1:(op==0)<;>cases h2:(op==1)<;>cases h3:(op==17)
 all_goals
  go_enter Tryz.func103,Tryz.ntmps103
  go_wp2_with (go_at_call 86;refine (iQuant _ _).mono ?_;rintro e w' ⟨rfl,rfl⟩)
  go_ret
  exact ⟨ret_bool (by unfold numbered;rw [h1,h2,h3];rfl),rfl⟩
theorem iCount (op:Int) (w:World) :
 Calls Tryz.prog 73 #[.int .i64 op] w fun e w'=>e=.returned (.int .i64 (cnt op:Int))/\w'=w:=by
 have HC:Hid (∀ k:Nat,cnt op=k->(k:Int)=(cnt op:Int)):=fun k h=>by rw [h]
 have q1:(op==2)=false->(op==17)=false->quant op=false->¬ (op=2\/op=17\/op=19\/op=20):=by
  intro a b c;simp [quant] at a b c;omega
 have HQ:Hid ((op==2)=false->(op==17)=false->quant op=false->¬ (op=2\/op=17\/op=19\/op=20)):=q1
 have HR:Hid ((op==2)=true\/(op==17)=true\/quant op=true->(op=2\/op=17\/op=19\/op=20)):=by
  show _->_
  rintro (a|a|a)
  ·simp at a;omega
  ·simp at a;omega
  ·simp [quant] at a;omega
 clear q1
 cases h1:(op==2)
 ·cases h2:(op==17)
  ·cases h3:quant op
   ·have HN:=HQ.out h1 h2 h3
    have HN':Hid (¬ (op=2\/op=17\/op=19\/op=20)):=HN
    clear HN
    by_cases h4:3<=op
    ·by_cases h5:op<=16
     ·have HE:Hid (cnt op=2):=by
       show cnt op=2
       unfold cnt;rw [if_neg HN'.out,if_pos ⟨h4,h5⟩]
      go_enter Tryz.func73,Tryz.ntmps73
      go_wp2_with (go_at_call 86;refine (iQuant _ _).mono ?_;rintro e w' ⟨rfl,rfl⟩)
      go_ret
      exact ⟨ret_int (HC.out 2 HE.out),rfl⟩
     ·cases h6:(op==18)
      ·have HE:Hid (cnt op=0):=by
        show cnt op=0
        unfold cnt;rw [if_neg HN'.out,if_neg (by omega),if_neg (by simpa using h6)]
       go_enter Tryz.func73,Tryz.ntmps73
       go_wp2_with (go_at_call 86;refine (iQuant _ _).mono ?_;rintro e w' ⟨rfl,rfl⟩)
       go_ret
       exact ⟨ret_int (HC.out 0 HE.out),rfl⟩
      ·have HE:Hid (cnt op=3):=by
        show cnt op=3
        unfold cnt;rw [if_neg HN'.out,if_neg (by omega),if_pos (by simpa using h6)]
       go_enter Tryz.func73,Tryz.ntmps73
       go_wp2_with (go_at_call 86;refine (iQuant _ _).mono ?_;rintro e w' ⟨rfl,rfl⟩)
       go_ret
       exact ⟨ret_int (HC.out 3 HE.out),rfl⟩
    ·have h6:(op==18)=false:=by simp;omega
     have HE:Hid (cnt op=0):=by
      show cnt op=0
      unfold cnt;rw [if_neg HN'.out,if_neg (by omega),if_neg (by omega)]
     go_enter Tryz.func73,Tryz.ntmps73
     go_wp2_with (go_at_call 86;refine (iQuant _ _).mono ?_;rintro e w' ⟨rfl,rfl⟩)
     go_ret
     exact ⟨ret_int (HC.out 0 HE.out),rfl⟩
   ·have HE:Hid (cnt op=1):=by
     show cnt op=1
     unfold cnt;rw [if_pos (HR.out (.inr (.inr h3)))]
    go_enter Tryz.func73,Tryz.ntmps73
    go_wp2_with (go_at_call 86;refine (iQuant _ _).mono ?_;rintro e w' ⟨rfl,rfl⟩)
    go_ret
    exact ⟨ret_int (HC.out 1 HE.out),rfl⟩
  ·have HE:Hid (cnt op=1):=by
    show cnt op=1
    unfold cnt;rw [if_pos (HR.out (.inr (.inl h2)))]
   go_enter Tryz.func73,Tryz.ntmps73
   go_wp2_with (go_at_call 86;refine (iQuant _ _).mono ?_;rintro e w' ⟨rfl,rfl⟩)
   go_ret
   exact ⟨ret_int (HC.out 1 HE.out),rfl⟩
 ·have HE:Hid (cnt op=1):=by
   show cnt op=1
   unfold cnt;rw [if_pos (HR.out (.inl h1))]
  go_enter Tryz.func73,Tryz.ntmps73
  go_wp2_with (go_at_call 86;refine (iQuant _ _).mono ?_;rintro e w' ⟨rfl,rfl⟩)
  go_ret
  exact ⟨ret_int (HC.out 1 HE.out),rfl⟩
end Pg1
namespace Pg2
open Go.RowKit
open Nd0 Tm0 Tm5 Pl1 Ap0 Pg1
open Ws1 (ret_int ret_bool)
theorem app_ints {ops:Array Oper} {rest:List Oper} {o:Oper} {a:Act} {Q:Exit->Act->World->Prop} (W:World) (hgd:o.guard=none) (s x:Operand)
 (ho:o.op=.call { callee:=.builtin .append,args := #[s,x],argTypes := #[29,29] })
 (B:Nat) (v:Value) (l ys:List Int) (g c:Nat) (hs:a.eval s=v) (hx:a.eval x=.slice (some ⟨g,0,none⟩) ys.length c)
 (hy:∀ j (h:j < ys.length),W.cell? ⟨g,j,none⟩=some (.int .i64 ys[j])) (hp:0 < ys.length)
 (hown:Ows W B v l) (hB:B<=W.heap.size) (hlen:l.length+ys.length<=1048577)
 (h:∀ g cap w',Ows w' B (.slice (some ⟨g,0,none⟩) (l.length+ys.length) cap) (l++ys)->Kept (fun k=>v.ownBlock=some k) W w'->wpList Tryz.prog ops Q rest (a.put o.dst (.slice (some ⟨g,0,none⟩) (l.length+ys.length) cap)) w') :
 wpList Tryz.prog ops Q (o :: rest) a W:=by
 obtain ⟨i,hi,hzz⟩:=Option.map_eq_some_iff.1 infoInt
 simp only [Prod.mk.injEq] at hzz
 obtain ⟨hz,hsz,hb⟩:=hzz
 refine wpList_append_lies W hgd s x 29 ho B 3 i (.int .i64 0) 1 8 Tryz.underlying29 hi hz hsz hb rfl (by omega) v l.length (l.map fun x=>.int .i64 x) hs hown
  ⟨g,0,none⟩ ys.length c (ys.map fun x=>.int .i64 x) hx (by simp) ?_ ?_ hp (by unfold maxLen;omega) (by omega) hB _ rfl ?_
 ·intro j u hu
  have hadd:(⟨g,0,none⟩:Addr).add j=⟨g,j,none⟩:=by unfold Addr.add;split<;>simp_all
  rw [hadd]
  rw [List.getElem?_map] at hu
  obtain ⟨y,hy1,rfl⟩:=Option.map_eq_some_iff.1 hu
  obtain ⟨hj,rfl⟩:=List.getElem?_eq_some_iff.1 hy1
  exact hy j hj
 ·intro u hu
  obtain ⟨y,_,rfl⟩:=List.mem_map.1 hu
  rfl
 ·intro g cap w' h1 h2 h3 h4
  refine h g cap w' ?_ ?_
  ·unfold Ows
   simpa using h1
  ·exact ⟨h2.os,h2.tape,h2.output,h2.size,fun k hk hn=>h2.block k hk (fun e=>hn e.symm)⟩
theorem ows_lit (W:World) (B g:Nat) (hg:g=W.heap.size) (hB:B<=g):Ows (W.alloc (.cells #[] 3)) B (.slice (some ⟨g,0,none⟩) 0 0) []:=by
 subst hg;exact Ows.lit W B hB
theorem get3 (x y z:Int) (W:World) (g t:Nat) (k:Nat) (hk:k<=3) (hg:g=W.heap.size) (j:Nat) (h:j < (([x,y,z]:List Int).take k).length) (o:Obj) :
 ((W.alloc (.cells #[.int .i64 x,.int .i64 y,.int .i64 z] t)).alloc o).cell? ⟨g,j,none⟩=some (.int .i64 (([x,y,z]:List Int).take k)[j]):=by
 subst hg
 rw [World.cell?_alloc_old _ _ _ (by simp),World.cell?_alloc_new]
 have h3:j < 3:=by simp at h;omega
 rcases j with _|_|_|j
 ·simp
 ·simp
 ·simp
 ·omega
theorem iParts (n:Nd) (w:World) :
 Calls Tryz.prog 72 #[.agg #[.int .i64 n.op,.int .i64 n.w,.int .i64 n.k,.int .i64 n.a,.int .i64 n.b,.int .i64 n.c]] w fun e w'=>(∃ a c,e=.returned (.slice a (parts n).length c)/\WInts w' w.heap.size a (parts n))/\Below w.heap.size w w':=by
 have HP:Hid (parts n=([n.a,n.b,n.c]:List Int).take (cnt n.op)):=by
  show parts n=_
  unfold parts cnt;split
  ·rfl
  ·split
   ·rfl
   ·split<;>rfl
 have hc3:=cnt_le n.op
 by_cases h1:cnt n.op=0
 ·go_enter Tryz.func72,Tryz.ntmps72
  go_wp2_with (go_at_call 73;refine (iCount _ _).mono ?_;rintro e w' ⟨rfl,rfl⟩;rw [h1])
  go_ret
  rw [HP.out,h1]
  exact ⟨⟨_,_,rfl,Nat.zero_le _,.inl rfl⟩,(((Below.refl _ _).alloc (Nat.le_refl _) _).alloc (by simp) _).alloc (by simp;omega) _⟩
 ·obtain ⟨l3,hl3⟩:∃ l3:List Int,l3=([n.a,n.b,n.c]:List Int).take (cnt n.op):=⟨_,rfl⟩
  have HL3:Hid (l3=([n.a,n.b,n.c]:List Int).take (cnt n.op)):=hl3
  have hlen:l3.length=cnt n.op:=by rw [hl3,List.length_take];simp;omega
  have HLN:Hid (l3.length=cnt n.op):=hlen
  have hcz:(cnt n.op:Int)<=3:=by omega
  clear hl3 hlen
  go_enter Tryz.func72,Tryz.ntmps72
  go_wp2_with (first|(go_at_call 73;refine (iCount _ _).mono ?_;rintro e w' ⟨rfl,rfl⟩)|(at_builtin;go_must (refine app_ints _ rfl _ _ rfl w.heap.size (.slice (some ⟨w.heap.size+1+1,0,none⟩) 0 0) [] l3 (w.heap.size+1) 3 rfl (by rw [HLN.out];rfl) (fun j h=>by have h9:=HL3.out;subst h9;exact get3 _ _ _ _ _ _ _ hc3 (by simp) _ h _) (by rw [HLN.out];omega) (ows_lit _ _ _ (by simp) (by omega)) (by simp;omega) (by rw [HLN.out];simp;omega) ?_;intro g cp w3 ho3 hk3)))
  have HO3:Hid (Ows w3 w.heap.size (.slice (some ⟨g,0,none⟩) (([]:List Int).length+l3.length) cp) ([]++l3)):=ho3
  have HK3:=hk3.below (B:=w.heap.size) (fun k hk=>by cases hk;show w.heap.size<=w.heap.size+1+1;omega) (by simp;omega)
  have HB3:Hid (Below w.heap.size w w3):=((((Below.refl _ _).alloc (Nat.le_refl _) _).alloc (by simp) _).alloc (by simp;omega) _).trans HK3
  clear ho3 hk3 HK3
  go_wp2
  go_ret
  obtain ⟨a9,c9,hv9,hw9⟩:=HO3.out.form
  simp only [List.nil_append,List.length_nil,Nat.zero_add] at hv9 hw9
  rw [HP.out,<- HL3.out]
  cases hv9
  refine ⟨⟨some ⟨g,0,none⟩,cp,?_,hw9⟩,HB3.out⟩
  simp
end Pg2
end Go.Proofs.YthanhcobfehmnaaGreat
