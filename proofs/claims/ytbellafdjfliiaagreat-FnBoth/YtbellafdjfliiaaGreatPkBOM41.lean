import Derived.OrdersHeld
import Derived.OrdersIn
import Derived.RangeFuncCalls
import Derived.TacticsIn
import Derived.Deep.RegionHeld
import Derived.Deep.WholeRow
import Derived.Test.YtbellafdjfliiaaGreatPkBOM22
import Derived.Test.YtbellafdjfliiaaGreatPkBOM40
import Derived.Test.YtbellafdjfliiaaGreatPkBOM18
import Derived.Test.YtbellafdjfliiaaGreatPkBOM19
import Derived.Test.YtbellafdjfliiaaGreatPkBOM3
namespace Go.Proofs.YtbellafdjfliiaaGreat
set_option maxRecDepth 100000
set_option maxHeartbeats 8000000
set_option linter.unusedVariables false
namespace Lift
open Go.RowKit
variable {l n:Nat} {P:Program} {ops:Array Oper} {Q:Exit->Act->World->Prop} {md:Region.Mode}
theorem op_lift {o:Oper} {a:Act} {w:World} {K:Act->World->Prop} (hd:∀ c,o.op≠.defer c) (h:o.wp P a w K Q):o.wpIn (Fence.wide.inRound l) n P a w K Q:=by
 refine ⟨fun f _=>trivial,?_⟩
 show o.uponIn (Fence.wide.inRound l) n P a K Q ((o.semAt (some l) a.eval).run P w)
 rw [Oper.semAt_some l a.eval o hd]
 unfold Oper.wp at h
 generalize (execOp a.eval o).run P w=r at h ⊢
 cases r with
 | ok x w' =>
   cases x<;>simp only [Oper.upon] at h<;>simp only [Oper.uponIn]
   all_goals first
    | exact h
    | exact ⟨(fun h0=>Bool.noConfusion (show false=true from h0)),CallsIn.inRound l (callsIn_wide.2 h)⟩
    | exact ⟨(fun h0=>Bool.noConfusion (show false=true from h0)),(fun c cs _=>by
     obtain ⟨v,w',r,s⟩:=h c cs
     exact ⟨v,w',r,stepsIn_wide.2 s⟩)⟩
 | halt x w'=>cases x<;>simp only [Oper.upon] at h<;>simp only [Oper.uponIn]<;>exact h
theorem any_lift (hL:¬ LetsOut Q) (hd:∀ (i:Nat) (o:Oper),ops[i]? = some o->∀ c,o.op≠.defer c):∀ (fuel:Nat) (listed:Array Bool) (a:Act) (w:World),wpAny P md ops Q fuel listed a w->wpAnyIn (Fence.wide.inRound l) n P md ops Q fuel listed a w:=by
 intro fuel
 induction fuel with
 | zero=>intro listed a w h;exact h
 | succ fuel ih =>
   intro listed a w h
   refine ⟨h.1,fun i hi=>?_⟩
   have h2:=h.2 i hi
   unfold wpOp at h2
   unfold wpOpIn
   cases ho:ops[i]? with
   | none=>rw [ho] at h2;exact ih _ _ _ h2
   | some o =>
     rw [ho] at h2
     dsimp only at h2 ⊢
     split
     ·rename_i hw
      rw [if_pos hw] at h2
      rcases h2 with h3|h3
      ·exact op_lift (hd i o ho) (Oper.wp_mono (fun a w h=>ih _ _ _ h) h3)
      ·exact absurd h3.2 hL
     ·rename_i hw
      rw [if_neg hw] at h2
      exact ⟨fun f _=>trivial,ih _ _ _ h2⟩
def noDefer (ops:Array Oper):Bool:=ops.toList.all fun o=>match o.op with
 | .defer _=>false
 | _=>true
theorem noDefer_of (h:noDefer ops=true):∀ (i:Nat) (o:Oper),ops[i]? = some o->∀ c,o.op≠.defer c:=by
 intro i o ho c hc
 have h2:=List.all_eq_true.1 h o (by
  obtain ⟨hi,rfl⟩:=Array.getElem?_eq_some_iff.1 ho
  simp)
 rw [hc] at h2
 cases h2
theorem region_lift {S:World->Prop} {id:Nat} {a:Act} {w:World} (hm:P.follows .mixedOrders=true) (hL:¬ LetsOut Q) (hd:noDefer ops=true)
 (hS:S w.drew) (h:S w.drew->wpAnyH P .any ops Q S ops.size (Array.replicate ops.size false) a w.drew):(Code.region id ops true).wpIn (Fence.wide.inRound l) n P Q a w :=
 wpIn_region_any hm (any_lift hL (noDefer_of hd) _ _ _ _ (wpAny_of_held _ _ _ _ (h hS)))
end Lift
namespace Vm2
open Nd0 Pl1 Pl2 Tm0 Tm1 Tm3 Tm5 Tm6 Tm8 Tm11 Tm13 Tm14 Tr0 Vl1 Vl2 Vm0 Vm1
def FitN (l:List Nd) (i:Nat) (e:List Int):Prop:=∃ r,needT (tr l i)=some r/\Fits r e
theorem FitN.part {l:List Nd} (hD:Down l) {i:Nat} (hi:i < l.length) {e:List Int} (h:FitN l i e) (hq:quant (nth l i).op=false) {p:Int} (hp:p∈parts (nth l i)):FitN l p.toNat e:=by
 obtain ⟨r,hr,hF⟩:=h
 rw [tr_at hD hi] at hr
 generalize nth l i=n at hp hq hr
 have hq2:¬ n.op=19/\¬ n.op=20:=by simpa [quant] using hq
 by_cases h1:n.op=2\/n.op=17\/n.op=19\/n.op=20
 ·rw [mk_one h1] at hr
  rw [parts_one h1] at hp
  simp only [List.mem_cons,List.not_mem_nil,or_false] at hp
  subst hp
  simp only [needT] at hr
  cases hn:needT (tr l n.a.toNat) with
  | none=>rw [hn] at hr;cases hr
  | some s =>
    rw [hn] at hr
    simp only [Option.bind_some,hq,Bool.false_eq_true,if_false] at hr
    cases hr
    exact ⟨_,hn,hF⟩
 ·by_cases h2:3<=n.op/\n.op<=16
  ·rw [mk_two h2] at hr
   rw [parts_two h2] at hp
   simp only [List.mem_cons,List.not_mem_nil,or_false] at hp
   simp only [needT] at hr
   cases hx:needT (tr l n.a.toNat) with
   | none=>rw [hx] at hr;cases hr
   | some s =>
     cases hy:needT (tr l n.b.toNat) with
     | none=>rw [hx,hy] at hr;cases hr
     | some t =>
       rw [hx,hy] at hr
       simp only [Option.bind_some] at hr
       cases hr
       rcases hp with rfl|rfl
       ·exact ⟨s,hx,hF.left⟩
       ·exact ⟨t,hy,hF.right⟩
  ·by_cases h3:n.op=18
   ·rw [mk_three h3] at hr
    rw [parts_three h3] at hp
    simp only [List.mem_cons,List.not_mem_nil,or_false] at hp
    simp only [needT] at hr
    cases hx:needT (tr l n.a.toNat) with
    | none=>rw [hx] at hr;cases hr
    | some s =>
      cases hy:needT (tr l n.b.toNat) with
      | none=>rw [hx,hy] at hr;cases hr
      | some t =>
        cases hz:needT (tr l n.c.toNat) with
        | none=>rw [hx,hy,hz] at hr;cases hr
        | some u =>
          rw [hx,hy,hz] at hr
          simp only [Option.bind_some] at hr
          cases hr
          rcases hp with rfl|rfl|rfl
          ·exact ⟨s,hx,hF.left.left⟩
          ·exact ⟨t,hy,hF.left.right⟩
          ·exact ⟨u,hz,hF.right⟩
   ·rw [parts_none h1 h2 h3] at hp
    cases hp
theorem FitN.below {l:List Nd} (hD:Down l) {i:Nat} (hi:i < l.length) (hN:nodeOk l i=true) {e:List Int} (he:e.length=8) (h:FitN l i e) (hq:quant (nth l i).op=true) {k:Nat} (hk:k < 2 ^ (nth l i).b.toNat):FitN l (nth l i).a.toNat (e.set (nth l i).k.toNat (k:Int)):=by
 obtain ⟨r,hr,hF⟩:=h
 have hkk:=shape_var hN (.inr hq)
 have hbb:=quant_b hN hq
 rw [tr_at hD hi] at hr
 generalize nth l i=n at hq hr hkk hbb hk
 have hq2:n.op=19\/n.op=20:=by simpa [quant] using hq
 rw [mk_one (by omega)] at hr
 simp only [needT] at hr
 cases hn:needT (tr l n.a.toNat) with
 | none=>rw [hn] at hr;cases hr
 | some s =>
   rw [hn] at hr
   simp only [Option.bind_some,hq,if_true] at hr
   by_cases hc:s.getD n.k.toNat 0≠0/\s.getD n.k.toNat 0≠2 ^ n.b.toNat
   ·rw [if_pos hc] at hr;cases hr
   ·rw [if_neg hc] at hr
    cases hr
    exact ⟨s,hn,Fits.below (need_len _ _ hn) he hkk hbb hk hc hF⟩
theorem FitN.word {l:List Nd} (hT:termOk l=true) {i:Nat} (hi:i < l.length) {e:List Int} (he:e.length=8) (h:FitN l i e):wok (nth l i).w (vT (tr l i) e)=true:=by
 obtain ⟨r,hr,hF⟩:=h
 have h2:=rt_all (down_of hT) (fun k hk=>term_node hT hk) i hi
 have:=value_word _ r e h2.1 hr he hF
 rw [h2.2] at this
 exact this
def hitB (l:List Nd) (e:List Int) (n:Nd) (x:Int):Bool:=(List.range (2 ^ n.b.toNat)).any fun (k:Nat)=>vT (tr l n.a.toNat) (e.set n.k.toNat (k:Int))==x
theorem hit_iff {l:List Nd} {e:List Int} {n:Nd} {x:Int}:hitB l e n x=true↔∃ k:Nat,k < 2 ^ n.b.toNat/\vT (tr l n.a.toNat) (e.set n.k.toNat (k:Int))=x:=by
 unfold hitB
 rw [List.any_eq_true]
 constructor
 ·rintro ⟨k,h1,h2⟩;exact ⟨k,List.mem_range.1 h1,by simpa using h2⟩
 ·rintro ⟨k,h1,h2⟩;exact ⟨k,List.mem_range.2 h1,by simpa using h2⟩
theorem vT_hit {l:List Nd} (hT:termOk l=true) {i:Nat} (hi:i < l.length) {e:List Int} (he:e.length=8) (h:FitN l i e) (hq:quant (nth l i).op=true) :
 vT (tr l i) e=if (nth l i).op=19 then (if (!hitB l e (nth l i) 0) then 1 else 0) else (if hitB l e (nth l i) 1 then 1 else 0):=by
 have hD:=down_of hT
 have hq2:(nth l i).op=19\/(nth l i).op=20:=by simpa [quant] using hq
 have haa:=hD i hi (nth l i).a (by rw [parts_one (by omega)];simp)
 have hw1:(nth l (nth l i).a.toNat).w=1:=by
  have h2:=(rt_all hD (fun k hk=>term_node hT hk) i hi).1
  rw [tr_at hD hi,mk_one (by omega)] at h2
  have h3:=h2.2.2.2
  have h4:=(rt_all hD (fun k hk=>term_node hT hk) (nth l i).a.toNat (by omega)).2
  rcases h3 with h5|h5|h5
  ·omega
  ·omega
  ·rw [<- h4];exact h5.2.1
 have hbit:∀ k:Nat,k < 2 ^ (nth l i).b.toNat->vT (tr l (nth l i).a.toNat) (e.set (nth l i).k.toNat (k:Int))=0\/vT (tr l (nth l i).a.toNat) (e.set (nth l i).k.toNat (k:Int))=1:=fun k hk=>by
  have h2:=FitN.word hT (by omega) (by rw [List.length_set];exact he) (h.below hD hi (term_node hT hi) he hq hk)
  rw [hw1] at h2
  have h3:=wok_iff.1 h2
  have h4:p2 (1:Int).toNat=2:=rfl
  rw [h4] at h3
  omega
 rw [vT_quant hD hi e hq]
 by_cases h19:(nth l i).op=19
 ·rw [if_pos h19,if_pos h19]
  cases hh:hitB l e (nth l i) 0
  ·simp only [Bool.not_false,if_true]
   refine allN_one.2 (fun k hk=>?_)
   rcases hbit k hk with h5|h5
   ·rw [hit_iff.2 ⟨k,hk,h5⟩] at hh;cases hh
   ·exact h5
  ·obtain ⟨k,hk,h5⟩:=hit_iff.1 hh
   simp only [Bool.not_true,Bool.false_eq_true,if_false]
   rcases allN_bit (fun i_1=>vT (tr l (nth l i).a.toNat) (e.set (nth l i).k.toNat (i_1:Int))) (2 ^ (nth l i).b.toNat) with h6|h6
   ·exact h6
   ·have h7:=allN_one.1 h6 k hk
    rw [h5] at h7;cases h7
 ·rw [if_neg h19,if_neg h19]
  cases hh:hitB l e (nth l i) 1
  ·simp only [Bool.false_eq_true,if_false]
   rcases anyN_bit (fun i_1=>vT (tr l (nth l i).a.toNat) (e.set (nth l i).k.toNat (i_1:Int))) (2 ^ (nth l i).b.toNat) with h6|h6
   ·exact h6
   ·rw [hit_iff.2 (anyN_one.1 h6)] at hh;cases hh
  ·simp only [if_true]
   exact anyN_one.2 (hit_iff.1 hh)
end Vm2
namespace Pv7
open Go.RowKit Go.Shelf
open Nd0 Pl1 Tm0 Tm1 Tm5 Tm6 Tm8 Tr0 Rw0 Vl1 Vl2 Vm0 Vm1 Vm2 Kp1 Pv6
attribute [local go_sem] Oper.semAt_some
structure Sc (w:World) (s:Nat) (a:Option Addr) (l:List Nd) (c:Nat) (e:List Int) (K:Nat->Bool) (V:Nat->Int):Prop where
 c0:w.cell? ⟨s,0,none⟩=some (.slice a l.length c)
 cv:∀ i,i < 8->w.cell? ⟨s,1+i,none⟩=some (.int .i64 (wd e (i:Int)))
 ck:∀ i,i < 80->w.cell? ⟨s,9+i,none⟩=some (.bool (K i))/\w.frozen? ⟨s,9+i,none⟩=false
 cw:∀ i,i < 80->w.cell? ⟨s,89+i,none⟩=some (.int .i64 (V i))/\w.frozen? ⟨s,89+i,none⟩=false
 ok:∀ i,i < l.length->K i=true->V i=vT (tr l i) e
theorem Sc.lt {w:World} {s:Nat} {a:Option Addr} {l:List Nd} {c:Nat} {e:List Int} {K:Nat->Bool} {V:Nat->Int} (h:Sc w s a l c e K V):s < w.heap.size:=lt_of_cell (p:=⟨s,0,none⟩) h.c0
theorem Sc.kept {w w':World} {s:Nat} {a:Option Addr} {l:List Nd} {c:Nat} {e:List Int} {K:Nat->Bool} {V:Nat->Int} (h:Sc w s a l c e K V) {S:Nat->Prop} (k:Kept S w w') (hs:¬ S s):Sc w' s a l c e K V:=by
 have hl:=h.lt
 exact ⟨(k.cell (p:=⟨s,0,none⟩) hl hs).trans h.c0,fun i hi=>(k.cell (p:=⟨s,1+i,none⟩) hl hs).trans (h.cv i hi),fun i hi=>⟨(k.cell (p:=⟨s,9+i,none⟩) hl hs).trans (h.ck i hi).1,(k.frozen (p:=⟨s,9+i,none⟩) hl hs).trans (h.ck i hi).2⟩,fun i hi=>⟨(k.cell (p:=⟨s,89+i,none⟩) hl hs).trans (h.cw i hi).1,(k.frozen (p:=⟨s,89+i,none⟩) hl hs).trans (h.cw i hi).2⟩,h.ok⟩
theorem of_drop {z:Array Value} {d m:Nat} {v:Value} (h:(z.toList.drop d).take m=List.replicate m v) (i:Nat) (hi:i < m):z[d+i]? = some v:=by
 have h2:((z.toList.drop d).take m)[i]? = some v:=by rw [h,List.getElem?_replicate,if_pos hi]
 rw [List.getElem?_take_of_lt hi,List.getElem?_drop] at h2
 simpa using h2
theorem zero_k (i:Nat) (h:i < 80):Tryz.zeroCells87[9+i]? = some (.bool false):=of_drop (m:=80) (by kernel_rfl) i h
theorem zero_w (i:Nat) (h:i < 80):Tryz.zeroCells87[89+i]? = some (.int .i64 0):=of_drop (m:=80) (by kernel_rfl) i h
structure Zc (z:Array Value):Prop where
 size:z.size=169
 one:z.all (·.oneCell')=true
 k:∀ i,i < 80->z[9+i]? = some (.bool false)
 w:∀ i,i < 80->z[89+i]? = some (.int .i64 0)
theorem zc_of:Zc Tryz.zeroCells87:=⟨Tryz.zeroCells87_size,by kernel_rfl,zero_k,zero_w⟩
def scCells (z:Array Value) (a:Option Addr) (len c:Nat) (e:List Int):Array Value:=(((((((((z.setIfInBounds 0 (.slice a len c)).setIfInBounds 1 (.int .i64 (wd e 0))).setIfInBounds 2 (.int .i64 (wd e 1))).setIfInBounds 3 (.int .i64 (wd e 2))).setIfInBounds 4 (.int .i64 (wd e 3))).setIfInBounds 5 (.int .i64 (wd e 4))).setIfInBounds 6 (.int .i64 (wd e 5))).setIfInBounds 7 (.int .i64 (wd e 6))).setIfInBounds 8 (.int .i64 (wd e 7)))
theorem sc_size {z:Array Value} (hz:Zc z) (a:Option Addr) (len c:Nat) (e:List Int):(scCells z a len c e).size=169:=by
 unfold scCells
 simp only [Array.size_setIfInBounds]
 exact hz.size
theorem info_sc:(Tryz.prog.info? 87).map (·.size)=some 169:=by kernel_rfl
theorem all_set {c:Array Value} {i:Nat} {v:Value} (h:c.all (·.oneCell')=true) (hv:v.oneCell'=true):(c.setIfInBounds i v).all (·.oneCell')=true:=by
 rw [Array.all_eq_true_iff_forall_mem] at h ⊢
 intro x hx
 rcases Array.mem_or_eq_of_mem_setIfInBounds hx with h1|h1
 ·exact h x h1
 ·rw [h1];exact hv
theorem sc_one {z:Array Value} (hz:Zc z) (a:Option Addr) (len c:Nat) (e:List Int):(scCells z a len c e).all (·.oneCell')=true:=by
 unfold scCells
 refine all_set (all_set (all_set (all_set (all_set (all_set (all_set (all_set (all_set hz.one rfl) rfl) rfl) rfl) rfl) rfl) rfl) rfl) rfl
theorem sc_cell {z:Array Value} (hZ:Zc z) (a:Option Addr) (len c:Nat) (e:List Int):(scCells z a len c e)[0]? = some (.slice a len c)/\(∀ i,i < 8->(scCells z a len c e)[1+i]? = some (.int .i64 (wd e (i:Int))))/\(∀ i,i < 80->(scCells z a len c e)[9+i]? = some (.bool false))/\(∀ i,i < 80->(scCells z a len c e)[89+i]? = some (.int .i64 0)):=by
 have hz:=hZ.size
 unfold scCells
 refine ⟨?_,?_,?_,?_⟩
 ·simp [hz]
 ·intro i hi
  have:i=0\/i=1\/i=2\/i=3\/i=4\/i=5\/i=6\/i=7:=by omega
  rcases this with rfl|rfl|rfl|rfl|rfl|rfl|rfl|rfl<;>simp [hz]
 ·intro i hi
  rw [Array.getElem?_setIfInBounds_ne (by omega),Array.getElem?_setIfInBounds_ne (by omega),Array.getElem?_setIfInBounds_ne (by omega),Array.getElem?_setIfInBounds_ne (by omega),Array.getElem?_setIfInBounds_ne (by omega),Array.getElem?_setIfInBounds_ne (by omega),Array.getElem?_setIfInBounds_ne (by omega),Array.getElem?_setIfInBounds_ne (by omega),Array.getElem?_setIfInBounds_ne (by omega)]
  exact hZ.k i hi
 ·intro i hi
  rw [Array.getElem?_setIfInBounds_ne (by omega),Array.getElem?_setIfInBounds_ne (by omega),Array.getElem?_setIfInBounds_ne (by omega),Array.getElem?_setIfInBounds_ne (by omega),Array.getElem?_setIfInBounds_ne (by omega),Array.getElem?_setIfInBounds_ne (by omega),Array.getElem?_setIfInBounds_ne (by omega),Array.getElem?_setIfInBounds_ne (by omega),Array.getElem?_setIfInBounds_ne (by omega)]
  exact hZ.w i hi
theorem sc_new (w:World) {z:Array Value} (hZ:Zc z) (a:Option Addr) (l:List Nd) (c T:Nat) (e:List Int):Sc (w.alloc (.cells (scCells z a l.length c e) T)) w.heap.size a l c e (fun _=>false) (fun _=>0)/\∀ j,j < 8->(w.alloc (.cells (scCells z a l.length c e) T)).frozen? ⟨w.heap.size,1+j,none⟩=false:=by
 obtain ⟨h0,h1,h2,h3⟩:=sc_cell hZ a l.length c e
 have hR:∀ (j:Nat) (v:Value),(scCells z a l.length c e)[j]? = some v->(w.alloc (.cells (scCells z a l.length c e) T)).cell? ⟨w.heap.size,j,none⟩=some v/\(w.alloc (.cells (scCells z a l.length c e) T)).frozen? ⟨w.heap.size,j,none⟩=false:=fun j v hv=>by
  refine ⟨by rw [World.cell?_alloc_new];exact hv,?_⟩
  simp
 exact ⟨⟨(hR _ _ h0).1,fun i hi=>(hR _ _ (h1 i hi)).1,fun i hi=>hR _ _ (h2 i hi),fun i hi=>hR _ _ (h3 i hi),fun _ _ h=>by cases h⟩,fun j hj=>(hR _ _ (h1 j hj)).2⟩
theorem drew_alloc (w:World) (o:Obj):(w.alloc o).drew=w.drew.alloc o:=rfl
theorem Sc.setv {w:World} {s:Nat} {a:Option Addr} {l:List Nd} {c:Nat} {e:List Int} {V:Nat->Int} (h:Sc w s a l c e (fun _=>false) V) (he:e.length=8) {v:Nat} (hv:v < 8) (x:Int):Sc (w.setCell ⟨s,1+v,none⟩ (.int .i64 x)) s a l c (e.set v x) (fun _=>false) V:=by
 refine ⟨?_,fun i hi=>?_,fun i hi=>?_,fun i hi=>?_,fun _ _ h=>by cases h⟩
 ·rw [set_other (fun e=>by have:=congrArg Addr.off e;simp at this)];exact h.c0
 ·by_cases e1:i=v
  ·subst e1
   rw [set_same (h.cv i hi),Rw1.wd_set (by omega),if_pos rfl]
  ·rw [set_other (fun e=>by have:=congrArg Addr.off e;simp at this;omega),h.cv i hi,Rw1.wd_set (by omega),if_neg e1]
 ·rw [set_other (fun e=>by have:=congrArg Addr.off e;simp at this;omega),World.frozen?_setCell];exact h.ck i hi
 ·rw [set_other (fun e=>by have:=congrArg Addr.off e;simp at this;omega),World.frozen?_setCell];exact h.cw i hi
theorem wp_store_new {op:Oper} {a:Act} {K:Act->World->Prop} {Q:Exit->Act->World->Prop} (w:World) (ty:TypeId) (x y:Operand) (ho:op.op=.store ty x y)
 (c c':Array Value) (g:Nat) (hx:a.eval x=.pointer (some ⟨g,0,none⟩)) (hg:g=w.heap.size) (hy:a.eval y=.agg c') (hi:(Tryz.prog.info? ty).map (·.size)=some c'.size) (hs:c.size=c'.size) (h1:c'.all (·.oneCell')=true)
 (h:K (a.put op.dst undef) (w.alloc (.cells c' ty))):op.wp Tryz.prog a (w.alloc (.cells c ty)) K Q:=by
 subst hg
 unfold Oper.wp execOp
 simp only [ho,hx,hy,Sem.run_bind,Sem.run_pure,run_storeAt_new w ty c c' hi hs h1,Result.andThen_ok]
 exact h
theorem store_last {ops:Array Oper} {Q:Exit->Act->World->Prop} {S:World->Prop} {fuel i:Nat} {listed:Array Bool} {a:Act} {o:Oper} (w:World) (ty:TypeId) (x y:Operand) (c c':Array Value) (g:Nat)
 (hr:Region.ready .any ops listed=[i]) (hr2:Region.ready .any ops (listed.setIfInBounds i true)=[]) (ho:ops[i]? = some o) (hgd:o.guard=none) (hop:o.op=.store ty x y)
 (hx:a.eval x=.pointer (some ⟨g,0,none⟩)) (hg:g=w.heap.size) (hy:a.eval y=.agg c') (hi:(Tryz.prog.info? ty).map (·.size)=some c'.size) (hs:c.size=c'.size) (h1:c'.all (·.oneCell')=true)
 (hS:S (w.alloc (.cells c' ty))) (hQ:Q .normal (a.put o.dst undef) (w.alloc (.cells c' ty))):wpAnyH Tryz.prog .any ops Q S (fuel+1) listed a (w.alloc (.cells c ty)):=by
 refine wpAnyH_ready hr (by simp) (AllReadyH.cons ho (fun K' hK'=>?_) AllReadyH.nil)
 rw [if_pos (by simp [Region.wanted,hgd])]
 exact wp_store_new w ty x y hop c c' g hx hg hy hi hs h1 (hK'.out _ _ hS (fun _=>wpAnyH_done hr2 hQ _))
theorem call_one {ops:Array Oper} {Q:Exit->Act->World->Prop} {S:World->Prop} {fuel i f:Nat} {args:Array Value} {listed:Array Bool} {a:Act} {o:Oper} {w:World}
 (hr:Region.ready .any ops listed=[i]) (ho:ops[i]? = some o) (hgd:o.guard=none) (hrun:(execOp a.eval o).run Tryz.prog w=.ok (.enter f args) w)
 (hc:Calls Tryz.prog f args w fun e w'=>∃ v,e=.returned v/\S w'/\wpAnyH Tryz.prog .any ops Q S fuel (listed.setIfInBounds i true) (a.put o.dst v) w'):wpAnyH Tryz.prog .any ops Q S (fuel+1) listed a w:=by
 refine wpAnyH_ready hr (by simp) (AllReadyH.cons ho (fun K' hK'=>?_) AllReadyH.nil)
 rw [if_pos (by simp [Region.wanted,hgd])]
 unfold Oper.wp
 rw [hrun,Oper.upon_enter]
 refine hc.mono ?_
 rintro e w' ⟨v,rfl,hS,h⟩
 exact hK'.out _ _ hS (fun _=>h)
theorem ko_of_below {W W':World} (h:Below W.heap.size W W'):KeepsOthers W W':=⟨h.size,fun k o hk _=>(h.block k (Array.getElem?_eq_some_iff.1 hk).1).trans hk⟩
def PVal (l:List Nd) (i:Nat):Prop:=∀ (w:World) (s:Nat) (a:Option Addr) (c:Nat) (e:List Int) (K:Nat->Bool) (V:Nat->Int),Nodes w a l->(∀ x,a=some x->x.block≠s)->e.length=8->Sc w s a l c e K V->FitN l i e ->
 Calls Tryz.prog 68 #[.pointer (some ⟨s,0,none⟩),.int .i64 (i:Int)] w fun x w'=>x=.returned (.int .i64 (vT (tr l i) e))/\(∃ K' V',Sc w' s a l c e K' V')/\Kept (fun b=>b=s) w w'
def PCome (l:List Nd) (i:Nat):Prop:=∀ (w:World) (s:Nat) (a:Option Addr) (c:Nat) (e:List Int) (K:Nat->Bool) (V:Nat->Int) (x:Int),Nodes w a l->(∀ x,a=some x->x.block≠s)->e.length=8->Sc w s a l c e K V->FitN l i e ->
 Calls Tryz.prog 93 #[.pointer (some ⟨s,0,none⟩),.int .i64 x,.agg #[.int .i64 (nth l i).op,.int .i64 (nth l i).w,.int .i64 (nth l i).k,.int .i64 (nth l i).a,.int .i64 (nth l i).b,.int .i64 (nth l i).c]] w fun r w'=>r=.returned (.bool (hitB l e (nth l i) x))/\Below w.heap.size w w'
structure Boxes (w w1:World) (s:Nat) (x:Int) (n:Nd):Prop where
 sz:w1.heap.size=w.heap.size+1+1+1+1+1
 below:Below w.heap.size w w1
 ps:w1.cell? ⟨w.heap.size,0,none⟩=some (.pointer (some ⟨s,0,none⟩))
 px:w1.cell? ⟨w.heap.size+1,0,none⟩=some (.int .i64 x)
 nd:NodeAt w1 (w.heap.size+1+1) 0 n
 rb:w1.cell? ⟨w.heap.size+1+1+1,0,none⟩=some (.bool false)/\w1.frozen? ⟨w.heap.size+1+1+1,0,none⟩=false
 eb:w1.cell? ⟨w.heap.size+1+1+1+1,0,none⟩=some (.int .i64 n.b)
theorem come_facts (w:World) (s:Nat) (x:Int) (n:Nd) (t1 t2 t3 t4 t5:Nat) (w1:World) (h:w1=((((w.alloc (.cells #[.pointer (some ⟨s,0,none⟩)] t1)).alloc (.cells #[.int .i64 x] t2)).alloc (.cells #[.int .i64 n.op,.int .i64 n.w,.int .i64 n.k,.int .i64 n.a,.int .i64 n.b,.int .i64 n.c] t3)).alloc (.cells #[.bool false] t4)).alloc (.cells #[.int .i64 n.b] t5)):Boxes w w1 s x n:=by
 obtain ⟨wa,ha⟩:∃ wa,wa=w.alloc (.cells #[.pointer (some ⟨s,0,none⟩)] t1):=⟨_,rfl⟩
 obtain ⟨wb,hb⟩:∃ wb,wb=wa.alloc (.cells #[.int .i64 x] t2):=⟨_,rfl⟩
 obtain ⟨wc,hc⟩:∃ wc,wc=wb.alloc (.cells #[.int .i64 n.op,.int .i64 n.w,.int .i64 n.k,.int .i64 n.a,.int .i64 n.b,.int .i64 n.c] t3):=⟨_,rfl⟩
 obtain ⟨wd,hd⟩:∃ wd,wd=wc.alloc (.cells #[.bool false] t4):=⟨_,rfl⟩
 rw [<- ha,<- hb,<- hc,<- hd] at h
 have sa:wa.heap.size=w.heap.size+1:=by rw [ha];simp
 have sb:wb.heap.size=w.heap.size+1+1:=by rw [hb];simp [sa]
 have sc:wc.heap.size=w.heap.size+1+1+1:=by rw [hc];simp [sb]
 have sd:wd.heap.size=w.heap.size+1+1+1+1:=by rw [hd];simp [sc]
 have s1:w1.heap.size=w.heap.size+1+1+1+1+1:=by rw [h];simp [sd]
 have ba:Below w.heap.size w wa:=by rw [ha];exact (Below.refl _ _).alloc (Nat.le_refl _) _
 have bb:Below wa.heap.size wa wb:=by rw [hb];exact (Below.refl _ _).alloc (Nat.le_refl _) _
 have bc:Below wb.heap.size wb wc:=by rw [hc];exact (Below.refl _ _).alloc (Nat.le_refl _) _
 have bd:Below wc.heap.size wc wd:=by rw [hd];exact (Below.refl _ _).alloc (Nat.le_refl _) _
 have b1:Below wd.heap.size wd w1:=by rw [h];exact (Below.refl _ _).alloc (Nat.le_refl _) _
 have bd1:Below wc.heap.size wc w1:=bd.trans (b1.mono (by omega))
 have bc1:Below wb.heap.size wb w1:=bc.trans (bd1.mono (by omega))
 have bb1:Below wa.heap.size wa w1:=bb.trans (bc1.mono (by omega))
 refine ⟨s1,ba.trans (bb1.mono (by omega)),?_,?_,?_,⟨?_,?_⟩,?_⟩
 ·rw [bb1.cell (p:=⟨w.heap.size,0,none⟩) (show w.heap.size < _ by omega),ha,World.cell?_alloc_new];rfl
 ·rw [<- sa,bc1.cell (p:=⟨wa.heap.size,0,none⟩) (show wa.heap.size < _ by omega),hb,World.cell?_alloc_new];rfl
 ·rw [<- sb]
  refine NodeAt.below ?_ bd1 (show wb.heap.size < _ by omega)
  rw [hc]
  exact Dw4.node_new wb n t3 _ rfl 0 (by simp)
 ·rw [<- sc,b1.cell (p:=⟨wc.heap.size,0,none⟩) (show wc.heap.size < _ by omega),hd,World.cell?_alloc_new];rfl
 ·rw [<- sc,World.frozen?_of_block (w:=wd) (b1.block _ (show wc.heap.size < _ by omega)),hd]
  exact (Row.new wc #[.bool false] t4 1 (fun _=>.bool false) (fun j hj=>by
   have:j=0:=by omega
   subst this;rfl) 0 (by omega)).2
 ·rw [<- sd,h,World.cell?_alloc_new];rfl
end Pv7
end Go.Proofs.YtbellafdjfliiaaGreat
