import Derived.Deep.WholeRow
import Derived.Test.YthanhcobfehmnaaGreatPkQU245
namespace Go.Proofs.YthanhcobfehmnaaGreat
set_option maxRecDepth 100000
set_option maxHeartbeats 8000000
set_option linter.unusedVariables false
namespace Pv7
open Go.RowKit Go.Shelf
open Nd0 Pl1 Tm0 Tm1 Tm5 Tm6 Tm8 Tr0 Rw0 Vl1 Vl2 Vm0 Vm1 Vm2 Kp1 Pv6
attribute [local go_sem] Oper.semAt_some
structure Sc (w:World) (s:Nat) (a:Option Addr) (l:List Nd) (c:Nat) (e:List Int) (K:Nat->Bool) (V:Nat->Int):Prop where
 c0:w.cell? ⟨s,0,none⟩=some (.slice a l.length c)
 cv:∀ i,i < 8->w.cell? ⟨s,1+i,none⟩=some (.int .i64 (wd e (i:Int)))
 ck:∀ i,i < 80->w.cell? ⟨s,9+i,none⟩=some (.bool (K i))/\w.frozen? ⟨s,9+i,none⟩=false
 cw:∀ i,i < 80->w.cell? ⟨s,89+i,none⟩=some (.int .i64 (V i))/\w.frozen? ⟨s,89+i,none⟩=false
 ok:∀ i,i < l.length->K i=true->V i=vT (tr l i) e
theorem Sc.lt {w:World} {s:Nat} {a:Option Addr} {l:List Nd} {c:Nat} {e:List Int} {K:Nat->Bool} {V:Nat->Int} (h:Sc w s a l c e K V):s < w.heap.size:=lt_of_cell (p:=⟨s,0,none⟩) h.c0
theorem Sc.kept {w w':World} {s:Nat} {a:Option Addr} {l:List Nd} {c:Nat} {e:List Int} {K:Nat->Bool} {V:Nat->Int} (h:Sc w s a l c e K V) {S:Nat->Prop} (k:Kept S w w') (hs:¬ S s):Sc w' s a l c e K V:=by
 have hl:=h.lt
 exact ⟨(k.cell (p:=⟨s,0,none⟩) hl hs).trans h.c0,fun i hi=>(k.cell (p:=⟨s,1+i,none⟩) hl hs).trans (h.cv i hi),fun i hi=>⟨(k.cell (p:=⟨s,9+i,none⟩) hl hs).trans (h.ck i hi).1,(k.frozen (p:=⟨s,9+i,none⟩) hl hs).trans (h.ck i hi).2⟩,fun i hi=>⟨(k.cell (p:=⟨s,89+i,none⟩) hl hs).trans (h.cw i hi).1,(k.frozen (p:=⟨s,89+i,none⟩) hl hs).trans (h.cw i hi).2⟩,h.ok⟩
theorem of_drop {z:Array Value} {d m:Nat} {v:Value} (h:(z.toList.drop d).take m=List.replicate m v) (i:Nat) (hi:i < m):z[d+i]? = some v:=by
 have h2:((z.toList.drop d).take m)[i]? = some v:=by rw [h,List.getElem?_replicate,if_pos hi]
 rw [List.getElem?_take_of_lt hi,List.getElem?_drop] at h2
 simpa using h2
theorem zero_k (i:Nat) (h:i < 80):Tryz.zeroCells51[9+i]? = some (.bool false):=of_drop (m:=80) (by kernel_rfl) i h
theorem zero_w (i:Nat) (h:i < 80):Tryz.zeroCells51[89+i]? = some (.int .i64 0):=of_drop (m:=80) (by kernel_rfl) i h
structure Zc (z:Array Value):Prop where
 size:z.size=169
 one:z.all (·.oneCell')=true
 k:∀ i,i < 80->z[9+i]? = some (.bool false)
 w:∀ i,i < 80->z[89+i]? = some (.int .i64 0)
theorem zc_of:Zc Tryz.zeroCells51:=⟨Tryz.zeroCells51_size,by kernel_rfl,zero_k,zero_w⟩
def scCells (z:Array Value) (a:Option Addr) (len c:Nat) (e:List Int):Array Value:=(((((((((z.setIfInBounds 0 (.slice a len c)).setIfInBounds 1 (.int .i64 (wd e 0))).setIfInBounds 2 (.int .i64 (wd e 1))).setIfInBounds 3 (.int .i64 (wd e 2))).setIfInBounds 4 (.int .i64 (wd e 3))).setIfInBounds 5 (.int .i64 (wd e 4))).setIfInBounds 6 (.int .i64 (wd e 5))).setIfInBounds 7 (.int .i64 (wd e 6))).setIfInBounds 8 (.int .i64 (wd e 7)))
theorem sc_size {z:Array Value} (hz:Zc z) (a:Option Addr) (len c:Nat) (e:List Int):(scCells z a len c e).size=169:=by
 unfold scCells
 simp only [Array.size_setIfInBounds]
 exact hz.size
theorem info_sc:(Tryz.prog.info? 51).map (·.size)=some 169:=by kernel_rfl
theorem all_set {c:Array Value} {i:Nat} {v:Value} (h:c.all (·.oneCell')=true) (hv:v.oneCell'=true):(c.setIfInBounds i v).all (·.oneCell')=true:=by
 rw [Array.all_eq_true_iff_forall_mem] at h ⊢
 intro x hx
 rcases Array.mem_or_eq_of_mem_setIfInBounds hx with h1|h1
 ·exact h x h1
 ·rw [h1];exact hv
theorem sc_one {z:Array Value} (hz:Zc z) (a:Option Addr) (len c:Nat) (e:List Int):(scCells z a len c e).all (·.oneCell')=true:=by
 unfold scCells
 refine all_set (all_set (all_set (all_set (all_set (all_set (all_set (all_set (all_set hz.one rfl) rfl) rfl) rfl) rfl) rfl) rfl) rfl) rfl
theorem sc_cell {z:Array Value} (hZ:Zc z) (a:Option Addr) (len c:Nat) (e:List Int):(scCells z a len c e)[0]? = some (.slice a len c)/\(∀ i,i < 8->(scCells z a len c e)[1+i]? = some (.int .i64 (wd e (i:Int))))/\(∀ i,i < 80->(scCells z a len c e)[9+i]? = some (.bool false))/\(∀ i,i < 80->(scCells z a len c e)[89+i]? = some (.int .i64 0)):=by
 have hz:=hZ.size
 unfold scCells
 refine ⟨?_,?_,?_,?_⟩
 ·simp [hz]
 ·intro i hi
  have:i=0\/i=1\/i=2\/i=3\/i=4\/i=5\/i=6\/i=7:=by omega
  rcases this with rfl|rfl|rfl|rfl|rfl|rfl|rfl|rfl<;>simp [hz]
 ·intro i hi
  rw [Array.getElem?_setIfInBounds_ne (by omega),Array.getElem?_setIfInBounds_ne (by omega),Array.getElem?_setIfInBounds_ne (by omega),Array.getElem?_setIfInBounds_ne (by omega),Array.getElem?_setIfInBounds_ne (by omega),Array.getElem?_setIfInBounds_ne (by omega),Array.getElem?_setIfInBounds_ne (by omega),Array.getElem?_setIfInBounds_ne (by omega),Array.getElem?_setIfInBounds_ne (by omega)]
  exact hZ.k i hi
 ·intro i hi
  rw [Array.getElem?_setIfInBounds_ne (by omega),Array.getElem?_setIfInBounds_ne (by omega),Array.getElem?_setIfInBounds_ne (by omega),Array.getElem?_setIfInBounds_ne (by omega),Array.getElem?_setIfInBounds_ne (by omega),Array.getElem?_setIfInBounds_ne (by omega),Array.getElem?_setIfInBounds_ne (by omega),Array.getElem?_setIfInBounds_ne (by omega),Array.getElem?_setIfInBounds_ne (by omega)]
  exact hZ.w i hi
theorem sc_new (w:World) {z:Array Value} (hZ:Zc z) (a:Option Addr) (l:List Nd) (c T:Nat) (e:List Int):Sc (w.alloc (.cells (scCells z a l.length c e) T)) w.heap.size a l c e (fun _=>false) (fun _=>0)/\∀ j,j < 8->(w.alloc (.cells (scCells z a l.length c e) T)).frozen? ⟨w.heap.size,1+j,none⟩=false:=by
 obtain ⟨h0,h1,h2,h3⟩:=sc_cell hZ a l.length c e
 have hR:∀ (j:Nat) (v:Value),(scCells z a l.length c e)[j]? = some v->(w.alloc (.cells (scCells z a l.length c e) T)).cell? ⟨w.heap.size,j,none⟩=some v/\(w.alloc (.cells (scCells z a l.length c e) T)).frozen? ⟨w.heap.size,j,none⟩=false:=fun j v hv=>by
  refine ⟨by rw [World.cell?_alloc_new];exact hv,?_⟩
  simp
 exact ⟨⟨(hR _ _ h0).1,fun i hi=>(hR _ _ (h1 i hi)).1,fun i hi=>hR _ _ (h2 i hi),fun i hi=>hR _ _ (h3 i hi),fun _ _ h=>by cases h⟩,fun j hj=>(hR _ _ (h1 j hj)).2⟩
theorem drew_alloc (w:World) (o:Obj):(w.alloc o).drew=w.drew.alloc o:=rfl
theorem Sc.setv {w:World} {s:Nat} {a:Option Addr} {l:List Nd} {c:Nat} {e:List Int} {V:Nat->Int} (h:Sc w s a l c e (fun _=>false) V) (he:e.length=8) {v:Nat} (hv:v < 8) (x:Int):Sc (w.setCell ⟨s,1+v,none⟩ (.int .i64 x)) s a l c (e.set v x) (fun _=>false) V:=by
 refine ⟨?_,fun i hi=>?_,fun i hi=>?_,fun i hi=>?_,fun _ _ h=>by cases h⟩
 ·rw [set_other (fun e=>by have:=congrArg Addr.off e;simp at this)];exact h.c0
 ·by_cases e1:i=v
  ·subst e1
   rw [set_same (h.cv i hi),Rw1.wd_set (by omega),if_pos rfl]
  ·rw [set_other (fun e=>by have:=congrArg Addr.off e;simp at this;omega),h.cv i hi,Rw1.wd_set (by omega),if_neg e1]
 ·rw [set_other (fun e=>by have:=congrArg Addr.off e;simp at this;omega),World.frozen?_setCell];exact h.ck i hi
 ·rw [set_other (fun e=>by have:=congrArg Addr.off e;simp at this;omega),World.frozen?_setCell];exact h.cw i hi
theorem wp_store_new {op:Oper} {a:Act} {K:Act->World->Prop} {Q:Exit->Act->World->Prop} (w:World) (ty:TypeId) (x y:Operand) (ho:op.op=.store ty x y)
 (c c':Array Value) (g:Nat) (hx:a.eval x=.pointer (some ⟨g,0,none⟩)) (hg:g=w.heap.size) (hy:a.eval y=.agg c') (hi:(Tryz.prog.info? ty).map (·.size)=some c'.size) (hs:c.size=c'.size) (h1:c'.all (·.oneCell')=true)
 (h:K (a.put op.dst undef) (w.alloc (.cells c' ty))):op.wp Tryz.prog a (w.alloc (.cells c ty)) K Q:=by
 subst hg
 unfold Oper.wp execOp
 simp only [ho,hx,hy,Sem.run_bind,Sem.run_pure,run_storeAt_new w ty c c' hi hs h1,Result.andThen_ok]
 exact h
theorem store_last {ops:Array Oper} {Q:Exit->Act->World->Prop} {S:World->Prop} {fuel i:Nat} {listed:Array Bool} {a:Act} {o:Oper} (w:World) (ty:TypeId) (x y:Operand) (c c':Array Value) (g:Nat)
 (hr:Region.ready .any ops listed=[i]) (hr2:Region.ready .any ops (listed.setIfInBounds i true)=[]) (ho:ops[i]? = some o) (hgd:o.guard=none) (hop:o.op=.store ty x y)
 (hx:a.eval x=.pointer (some ⟨g,0,none⟩)) (hg:g=w.heap.size) (hy:a.eval y=.agg c') (hi:(Tryz.prog.info? ty).map (·.size)=some c'.size) (hs:c.size=c'.size) (h1:c'.all (·.oneCell')=true)
 (hS:S (w.alloc (.cells c' ty))) (hQ:Q .normal (a.put o.dst undef) (w.alloc (.cells c' ty))):wpAnyH Tryz.prog .any ops Q S (fuel+1) listed a (w.alloc (.cells c ty)):=by
 refine wpAnyH_ready hr (by simp) (AllReadyH.cons ho (fun K' hK'=>?_) AllReadyH.nil)
 rw [if_pos (by simp [Region.wanted,hgd])]
 exact wp_store_new w ty x y hop c c' g hx hg hy hi hs h1 (hK'.out _ _ hS (fun _=>wpAnyH_done hr2 hQ _))
theorem call_one {ops:Array Oper} {Q:Exit->Act->World->Prop} {S:World->Prop} {fuel i f:Nat} {args:Array Value} {listed:Array Bool} {a:Act} {o:Oper} {w:World}
 (hr:Region.ready .any ops listed=[i]) (ho:ops[i]? = some o) (hgd:o.guard=none) (hrun:(execOp a.eval o).run Tryz.prog w=.ok (.enter f args) w)
 (hc:Calls Tryz.prog f args w fun e w'=>∃ v,e=.returned v/\S w'/\wpAnyH Tryz.prog .any ops Q S fuel (listed.setIfInBounds i true) (a.put o.dst v) w'):wpAnyH Tryz.prog .any ops Q S (fuel+1) listed a w:=by
 refine wpAnyH_ready hr (by simp) (AllReadyH.cons ho (fun K' hK'=>?_) AllReadyH.nil)
 rw [if_pos (by simp [Region.wanted,hgd])]
 unfold Oper.wp
 rw [hrun,Oper.upon_enter]
 refine hc.mono ?_
 rintro e w' ⟨v,rfl,hS,h⟩
 exact hK'.out _ _ hS (fun _=>h)
theorem ko_of_below {W W':World} (h:Below W.heap.size W W'):KeepsOthers W W':=⟨h.size,fun k o hk _=>(h.block k (Array.getElem?_eq_some_iff.1 hk).1).trans hk⟩
def PVal (l:List Nd) (i:Nat):Prop:=∀ (w:World) (s:Nat) (a:Option Addr) (c:Nat) (e:List Int) (K:Nat->Bool) (V:Nat->Int),Nodes w a l->(∀ x,a=some x->x.block≠s)->e.length=8->Sc w s a l c e K V->FitN l i e ->
 Calls Tryz.prog 22 #[.pointer (some ⟨s,0,none⟩),.int .i64 (i:Int)] w fun x w'=>x=.returned (.int .i64 (vT (tr l i) e))/\(∃ K' V',Sc w' s a l c e K' V')/\Kept (fun b=>b=s) w w'
def PCome (l:List Nd) (i:Nat):Prop:=∀ (w:World) (s:Nat) (a:Option Addr) (c:Nat) (e:List Int) (K:Nat->Bool) (V:Nat->Int) (x:Int),Nodes w a l->(∀ x,a=some x->x.block≠s)->e.length=8->Sc w s a l c e K V->FitN l i e ->
 Calls Tryz.prog 91 #[.pointer (some ⟨s,0,none⟩),.int .i64 x,.agg #[.int .i64 (nth l i).op,.int .i64 (nth l i).w,.int .i64 (nth l i).k,.int .i64 (nth l i).a,.int .i64 (nth l i).b,.int .i64 (nth l i).c]] w fun r w'=>r=.returned (.bool (hitB l e (nth l i) x))/\Below w.heap.size w w'
structure Boxes (w w1:World) (s:Nat) (x:Int) (n:Nd):Prop where
 sz:w1.heap.size=w.heap.size+1+1+1+1+1
 below:Below w.heap.size w w1
 ps:w1.cell? ⟨w.heap.size,0,none⟩=some (.pointer (some ⟨s,0,none⟩))
 px:w1.cell? ⟨w.heap.size+1,0,none⟩=some (.int .i64 x)
 nd:NodeAt w1 (w.heap.size+1+1) 0 n
 rb:w1.cell? ⟨w.heap.size+1+1+1,0,none⟩=some (.bool false)/\w1.frozen? ⟨w.heap.size+1+1+1,0,none⟩=false
 eb:w1.cell? ⟨w.heap.size+1+1+1+1,0,none⟩=some (.int .i64 n.b)
theorem come_facts (w:World) (s:Nat) (x:Int) (n:Nd) (t1 t2 t3 t4 t5:Nat) (w1:World) (h:w1=((((w.alloc (.cells #[.pointer (some ⟨s,0,none⟩)] t1)).alloc (.cells #[.int .i64 x] t2)).alloc (.cells #[.int .i64 n.op,.int .i64 n.w,.int .i64 n.k,.int .i64 n.a,.int .i64 n.b,.int .i64 n.c] t3)).alloc (.cells #[.bool false] t4)).alloc (.cells #[.int .i64 n.b] t5)):Boxes w w1 s x n:=by
 obtain ⟨wa,ha⟩:∃ wa,wa=w.alloc (.cells #[.pointer (some ⟨s,0,none⟩)] t1):=⟨_,rfl⟩
 obtain ⟨wb,hb⟩:∃ wb,wb=wa.alloc (.cells #[.int .i64 x] t2):=⟨_,rfl⟩
 obtain ⟨wc,hc⟩:∃ wc,wc=wb.alloc (.cells #[.int .i64 n.op,.int .i64 n.w,.int .i64 n.k,.int .i64 n.a,.int .i64 n.b,.int .i64 n.c] t3):=⟨_,rfl⟩
 obtain ⟨wd,hd⟩:∃ wd,wd=wc.alloc (.cells #[.bool false] t4):=⟨_,rfl⟩
 rw [<- ha,<- hb,<- hc,<- hd] at h
 have sa:wa.heap.size=w.heap.size+1:=by rw [ha];simp
 have sb:wb.heap.size=w.heap.size+1+1:=by rw [hb];simp [sa]
 have sc:wc.heap.size=w.heap.size+1+1+1:=by rw [hc];simp [sb]
 have sd:wd.heap.size=w.heap.size+1+1+1+1:=by rw [hd];simp [sc]
 have s1:w1.heap.size=w.heap.size+1+1+1+1+1:=by rw [h];simp [sd]
 have ba:Below w.heap.size w wa:=by rw [ha];exact (Below.refl _ _).alloc (Nat.le_refl _) _
 have bb:Below wa.heap.size wa wb:=by rw [hb];exact (Below.refl _ _).alloc (Nat.le_refl _) _
 have bc:Below wb.heap.size wb wc:=by rw [hc];exact (Below.refl _ _).alloc (Nat.le_refl _) _
 have bd:Below wc.heap.size wc wd:=by rw [hd];exact (Below.refl _ _).alloc (Nat.le_refl _) _
 have b1:Below wd.heap.size wd w1:=by rw [h];exact (Below.refl _ _).alloc (Nat.le_refl _) _
 have bd1:Below wc.heap.size wc w1:=bd.trans (b1.mono (by omega))
 have bc1:Below wb.heap.size wb w1:=bc.trans (bd1.mono (by omega))
 have bb1:Below wa.heap.size wa w1:=bb.trans (bc1.mono (by omega))
 refine ⟨s1,ba.trans (bb1.mono (by omega)),?_,?_,?_,⟨?_,?_⟩,?_⟩
 ·rw [bb1.cell (p:=⟨w.heap.size,0,none⟩) (show w.heap.size < _ by omega),ha,World.cell?_alloc_new];rfl
 ·rw [<- sa,bc1.cell (p:=⟨wa.heap.size,0,none⟩) (show wa.heap.size < _ by omega),hb,World.cell?_alloc_new];rfl
 ·rw [<- sb]
  refine NodeAt.below ?_ bd1 (show wb.heap.size < _ by omega)
  rw [hc]
  exact Dw4.node_new wb n t3 _ rfl 0 (by simp)
 ·rw [<- sc,b1.cell (p:=⟨wc.heap.size,0,none⟩) (show wc.heap.size < _ by omega),hd,World.cell?_alloc_new];rfl
 ·rw [<- sc,World.frozen?_of_block (w:=wd) (b1.block _ (show wc.heap.size < _ by omega)),hd]
  exact (Row.new wc #[.bool false] t4 1 (fun _=>.bool false) (fun j hj=>by
   have:j=0:=by omega
   subst this;rfl) 0 (by omega)).2
 ·rw [<- sd,h,World.cell?_alloc_new];rfl
end Pv7
end Go.Proofs.YthanhcobfehmnaaGreat
