import Derived.Test.YtfhdbcfhhbdiiaaRows
import Derived.WalkSpells
import Derived.WalkLawsBesides
import Derived.Deep.RegionWith
import Derived.Deep.AppendLies
import Derived.OwnWalk
import Derived.Test.YtfhdbcfhhbdiiaaNd0
namespace Go.Proofs.Ytfhdbcfhhbdiiaa
set_option maxRecDepth 100000
set_option maxHeartbeats 8000000
set_option linter.unusedVariables false
namespace Nd1
open Go.RowKit
theorem ret_bool {a b:Bool} (h:a=b):Ending.returned (.bool a)=.returned (.bool b):=by rw [h]
end Nd1
namespace Nd2
open Go.RowKit
open Nd0 Nd1
theorem eqIntS (w:World) (a a':Option Addr) (l:List Int) (c c':Nat) (h:Ints w a l) (h':Ints w a' l) :
 Calls Try.prog 76 #[.slice a l.length c,.slice a' l.length c'] w fun e w'=>e=.returned (.bool true)/\∃ m,w'=w.drewN m:=by
 have H:Hid (Ints w a l):=h
 have H':Hid (Ints w a' l):=h'
 have hm:=h.1
 unfold maxLen at hm
 clear h h'
 go_enter Try.func76,Try.ntmps76
 go_wp2
 go_loopw [5] (fun i wr=>∃ k:Nat,k<=l.length/\i=.int .i64 k/\∃ m,wr=w.drewN m) (fun i _=>l.length - (intOf i).toNat)
 case atStart=>exact ⟨0,Nat.zero_le _,rfl,0,rfl⟩
 case round =>
  obtain ⟨k,hk,rfl,m,rfl⟩:=hrel
  by_cases hlt:k < l.length
  ·have hlz:(k:Int) < (l.length:Int):=by omega
   rcases H.out.2 with h0|⟨xb,xo,rfl,hc⟩
   ·omega
   rcases H'.out.2 with h0|⟨yb,yo,rfl,hc'⟩
   ·omega
   have p0:=hc k hlt
   have q0:=hc' k hlt
   clear hc hc'
   generalize l[k]=x at p0 q0
   go_wp2
   go_quiet (fail)
   go_wp2
   go_roundw
   case rel=>exact ⟨k+1,by omega,by go_num,_,rfl⟩
   case measure=>simp [intOf];omega
  ·go_wp2
   go_ret
   exact ⟨rfl,_,rfl⟩
end Nd2
namespace Nd3
open Go.RowKit
open Nd0 Nd1
theorem markIntS (w:World) (B:Nat) (a:Option Addr) (l:List Int) (c:Nat) (h:WInts w B a l) (k0:Int) (h0:0<=k0) (h1:k0<=100) (hl:l.length<=1048576) :
 Calls Try.prog 48 #[.slice a l.length c,.int .i64 k0] w fun e w'=>e=.returned (.int .i64 (k0+l.length))/\WInts w' B a (marks l.length k0)/\Kept (Ats l.length a) w w':=by
 have H:Hid (WInts w B a l):=h
 clear h
 generalize hn:l.length=n at hl ⊢
 go_enter Try.func48,Try.ntmps48
 go_wp2
 go_loopw [1,5] (fun q i wr=>∃ k:Nat,k<=n/\i=.int .i64 k/\q=.int .i64 (k0+k)/\Kept (Ats n a) w wr/\(n=0\/∃ b o,a=some ⟨b,o,none⟩/\B<=b/\∀ j,j < n->∃ v:Int,wr.cell? ⟨b,o+j,none⟩=some (.int .i64 v)/\wr.frozen? ⟨b,o+j,none⟩=false/\(j < k->v=k0+j))) (fun _ i _=>n - (intOf i).toNat)
 case atStart =>
  refine ⟨0,Nat.zero_le _,rfl,by simp,Kept.refl _ _,?_⟩
  rcases H.out.2 with e|⟨b,o,ha,hB,hc⟩
  ·exact .inl (by omega)
  ·exact .inr ⟨b,o,ha,hB,fun j hj=>⟨l[j]'(by omega),(hc j (by omega)).1,(hc j (by omega)).2,fun x=>by omega⟩⟩
 case round =>
  obtain ⟨k,hk,rfl,rfl,hb,hx⟩:=hrel
  by_cases hlt:k < n
  ·have HK:Hid (Kept (Ats n a) w wr):=hb
   clear hb
   rcases hx with e|⟨b,o,rfl,hB,hc⟩
   ·omega
   have HC:Hid (∀ j,j < n->∃ v:Int,wr.cell? ⟨b,o+j,none⟩=some (.int .i64 v)/\wr.frozen? ⟨b,o+j,none⟩=false/\(j < k->v=k0+j)):=hc
   obtain ⟨v,p0,p1,_⟩:=hc k hlt
   clear hc
   have hlz:(k:Int) < (n:Int):=by omega
   go_wp2
   go_roundw
   case rel =>
    refine ⟨k+1,by omega,by go_num,by go_num,HK.out.setCell (p:=⟨b,o+k,none⟩) ⟨by omega,_,rfl,rfl⟩ _,.inr ⟨b,o,rfl,hB,fun j hj=>?_⟩⟩
    obtain ⟨u,q0,q1,q2⟩:=HC.out j hj
    by_cases e:j=k
    ·subst e
     exact ⟨_,set_same p0,by rw [World.frozen?_setCell];exact p1,fun _=>rfl⟩
    ·exact ⟨u,by rw [set_other (by simp<;>omega)];exact q0,by rw [World.frozen?_setCell];exact q1,fun x=>q2 (by omega)⟩
   case measure=>simp [intOf];omega
  ·go_wp2
   go_ret
   have e:k=n:=by omega
   subst e
   refine ⟨rfl,⟨by rw [marks_length];have:=H.out.1;omega,?_⟩,hb⟩
   rcases hx with e|⟨b,o,ha,hB,hc⟩
   ·exact .inl (by rw [marks_length];exact e)
   ·refine .inr ⟨b,o,ha,hB,fun i hi=>?_⟩
    rw [marks_length] at hi
    obtain ⟨v,q0,q1,q2⟩:=hc i hi
    rw [marks_get,<- q2 hi]
    exact ⟨q0,q1⟩
theorem heldIntS (w:World) (a:Option Addr) (n:Nat) (c:Nat) (k0:Int) (h:Ints w a (marks n k0)) (h0:0<=k0) (h1:k0<=100) (hl:n<=1048576) :
 Calls Try.prog 49 #[.slice a n c,.int .i64 k0] w fun e w'=>e=.returned (.int .i64 (k0+n))/\w'=w:=by
 have H:Hid (Ints w a (marks n k0)):=h
 clear h
 go_enter Try.func49,Try.ntmps49
 go_wp2
 go_loop [1,5] (fun q i=>∃ k:Nat,k<=n/\i=.int .i64 k/\q=.int .i64 (k0+k)) (fun _ i=>n - (intOf i).toNat)
 case atStart=>exact ⟨0,Nat.zero_le _,rfl,by simp⟩
 case round =>
  obtain ⟨k,hk,rfl,rfl⟩:=hrel
  by_cases hlt:k < n
  ·rcases H.out.2 with e|⟨b,o,rfl,hc⟩
   ·rw [marks_length] at e;omega
   have p0:=hc k (by rw [marks_length];exact hlt)
   rw [marks_get] at p0
   clear hc
   have hlz:(k:Int) < (n:Int):=by omega
   go_wp2
   go_round
   case rel=>exact ⟨k+1,by omega,by go_num,by go_num⟩
   case measure=>simp [intOf];omega
  ·go_wp2
   go_ret
   have e:k=n:=by omega
   subst e
   exact ⟨rfl,rfl⟩
/-- Six marks from z on. -/
def mkN (z:Int):Nd:=⟨z,z+1,z+1+1,z+1+1+1,z+1+1+1+1,z+1+1+1+1+1⟩
/-- The nodes of marks from k0 on. -/
def markN (n:Nat) (k0:Int):List Nd:=(List.range n).map fun (i:Nat)=>(mkN (k0+6*(i:Int)))
theorem markN_length (n:Nat) (k0:Int):(markN n k0).length=n:=by simp [markN]
theorem markN_get (n:Nat) (k0:Int) (i:Nat) (h:i < (markN n k0).length):(markN n k0)[i]=(mkN (k0+6*(i:Int))):=by simp [markN]
/-- A slice of the nodes l, in a block from B on, that may be written. -/
def WNodes (w:World) (B:Nat) (a:Option Addr) (l:List Nd):Prop :=
 l.length<=maxLen/\(l.length=0\/∃ b o,a=some ⟨b,o,none⟩/\B<=b/\(∀ i (h:i < l.length),NodeAt w b (o+i*6) l[i])/\∀ j,j < l.length*6->w.frozen? ⟨b,o+j,none⟩=false)
theorem WNodes.nodes {w:World} {B:Nat} {a:Option Addr} {l:List Nd} (h:WNodes w B a l):Nodes w a l:=by
 refine ⟨h.1,?_⟩
 rcases h.2 with h0|⟨b,o,ha,_,hc,_⟩
 ·exact .inl h0
 ·exact .inr ⟨b,o,ha,hc⟩
end Nd3
namespace Ap1
open Go.RowKit
open Nd0
/-- A slice of the flags l, in a block from B on, that may be written. -/
def WBools (w:World) (B:Nat) (a:Option Addr) (l:List Bool):Prop :=
 l.length<=maxLen/\(l.length=0\/∃ b o,a=some ⟨b,o,none⟩/\B<=b/\∀ i (h:i < l.length),w.cell? ⟨b,o+i,none⟩=some (.bool l[i])/\w.frozen? ⟨b,o+i,none⟩=false)
theorem infoBool:(Try.prog.info? 4).map (fun i=>(i.zero,i.size,i.bytes))=some (some (.bool false),1,1):=by kernel_rfl
/-- The slice v, in a block from B on, is the flags l and may be appended to. -/
def Owb (w:World) (B:Nat) (v:Value) (l:List Bool):Prop:=w.ownsRow B 4 1 v l.length (l.map fun x=>.bool x)
theorem Owb.form {w:World} {B:Nat} {v:Value} {l:List Bool} (h:Owb w B v l):∃ a c,v=.slice a l.length c/\WBools w B a l:=by
 obtain ⟨h1,h2⟩:=h
 rcases h2 with ⟨rfl,h0⟩|⟨g,cap,cur,rfl,hb,hg,hn,hm,hs,ht⟩
 ·have:l=[]:=List.eq_nil_of_length_eq_zero h0
  subst this
  exact ⟨none,0,rfl,Nat.zero_le _,.inl rfl⟩
 ·refine ⟨_,_,rfl,by omega,.inr ⟨g,0,rfl,hb,fun i hi=>⟨?_,?_⟩⟩⟩
  ·rw [Nat.zero_add,cell_of_row w g i cur _ _ hg]
   have e:(cur.toList.take (l.length*1))[i]? = some (.bool l[i]):=by rw [ht];simp [hi]
   rw [List.getElem?_take_of_lt (by omega)] at e
   simpa using e
  ·rw [Nat.zero_add]
   simp [World.frozen?,hg]
theorem Owb.lit (w:World) (B:Nat) (hB:B<=w.heap.size):Owb (w.alloc (.cells #[] 4)) B (.slice (some ⟨w.heap.size,0,none⟩) 0 0) [] :=
 World.ownsRow_lit w #[] 0 hB (Nat.zero_le _) rfl
theorem Owb.lt {w:World} {B:Nat} {v:Value} {l:List Bool} (h:Owb w B v l):∀ k,v.ownBlock=some k->B<=k/\k < w.heap.size:=World.ownsRow.lt h
theorem Owb.kept {w w':World} {B:Nat} {v:Value} {l:List Bool} (h:Owb w B v l) {S:Nat->Prop} (k:Kept S w w') (hs:∀ i,v.ownBlock=some i->¬ S i):Owb w' B v l:=by
 refine ⟨h.1,?_⟩
 rcases h.2 with hn|⟨g,cap,cur,rfl,hb,hgg,rest⟩
 ·exact .inl hn
 ·refine .inr ⟨g,cap,cur,rfl,hb,?_,rest⟩
  rw [k.block g (Array.getElem?_eq_some_iff.1 hgg).1 (hs g rfl)]
  exact hgg
/-- A flag written over. -/
theorem Owb.set {w:World} {B g cap:Nat} {l:List Bool} (h:Owb w B (.slice (some ⟨g,0,none⟩) l.length cap) l) (j:Nat) (x:Bool):Owb (w.setCell ⟨g,j,none⟩ (.bool x)) B (.slice (some ⟨g,0,none⟩) l.length cap) (l.set j x):=by
 have h1:=(World.ownsRow.stored h j (.bool x)).1
 unfold Owb
 rw [List.map_set,List.length_set]
 exact h1
theorem Owb.cell {w:World} {B g cap:Nat} {l:List Bool} (h:Owb w B (.slice (some ⟨g,0,none⟩) l.length cap) l) (j:Nat) (hj:j < l.length):w.cell? ⟨g,j,none⟩=some (.bool l[j])/\w.frozen? ⟨g,j,none⟩=false:=by
 obtain ⟨a,c,hv,hw⟩:=h.form
 cases hv
 rcases hw.2 with h0|⟨b,o,hb,_,hc⟩
 ·omega
 ·cases hb
  have:=hc j hj
  rw [Nat.zero_add] at this
  exact this
theorem Owb.set' {w:World} {B g cap n:Nat} {l:List Bool} (h:Owb w B (.slice (some ⟨g,0,none⟩) n cap) l) (hn:l.length=n) (j:Nat) (x:Bool):Owb (w.setCell ⟨g,j,none⟩ (.bool x)) B (.slice (some ⟨g,0,none⟩) n cap) (l.set j x):=by
 subst hn;exact h.set j x
theorem Owb.cell' {w:World} {B g cap n:Nat} {l:List Bool} (h:Owb w B (.slice (some ⟨g,0,none⟩) n cap) l) (hn:l.length=n) (j:Nat) (hj:j < n):w.cell? ⟨g,j,none⟩=some (.bool (l[j]'(by omega)))/\w.frozen? ⟨g,j,none⟩=false:=by
 subst hn;exact h.cell j hj
theorem Owb.at {w:World} {B:Nat} {v:Value} {l:List Bool} (h:Owb w B v l) (hl:1<=l.length):∃ g c,v=.slice (some ⟨g,0,none⟩) l.length c/\B<=g/\g < w.heap.size:=by
 rcases h.2 with ⟨rfl,h0⟩|⟨g,cap,cur,rfl,hb,hg,_⟩
 ·omega
 ·exact ⟨g,cap,rfl,hb,(Array.getElem?_eq_some_iff.1 hg).1⟩
/-- One flag more. -/
theorem app_bool {ops:Array Oper} {rest:List Oper} {o:Oper} {a:Act} {Q:Exit->Act->World->Prop} (W:World) (hgd:o.guard=none) (s x:Operand)
 (ho:o.op=.call { callee:=.builtin .append,args := #[s,x],argTypes := #[24,24] })
 (B:Nat) (v:Value) (l:List Bool) (y:Bool) (hs:a.eval s=v) (hx:a.eval x=.slice (some ⟨W.heap.size,0,none⟩) 1 1)
 (hown:Owb W B v l) (hB:B<=W.heap.size) (hlen:l.length<=1048576)
 (h:∀ g cap w',Owb w' B (.slice (some ⟨g,0,none⟩) (l.length+1) cap) (l++[y])->Kept (fun k=>v.ownBlock=some k) W w'->(v.ownBlock=some g\/W.heap.size<=g)->wpList Try.prog ops Q rest (a.put o.dst (.slice (some ⟨g,0,none⟩) (l.length+1) cap)) w') :
 wpList Try.prog ops Q (o :: rest) a (W.alloc (.cells #[.bool y] 4)):=by
 obtain ⟨i,hi,hzz⟩:=Option.map_eq_some_iff.1 infoBool
 simp only [Prod.mk.injEq] at hzz
 obtain ⟨hz,hsz,hb⟩:=hzz
 refine wpList_append_lies (W.alloc (.cells #[.bool y] 4)) hgd s x 24 ho B 4 i (.bool false) 1 1 Try.underlying24 hi hz hsz hb rfl (by omega) v l.length (l.map fun x=>.bool x) hs (World.ownsRow.alloc hown _)
  ⟨W.heap.size,0,none⟩ 1 1 [.bool y] hx rfl ?_ ?_ (by omega) (by unfold maxLen;omega) (by omega) (by simp;omega) _ rfl ?_
 ·intro j u hu
  exact World.news_of_block (heap_alloc_new W _) j u hu
 ·intro u hu
  simp at hu
  subst hu
  rfl
 ·intro g cap w' h1 h2 h3 h4
  refine h g cap w' ?_ ?_ ?_
  ·unfold Owb
   simpa using h1
  ·have k1:Kept (fun k=>v.ownBlock=some k) W (W.alloc (.cells #[.bool y] 4)):=(Kept.refl _ W).alloc _
   exact k1.trans ⟨h2.os,h2.tape,h2.output,h2.size,fun k hk hn=>h2.block k hk (fun e=>hn e.symm)⟩
  ·rcases h3 with h3|h3
   ·exact .inl h3
   ·exact .inr (by rw [h3];simp)
end Ap1
end Go.Proofs.Ytfhdbcfhhbdiiaa
