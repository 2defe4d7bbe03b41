import Derived.Deep.AppendLies
import Derived.OwnWalk
import Derived.Laws.MakeOwn
import Derived.Test.YtladjpombohpaaaGreatDoorPkJE0
namespace Go.Proofs.YtladjpombohpaaaGreatDoor
set_option maxRecDepth 100000
set_option maxHeartbeats 8000000
set_option linter.unusedVariables false
namespace Ap1
open Go.RowKit
open Nd0
/-- A slice of the flags l, in a block from B on, that may be written. -/
def WBools (w:World) (B:Nat) (a:Option Addr) (l:List Bool):Prop :=
 l.length<=maxLen/\(l.length=0\/∃ b o,a=some ⟨b,o,none⟩/\B<=b/\∀ i (h:i < l.length),w.cell? ⟨b,o+i,none⟩=some (.bool l[i])/\w.frozen? ⟨b,o+i,none⟩=false)
theorem infoBool:(Tryz.prog.info? 4).map (fun i=>(i.zero,i.size,i.bytes))=some (some (.bool false),1,1):=by kernel_rfl
/-- The slice v, in a block from B on, is the flags l and may be appended to. -/
def Owb (w:World) (B:Nat) (v:Value) (l:List Bool):Prop:=w.ownsRow B 4 1 v l.length (l.map fun x=>.bool x)
theorem Owb.form {w:World} {B:Nat} {v:Value} {l:List Bool} (h:Owb w B v l):∃ a c,v=.slice a l.length c/\WBools w B a l:=by
 obtain ⟨h1,h2⟩:=h
 rcases h2 with ⟨rfl,h0⟩|⟨g,cap,cur,rfl,hb,hg,hn,hm,hs,ht⟩
 ·have:l=[]:=List.eq_nil_of_length_eq_zero h0
  subst this
  exact ⟨none,0,rfl,Nat.zero_le _,.inl rfl⟩
 ·refine ⟨_,_,rfl,by omega,.inr ⟨g,0,rfl,hb,fun i hi=>⟨?_,?_⟩⟩⟩
  ·rw [Nat.zero_add,cell_of_row w g i cur _ _ hg]
   have e:(cur.toList.take (l.length*1))[i]? = some (.bool l[i]):=by rw [ht];simp [hi]
   rw [List.getElem?_take_of_lt (by omega)] at e
   simpa using e
  ·rw [Nat.zero_add]
   simp [World.frozen?,hg]
theorem Owb.lit (w:World) (B:Nat) (hB:B<=w.heap.size):Owb (w.alloc (.cells #[] 4)) B (.slice (some ⟨w.heap.size,0,none⟩) 0 0) [] :=
 World.ownsRow_lit w #[] 0 hB (Nat.zero_le _) rfl
theorem Owb.lt {w:World} {B:Nat} {v:Value} {l:List Bool} (h:Owb w B v l):∀ k,v.ownBlock=some k->B<=k/\k < w.heap.size:=World.ownsRow.lt h
theorem Owb.kept {w w':World} {B:Nat} {v:Value} {l:List Bool} (h:Owb w B v l) {S:Nat->Prop} (k:Kept S w w') (hs:∀ i,v.ownBlock=some i->¬ S i):Owb w' B v l:=by
 refine ⟨h.1,?_⟩
 rcases h.2 with hn|⟨g,cap,cur,rfl,hb,hgg,rest⟩
 ·exact .inl hn
 ·refine .inr ⟨g,cap,cur,rfl,hb,?_,rest⟩
  rw [k.block g (Array.getElem?_eq_some_iff.1 hgg).1 (hs g rfl)]
  exact hgg
/-- A flag written over. -/
theorem Owb.set {w:World} {B g cap:Nat} {l:List Bool} (h:Owb w B (.slice (some ⟨g,0,none⟩) l.length cap) l) (j:Nat) (x:Bool):Owb (w.setCell ⟨g,j,none⟩ (.bool x)) B (.slice (some ⟨g,0,none⟩) l.length cap) (l.set j x):=by
 have h1:=(World.ownsRow.stored h j (.bool x)).1
 unfold Owb
 rw [List.map_set,List.length_set]
 exact h1
theorem Owb.cell {w:World} {B g cap:Nat} {l:List Bool} (h:Owb w B (.slice (some ⟨g,0,none⟩) l.length cap) l) (j:Nat) (hj:j < l.length):w.cell? ⟨g,j,none⟩=some (.bool l[j])/\w.frozen? ⟨g,j,none⟩=false:=by
 obtain ⟨a,c,hv,hw⟩:=h.form
 cases hv
 rcases hw.2 with h0|⟨b,o,hb,_,hc⟩
 ·omega
 ·cases hb
  have:=hc j hj
  rw [Nat.zero_add] at this
  exact this
theorem Owb.set' {w:World} {B g cap n:Nat} {l:List Bool} (h:Owb w B (.slice (some ⟨g,0,none⟩) n cap) l) (hn:l.length=n) (j:Nat) (x:Bool):Owb (w.setCell ⟨g,j,none⟩ (.bool x)) B (.slice (some ⟨g,0,none⟩) n cap) (l.set j x):=by
 subst hn;exact h.set j x
theorem Owb.cell' {w:World} {B g cap n:Nat} {l:List Bool} (h:Owb w B (.slice (some ⟨g,0,none⟩) n cap) l) (hn:l.length=n) (j:Nat) (hj:j < n):w.cell? ⟨g,j,none⟩=some (.bool (l[j]'(by omega)))/\w.frozen? ⟨g,j,none⟩=false:=by
 subst hn;exact h.cell j hj
theorem Owb.at {w:World} {B:Nat} {v:Value} {l:List Bool} (h:Owb w B v l) (hl:1<=l.length):∃ g c,v=.slice (some ⟨g,0,none⟩) l.length c/\B<=g/\g < w.heap.size:=by
 rcases h.2 with ⟨rfl,h0⟩|⟨g,cap,cur,rfl,hb,hg,_⟩
 ·omega
 ·exact ⟨g,cap,rfl,hb,(Array.getElem?_eq_some_iff.1 hg).1⟩
/-- One flag more. -/
theorem app_bool {ops:Array Oper} {rest:List Oper} {o:Oper} {a:Act} {Q:Exit->Act->World->Prop} (W:World) (hgd:o.guard=none) (s x:Operand)
 (ho:o.op=.call { callee:=.builtin .append,args := #[s,x],argTypes := #[22,22] })
 (B:Nat) (v:Value) (l:List Bool) (y:Bool) (hs:a.eval s=v) (hx:a.eval x=.slice (some ⟨W.heap.size,0,none⟩) 1 1)
 (hown:Owb W B v l) (hB:B<=W.heap.size) (hlen:l.length<=1048576)
 (h:∀ g cap w',Owb w' B (.slice (some ⟨g,0,none⟩) (l.length+1) cap) (l++[y])->Kept (fun k=>v.ownBlock=some k) W w'->(v.ownBlock=some g\/W.heap.size<=g)->wpList Tryz.prog ops Q rest (a.put o.dst (.slice (some ⟨g,0,none⟩) (l.length+1) cap)) w') :
 wpList Tryz.prog ops Q (o :: rest) a (W.alloc (.cells #[.bool y] 4)):=by
 obtain ⟨i,hi,hzz⟩:=Option.map_eq_some_iff.1 infoBool
 simp only [Prod.mk.injEq] at hzz
 obtain ⟨hz,hsz,hb⟩:=hzz
 refine wpList_append_lies (W.alloc (.cells #[.bool y] 4)) hgd s x 22 ho B 4 i (.bool false) 1 1 Tryz.underlying22 hi hz hsz hb rfl (by omega) v l.length (l.map fun x=>.bool x) hs (World.ownsRow.alloc hown _)
  ⟨W.heap.size,0,none⟩ 1 1 [.bool y] hx rfl ?_ ?_ (by omega) (by unfold maxLen;omega) (by omega) (by simp;omega) _ rfl ?_
 ·intro j u hu
  exact World.news_of_block (heap_alloc_new W _) j u hu
 ·intro u hu
  simp at hu
  subst hu
  rfl
 ·intro g cap w' h1 h2 h3 h4
  refine h g cap w' ?_ ?_ ?_
  ·unfold Owb
   simpa using h1
  ·have k1:Kept (fun k=>v.ownBlock=some k) W (W.alloc (.cells #[.bool y] 4)):=(Kept.refl _ W).alloc _
   exact k1.trans ⟨h2.os,h2.tape,h2.output,h2.size,fun k hk hn=>h2.block k hk (fun e=>hn e.symm)⟩
  ·rcases h3 with h3|h3
   ·exact .inl h3
   ·exact .inr (by rw [h3];simp)
end Ap1
namespace Nd6
open Go.RowKit
open Nd0 Nd1 Nd2 Nd3 Ap1
/-- A slice of the flags l can be read at address a. -/
def Bools (w:World) (a:Option Addr) (l:List Bool):Prop :=
 l.length<=maxLen/\(l.length=0\/∃ b o,a=some ⟨b,o,none⟩/\∀ i (h:i < l.length),w.cell? ⟨b,o+i,none⟩=some (.bool l[i]))
theorem Bools.below {w w':World} {a:Option Addr} {l:List Bool} (h:Bools w a l) (k:Below w.heap.size w w'):Bools w' a l:=by
 refine ⟨h.1,?_⟩
 rcases h.2 with h0|⟨b,o,rfl,hc⟩
 ·exact .inl h0
 ·exact .inr ⟨b,o,rfl,fun i hi=>by rw [k.cell (lt_of_cell (hc i hi))];exact hc i hi⟩
def BoolsIn (w:World) (B U:Nat) (a:Option Addr) (l:List Bool):Prop :=
 l.length<=maxLen/\(l.length=0\/∃ b o,a=some ⟨b,o,none⟩/\B<=b/\b < U/\∀ i (h:i < l.length),w.cell? ⟨b,o+i,none⟩=some (.bool l[i])/\w.frozen? ⟨b,o+i,none⟩=false)
theorem WBools.within {w:World} {B:Nat} {a:Option Addr} {l:List Bool} (h:WBools w B a l):BoolsIn w B w.heap.size a l:=by
 refine ⟨h.1,?_⟩
 by_cases e:l.length=0
 ·exact .inl e
 ·rcases h.2 with h0|⟨b,o,ha,hB,hc⟩
  ·exact .inl h0
  ·exact .inr ⟨b,o,ha,hB,lt_of_cell (p:=⟨b,o+0,none⟩) (hc 0 (by omega)).1,hc⟩
theorem BoolsIn.wr {w:World} {B U:Nat} {a:Option Addr} {l:List Bool} (h:BoolsIn w B U a l):WBools w B a l:=by
 refine ⟨h.1,?_⟩
 rcases h.2 with h0|⟨b,o,ha,hB,_,hc⟩
 ·exact .inl h0
 ·exact .inr ⟨b,o,ha,hB,hc⟩
theorem WBools.plain {w:World} {B:Nat} {a:Option Addr} {l:List Bool} (h:WBools w B a l):Bools w a l:=by
 refine ⟨h.1,?_⟩
 rcases h.2 with h0|⟨b,o,ha,_,hc⟩
 ·exact .inl h0
 ·exact .inr ⟨b,o,ha,fun i hi=>(hc i hi).1⟩
theorem BoolsIn.plain {w:World} {B U:Nat} {a:Option Addr} {l:List Bool} (h:BoolsIn w B U a l):Bools w a l:=WBools.plain h.wr
theorem BoolsIn.kept {w w':World} {B U:Nat} {a:Option Addr} {l:List Bool} (h:BoolsIn w B U a l) {S:Nat->Prop} (k:Kept S w w') (hs:∀ b,B<=b->b < U->¬ S b):BoolsIn w' B U a l:=by
 refine ⟨h.1,?_⟩
 rcases h.2 with h0|⟨b,o,rfl,hB,hU,hc⟩
 ·exact .inl h0
 ·exact .inr ⟨b,o,rfl,hB,hU,fun i hi=>⟨by rw [k.cell (lt_of_cell (hc i hi).1) (hs b hB hU)];exact (hc i hi).1,by rw [k.frozen (p:=⟨b,o+i,none⟩) (lt_of_cell (hc i hi).1) (hs b hB hU)];exact (hc i hi).2⟩⟩
theorem BoolsIn.below {w w':World} {B U:Nat} {a:Option Addr} {l:List Bool} (h:BoolsIn w B U a l) (k:Below w.heap.size w w'):BoolsIn w' B U a l :=
 h.kept (S:=fun _=>False) (Kept.ofBelow k) (fun _ _ _ h=>h)
theorem _root_.Go.Proofs.YtladjpombohpaaaGreatDoor.Nd0.IntsIn.below {w w':World} {B U:Nat} {a:Option Addr} {l:List Int} (h:IntsIn w B U a l) (k:Below w.heap.size w w'):IntsIn w' B U a l :=
 h.kept (S:=fun _=>False) (Kept.ofBelow k) (fun _ _ _ h=>h)
theorem _root_.Go.Proofs.YtladjpombohpaaaGreatDoor.Nd0.IntsIn.ints {w:World} {B U:Nat} {a:Option Addr} {l:List Int} (h:IntsIn w B U a l):Ints w a l:=h.wints.ints
theorem BoolsIn.again {w w':World} {B U:Nat} {a:Option Addr} {l l':List Bool} (h:BoolsIn w B U a l) (h':WBools w' B a l') (e:l'.length=l.length):BoolsIn w' B U a l':=by
 refine ⟨h'.1,?_⟩
 rcases h.2 with h0|⟨b,o,rfl,hB,hU,hc⟩
 ·exact .inl (by omega)
 ·rcases h'.2 with h0|⟨b',o',ha,hB',hc'⟩
  ·exact .inl h0
  ·cases ha
   exact .inr ⟨b,o,rfl,hB,hU,hc'⟩
theorem BoolsIn.ats {w:World} {B U:Nat} {a:Option Addr} {l:List Bool} (h:BoolsIn w B U a l) {k:Nat} (hk:Ats l.length a k):B<=k/\k < U:=by
 obtain ⟨hp,x,hx,rfl⟩:=hk
 rcases h.2 with h0|⟨b,o,rfl,hB,hU,_⟩
 ·omega
 ·cases hx;exact ⟨hB,hU⟩
def markB (n:Nat) (k0:Int):List Bool:=(List.range n).map fun (i:Nat)=>((k0+(i:Int)) % 3==0)
theorem markB_length (n:Nat) (k0:Int):(markB n k0).length=n:=by simp [markB]
theorem markB_get (n:Nat) (k0:Int) (i:Nat) (h:i < (markB n k0).length):(markB n k0)[i]=((k0+(i:Int)) % 3==0):=by simp [markB]
theorem eqBoolS (w:World) (a a':Option Addr) (l:List Bool) (c c':Nat) (h:Bools w a l) (h':Bools w a' l) :
 Calls Tryz.prog 38 #[.slice a l.length c,.slice a' l.length c'] w fun e w'=>e=.returned (.bool true)/\Below w.heap.size w w':=by
 have H:Hid (Bools w a l):=h
 have H':Hid (Bools w a' l):=h'
 have hm:=h.1
 unfold maxLen at hm
 clear h h'
 go_enter Tryz.func38,Tryz.ntmps38
 go_wp2
 go_loopw [5] (fun i wr=>∃ k:Nat,k<=l.length/\i=.int .i64 k/\∃ m,wr=w.drewN m) (fun i _=>l.length - (intOf i).toNat)
 case atStart=>exact ⟨0,Nat.zero_le _,rfl,0,rfl⟩
 case round =>
  obtain ⟨k,hk,rfl,m,rfl⟩:=hrel
  by_cases hlt:k < l.length
  ·have hlz:(k:Int) < (l.length:Int):=by omega
   rcases H.out.2 with h0|⟨xb,xo,rfl,hc⟩
   ·omega
   rcases H'.out.2 with h0|⟨yb,yo,rfl,hc'⟩
   ·omega
   have p0:=hc k hlt
   have q0:=hc' k hlt
   clear hc hc'
   generalize l[k]=x at p0 q0
   cases x
   all_goals
    go_wp2
    go_quiet (fail)
    go_wp2
    go_roundw
    case rel=>exact ⟨k+1,by omega,by go_num,_,rfl⟩
    case measure=>simp [intOf];omega
  ·go_wp2
   go_ret
   exact ⟨rfl,⟨rfl,rfl,rfl,Nat.le_refl _,fun _ _=>rfl⟩⟩
theorem markBoolS (w:World) (B:Nat) (a:Option Addr) (l:List Bool) (c:Nat) (h:WBools w B a l) (k0:Int) (h0:0<=k0) (h1:k0<=10000000) (hl:l.length<=1048576) :
 Calls Tryz.prog 42 #[.slice a l.length c,.int .i64 k0] w fun e w'=>e=.returned (.int .i64 (k0+l.length))/\WBools w' B a (markB l.length k0)/\Kept (Ats l.length a) w w':=by
 have H:Hid (WBools w B a l):=h
 clear h
 generalize hn:l.length=n at hl ⊢
 go_enter Tryz.func42,Tryz.ntmps42
 go_wp2
 go_loopw [1,5] (fun q i wr=>∃ k:Nat,k<=n/\i=.int .i64 k/\q=.int .i64 (k0+k)/\Kept (Ats n a) w wr/\(n=0\/∃ b o,a=some ⟨b,o,none⟩/\B<=b/\∀ j,j < n->∃ v:Bool,wr.cell? ⟨b,o+j,none⟩=some (.bool v)/\wr.frozen? ⟨b,o+j,none⟩=false/\(j < k->v=((k0+(j:Int)) % 3==0)))) (fun _ i _=>n - (intOf i).toNat)
 case atStart =>
  refine ⟨0,Nat.zero_le _,rfl,by simp,Kept.refl _ _,?_⟩
  rcases H.out.2 with e|⟨b,o,ha,hB,hc⟩
  ·exact .inl (by omega)
  ·exact .inr ⟨b,o,ha,hB,fun j hj=>⟨l[j]'(by omega),(hc j (by omega)).1,(hc j (by omega)).2,fun x=>by omega⟩⟩
 case round =>
  obtain ⟨k,hk,rfl,rfl,hb,hx⟩:=hrel
  by_cases hlt:k < n
  ·have HK:Hid (Kept (Ats n a) w wr):=hb
   clear hb
   rcases hx with e|⟨b,o,rfl,hB,hc⟩
   ·omega
   have HC:Hid (∀ j,j < n->∃ v:Bool,wr.cell? ⟨b,o+j,none⟩=some (.bool v)/\wr.frozen? ⟨b,o+j,none⟩=false/\(j < k->v=((k0+(j:Int)) % 3==0))):=hc
   obtain ⟨v,p0,p1,_⟩:=hc k hlt
   clear hc
   have hlz:(k:Int) < (n:Int):=by omega
   obtain ⟨z,hz⟩:∃ z:Int,z=k0+(k:Int):=⟨_,rfl⟩
   rw [<- hz]
   have HZ:Hid (z=k0+(k:Int)):=hz
   have hz0:0<=z:=by omega
   have hz9:z<=100000000:=by omega
   clear hz
   go_wp2
   go_roundw
   case rel =>
    have F1:Kept (Ats n (some ⟨b,o,none⟩)) w (wr.setCell ⟨b,o+k,none⟩ (.bool (z % 3==0))):=HK.out.setCell (p:=⟨b,o+k,none⟩) ⟨by omega,_,rfl,rfl⟩ _
    have F3:∀ j,j < n->∃ v:Bool,(wr.setCell ⟨b,o+k,none⟩ (.bool (z % 3==0))).cell? ⟨b,o+j,none⟩=some (.bool v)/\(wr.setCell ⟨b,o+k,none⟩ (.bool (z % 3==0))).frozen? ⟨b,o+j,none⟩=false/\(j < k+1->v=((k0+(j:Int)) % 3==0)):=by
     intro j hj
     obtain ⟨u,q0,q1,q2⟩:=HC.out j hj
     by_cases e:j=k
     ·subst e
      exact ⟨_,set_same p0,by rw [World.frozen?_setCell];exact p1,fun _=>by rw [HZ.out]⟩
     ·exact ⟨u,by rw [set_other (by simp<;>omega)];exact q0,by rw [World.frozen?_setCell];exact q1,fun x=>q2 (by omega)⟩
    exact ⟨k+1,by omega,by go_num,congrArg (Value.int .i64) (by have:=HZ.out;omega),F1,.inr ⟨b,o,rfl,hB,F3⟩⟩
   case measure=>simp [intOf];omega
  ·go_wp2
   go_ret
   have e:k=n:=by omega
   subst e
   refine ⟨rfl,⟨by rw [markB_length];have:=H.out.1;omega,?_⟩,hb⟩
   rcases hx with e|⟨b,o,ha,hB,hc⟩
   ·exact .inl (by rw [markB_length];exact e)
   ·refine .inr ⟨b,o,ha,hB,fun i hi=>?_⟩
    rw [markB_length] at hi
    obtain ⟨v,q0,q1,q2⟩:=hc i hi
    rw [markB_get,<- q2 hi]
    exact ⟨q0,q1⟩
theorem heldBoolS (w:World) (a:Option Addr) (n:Nat) (c:Nat) (k0:Int) (h:Bools w a (markB n k0)) (h0:0<=k0) (h1:k0<=10000000) (hl:n<=1048576) :
 Calls Tryz.prog 45 #[.slice a n c,.int .i64 k0] w fun e w'=>e=.returned (.int .i64 (k0+n))/\w'=w:=by
 have H:Hid (Bools w a (markB n k0)):=h
 clear h
 go_enter Tryz.func45,Tryz.ntmps45
 go_wp2
 go_loop [1,5] (fun q i=>∃ k:Nat,k<=n/\i=.int .i64 k/\q=.int .i64 (k0+k)) (fun _ i=>n - (intOf i).toNat)
 case atStart=>exact ⟨0,Nat.zero_le _,rfl,by simp⟩
 case round =>
  obtain ⟨k,hk,rfl,rfl⟩:=hrel
  by_cases hlt:k < n
  ·rcases H.out.2 with e|⟨b,o,rfl,hc⟩
   ·rw [markB_length] at e;omega
   have p0:=hc k (by rw [markB_length];exact hlt)
   rw [markB_get] at p0
   clear hc
   have hlz:(k:Int) < (n:Int):=by omega
   obtain ⟨z,hz⟩:∃ z:Int,z=k0+(k:Int):=⟨_,rfl⟩
   rw [<- hz] at p0 ⊢
   have HZ:Hid (z=k0+(k:Int)):=hz
   have hz0:0<=z:=by omega
   have hz9:z<=100000000:=by omega
   clear hz
   go_wp2
   go_round
   case rel=>exact ⟨k+1,by omega,by go_num,congrArg (Value.int .i64) (by have:=HZ.out;omega)⟩
   case measure=>simp [intOf];omega
  ·go_wp2
   go_ret
   have e:k=n:=by omega
   subst e
   exact ⟨rfl,rfl⟩
theorem eqIntB (w:World) (a a':Option Addr) (l:List Int) (c c':Nat) (h:Ints w a l) (h':Ints w a' l) :
 Calls Tryz.prog 40 #[.slice a l.length c,.slice a' l.length c'] w fun e w'=>e=.returned (.bool true)/\Below w.heap.size w w':=by
 refine (eqIntS w a a' l c c' h h').mono ?_
 rintro e w' ⟨rfl,m,rfl⟩
 exact ⟨rfl,⟨rfl,rfl,rfl,Nat.le_refl _,fun _ _=>rfl⟩⟩
theorem infoInt6:(Tryz.prog.info? 3).map (fun i=>(i.zero,i.size,i.bytes))=some (some (.int .i64 0),1,8):=by kernel_rfl
def noughts6 (n:Nat):Array Value:=madeCells #[.int .i64 0] (n*1)
theorem noughts6_get (n j:Nat) (h:j < n):(noughts6 n)[j]? = some (.int .i64 0):=by
 simp only [noughts6,madeCells,Array.getElem?_map,Array.getElem?_range]
 rw [if_pos (by omega)]
 simp only [Option.map_some]
 have e:j % 1=0:=Nat.mod_one j
 exact congrArg (fun m=>some ((#[.int .i64 0]:Array Value)[m]!)) e
theorem makeInts6 (n:Nat) (hn:n<=1048576) (w:World) :
 (Instr.makeSlice 25 (.int .i64 (n:Int)) (.int .i64 (n:Int))).run Tryz.prog w=.ok (.slice (some ⟨w.heap.size,0,none⟩) n n) (w.alloc (.cells (noughts6 n) 3)):=by
 obtain ⟨i,hi,hzz⟩:=Option.map_eq_some_iff.1 infoInt6
 simp only [Prod.mk.injEq] at hzz
 obtain ⟨hz,hs,hb⟩:=hzz
 have h:=run_make (P:=Tryz.prog) w 25 3 i _ Tryz.underlying25 hi hz .i64 .i64 n n (by omega) (Int.le_refl _) (by rw [hb];omega) (by omega)
 rw [hs] at h
 simpa [noughts6,Value.cells] using h
theorem toIntS (w:World) (a:Option Addr) (l:List Int) (c:Nat) (h:Ints w a l) (hl:l.length<=1048576) :
 Calls Tryz.prog 32 #[.slice a l.length c] w fun e w'=>e=.returned (.slice (some ⟨w.heap.size,0,none⟩) l.length l.length)/\WInts w' w.heap.size (some ⟨w.heap.size,0,none⟩) l/\Below w.heap.size w w':=by
 have H:Hid (Ints w a l):=h
 clear h
 have hmk:=makeInts6 l.length hl
 go_enter Tryz.func32,Tryz.ntmps32
 go_wp2
 clear hmk
 go_loopw [4] (fun i wr=>∃ k:Nat,k<=l.length/\i=.int .i64 k/\Below w.heap.size w wr/\w.heap.size < wr.heap.size/\∀ j (hj:j < l.length),∃ v:Int,wr.cell? ⟨w.heap.size,j,none⟩=some (.int .i64 v)/\wr.frozen? ⟨w.heap.size,j,none⟩=false/\(j < k->v=l[j])) (fun i _=>l.length - (intOf i).toNat)
 case atStart =>
  exact ⟨0,Nat.zero_le _,rfl,(Below.refl _ _).alloc (Nat.le_refl _) _,by simp,fun j hj=>⟨0,by rw [World.cell?_alloc_new];exact noughts6_get _ _ hj,by simp,fun x=>by omega⟩⟩
 case round =>
  obtain ⟨k,hk,rfl,hb,hz,hx⟩:=hrel
  have HB:Hid (Below w.heap.size w wr):=hb
  by_cases hlt:k < l.length
  ·have HN:=H.out.below hb
   clear hb
   rcases HN.2 with h0|⟨xb,xo,rfl,hc⟩
   ·omega
   have p0:=hc k hlt
   clear hc HN
   have HX:Hid (∀ j (hj:j < l.length),∃ v:Int,wr.cell? ⟨w.heap.size,j,none⟩=some (.int .i64 v)/\wr.frozen? ⟨w.heap.size,j,none⟩=false/\(j < k->v=l[j])):=hx
   obtain ⟨v,q0,q1,_⟩:=hx k hlt
   clear hx
   have hlz:(k:Int) < (l.length:Int):=by omega
   obtain ⟨nd,hnd⟩:∃ nd:Int,nd=l[k]:=⟨_,rfl⟩
   have HD:Hid (nd=l[k]):=hnd
   rw [<- hnd] at p0
   clear hnd
   go_wp2
   go_roundw
   case rel =>
    have F1:Below w.heap.size w (wr.setCell ⟨w.heap.size,k,none⟩ (.int .i64 nd)) :=
     HB.out.trans (((Kept.refl (fun b=>b=w.heap.size) wr).setCell (p:=⟨w.heap.size,k,none⟩) rfl _).below (fun i hi=>by omega) HB.out.size)
    have F2:w.heap.size < (wr.setCell ⟨w.heap.size,k,none⟩ (.int .i64 nd)).heap.size:=by simpa [World.setCell] using hz
    have F4:∀ j (hj:j < l.length),∃ v:Int,(wr.setCell ⟨w.heap.size,k,none⟩ (.int .i64 nd)).cell? ⟨w.heap.size,j,none⟩=some (.int .i64 v)/\(wr.setCell ⟨w.heap.size,k,none⟩ (.int .i64 nd)).frozen? ⟨w.heap.size,j,none⟩=false/\(j < k+1->v=l[j]):=by
     intro j hj
     obtain ⟨u,r0,r1,r2⟩:=HX.out j hj
     by_cases e:j=k
     ·subst e
      exact ⟨nd,set_same r0,by rw [World.frozen?_setCell];exact r1,fun _=>HD.out⟩
     ·exact ⟨u,by rw [set_other (by simp<;>omega)];exact r0,by rw [World.frozen?_setCell];exact r1,fun x=>r2 (by omega)⟩
    exact ⟨k+1,by omega,by go_num,F1,F2,F4⟩
   case measure=>simp [intOf];omega
  ·go_wp2
   go_ret
   refine ⟨rfl,⟨H.out.1,?_⟩,HB.out⟩
   refine .inr ⟨w.heap.size,0,rfl,Nat.le_refl _,fun i hi=>?_⟩
   obtain ⟨v,q0,q1,q2⟩:=hx i hi
   rw [Nat.zero_add,<- q2 (by omega)]
   exact ⟨q0,q1⟩
theorem markIntB (w:World) (B:Nat) (a:Option Addr) (l:List Int) (c:Nat) (h:WInts w B a l) (k0:Int) (h0:0<=k0) (h1:k0<=10000000) (hl:l.length<=1048576) :
 Calls Tryz.prog 43 #[.slice a l.length c,.int .i64 k0] w fun e w'=>e=.returned (.int .i64 (k0+l.length))/\WInts w' B a (marks l.length k0)/\Kept (Ats l.length a) w w':=by
 have H:Hid (WInts w B a l):=h
 clear h
 generalize hn:l.length=n at hl ⊢
 go_enter Tryz.func43,Tryz.ntmps43
 go_wp2
 go_loopw [1,5] (fun q i wr=>∃ k:Nat,k<=n/\i=.int .i64 k/\q=.int .i64 (k0+k)/\Kept (Ats n a) w wr/\(n=0\/∃ b o,a=some ⟨b,o,none⟩/\B<=b/\∀ j,j < n->∃ v:Int,wr.cell? ⟨b,o+j,none⟩=some (.int .i64 v)/\wr.frozen? ⟨b,o+j,none⟩=false/\(j < k->v=k0+j))) (fun _ i _=>n - (intOf i).toNat)
 case atStart =>
  refine ⟨0,Nat.zero_le _,rfl,by simp,Kept.refl _ _,?_⟩
  rcases H.out.2 with e|⟨b,o,ha,hB,hc⟩
  ·exact .inl (by omega)
  ·exact .inr ⟨b,o,ha,hB,fun j hj=>⟨l[j]'(by omega),(hc j (by omega)).1,(hc j (by omega)).2,fun x=>by omega⟩⟩
 case round =>
  obtain ⟨k,hk,rfl,rfl,hb,hx⟩:=hrel
  by_cases hlt:k < n
  ·have HK:Hid (Kept (Ats n a) w wr):=hb
   clear hb
   rcases hx with e|⟨b,o,rfl,hB,hc⟩
   ·omega
   have HC:Hid (∀ j,j < n->∃ v:Int,wr.cell? ⟨b,o+j,none⟩=some (.int .i64 v)/\wr.frozen? ⟨b,o+j,none⟩=false/\(j < k->v=k0+j)):=hc
   obtain ⟨v,p0,p1,_⟩:=hc k hlt
   clear hc
   have hlz:(k:Int) < (n:Int):=by omega
   go_wp2
   go_roundw
   case rel =>
    refine ⟨k+1,by omega,by go_num,by go_num,HK.out.setCell (p:=⟨b,o+k,none⟩) ⟨by omega,_,rfl,rfl⟩ _,.inr ⟨b,o,rfl,hB,fun j hj=>?_⟩⟩
    obtain ⟨u,q0,q1,q2⟩:=HC.out j hj
    by_cases e:j=k
    ·subst e
     exact ⟨_,set_same p0,by rw [World.frozen?_setCell];exact p1,fun _=>rfl⟩
    ·exact ⟨u,by rw [set_other (by simp<;>omega)];exact q0,by rw [World.frozen?_setCell];exact q1,fun x=>q2 (by omega)⟩
   case measure=>simp [intOf];omega
  ·go_wp2
   go_ret
   have e:k=n:=by omega
   subst e
   refine ⟨rfl,⟨by rw [marks_length];have:=H.out.1;omega,?_⟩,hb⟩
   rcases hx with e|⟨b,o,ha,hB,hc⟩
   ·exact .inl (by rw [marks_length];exact e)
   ·refine .inr ⟨b,o,ha,hB,fun i hi=>?_⟩
    rw [marks_length] at hi
    obtain ⟨v,q0,q1,q2⟩:=hc i hi
    rw [marks_get,<- q2 hi]
    exact ⟨q0,q1⟩
theorem heldIntB (w:World) (a:Option Addr) (n:Nat) (c:Nat) (k0:Int) (h:Ints w a (marks n k0)) (h0:0<=k0) (h1:k0<=10000000) (hl:n<=1048576) :
 Calls Tryz.prog 46 #[.slice a n c,.int .i64 k0] w fun e w'=>e=.returned (.int .i64 (k0+n))/\w'=w:=by
 have H:Hid (Ints w a (marks n k0)):=h
 clear h
 go_enter Tryz.func46,Tryz.ntmps46
 go_wp2
 go_loop [1,5] (fun q i=>∃ k:Nat,k<=n/\i=.int .i64 k/\q=.int .i64 (k0+k)) (fun _ i=>n - (intOf i).toNat)
 case atStart=>exact ⟨0,Nat.zero_le _,rfl,by simp⟩
 case round =>
  obtain ⟨k,hk,rfl,rfl⟩:=hrel
  by_cases hlt:k < n
  ·rcases H.out.2 with e|⟨b,o,rfl,hc⟩
   ·rw [marks_length] at e;omega
   have p0:=hc k (by rw [marks_length];exact hlt)
   rw [marks_get] at p0
   clear hc
   have hlz:(k:Int) < (n:Int):=by omega
   go_wp2
   go_round
   case rel=>exact ⟨k+1,by omega,by go_num,by go_num⟩
   case measure=>simp [intOf];omega
  ·go_wp2
   go_ret
   have e:k=n:=by omega
   subst e
   exact ⟨rfl,rfl⟩
end Nd6
end Go.Proofs.YtladjpombohpaaaGreatDoor
