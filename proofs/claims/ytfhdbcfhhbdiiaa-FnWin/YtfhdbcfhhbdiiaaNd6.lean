import Derived.Laws.MakeOwn
import Derived.Test.YtfhdbcfhhbdiiaaPkXW1
namespace Go.Proofs.Ytfhdbcfhhbdiiaa
set_option maxRecDepth 100000
set_option maxHeartbeats 8000000
set_option linter.unusedVariables false
namespace Nd6
open Go.RowKit
open Nd0 Nd1 Nd2 Nd3 Ap1
/-- A slice of the flags l can be read at address a. -/
def Bools (w:World) (a:Option Addr) (l:List Bool):Prop :=
 l.length<=maxLen/\(l.length=0\/∃ b o,a=some ⟨b,o,none⟩/\∀ i (h:i < l.length),w.cell? ⟨b,o+i,none⟩=some (.bool l[i]))
theorem Bools.below {w w':World} {a:Option Addr} {l:List Bool} (h:Bools w a l) (k:Below w.heap.size w w'):Bools w' a l:=by
 refine ⟨h.1,?_⟩
 rcases h.2 with h0|⟨b,o,rfl,hc⟩
 ·exact .inl h0
 ·exact .inr ⟨b,o,rfl,fun i hi=>by rw [k.cell (lt_of_cell (hc i hi))];exact hc i hi⟩
def BoolsIn (w:World) (B U:Nat) (a:Option Addr) (l:List Bool):Prop :=
 l.length<=maxLen/\(l.length=0\/∃ b o,a=some ⟨b,o,none⟩/\B<=b/\b < U/\∀ i (h:i < l.length),w.cell? ⟨b,o+i,none⟩=some (.bool l[i])/\w.frozen? ⟨b,o+i,none⟩=false)
theorem WBools.within {w:World} {B:Nat} {a:Option Addr} {l:List Bool} (h:WBools w B a l):BoolsIn w B w.heap.size a l:=by
 refine ⟨h.1,?_⟩
 by_cases e:l.length=0
 ·exact .inl e
 ·rcases h.2 with h0|⟨b,o,ha,hB,hc⟩
  ·exact .inl h0
  ·exact .inr ⟨b,o,ha,hB,lt_of_cell (p:=⟨b,o+0,none⟩) (hc 0 (by omega)).1,hc⟩
theorem BoolsIn.wr {w:World} {B U:Nat} {a:Option Addr} {l:List Bool} (h:BoolsIn w B U a l):WBools w B a l:=by
 refine ⟨h.1,?_⟩
 rcases h.2 with h0|⟨b,o,ha,hB,_,hc⟩
 ·exact .inl h0
 ·exact .inr ⟨b,o,ha,hB,hc⟩
theorem WBools.plain {w:World} {B:Nat} {a:Option Addr} {l:List Bool} (h:WBools w B a l):Bools w a l:=by
 refine ⟨h.1,?_⟩
 rcases h.2 with h0|⟨b,o,ha,_,hc⟩
 ·exact .inl h0
 ·exact .inr ⟨b,o,ha,fun i hi=>(hc i hi).1⟩
theorem BoolsIn.plain {w:World} {B U:Nat} {a:Option Addr} {l:List Bool} (h:BoolsIn w B U a l):Bools w a l:=WBools.plain h.wr
theorem BoolsIn.kept {w w':World} {B U:Nat} {a:Option Addr} {l:List Bool} (h:BoolsIn w B U a l) {S:Nat->Prop} (k:Kept S w w') (hs:∀ b,B<=b->b < U->¬ S b):BoolsIn w' B U a l:=by
 refine ⟨h.1,?_⟩
 rcases h.2 with h0|⟨b,o,rfl,hB,hU,hc⟩
 ·exact .inl h0
 ·exact .inr ⟨b,o,rfl,hB,hU,fun i hi=>⟨by rw [k.cell (lt_of_cell (hc i hi).1) (hs b hB hU)];exact (hc i hi).1,by rw [k.frozen (p:=⟨b,o+i,none⟩) (lt_of_cell (hc i hi).1) (hs b hB hU)];exact (hc i hi).2⟩⟩
theorem BoolsIn.below {w w':World} {B U:Nat} {a:Option Addr} {l:List Bool} (h:BoolsIn w B U a l) (k:Below w.heap.size w w'):BoolsIn w' B U a l :=
 h.kept (S:=fun _=>False) (Kept.ofBelow k) (fun _ _ _ h=>h)
theorem _root_.Go.Proofs.Ytfhdbcfhhbdiiaa.Nd0.IntsIn.below {w w':World} {B U:Nat} {a:Option Addr} {l:List Int} (h:IntsIn w B U a l) (k:Below w.heap.size w w'):IntsIn w' B U a l :=
 h.kept (S:=fun _=>False) (Kept.ofBelow k) (fun _ _ _ h=>h)
theorem _root_.Go.Proofs.Ytfhdbcfhhbdiiaa.Nd0.IntsIn.ints {w:World} {B U:Nat} {a:Option Addr} {l:List Int} (h:IntsIn w B U a l):Ints w a l:=h.wints.ints
theorem BoolsIn.again {w w':World} {B U:Nat} {a:Option Addr} {l l':List Bool} (h:BoolsIn w B U a l) (h':WBools w' B a l') (e:l'.length=l.length):BoolsIn w' B U a l':=by
 refine ⟨h'.1,?_⟩
 rcases h.2 with h0|⟨b,o,rfl,hB,hU,hc⟩
 ·exact .inl (by omega)
 ·rcases h'.2 with h0|⟨b',o',ha,hB',hc'⟩
  ·exact .inl h0
  ·cases ha
   exact .inr ⟨b,o,rfl,hB,hU,hc'⟩
theorem BoolsIn.ats {w:World} {B U:Nat} {a:Option Addr} {l:List Bool} (h:BoolsIn w B U a l) {k:Nat} (hk:Ats l.length a k):B<=k/\k < U:=by
 obtain ⟨hp,x,hx,rfl⟩:=hk
 rcases h.2 with h0|⟨b,o,rfl,hB,hU,_⟩
 ·omega
 ·cases hx;exact ⟨hB,hU⟩
def markB (n:Nat) (k0:Int):List Bool:=(List.range n).map fun (i:Nat)=>((k0+(i:Int)) % 3==0)
theorem markB_length (n:Nat) (k0:Int):(markB n k0).length=n:=by simp [markB]
theorem markB_get (n:Nat) (k0:Int) (i:Nat) (h:i < (markB n k0).length):(markB n k0)[i]=((k0+(i:Int)) % 3==0):=by simp [markB]
theorem eqBoolS (w:World) (a a':Option Addr) (l:List Bool) (c c':Nat) (h:Bools w a l) (h':Bools w a' l) :
 Calls Try.prog 19 #[.slice a l.length c,.slice a' l.length c'] w fun e w'=>e=.returned (.bool true)/\Below w.heap.size w w':=by
 have H:Hid (Bools w a l):=h
 have H':Hid (Bools w a' l):=h'
 have hm:=h.1
 unfold maxLen at hm
 clear h h'
 go_enter Try.func19,Try.ntmps19
 go_wp2
 go_loopw [5] (fun i wr=>∃ k:Nat,k<=l.length/\i=.int .i64 k/\∃ m,wr=w.drewN m) (fun i _=>l.length - (intOf i).toNat)
 case atStart=>exact ⟨0,Nat.zero_le _,rfl,0,rfl⟩
 case round =>
  obtain ⟨k,hk,rfl,m,rfl⟩:=hrel
  by_cases hlt:k < l.length
  ·have hlz:(k:Int) < (l.length:Int):=by omega
   rcases H.out.2 with h0|⟨xb,xo,rfl,hc⟩
   ·omega
   rcases H'.out.2 with h0|⟨yb,yo,rfl,hc'⟩
   ·omega
   have p0:=hc k hlt
   have q0:=hc' k hlt
   clear hc hc'
   generalize l[k]=x at p0 q0
   cases x
   all_goals
    go_wp2
    go_quiet (fail)
    go_wp2
    go_roundw
    case rel=>exact ⟨k+1,by omega,by go_num,_,rfl⟩
    case measure=>simp [intOf];omega
  ·go_wp2
   go_ret
   exact ⟨rfl,⟨rfl,rfl,rfl,Nat.le_refl _,fun _ _=>rfl⟩⟩
theorem markBoolS (w:World) (B:Nat) (a:Option Addr) (l:List Bool) (c:Nat) (h:WBools w B a l) (k0:Int) (h0:0<=k0) (h1:k0<=10000000) (hl:l.length<=1048576) :
 Calls Try.prog 20 #[.slice a l.length c,.int .i64 k0] w fun e w'=>e=.returned (.int .i64 (k0+l.length))/\WBools w' B a (markB l.length k0)/\Kept (Ats l.length a) w w':=by
 have H:Hid (WBools w B a l):=h
 clear h
 generalize hn:l.length=n at hl ⊢
 go_enter Try.func20,Try.ntmps20
 go_wp2
 go_loopw [1,5] (fun q i wr=>∃ k:Nat,k<=n/\i=.int .i64 k/\q=.int .i64 (k0+k)/\Kept (Ats n a) w wr/\(n=0\/∃ b o,a=some ⟨b,o,none⟩/\B<=b/\∀ j,j < n->∃ v:Bool,wr.cell? ⟨b,o+j,none⟩=some (.bool v)/\wr.frozen? ⟨b,o+j,none⟩=false/\(j < k->v=((k0+(j:Int)) % 3==0)))) (fun _ i _=>n - (intOf i).toNat)
 case atStart =>
  refine ⟨0,Nat.zero_le _,rfl,by simp,Kept.refl _ _,?_⟩
  rcases H.out.2 with e|⟨b,o,ha,hB,hc⟩
  ·exact .inl (by omega)
  ·exact .inr ⟨b,o,ha,hB,fun j hj=>⟨l[j]'(by omega),(hc j (by omega)).1,(hc j (by omega)).2,fun x=>by omega⟩⟩
 case round =>
  obtain ⟨k,hk,rfl,rfl,hb,hx⟩:=hrel
  by_cases hlt:k < n
  ·have HK:Hid (Kept (Ats n a) w wr):=hb
   clear hb
   rcases hx with e|⟨b,o,rfl,hB,hc⟩
   ·omega
   have HC:Hid (∀ j,j < n->∃ v:Bool,wr.cell? ⟨b,o+j,none⟩=some (.bool v)/\wr.frozen? ⟨b,o+j,none⟩=false/\(j < k->v=((k0+(j:Int)) % 3==0))):=hc
   obtain ⟨v,p0,p1,_⟩:=hc k hlt
   clear hc
   have hlz:(k:Int) < (n:Int):=by omega
   obtain ⟨z,hz⟩:∃ z:Int,z=k0+(k:Int):=⟨_,rfl⟩
   rw [<- hz]
   have HZ:Hid (z=k0+(k:Int)):=hz
   have hz0:0<=z:=by omega
   have hz9:z<=100000000:=by omega
   clear hz
   go_wp2
   go_roundw
   case rel =>
    have F1:Kept (Ats n (some ⟨b,o,none⟩)) w (wr.setCell ⟨b,o+k,none⟩ (.bool (z % 3==0))):=HK.out.setCell (p:=⟨b,o+k,none⟩) ⟨by omega,_,rfl,rfl⟩ _
    have F3:∀ j,j < n->∃ v:Bool,(wr.setCell ⟨b,o+k,none⟩ (.bool (z % 3==0))).cell? ⟨b,o+j,none⟩=some (.bool v)/\(wr.setCell ⟨b,o+k,none⟩ (.bool (z % 3==0))).frozen? ⟨b,o+j,none⟩=false/\(j < k+1->v=((k0+(j:Int)) % 3==0)):=by
     intro j hj
     obtain ⟨u,q0,q1,q2⟩:=HC.out j hj
     by_cases e:j=k
     ·subst e
      exact ⟨_,set_same p0,by rw [World.frozen?_setCell];exact p1,fun _=>by rw [HZ.out]⟩
     ·exact ⟨u,by rw [set_other (by simp<;>omega)];exact q0,by rw [World.frozen?_setCell];exact q1,fun x=>q2 (by omega)⟩
    exact ⟨k+1,by omega,by go_num,congrArg (Value.int .i64) (by have:=HZ.out;omega),F1,.inr ⟨b,o,rfl,hB,F3⟩⟩
   case measure=>simp [intOf];omega
  ·go_wp2
   go_ret
   have e:k=n:=by omega
   subst e
   refine ⟨rfl,⟨by rw [markB_length];have:=H.out.1;omega,?_⟩,hb⟩
   rcases hx with e|⟨b,o,ha,hB,hc⟩
   ·exact .inl (by rw [markB_length];exact e)
   ·refine .inr ⟨b,o,ha,hB,fun i hi=>?_⟩
    rw [markB_length] at hi
    obtain ⟨v,q0,q1,q2⟩:=hc i hi
    rw [markB_get,<- q2 hi]
    exact ⟨q0,q1⟩
theorem eqIntB (w:World) (a a':Option Addr) (l:List Int) (c c':Nat) (h:Ints w a l) (h':Ints w a' l) :
 Calls Try.prog 76 #[.slice a l.length c,.slice a' l.length c'] w fun e w'=>e=.returned (.bool true)/\Below w.heap.size w w':=by
 refine (eqIntS w a a' l c c' h h').mono ?_
 rintro e w' ⟨rfl,m,rfl⟩
 exact ⟨rfl,⟨rfl,rfl,rfl,Nat.le_refl _,fun _ _=>rfl⟩⟩
theorem infoInt6:(Try.prog.info? 3).map (fun i=>(i.zero,i.size,i.bytes))=some (some (.int .i64 0),1,8):=by kernel_rfl
def noughts6 (n:Nat):Array Value:=madeCells #[.int .i64 0] (n*1)
theorem noughts6_get (n j:Nat) (h:j < n):(noughts6 n)[j]? = some (.int .i64 0):=by
 simp only [noughts6,madeCells,Array.getElem?_map,Array.getElem?_range]
 rw [if_pos (by omega)]
 simp only [Option.map_some]
 have e:j % 1=0:=Nat.mod_one j
 exact congrArg (fun m=>some ((#[.int .i64 0]:Array Value)[m]!)) e
theorem makeInts6 (n:Nat) (hn:n<=1048576) (w:World) :
 (Instr.makeSlice 35 (.int .i64 (n:Int)) (.int .i64 (n:Int))).run Try.prog w=.ok (.slice (some ⟨w.heap.size,0,none⟩) n n) (w.alloc (.cells (noughts6 n) 3)):=by
 obtain ⟨i,hi,hzz⟩:=Option.map_eq_some_iff.1 infoInt6
 simp only [Prod.mk.injEq] at hzz
 obtain ⟨hz,hs,hb⟩:=hzz
 have h:=run_make (P:=Try.prog) w 35 3 i _ Try.underlying35 hi hz .i64 .i64 n n (by omega) (Int.le_refl _) (by rw [hb];omega) (by omega)
 rw [hs] at h
 simpa [noughts6,Value.cells] using h
theorem markIntB (w:World) (B:Nat) (a:Option Addr) (l:List Int) (c:Nat) (h:WInts w B a l) (k0:Int) (h0:0<=k0) (h1:k0<=10000000) (hl:l.length<=1048576) :
 Calls Try.prog 48 #[.slice a l.length c,.int .i64 k0] w fun e w'=>e=.returned (.int .i64 (k0+l.length))/\WInts w' B a (marks l.length k0)/\Kept (Ats l.length a) w w':=by
 have H:Hid (WInts w B a l):=h
 clear h
 generalize hn:l.length=n at hl ⊢
 go_enter Try.func48,Try.ntmps48
 go_wp2
 go_loopw [1,5] (fun q i wr=>∃ k:Nat,k<=n/\i=.int .i64 k/\q=.int .i64 (k0+k)/\Kept (Ats n a) w wr/\(n=0\/∃ b o,a=some ⟨b,o,none⟩/\B<=b/\∀ j,j < n->∃ v:Int,wr.cell? ⟨b,o+j,none⟩=some (.int .i64 v)/\wr.frozen? ⟨b,o+j,none⟩=false/\(j < k->v=k0+j))) (fun _ i _=>n - (intOf i).toNat)
 case atStart =>
  refine ⟨0,Nat.zero_le _,rfl,by simp,Kept.refl _ _,?_⟩
  rcases H.out.2 with e|⟨b,o,ha,hB,hc⟩
  ·exact .inl (by omega)
  ·exact .inr ⟨b,o,ha,hB,fun j hj=>⟨l[j]'(by omega),(hc j (by omega)).1,(hc j (by omega)).2,fun x=>by omega⟩⟩
 case round =>
  obtain ⟨k,hk,rfl,rfl,hb,hx⟩:=hrel
  by_cases hlt:k < n
  ·have HK:Hid (Kept (Ats n a) w wr):=hb
   clear hb
   rcases hx with e|⟨b,o,rfl,hB,hc⟩
   ·omega
   have HC:Hid (∀ j,j < n->∃ v:Int,wr.cell? ⟨b,o+j,none⟩=some (.int .i64 v)/\wr.frozen? ⟨b,o+j,none⟩=false/\(j < k->v=k0+j)):=hc
   obtain ⟨v,p0,p1,_⟩:=hc k hlt
   clear hc
   have hlz:(k:Int) < (n:Int):=by omega
   go_wp2
   go_roundw
   case rel =>
    refine ⟨k+1,by omega,by go_num,by go_num,HK.out.setCell (p:=⟨b,o+k,none⟩) ⟨by omega,_,rfl,rfl⟩ _,.inr ⟨b,o,rfl,hB,fun j hj=>?_⟩⟩
    obtain ⟨u,q0,q1,q2⟩:=HC.out j hj
    by_cases e:j=k
    ·subst e
     exact ⟨_,set_same p0,by rw [World.frozen?_setCell];exact p1,fun _=>rfl⟩
    ·exact ⟨u,by rw [set_other (by simp<;>omega)];exact q0,by rw [World.frozen?_setCell];exact q1,fun x=>q2 (by omega)⟩
   case measure=>simp [intOf];omega
  ·go_wp2
   go_ret
   have e:k=n:=by omega
   subst e
   refine ⟨rfl,⟨by rw [marks_length];have:=H.out.1;omega,?_⟩,hb⟩
   rcases hx with e|⟨b,o,ha,hB,hc⟩
   ·exact .inl (by rw [marks_length];exact e)
   ·refine .inr ⟨b,o,ha,hB,fun i hi=>?_⟩
    rw [marks_length] at hi
    obtain ⟨v,q0,q1,q2⟩:=hc i hi
    rw [marks_get,<- q2 hi]
    exact ⟨q0,q1⟩
theorem heldIntB (w:World) (a:Option Addr) (n:Nat) (c:Nat) (k0:Int) (h:Ints w a (marks n k0)) (h0:0<=k0) (h1:k0<=10000000) (hl:n<=1048576) :
 Calls Try.prog 49 #[.slice a n c,.int .i64 k0] w fun e w'=>e=.returned (.int .i64 (k0+n))/\w'=w:=by
 have H:Hid (Ints w a (marks n k0)):=h
 clear h
 go_enter Try.func49,Try.ntmps49
 go_wp2
 go_loop [1,5] (fun q i=>∃ k:Nat,k<=n/\i=.int .i64 k/\q=.int .i64 (k0+k)) (fun _ i=>n - (intOf i).toNat)
 case atStart=>exact ⟨0,Nat.zero_le _,rfl,by simp⟩
 case round =>
  obtain ⟨k,hk,rfl,rfl⟩:=hrel
  by_cases hlt:k < n
  ·rcases H.out.2 with e|⟨b,o,rfl,hc⟩
   ·rw [marks_length] at e;omega
   have p0:=hc k (by rw [marks_length];exact hlt)
   rw [marks_get] at p0
   clear hc
   have hlz:(k:Int) < (n:Int):=by omega
   go_wp2
   go_round
   case rel=>exact ⟨k+1,by omega,by go_num,by go_num⟩
   case measure=>simp [intOf];omega
  ·go_wp2
   go_ret
   have e:k=n:=by omega
   subst e
   exact ⟨rfl,rfl⟩
end Nd6
end Go.Proofs.Ytfhdbcfhhbdiiaa
