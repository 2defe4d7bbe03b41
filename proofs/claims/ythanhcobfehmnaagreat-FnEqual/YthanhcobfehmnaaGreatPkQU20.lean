import Derived.WalkKit
import Derived.Deep.QuietTactic
import Derived.BigQuiet
import Derived.Test.YthanhcobfehmnaaGreatRows
import Derived.WalkSpells
import Derived.WalkLawsBesides
import Derived.Deep.AppendLies
import Derived.OwnWalk
namespace Go.Proofs.YthanhcobfehmnaaGreat
set_option maxRecDepth 100000
set_option maxHeartbeats 8000000
set_option linter.unusedVariables false
namespace Dr0
open Go.RowKit
structure Only (b:Nat) (w w':World):Prop where
 os:w'.os=w.os
 tape:w'.tape=w.tape
 output:w'.output=w.output
 size:w.heap.size<=w'.heap.size
 block:∀ k,k < w.heap.size->k≠b->w'.heap[k]? = w.heap[k]?
theorem Only.refl (b:Nat) (w:World):Only b w w:=⟨rfl,rfl,rfl,Nat.le_refl _,fun _ _ _=>rfl⟩
theorem Only.trans {b:Nat} {u v w:World} (h:Only b u v) (k:Only b v w):Only b u w :=
 ⟨k.os.trans h.os,k.tape.trans h.tape,k.output.trans h.output,Nat.le_trans h.size k.size,fun i hi hb=>(k.block i (Nat.lt_of_lt_of_le hi h.size) hb).trans (h.block i hi hb)⟩
theorem Only.drewN {b:Nat} {u w:World} (h:Only b u w) (n:Nat):Only b u (w.drewN n):=⟨h.os,h.tape,h.output,h.size,h.block⟩
theorem Only.alloc {b:Nat} {u w:World} (h:Only b u w) (o:Obj):Only b u (w.alloc o) :=
 h.trans ⟨rfl,rfl,rfl,by simp,fun k hk _=>Below.heap_alloc _ _ _ hk⟩
theorem Only.setCell {b:Nat} {u w:World} (h:Only b u w) {p:Addr} (hp:p.block=b) (x:Value):Only b u (w.setCell p x) :=
 h.trans ⟨rfl,rfl,rfl,by simp [World.setCell],fun k _ hk=>Below.heap_setCell _ _ _ _ (by omega)⟩
theorem Only.cell {b:Nat} {w w':World} (h:Only b w w') {p:Addr} (hp:p.block < w.heap.size) (hb:p.block≠b):w'.cell? p=w.cell? p :=
 World.cell?_of_block (w:=w) (h.block p.block hp hb)
theorem lt_of_cell {w:World} {p:Addr} {v:Value} (h:w.cell? p=some v):p.block < w.heap.size:=by
 have:∃ o,w.heap[p.block]? = some o:=by
  unfold World.cell? at h
  cases e:w.heap[p.block]? with
  | none=>simp [e] at h
  | some o=>exact ⟨o,rfl⟩
 obtain ⟨o,ho⟩:=this
 obtain ⟨hl,_⟩:=Array.getElem?_eq_some_iff.1 ho
 exact hl
def Bytes (w:World) (a:Option Addr) (len:Nat):Prop :=
 len<=maxLen/\(len=0\/∃ xb xo,a=some ⟨xb,xo,none⟩/\∀ i,i < len->∃ v:Int,0<=v/\v<=255/\w.cell? ⟨xb,xo+i,none⟩=some (.int .u8 v))
def Off (a:Option Addr) (len b:Nat):Prop:=len=0\/∀ x,a=some x->x.block≠b
theorem Bytes.only {b:Nat} {w w':World} {a:Option Addr} {len:Nat} (h:Bytes w a len) (ho:Off a len b) (k:Only b w w'):Bytes w' a len:=by
 refine ⟨h.1,?_⟩
 rcases h.2 with h0|⟨xb,xo,rfl,hc⟩
 ·exact .inl h0
 ·rcases ho with h0|ho
  ·exact .inl h0
  ·refine .inr ⟨xb,xo,rfl,fun i hi=>?_⟩
   obtain ⟨v,h1,h2,h3⟩:=hc i hi
   exact ⟨v,h1,h2,by rw [k.cell (lt_of_cell h3) (ho ⟨xb,xo,none⟩ rfl)];exact h3⟩
theorem Bytes.below {w w':World} {a:Option Addr} {len:Nat} (h:Bytes w a len) (k:Below w.heap.size w w'):Bytes w' a len:=by
 refine ⟨h.1,?_⟩
 rcases h.2 with h0|⟨xb,xo,rfl,hc⟩
 ·exact .inl h0
 ·refine .inr ⟨xb,xo,rfl,fun i hi=>?_⟩
  obtain ⟨v,h1,h2,h3⟩:=hc i hi
  exact ⟨v,h1,h2,by rw [k.cell (lt_of_cell h3)];exact h3⟩
structure Cur (w:World) (b:Nat) (a:Option Addr) (len cap:Nat):Prop where
 c0:w.cell? ⟨b,0,none⟩=some (.slice a len cap)
 c1:∃ i:Nat,i<=len/\w.cell? ⟨b,1,none⟩=some (.int .i64 i)
 c2:∃ h:Int,w.cell? ⟨b,2,none⟩=some (.int .i64 h)
 f1:w.frozen? ⟨b,1,none⟩=false
 f2:w.frozen? ⟨b,2,none⟩=false
 bytes:Bytes w a len
 off:Off a len b
theorem set_other {w:World} {p q:Addr} {v:Value} (h:p≠q):(w.setCell p v).cell? q=w.cell? q:=by apply World.cell?_setCell_other;exact h
theorem set_same {w:World} {p:Addr} {u v:Value} (h:w.cell? p=some u):(w.setCell p v).cell? p=some v:=by apply World.cell?_setCell_same;exact h
theorem Cur.drewN {w:World} {b:Nat} {a:Option Addr} {len cap:Nat} (h:Cur w b a len cap) (n:Nat):Cur (w.drewN n) b a len cap :=
 ⟨h.c0,h.c1,h.c2,h.f1,h.f2,h.bytes.only h.off ((Only.refl b w).drewN n),h.off⟩
theorem Cur.setH {w:World} {b:Nat} {a:Option Addr} {len cap:Nat} (h:Cur w b a len cap) (x:Int):Cur (w.setCell ⟨b,2,none⟩ (.int .i64 x)) b a len cap:=by
 obtain ⟨i,hi,h1⟩:=h.c1
 obtain ⟨y,h2⟩:=h.c2
 refine ⟨?_,⟨i,hi,?_⟩,⟨x,?_⟩,?_,?_,h.bytes.only h.off ((Only.refl b w).setCell rfl _),h.off⟩
 ·rw [set_other (by simp)];exact h.c0
 ·rw [set_other (by simp)];exact h1
 ·exact set_same h2
 ·rw [World.frozen?_setCell];exact h.f1
 ·rw [World.frozen?_setCell];exact h.f2
theorem Cur.setI {w:World} {b:Nat} {a:Option Addr} {len cap:Nat} (h:Cur w b a len cap) (i:Nat) (hi:i < len):Cur (w.setCell ⟨b,1,none⟩ (.int .i64 ((i:Int)+1))) b a len cap:=by
 obtain ⟨j,hj,h1⟩:=h.c1
 obtain ⟨y,h2⟩:=h.c2
 refine ⟨?_,⟨i+1,by omega,?_⟩,⟨y,?_⟩,?_,?_,h.bytes.only h.off ((Only.refl b w).setCell rfl _),h.off⟩
 ·rw [set_other (by simp)];exact h.c0
 ·rw [set_same h1];simp
 ·rw [set_other (by simp)];exact h2
 ·rw [World.frozen?_setCell];exact h.f1
 ·rw [World.frozen?_setCell];exact h.f2
theorem Cur.lt {w:World} {b:Nat} {a:Option Addr} {len cap:Nat} (h:Cur w b a len cap):b < w.heap.size:=lt_of_cell (p:=⟨b,0,none⟩) h.c0
theorem Cur.alloc {w:World} {b:Nat} {a:Option Addr} {len cap:Nat} (h:Cur w b a len cap) (o:Obj):Cur (w.alloc o) b a len cap:=by
 have k:Below w.heap.size w (w.alloc o):=(Below.refl _ w).alloc (Nat.le_refl _) o
 have hb:=h.lt
 obtain ⟨i,hi,h1⟩:=h.c1
 obtain ⟨y,h2⟩:=h.c2
 exact ⟨by rw [k.cell hb];exact h.c0,⟨i,hi,by rw [k.cell hb];exact h1⟩,⟨y,by rw [k.cell hb];exact h2⟩,by rw [k.frozen hb];exact h.f1,by rw [k.frozen hb];exact h.f2,h.bytes.below k,h.off⟩
theorem Bytes.offNew {w:World} {a:Option Addr} {len:Nat} (h:Bytes w a len) (b:Nat) (hb:w.heap.size<=b):Off a len b:=by
 by_cases h0:len=0
 ·exact .inl h0
 ·rcases h.2 with h1|⟨xb,xo,rfl,hc⟩
  ·exact .inl h1
  ·refine .inr fun x hx=>?_
   obtain ⟨v,_,_,hv⟩:=hc 0 (by omega)
   have:=lt_of_cell hv
   simp at hx this
   subst hx
   simp
   omega
theorem Cur.made {w:World} {a:Option Addr} {len cap:Nat} (h:Bytes w a len) (x:Int) (T:Nat):Cur (w.alloc (.cells #[.slice a len cap,.int .i64 0,.int .i64 x] T)) w.heap.size a len cap:=by
 refine ⟨by simp,⟨0,Nat.zero_le _,by simp⟩,⟨x,by simp⟩,by simp,by simp,h.below ((Below.refl _ w).alloc (Nat.le_refl _) _),h.offNew _ (Nat.le_refl _)⟩
theorem bytes_of {w:World} {x:Addr} {len cap:Nat} {z:List Int} (hl:len<=cap) (hm:cap<=maxLen) (hz:z.length=cap) (hcell:∀ i,i < z.length->w.cell? (x.add i)=some (.int .u8 (z.getD i 0))) (hwz:∀ n∈z,(Lit.int .u8 n).wf=true):Bytes w (some x) len:=by
 refine ⟨by omega,?_⟩
 by_cases h0:len=0
 ·exact .inl h0
 ·obtain ⟨xb,xo,spot⟩:=x
  have hc:=hcell 0 (by omega)
  have hspot:spot=none:=by simpa [Addr.add] using World.cell?_spot hc
  subst hspot
  refine .inr ⟨xb,xo,rfl,fun i hi=>⟨z.getD i 0,?_⟩⟩
  have hi2:i < z.length:=by omega
  have eg:z.getD i 0=z[i]:=by simp [List.getD,hi2]
  have hw:=hwz (z.getD i 0) (by rw [eg];exact List.getElem_mem _)
  have hk:=hcell i hi2
  rw [Addr.add_lit] at hk
  generalize z.getD i 0=v at hw hk ⊢
  simp [Lit.wf,IntKind.min,IntKind.max,IntKind.signed,IntKind.bits] at hw
  exact ⟨by omega,by omega,hk⟩
theorem and255 (x:Int):0<=bits .and .i64 x 255/\bits .and .i64 x 255<=255:=by
 have e:bits .and .i64 x 255=IntKind.i64.wrap ((BitVec.ofInt 64 x &&& BitVec.ofInt 64 255).toNat:Int):=rfl
 have h:(BitVec.ofInt 64 x &&& BitVec.ofInt 64 255).toNat<=255:=by
  rw [BitVec.toNat_and];exact Nat.and_le_right
 rw [e,IntKind.wrap_i64]
 omega
end Dr0
namespace Dr1
open Go.RowKit
open Dr0
theorem byte (w:World) (b:Nat) (a:Option Addr) (len cap:Nat) (hc:Cur w b a len cap) :
 Calls Tryz.prog 26 #[.pointer (some ⟨b,0,none⟩)] w fun e w'=>(∃ x:Int,e=.returned (.int .i64 x)/\0<=x/\x<=255)/\Cur w' b a len cap/\Only b w w':=by
 have HC:Hid (Cur w b a len cap):=hc
 obtain ⟨c0,⟨i,hi,c1⟩,⟨h,c2⟩,f1,f2,hb,ho⟩:=hc
 by_cases hlt:i < len
 ·rcases hb.2 with h0|⟨xb,xo,rfl,hcell⟩
  ·omega
  have hne:xb≠b:=by
   rcases ho with h0|ho
   ·omega
   ·exact ho ⟨xb,xo,none⟩ rfl
  obtain ⟨v,hv0,hv1,hv⟩:=hcell i hlt
  have hlz:(i:Int) < (len:Int):=by omega
  have hm:=hb.1
  unfold maxLen at hm
  go_enter Tryz.func26,Tryz.ntmps26
  go_wp2
  generalize wrap64 (wrap64 (h*6364136223846793005)+1442695040888963407)=h1
  go_quiet (fail)
  go_wp2
  generalize bits BinOp.xor IntKind.i64 (h1 / 8589934592) (h1 / 35184372088832)=h2
  have hx:=and255 h2
  generalize bits BinOp.and IntKind.i64 h2 255=x at hx ⊢
  go_quiet (fail)
  go_wp2
  go_quiet (fail)
  go_wp2
  go_ret
  exact ⟨⟨_,rfl,(and255 _).1,(and255 _).2⟩,((HC.out.setH h1).drewN _).setI i hlt,(((Only.refl b w).setCell rfl _).drewN _).setCell rfl _⟩
 ·have hlz:¬ (i:Int) < (len:Int):=by omega
  go_enter Tryz.func26,Tryz.ntmps26
  go_wp2
  generalize wrap64 (wrap64 (h*6364136223846793005)+1442695040888963407)=h1
  go_quiet (fail)
  go_wp2
  generalize bits BinOp.xor IntKind.i64 (h1 / 8589934592) (h1 / 35184372088832)=h2
  go_quiet (fail)
  go_wp2
  go_ret
  exact ⟨⟨_,rfl,(and255 _).1,(and255 _).2⟩,((HC.out.setH h1).drewN _).drewN _,(((Only.refl b w).setCell rfl _).drewN _).drewN _⟩
theorem below (w:World) (b:Nat) (a:Option Addr) (len cap:Nat) (n:Int) (h0:1<=n) (h1:n<=256) (hc:Cur w b a len cap) :
 Calls Tryz.prog 12 #[.pointer (some ⟨b,0,none⟩),.int .i64 n] w fun e w'=>(∃ x:Int,e=.returned (.int .i64 x)/\0<=x/\x < n)/\Cur w' b a len cap/\Only b w w':=by
 have HC:Hid (Cur w b a len cap):=hc
 clear hc
 go_enter Tryz.func12,Tryz.ntmps12
 go_wp2_with fail
 refine (byte _ b a len cap HC.out).mono ?_
 rintro e w' ⟨⟨x,rfl,hx0,hx1⟩,hc',ho'⟩
 have HC':Hid (Cur w' b a len cap):=hc'
 have HO':Hid (Only b w w'):=ho'
 clear hc' ho'
 go_wp2
 go_ret
 exact ⟨⟨_,rfl,Int.emod_nonneg _ (by omega),Int.emod_lt_of_pos _ (by omega)⟩,HC'.out,HO'.out⟩
theorem once (w:World) (b:Nat) (a:Option Addr) (len cap:Nat) (n:Int) (h0:1<=n) (h1:n<=256) (hc:Cur w b a len cap) :
 Calls Tryz.prog 25 #[.pointer (some ⟨b,0,none⟩),.int .i64 n] w fun e w'=>(∃ x:Bool,e=.returned (.bool x))/\Cur w' b a len cap/\Only b w w':=by
 have HC:Hid (Cur w b a len cap):=hc
 clear hc
 go_enter Tryz.func25,Tryz.ntmps25
 go_wp2_with fail
 refine (below _ b a len cap n h0 h1 HC.out).mono ?_
 rintro e w' ⟨⟨x,rfl,hx0,hx1⟩,hc',ho'⟩
 have HC':Hid (Cur w' b a len cap):=hc'
 have HO':Hid (Only b w w'):=ho'
 clear hc' ho'
 go_wp2
 go_ret
 exact ⟨⟨_,rfl⟩,HC'.out,HO'.out⟩
def Ints (w:World) (g:Nat) (n:Nat):Prop:=∀ i,i < n->∃ v:Int,w.cell? ⟨g,i,none⟩=some (.int .i64 v)
theorem pickInt (w:World) (b:Nat) (a:Option Addr) (len cap:Nat) (g n c:Nat) (h0:1<=n) (h1:n<=256) (hg:g≠b) (hi:Ints w g n) (hc:Cur w b a len cap) :
 Calls Tryz.prog 94 #[.pointer (some ⟨b,0,none⟩),.slice (some ⟨g,0,none⟩) n c] w fun e w'=>(∃ x:Int,e=.returned (.int .i64 x))/\Cur w' b a len cap/\Only b w w':=by
 have HC:Hid (Cur w b a len cap):=hc
 have HI:Hid (Ints w g n):=hi
 clear hc hi
 go_enter Tryz.func94,Tryz.ntmps94
 go_wp2_with fail
 refine (below _ b a len cap _ (by omega) (by omega) HC.out).mono ?_
 rintro e w' ⟨⟨x,rfl,hx0,hx1⟩,hc',ho'⟩
 have HC':Hid (Cur w' b a len cap):=hc'
 have HO':Hid (Only b w w'):=ho'
 clear hc' ho'
 obtain ⟨v,hv⟩:=HI.out x.toNat (by omega)
 have hv':w'.cell? ⟨g,x.toNat,none⟩=some (.int .i64 v):=by rw [HO'.out.cell (lt_of_cell hv) hg];exact hv
 clear hv
 go_wp2
 go_ret
 exact ⟨⟨_,rfl⟩,HC'.out,HO'.out⟩
end Dr1
namespace Nd0
open Go.RowKit
structure Nd where
 op:Int
 w:Int
 k:Int
 a:Int
 b:Int
 c:Int
theorem Nd.ext' {m n:Nd} (h:m.op=n.op/\m.w=n.w/\m.k=n.k/\m.a=n.a/\m.b=n.b/\m.c=n.c):m=n:=by
 cases m;cases n;simp_all
def Nd.zero:Nd:=⟨0,0,0,0,0,0⟩
def Nd.cells (n:Nd):List Value:=[.int .i64 n.op,.int .i64 n.w,.int .i64 n.k,.int .i64 n.a,.int .i64 n.b,.int .i64 n.c]
def nth (l:List Nd) (i:Nat):Nd:=l.getD i Nd.zero
theorem nth_get {l:List Nd} {i:Nat} (h:i < l.length):l[i]=nth l i:=by simp [nth,List.getD,h]
structure NodeAt (w:World) (b p:Nat) (n:Nd):Prop where
 c0:w.cell? ⟨b,p,none⟩=some (.int .i64 n.op)
 c1:w.cell? ⟨b,p+1,none⟩=some (.int .i64 n.w)
 c2:w.cell? ⟨b,p+2,none⟩=some (.int .i64 n.k)
 c3:w.cell? ⟨b,p+3,none⟩=some (.int .i64 n.a)
 c4:w.cell? ⟨b,p+4,none⟩=some (.int .i64 n.b)
 c5:w.cell? ⟨b,p+5,none⟩=some (.int .i64 n.c)
def Nodes (w:World) (a:Option Addr) (l:List Nd):Prop :=
 l.length<=maxLen/\(l.length=0\/∃ b o,a=some ⟨b,o,none⟩/\∀ i (h:i < l.length),NodeAt w b (o+i*6) l[i])
def Ints (w:World) (a:Option Addr) (l:List Int):Prop :=
 l.length<=maxLen/\(l.length=0\/∃ b o,a=some ⟨b,o,none⟩/\∀ i (h:i < l.length),w.cell? ⟨b,o+i,none⟩=some (.int .i64 l[i]))
theorem lt_of_cell {w:World} {p:Addr} {v:Value} (h:w.cell? p=some v):p.block < w.heap.size:=World.block_lt_of_cell? _ _ h
theorem NodeAt.below {w w':World} {b p:Nat} {n:Nd} (h:NodeAt w b p n) {B:Nat} (k:Below B w w') (hb:b < B):NodeAt w' b p n :=
 ⟨by rw [k.cell hb];exact h.c0,by rw [k.cell hb];exact h.c1,by rw [k.cell hb];exact h.c2,by rw [k.cell hb];exact h.c3,by rw [k.cell hb];exact h.c4,by rw [k.cell hb];exact h.c5⟩
theorem NodeAt.lt {w:World} {b p:Nat} {n:Nd} (h:NodeAt w b p n):b < w.heap.size:=lt_of_cell (p:=⟨b,p,none⟩) h.c0
theorem Nodes.below {w w':World} {a:Option Addr} {l:List Nd} (h:Nodes w a l) (k:Below w.heap.size w w'):Nodes w' a l:=by
 refine ⟨h.1,?_⟩
 rcases h.2 with h0|⟨b,o,rfl,hc⟩
 ·exact .inl h0
 ·exact .inr ⟨b,o,rfl,fun i hi=>(hc i hi).below k (hc i hi).lt⟩
theorem Ints.below {w w':World} {a:Option Addr} {l:List Int} (h:Ints w a l) (k:Below w.heap.size w w'):Ints w' a l:=by
 refine ⟨h.1,?_⟩
 rcases h.2 with h0|⟨b,o,rfl,hc⟩
 ·exact .inl h0
 ·exact .inr ⟨b,o,rfl,fun i hi=>by rw [k.cell (lt_of_cell (hc i hi))];exact hc i hi⟩
structure Kept (S:Nat->Prop) (w w':World):Prop where
 os:w'.os=w.os
 tape:w'.tape=w.tape
 output:w'.output=w.output
 size:w.heap.size<=w'.heap.size
 block:∀ k,k < w.heap.size->¬ S k->w'.heap[k]? = w.heap[k]?
theorem Kept.refl (S:Nat->Prop) (w:World):Kept S w w:=⟨rfl,rfl,rfl,Nat.le_refl _,fun _ _ _=>rfl⟩
theorem Kept.trans {S:Nat->Prop} {u v w:World} (h:Kept S u v) (k:Kept S v w):Kept S u w :=
 ⟨k.os.trans h.os,k.tape.trans h.tape,k.output.trans h.output,Nat.le_trans h.size k.size,fun i hi hb=>(k.block i (Nat.lt_of_lt_of_le hi h.size) hb).trans (h.block i hi hb)⟩
theorem Kept.mono {S T:Nat->Prop} {w w':World} (h:Kept S w w') (k:∀ i,S i->T i):Kept T w w' :=
 ⟨h.os,h.tape,h.output,h.size,fun i hi hb=>h.block i hi fun x=>hb (k i x)⟩
theorem Kept.drew {S:Nat->Prop} {u w:World} (h:Kept S u w):Kept S u w.drew:=⟨h.os,h.tape,h.output,h.size,h.block⟩
theorem Kept.drewN {S:Nat->Prop} {u w:World} (h:Kept S u w) (n:Nat):Kept S u (w.drewN n):=⟨h.os,h.tape,h.output,h.size,h.block⟩
theorem Kept.alloc {S:Nat->Prop} {u w:World} (h:Kept S u w) (o:Obj):Kept S u (w.alloc o) :=
 h.trans ⟨rfl,rfl,rfl,by simp,fun k hk _=>Below.heap_alloc _ _ _ hk⟩
theorem Kept.setCell {S:Nat->Prop} {u w:World} (h:Kept S u w) {p:Addr} (hp:S p.block) (x:Value):Kept S u (w.setCell p x) :=
 h.trans ⟨rfl,rfl,rfl,by simp [World.setCell],fun k _ hk=>Below.heap_setCell _ _ _ _ (fun e=>hk (e ▸ hp))⟩
theorem Kept.cell {S:Nat->Prop} {w w':World} (h:Kept S w w') {p:Addr} (hp:p.block < w.heap.size) (hb:¬ S p.block):w'.cell? p=w.cell? p :=
 World.cell?_of_block (w:=w) (h.block p.block hp hb)
theorem Kept.frozen {S:Nat->Prop} {w w':World} (h:Kept S w w') {p:Addr} (hp:p.block < w.heap.size) (hb:¬ S p.block):w'.frozen? p=w.frozen? p :=
 World.frozen?_of_block (w:=w) (h.block p.block hp hb)
theorem Kept.below {S:Nat->Prop} {B:Nat} {w w':World} (h:Kept S w w') (hB:∀ k,S k->B<=k) (hs:B<=w.heap.size):Below B w w' :=
 ⟨h.os,h.tape,h.output,h.size,fun k hk=>h.block k (by omega) (fun x=>by have:=hB k x;omega)⟩
theorem Kept.ofBelow {S:Nat->Prop} {w w':World} (h:Below w.heap.size w w'):Kept S w w' :=
 ⟨h.os,h.tape,h.output,h.size,fun k hk _=>h.block k hk⟩
def WInts (w:World) (B:Nat) (a:Option Addr) (l:List Int):Prop :=
 l.length<=maxLen/\(l.length=0\/∃ b o,a=some ⟨b,o,none⟩/\B<=b/\∀ i (h:i < l.length),w.cell? ⟨b,o+i,none⟩=some (.int .i64 l[i])/\w.frozen? ⟨b,o+i,none⟩=false)
theorem WInts.ints {w:World} {B:Nat} {a:Option Addr} {l:List Int} (h:WInts w B a l):Ints w a l:=by
 refine ⟨h.1,?_⟩
 rcases h.2 with h0|⟨b,o,ha,_,hc⟩
 ·exact .inl h0
 ·exact .inr ⟨b,o,ha,fun i hi=>(hc i hi).1⟩
theorem WInts.kept {w w':World} {B:Nat} {a:Option Addr} {l:List Int} (h:WInts w B a l) {S:Nat->Prop} (k:Kept S w w') (hs:∀ x,a=some x->¬ S x.block):WInts w' B a l:=by
 refine ⟨h.1,?_⟩
 rcases h.2 with h0|⟨b,o,rfl,hB,hc⟩
 ·exact .inl h0
 ·exact .inr ⟨b,o,rfl,hB,fun i hi=>⟨by rw [k.cell (lt_of_cell (hc i hi).1) (hs ⟨b,o,none⟩ rfl)];exact (hc i hi).1,by rw [k.frozen (p:=⟨b,o+i,none⟩) (lt_of_cell (hc i hi).1) (hs ⟨b,o,none⟩ rfl)];exact (hc i hi).2⟩⟩
theorem Nodes.kept {w w':World} {a:Option Addr} {l:List Nd} (h:Nodes w a l) {S:Nat->Prop} (k:Kept S w w') (hs:∀ x,a=some x->¬ S x.block):Nodes w' a l:=by
 refine ⟨h.1,?_⟩
 rcases h.2 with h0|⟨b,o,rfl,hc⟩
 ·exact .inl h0
 ·refine .inr ⟨b,o,rfl,fun i hi=>?_⟩
  have hb:=(hc i hi).lt
  have hn:¬ S b:=hs ⟨b,o,none⟩ rfl
  obtain ⟨c0,c1,c2,c3,c4,c5⟩:=hc i hi
  exact ⟨by rw [k.cell hb hn];exact c0,by rw [k.cell hb hn];exact c1,by rw [k.cell hb hn];exact c2,by rw [k.cell hb hn];exact c3,by rw [k.cell hb hn];exact c4,by rw [k.cell hb hn];exact c5⟩
theorem set_other {w:World} {p q:Addr} {v:Value} (h:p≠q):(w.setCell p v).cell? q=w.cell? q:=by apply World.cell?_setCell_other;exact h
theorem set_same {w:World} {p:Addr} {u v:Value} (h:w.cell? p=some u):(w.setCell p v).cell? p=some v:=by apply World.cell?_setCell_same;exact h
def IntsIn (w:World) (B U:Nat) (a:Option Addr) (l:List Int):Prop :=
 l.length<=maxLen/\(l.length=0\/∃ b o,a=some ⟨b,o,none⟩/\B<=b/\b < U/\∀ i (h:i < l.length),w.cell? ⟨b,o+i,none⟩=some (.int .i64 l[i])/\w.frozen? ⟨b,o+i,none⟩=false)
theorem WInts.within {w:World} {B:Nat} {a:Option Addr} {l:List Int} (h:WInts w B a l):IntsIn w B w.heap.size a l:=by
 refine ⟨h.1,?_⟩
 by_cases e:l.length=0
 ·exact .inl e
 ·rcases h.2 with h0|⟨b,o,ha,hB,hc⟩
  ·exact .inl h0
  ·exact .inr ⟨b,o,ha,hB,lt_of_cell (p:=⟨b,o+0,none⟩) (hc 0 (by omega)).1,hc⟩
theorem IntsIn.kept {w w':World} {B U:Nat} {a:Option Addr} {l:List Int} (h:IntsIn w B U a l) {S:Nat->Prop} (k:Kept S w w') (hs:∀ b,B<=b->b < U->¬ S b):IntsIn w' B U a l:=by
 refine ⟨h.1,?_⟩
 rcases h.2 with h0|⟨b,o,rfl,hB,hU,hc⟩
 ·exact .inl h0
 ·exact .inr ⟨b,o,rfl,hB,hU,fun i hi=>⟨by rw [k.cell (lt_of_cell (hc i hi).1) (hs b hB hU)];exact (hc i hi).1,by rw [k.frozen (p:=⟨b,o+i,none⟩) (lt_of_cell (hc i hi).1) (hs b hB hU)];exact (hc i hi).2⟩⟩
def setNode (w:World) (b p:Nat) (n:Nd):World :=
 (((((w.setCell ⟨b,p,none⟩ (.int .i64 n.op)).setCell ⟨b,p+1,none⟩ (.int .i64 n.w)).setCell ⟨b,p+2,none⟩ (.int .i64 n.k)).setCell ⟨b,p+3,none⟩ (.int .i64 n.a)).setCell ⟨b,p+4,none⟩ (.int .i64 n.b)).setCell ⟨b,p+5,none⟩ (.int .i64 n.c)
theorem setNode_same {w:World} {b p:Nat} {v n:Nd} (h:NodeAt w b p v):NodeAt (setNode w b p n) b p n:=by
 obtain ⟨c0,c1,c2,c3,c4,c5⟩:=h
 unfold setNode
 refine ⟨?_,?_,?_,?_,?_,?_⟩
 ·rw [set_other (by simp),set_other (by simp),set_other (by simp),set_other (by simp),set_other (by simp)];exact set_same c0
 ·rw [set_other (by simp),set_other (by simp),set_other (by simp),set_other (by simp)];exact set_same (by rw [set_other (by simp)];exact c1)
 ·rw [set_other (by simp),set_other (by simp),set_other (by simp)];exact set_same (by rw [set_other (by simp),set_other (by simp)];exact c2)
 ·rw [set_other (by simp),set_other (by simp)];exact set_same (by rw [set_other (by simp),set_other (by simp),set_other (by simp)];exact c3)
 ·rw [set_other (by simp)];exact set_same (by rw [set_other (by simp),set_other (by simp),set_other (by simp),set_other (by simp)];exact c4)
 ·exact set_same (by rw [set_other (by simp),set_other (by simp),set_other (by simp),set_other (by simp),set_other (by simp)];exact c5)
theorem setNode_cell {w:World} {b p:Nat} {n:Nd} {q:Nat} (h:q < p\/p+6<=q):(setNode w b p n).cell? ⟨b,q,none⟩=w.cell? ⟨b,q,none⟩:=by
 unfold setNode
 rw [set_other (by simp<;>omega),set_other (by simp<;>omega),set_other (by simp<;>omega),set_other (by simp<;>omega),set_other (by simp<;>omega),set_other (by simp<;>omega)]
theorem setNode_frozen {w:World} {b p:Nat} {n:Nd} {q:Addr}:(setNode w b p n).frozen? q=w.frozen? q:=by
 unfold setNode;simp only [World.frozen?_setCell]
theorem setNode_other {w:World} {b p q:Nat} {v n:Nd} (h:NodeAt w b q v) (hq:q+6<=p\/p+6<=q):NodeAt (setNode w b p n) b q v:=by
 obtain ⟨c0,c1,c2,c3,c4,c5⟩:=h
 exact ⟨by rw [setNode_cell (by omega)];exact c0,by rw [setNode_cell (by omega)];exact c1,by rw [setNode_cell (by omega)];exact c2,by rw [setNode_cell (by omega)];exact c3,by rw [setNode_cell (by omega)];exact c4,by rw [setNode_cell (by omega)];exact c5⟩
theorem setNode_keptS {S:Nat->Prop} {b p:Nat} {u w:World} {n:Nd} (hS:S b) (h:Kept S u w):Kept S u (setNode w b p n) :=
 (((((h.setCell (p:=⟨b,p,none⟩) hS _).setCell (p:=⟨b,p+1,none⟩) hS _).setCell (p:=⟨b,p+2,none⟩) hS _).setCell (p:=⟨b,p+3,none⟩) hS _).setCell (p:=⟨b,p+4,none⟩) hS _).setCell (p:=⟨b,p+5,none⟩) hS _
theorem wints_lit (W:World) (B g:Nat) (l:List Int) (T:Nat) (hg:g=W.heap.size) (hB:B<=g) (hl:l.length<=maxLen):WInts (W.alloc (.cells (l.map fun x=>.int .i64 x).toArray T)) B (some ⟨g,0,none⟩) l:=by
 subst hg
 refine ⟨hl,.inr ⟨W.heap.size,0,rfl,hB,fun i hi=>⟨?_,by simp⟩⟩⟩
 rw [World.cell?_alloc_new]
 simp [hi]
end Nd0
namespace Nd1
open Go.RowKit
theorem ret_bool {a b:Bool} (h:a=b):Ending.returned (.bool a)=.returned (.bool b):=by rw [h]
end Nd1
namespace Nd3
open Go.RowKit
open Nd0 Nd1
def WNodes (w:World) (B:Nat) (a:Option Addr) (l:List Nd):Prop :=
 l.length<=maxLen/\(l.length=0\/∃ b o,a=some ⟨b,o,none⟩/\B<=b/\(∀ i (h:i < l.length),NodeAt w b (o+i*6) l[i])/\∀ j,j < l.length*6->w.frozen? ⟨b,o+j,none⟩=false)
theorem WNodes.nodes {w:World} {B:Nat} {a:Option Addr} {l:List Nd} (h:WNodes w B a l):Nodes w a l:=by
 refine ⟨h.1,?_⟩
 rcases h.2 with h0|⟨b,o,ha,_,hc,_⟩
 ·exact .inl h0
 ·exact .inr ⟨b,o,ha,hc⟩
end Nd3
namespace Ap2
open Go.RowKit
open Nd0 Nd3
theorem infoNode:(Tryz.prog.info? 44).map (fun i=>(i.zero,i.size,i.bytes))=some (some (.agg #[.int .i64 0,.int .i64 0,.int .i64 0,.int .i64 0,.int .i64 0,.int .i64 0]),6,48):=by kernel_rfl
def flat (l:List Nd):List Value:=l.flatMap Nd.cells
theorem cells_length (n:Nd):n.cells.length=6:=rfl
theorem flat_length (l:List Nd):(flat l).length=l.length*6:=by
 induction l with
 | nil=>rfl
 | cons n l ih=>show (n.cells++flat l).length=_;rw [List.length_append,ih,cells_length,List.length_cons];omega
theorem flat_get (l:List Nd):∀ (i:Nat) (h:i < l.length) (j:Nat),j < 6->(flat l)[i*6+j]? = (l[i].cells)[j]? := by
 induction l with
 | nil=>intro i h;exact absurd h (Nat.not_lt_zero _)
 | cons n l ih =>
   intro i h j hj
   show (n.cells++flat l)[i*6+j]? = _
   cases i with
   | zero=>rw [Nat.zero_mul,Nat.zero_add,List.getElem?_append_left (by rw [cells_length];exact hj)];rfl
   | succ i =>
     rw [List.getElem?_append_right (by rw [cells_length];omega),cells_length,show (i+1)*6+j - 6=i*6+j by omega]
     exact ih i (by simpa using h) j hj
theorem flat_snoc (l:List Nd) (n:Nd):flat (l++[n])=flat l++n.cells:=by simp [flat]
def Own (w:World) (B:Nat) (v:Value) (l:List Nd):Prop:=w.ownsRow B 44 6 v l.length (flat l)
theorem Own.form {w:World} {B:Nat} {v:Value} {l:List Nd} (h:Own w B v l):∃ a c,v=.slice a l.length c/\WNodes w B a l:=by
 obtain ⟨h1,h2⟩:=h
 rcases h2 with ⟨rfl,h0⟩|⟨g,cap,cur,rfl,hb,hg,hn,hm,hs,ht⟩
 ·have:l=[]:=List.eq_nil_of_length_eq_zero h0
  subst this
  exact ⟨none,0,rfl,Nat.zero_le _,.inl rfl⟩
 ·have hcell:∀ j,j < l.length*6->w.cell? ⟨g,j,none⟩=(flat l)[j]? := by
   intro j hj
   rw [cell_of_row w g j cur _ _ hg,<- ht,List.getElem?_take_of_lt hj]
   simp
  refine ⟨_,_,rfl,by omega,.inr ⟨g,0,rfl,hb,fun i hi=>?_,fun j hj=>?_⟩⟩
  ·have hf:=flat_get l i hi
   rw [Nat.zero_add]
   refine ⟨?_,?_,?_,?_,?_,?_⟩
   ·rw [hcell _ (by omega)];exact hf 0 (by omega)
   ·rw [hcell _ (by omega)];exact hf 1 (by omega)
   ·rw [hcell _ (by omega)];exact hf 2 (by omega)
   ·rw [hcell _ (by omega)];exact hf 3 (by omega)
   ·rw [hcell _ (by omega)];exact hf 4 (by omega)
   ·rw [hcell _ (by omega)];exact hf 5 (by omega)
  ·rw [Nat.zero_add]
   simp [World.frozen?,hg]
theorem Own.lit (w:World) (B:Nat) (hB:B<=w.heap.size):Own (w.alloc (.cells #[] 44)) B (.slice (some ⟨w.heap.size,0,none⟩) 0 0) [] :=
 World.ownsRow_lit w #[] 0 hB (Nat.zero_le _) rfl
theorem Own.lt {w:World} {B:Nat} {v:Value} {l:List Nd} (h:Own w B v l):∀ k,v.ownBlock=some k->B<=k/\k < w.heap.size:=World.ownsRow.lt h
theorem Own.kept {w w':World} {B:Nat} {v:Value} {l:List Nd} (h:Own w B v l) {S:Nat->Prop} (k:Kept S w w') (hs:∀ i,v.ownBlock=some i->¬ S i):Own w' B v l:=by
 refine ⟨h.1,?_⟩
 rcases h.2 with hn|⟨g,cap,cur,rfl,hb,hgg,rest⟩
 ·exact .inl hn
 ·refine .inr ⟨g,cap,cur,rfl,hb,?_,rest⟩
  rw [k.block g (Array.getElem?_eq_some_iff.1 hgg).1 (hs g rfl)]
  exact hgg
theorem Own.len {w:World} {B:Nat} {v:Value} {l:List Nd} (h:Own w B v l):∃ a c,v=.slice a l.length c:=by
 obtain ⟨a,c,hv,_⟩:=h.form;exact ⟨a,c,hv⟩
theorem app_node {ops:Array Oper} {rest:List Oper} {o:Oper} {a:Act} {Q:Exit->Act->World->Prop} (W:World) (hgd:o.guard=none) (s x:Operand)
 (ho:o.op=.call { callee:=.builtin .append,args := #[s,x],argTypes := #[24,24] })
 (B:Nat) (v:Value) (l:List Nd) (y:Nd) (hs:a.eval s=v) (G:Nat) (hx:a.eval x=.slice (some ⟨G,0,none⟩) 1 1) (hG:G=W.heap.size)
 (hown:Own W B v l) (hB:B<=W.heap.size) (hlen:l.length<=1048576)
 (h:∀ g cap w',Own w' B (.slice (some ⟨g,0,none⟩) (l.length+1) cap) (l++[y])->Kept (fun k=>v.ownBlock=some k) W w'->(v.ownBlock=some g\/W.heap.size<=g)->wpList Tryz.prog ops Q rest (a.put o.dst (.slice (some ⟨g,0,none⟩) (l.length+1) cap)) w') :
 wpList Tryz.prog ops Q (o :: rest) a (W.alloc (.cells #[.int .i64 y.op,.int .i64 y.w,.int .i64 y.k,.int .i64 y.a,.int .i64 y.b,.int .i64 y.c] 44)):=by
 subst hG
 obtain ⟨i,hi,hzz⟩:=Option.map_eq_some_iff.1 infoNode
 simp only [Prod.mk.injEq] at hzz
 obtain ⟨hz,hsz,hb⟩:=hzz
 refine wpList_append_lies (W.alloc (.cells #[.int .i64 y.op,.int .i64 y.w,.int .i64 y.k,.int .i64 y.a,.int .i64 y.b,.int .i64 y.c] 44)) hgd s x 24 ho B 44 i _ 6 48 Tryz.underlying24 hi hz hsz hb rfl (by omega) v l.length (flat l) hs (World.ownsRow.alloc hown _)
  ⟨W.heap.size,0,none⟩ 1 1 y.cells hx rfl ?_ ?_ (by omega) (by unfold maxLen;omega) (by omega) (by simp;omega) _ rfl ?_
 ·intro j u hu
  exact World.news_of_block (heap_alloc_new W _) j u hu
 ·intro u hu
  simp [Nd.cells] at hu
  rcases hu with rfl|rfl|rfl|rfl|rfl|rfl<;>rfl
 ·intro g cap w' h1 h2 h3 h4
  refine h g cap w' ?_ ?_ ?_
  ·unfold Own
   rw [flat_snoc,List.length_append]
   exact h1
  ·have k1:Kept (fun k=>v.ownBlock=some k) W (W.alloc (.cells #[.int .i64 y.op,.int .i64 y.w,.int .i64 y.k,.int .i64 y.a,.int .i64 y.b,.int .i64 y.c] 44)):=(Kept.refl _ W).alloc _
   exact k1.trans ⟨h2.os,h2.tape,h2.output,h2.size,fun k hk hn=>h2.block k hk (fun e=>hn e.symm)⟩
  ·rcases h3 with h3|h3
   ·exact .inl h3
   ·exact .inr (by rw [h3];simp)
end Ap2
namespace Dw0
open Go.RowKit
open Nd0 Nd3 Ap2
open Dr0 (Cur Only Bytes Off)
def Low (a:Option Addr) (len b:Nat):Prop:=len=0\/∀ x,a=some x->x.block < b
theorem cur_kept {w w':World} {b:Nat} {a:Option Addr} {len cap:Nat} (h:Cur w b a len cap) {S:Nat->Prop} (k:Kept S w w') (hb:¬ S b) (hl:len=0\/∀ x,a=some x->¬ S x.block):Cur w' b a len cap:=by
 have hlt:=h.lt
 obtain ⟨i,hi,c1⟩:=h.c1
 obtain ⟨x,c2⟩:=h.c2
 refine ⟨by rw [k.cell (p:=⟨b,0,none⟩) hlt hb];exact h.c0,⟨i,hi,by rw [k.cell (p:=⟨b,1,none⟩) hlt hb];exact c1⟩,⟨x,by rw [k.cell (p:=⟨b,2,none⟩) hlt hb];exact c2⟩,by rw [k.frozen (p:=⟨b,1,none⟩) hlt hb];exact h.f1,by rw [k.frozen (p:=⟨b,2,none⟩) hlt hb];exact h.f2,?_,h.off⟩
 refine ⟨h.bytes.1,?_⟩
 rcases h.bytes.2 with h0|⟨xb,xo,rfl,hc⟩
 ·exact .inl h0
 ·rcases hl with h0|hl
  ·exact .inl h0
  ·refine .inr ⟨xb,xo,rfl,fun j hj=>?_⟩
   obtain ⟨y,y0,y1,hy⟩:=hc j hj
   exact ⟨y,y0,y1,by rw [k.cell (p:=⟨xb,xo+j,none⟩) (lt_of_cell hy) (hl ⟨xb,xo,none⟩ rfl)];exact hy⟩
theorem only_kept {b:Nat} {w w':World} (h:Only b w w'):Kept (fun k=>k=b) w w':=⟨h.os,h.tape,h.output,h.size,fun k hk hn=>h.block k hk hn⟩
structure Dr (w:World) (b:Nat) (a:Option Addr) (len cap:Nat) (v:Value) (L:List Nd):Prop where
 cur:Cur w b a len cap
 own:Ap2.Own w (b+1) v L
 low:Low a len b
structure Stp (b:Nat) (v v':Value) (w w':World):Prop where
 kept:Kept (fun k=>k=b\/v.ownBlock=some k) w w'
 new:∀ k,v'.ownBlock=some k->v.ownBlock=some k\/w.heap.size<=k
def Vs (w:World) (b:Nat) (v:Value) (va:Option Addr) (vl:List Nd):Prop:=Nodes w va vl/\∀ x,0 < vl.length->va=some x->x.block≠b/\v.ownBlock≠some x.block/\x.block < w.heap.size
theorem Stp.refl (b:Nat) (v:Value) (w:World):Stp b v v w w:=⟨Kept.refl _ _,fun _ h=>.inl h⟩
theorem Stp.trans {b:Nat} {u v x:Value} {w w' w'':World} (h:Stp b u v w w') (k:Stp b v x w' w''):Stp b u x w w'':=by
 constructor
 ·refine ⟨k.kept.os.trans h.kept.os,k.kept.tape.trans h.kept.tape,k.kept.output.trans h.kept.output,Nat.le_trans h.kept.size k.kept.size,fun i hi hb=>?_⟩
  rw [k.kept.block i (Nat.lt_of_lt_of_le hi h.kept.size) (fun e=>?_)]
  ·exact h.kept.block i hi hb
  ·rcases e with e|e
   ·exact hb (.inl e)
   ·rcases h.new i e with e'|e'
    ·exact hb (.inr e')
    ·omega
 ·intro i hi
  rcases k.new i hi with e|e
  ·exact h.new i e
  ·exact .inr (Nat.le_trans h.kept.size e)
theorem Stp.only {b:Nat} {v:Value} {w w':World} (h:Only b w w'):Stp b v v w w':=⟨(only_kept h).mono fun _ e=>.inl e,fun _ h=>.inl h⟩
theorem Stp.ofBelow {b:Nat} {v:Value} {w w':World} (h:Below w.heap.size w w'):Stp b v v w w':=⟨Kept.ofBelow h,fun _ h=>.inl h⟩
theorem Stp.grow {b:Nat} {v v':Value} {w w':World} (h:Kept (fun k=>v.ownBlock=some k) w w') (n:∀ k,v'.ownBlock=some k->v.ownBlock=some k\/w.heap.size<=k):Stp b v v' w w':=⟨h.mono fun _ e=>.inr e,n⟩
theorem Dr.ne {w:World} {b:Nat} {a:Option Addr} {len cap:Nat} {v:Value} {L:List Nd} (h:Dr w b a len cap v L):v.ownBlock≠some b:=fun e=>by have:=(h.own.lt b e).1;omega
theorem Dr.only {w w':World} {b:Nat} {a:Option Addr} {len cap:Nat} {v:Value} {L:List Nd} (h:Dr w b a len cap v L) (hc:Cur w' b a len cap) (k:Only b w w'):Dr w' b a len cap v L :=
 ⟨hc,h.own.kept (only_kept k) (fun i hi e=>h.ne (e ▸ hi)),h.low⟩
theorem Dr.low' {w:World} {b:Nat} {a:Option Addr} {len cap:Nat} {v:Value} {L:List Nd} (h:Dr w b a len cap v L):len=0\/∀ x,a=some x->¬ v.ownBlock=some x.block:=by
 rcases h.low with h0|hl
 ·exact .inl h0
 ·exact .inr fun x hx e=>by have:=(h.own.lt _ e).1;have:=hl x hx;omega
theorem Dr.below {w w':World} {b:Nat} {a:Option Addr} {len cap:Nat} {v:Value} {L:List Nd} (h:Dr w b a len cap v L) (k:Below w.heap.size w w'):Dr w' b a len cap v L :=
 ⟨cur_kept h.cur (S:=fun _=>False) (Kept.ofBelow k) (fun h=>h) (.inr fun _ _ h=>h),h.own.kept (S:=fun _=>False) (Kept.ofBelow k) (fun _ _ h=>h),h.low⟩
theorem Dr.grow {w w':World} {b:Nat} {a:Option Addr} {len cap:Nat} {v v':Value} {L L':List Nd} (h:Dr w b a len cap v L) (k:Kept (fun k=>v.ownBlock=some k) w w') (ho:Ap2.Own w' (b+1) v' L'):Dr w' b a len cap v' L' :=
 ⟨cur_kept h.cur k h.ne h.low',ho,h.low⟩
theorem Vs.stp {w w':World} {b:Nat} {v v':Value} {va:Option Addr} {vl:List Nd} (h:Vs w b v va vl) (s:Stp b v v' w w'):Vs w' b v' va vl:=by
 by_cases h0:vl.length=0
 ·exact ⟨⟨h.1.1,.inl h0⟩,fun x hx=>by omega⟩
 ·refine ⟨h.1.kept s.kept (fun x hx e=>?_),fun x hp hx=>?_⟩
  ·have h9:=h.2 x (by omega) hx
   rcases e with e|e
   ·exact h9.1 e
   ·exact h9.2.1 e
  ·have h9:=h.2 x hp hx
   refine ⟨h9.1,fun e=>?_,Nat.lt_of_lt_of_le h9.2.2 s.kept.size⟩
   rcases s.new _ e with e'|e'
   ·exact h9.2.1 e'
   ·omega
theorem Dr.slice {w:World} {b:Nat} {a:Option Addr} {len cap:Nat} {v:Value} {L:List Nd} (h:Dr w b a len cap v L):∃ va vc,v=.slice va L.length vc:=h.own.len
theorem Dr.size {w:World} {b:Nat} {a:Option Addr} {len cap:Nat} {v:Value} {L:List Nd} (h:Dr w b a len cap v L):b+1<=w.heap.size:=h.cur.lt
end Dw0
end Go.Proofs.YthanhcobfehmnaaGreat
