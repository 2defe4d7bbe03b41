import Derived.WalkKit
import Derived.Deep.QuietTactic
import Derived.BigQuiet
import Derived.Test.YtebejleeadofcaaGreatRows
import Derived.WalkSpells
import Derived.WalkLawsBesides
import Derived.Test.YtebejleeadofcaaGreatPkFR0
namespace Go.Proofs.YtebejleeadofcaaGreat
set_option maxRecDepth 100000
set_option maxHeartbeats 8000000
set_option linter.unusedVariables false
namespace Dr0
open Go.RowKit
structure Only (b:Nat) (w w':World):Prop where
 os:w'.os=w.os
 tape:w'.tape=w.tape
 output:w'.output=w.output
 size:w.heap.size<=w'.heap.size
 block:∀ k,k < w.heap.size->k≠b->w'.heap[k]? = w.heap[k]?
theorem Only.refl (b:Nat) (w:World):Only b w w:=⟨rfl,rfl,rfl,Nat.le_refl _,fun _ _ _=>rfl⟩
theorem Only.trans {b:Nat} {u v w:World} (h:Only b u v) (k:Only b v w):Only b u w :=
 ⟨k.os.trans h.os,k.tape.trans h.tape,k.output.trans h.output,Nat.le_trans h.size k.size,fun i hi hb=>(k.block i (Nat.lt_of_lt_of_le hi h.size) hb).trans (h.block i hi hb)⟩
theorem Only.drewN {b:Nat} {u w:World} (h:Only b u w) (n:Nat):Only b u (w.drewN n):=⟨h.os,h.tape,h.output,h.size,h.block⟩
theorem Only.setCell {b:Nat} {u w:World} (h:Only b u w) {p:Addr} (hp:p.block=b) (x:Value):Only b u (w.setCell p x) :=
 h.trans ⟨rfl,rfl,rfl,by simp [World.setCell],fun k _ hk=>Below.heap_setCell _ _ _ _ (by omega)⟩
theorem Only.cell {b:Nat} {w w':World} (h:Only b w w') {p:Addr} (hp:p.block < w.heap.size) (hb:p.block≠b):w'.cell? p=w.cell? p :=
 World.cell?_of_block (w:=w) (h.block p.block hp hb)
theorem lt_of_cell {w:World} {p:Addr} {v:Value} (h:w.cell? p=some v):p.block < w.heap.size:=by
 have:∃ o,w.heap[p.block]? = some o:=by
  unfold World.cell? at h
  cases e:w.heap[p.block]? with
  | none=>simp [e] at h
  | some o=>exact ⟨o,rfl⟩
 obtain ⟨o,ho⟩:=this
 obtain ⟨hl,_⟩:=Array.getElem?_eq_some_iff.1 ho
 exact hl
def Bytes (w:World) (a:Option Addr) (len:Nat):Prop :=
 len<=maxLen/\(len=0\/∃ xb xo,a=some ⟨xb,xo,none⟩/\∀ i,i < len->∃ v:Int,0<=v/\v<=255/\w.cell? ⟨xb,xo+i,none⟩=some (.int .u8 v))
def Off (a:Option Addr) (len b:Nat):Prop:=len=0\/∀ x,a=some x->x.block≠b
theorem Bytes.only {b:Nat} {w w':World} {a:Option Addr} {len:Nat} (h:Bytes w a len) (ho:Off a len b) (k:Only b w w'):Bytes w' a len:=by
 refine ⟨h.1,?_⟩
 rcases h.2 with h0|⟨xb,xo,rfl,hc⟩
 ·exact .inl h0
 ·rcases ho with h0|ho
  ·exact .inl h0
  ·refine .inr ⟨xb,xo,rfl,fun i hi=>?_⟩
   obtain ⟨v,h1,h2,h3⟩:=hc i hi
   exact ⟨v,h1,h2,by rw [k.cell (lt_of_cell h3) (ho ⟨xb,xo,none⟩ rfl)];exact h3⟩
theorem Bytes.below {w w':World} {a:Option Addr} {len:Nat} (h:Bytes w a len) (k:Below w.heap.size w w'):Bytes w' a len:=by
 refine ⟨h.1,?_⟩
 rcases h.2 with h0|⟨xb,xo,rfl,hc⟩
 ·exact .inl h0
 ·refine .inr ⟨xb,xo,rfl,fun i hi=>?_⟩
  obtain ⟨v,h1,h2,h3⟩:=hc i hi
  exact ⟨v,h1,h2,by rw [k.cell (lt_of_cell h3)];exact h3⟩
structure Cur (w:World) (b:Nat) (a:Option Addr) (len cap:Nat):Prop where
 c0:w.cell? ⟨b,0,none⟩=some (.slice a len cap)
 c1:∃ i:Nat,i<=len/\w.cell? ⟨b,1,none⟩=some (.int .i64 i)
 c2:∃ h:Int,w.cell? ⟨b,2,none⟩=some (.int .i64 h)
 f1:w.frozen? ⟨b,1,none⟩=false
 f2:w.frozen? ⟨b,2,none⟩=false
 bytes:Bytes w a len
 off:Off a len b
theorem set_other {w:World} {p q:Addr} {v:Value} (h:p≠q):(w.setCell p v).cell? q=w.cell? q:=by apply World.cell?_setCell_other;exact h
theorem set_same {w:World} {p:Addr} {u v:Value} (h:w.cell? p=some u):(w.setCell p v).cell? p=some v:=by apply World.cell?_setCell_same;exact h
theorem Cur.drewN {w:World} {b:Nat} {a:Option Addr} {len cap:Nat} (h:Cur w b a len cap) (n:Nat):Cur (w.drewN n) b a len cap :=
 ⟨h.c0,h.c1,h.c2,h.f1,h.f2,h.bytes.only h.off ((Only.refl b w).drewN n),h.off⟩
theorem Cur.setH {w:World} {b:Nat} {a:Option Addr} {len cap:Nat} (h:Cur w b a len cap) (x:Int):Cur (w.setCell ⟨b,2,none⟩ (.int .i64 x)) b a len cap:=by
 obtain ⟨i,hi,h1⟩:=h.c1
 obtain ⟨y,h2⟩:=h.c2
 refine ⟨?_,⟨i,hi,?_⟩,⟨x,?_⟩,?_,?_,h.bytes.only h.off ((Only.refl b w).setCell rfl _),h.off⟩
 ·rw [set_other (by simp)];exact h.c0
 ·rw [set_other (by simp)];exact h1
 ·exact set_same h2
 ·rw [World.frozen?_setCell];exact h.f1
 ·rw [World.frozen?_setCell];exact h.f2
theorem Cur.setI {w:World} {b:Nat} {a:Option Addr} {len cap:Nat} (h:Cur w b a len cap) (i:Nat) (hi:i < len):Cur (w.setCell ⟨b,1,none⟩ (.int .i64 ((i:Int)+1))) b a len cap:=by
 obtain ⟨j,hj,h1⟩:=h.c1
 obtain ⟨y,h2⟩:=h.c2
 refine ⟨?_,⟨i+1,by omega,?_⟩,⟨y,?_⟩,?_,?_,h.bytes.only h.off ((Only.refl b w).setCell rfl _),h.off⟩
 ·rw [set_other (by simp)];exact h.c0
 ·rw [set_same h1];simp
 ·rw [set_other (by simp)];exact h2
 ·rw [World.frozen?_setCell];exact h.f1
 ·rw [World.frozen?_setCell];exact h.f2
theorem Cur.lt {w:World} {b:Nat} {a:Option Addr} {len cap:Nat} (h:Cur w b a len cap):b < w.heap.size:=lt_of_cell (p:=⟨b,0,none⟩) h.c0
theorem Bytes.offNew {w:World} {a:Option Addr} {len:Nat} (h:Bytes w a len) (b:Nat) (hb:w.heap.size<=b):Off a len b:=by
 by_cases h0:len=0
 ·exact .inl h0
 ·rcases h.2 with h1|⟨xb,xo,rfl,hc⟩
  ·exact .inl h1
  ·refine .inr fun x hx=>?_
   obtain ⟨v,_,_,hv⟩:=hc 0 (by omega)
   have:=lt_of_cell hv
   simp at hx this
   subst hx
   simp
   omega
theorem Cur.made {w:World} {a:Option Addr} {len cap:Nat} (h:Bytes w a len) (x:Int) (T:Nat):Cur (w.alloc (.cells #[.slice a len cap,.int .i64 0,.int .i64 x] T)) w.heap.size a len cap:=by
 refine ⟨by simp,⟨0,Nat.zero_le _,by simp⟩,⟨x,by simp⟩,by simp,by simp,h.below ((Below.refl _ w).alloc (Nat.le_refl _) _),h.offNew _ (Nat.le_refl _)⟩
theorem bytes_of {w:World} {x:Addr} {len cap:Nat} {z:List Int} (hl:len<=cap) (hm:cap<=maxLen) (hz:z.length=cap) (hcell:∀ i,i < z.length->w.cell? (x.add i)=some (.int .u8 (z.getD i 0))) (hwz:∀ n∈z,(Lit.int .u8 n).wf=true):Bytes w (some x) len:=by
 refine ⟨by omega,?_⟩
 by_cases h0:len=0
 ·exact .inl h0
 ·obtain ⟨xb,xo,spot⟩:=x
  have hc:=hcell 0 (by omega)
  have hspot:spot=none:=by simpa [Addr.add] using World.cell?_spot hc
  subst hspot
  refine .inr ⟨xb,xo,rfl,fun i hi=>⟨z.getD i 0,?_⟩⟩
  have hi2:i < z.length:=by omega
  have eg:z.getD i 0=z[i]:=by simp [List.getD,hi2]
  have hw:=hwz (z.getD i 0) (by rw [eg];exact List.getElem_mem _)
  have hk:=hcell i hi2
  rw [Addr.add_lit] at hk
  generalize z.getD i 0=v at hw hk ⊢
  simp [Lit.wf,IntKind.min,IntKind.max,IntKind.signed,IntKind.bits] at hw
  exact ⟨by omega,by omega,hk⟩
theorem and255 (x:Int):0<=bits .and .i64 x 255/\bits .and .i64 x 255<=255:=by
 have e:bits .and .i64 x 255=IntKind.i64.wrap ((BitVec.ofInt 64 x &&& BitVec.ofInt 64 255).toNat:Int):=rfl
 have h:(BitVec.ofInt 64 x &&& BitVec.ofInt 64 255).toNat<=255:=by
  rw [BitVec.toNat_and];exact Nat.and_le_right
 rw [e,IntKind.wrap_i64]
 omega
end Dr0
namespace Dr1
open Go.RowKit
open Dr0
theorem byte (w:World) (b:Nat) (a:Option Addr) (len cap:Nat) (hc:Cur w b a len cap) :
 Calls Tryz.prog 86 #[.pointer (some ⟨b,0,none⟩)] w fun e w'=>(∃ x:Int,e=.returned (.int .i64 x)/\0<=x/\x<=255)/\Cur w' b a len cap/\Only b w w':=by
 have HC:Hid (Cur w b a len cap):=hc
 obtain ⟨c0,⟨i,hi,c1⟩,⟨h,c2⟩,f1,f2,hb,ho⟩:=hc
 by_cases hlt:i < len
 ·rcases hb.2 with h0|⟨xb,xo,rfl,hcell⟩
  ·omega
  have hne:xb≠b:=by
   rcases ho with h0|ho
   ·omega
   ·exact ho ⟨xb,xo,none⟩ rfl
  obtain ⟨v,hv0,hv1,hv⟩:=hcell i hlt
  have hlz:(i:Int) < (len:Int):=by omega
  have hm:=hb.1
  unfold maxLen at hm
  go_enter Tryz.func86,Tryz.ntmps86
  go_wp2
  generalize wrap64 (wrap64 (h*6364136223846793005)+1442695040888963407)=h1
  go_quiet (fail)
  go_wp2
  generalize bits BinOp.xor IntKind.i64 (h1 / 8589934592) (h1 / 35184372088832)=h2
  have hx:=and255 h2
  generalize bits BinOp.and IntKind.i64 h2 255=x at hx ⊢
  go_quiet (fail)
  go_wp2
  go_quiet (fail)
  go_wp2
  go_ret
  exact ⟨⟨_,rfl,(and255 _).1,(and255 _).2⟩,((HC.out.setH h1).drewN _).setI i hlt,(((Only.refl b w).setCell rfl _).drewN _).setCell rfl _⟩
 ·have hlz:¬ (i:Int) < (len:Int):=by omega
  go_enter Tryz.func86,Tryz.ntmps86
  go_wp2
  generalize wrap64 (wrap64 (h*6364136223846793005)+1442695040888963407)=h1
  go_quiet (fail)
  go_wp2
  generalize bits BinOp.xor IntKind.i64 (h1 / 8589934592) (h1 / 35184372088832)=h2
  go_quiet (fail)
  go_wp2
  go_ret
  exact ⟨⟨_,rfl,(and255 _).1,(and255 _).2⟩,((HC.out.setH h1).drewN _).drewN _,(((Only.refl b w).setCell rfl _).drewN _).drewN _⟩
theorem below (w:World) (b:Nat) (a:Option Addr) (len cap:Nat) (n:Int) (h0:1<=n) (h1:n<=256) (hc:Cur w b a len cap) :
 Calls Tryz.prog 67 #[.pointer (some ⟨b,0,none⟩),.int .i64 n] w fun e w'=>(∃ x:Int,e=.returned (.int .i64 x)/\0<=x/\x < n)/\Cur w' b a len cap/\Only b w w':=by
 have HC:Hid (Cur w b a len cap):=hc
 clear hc
 go_enter Tryz.func67,Tryz.ntmps67
 go_wp2_with fail
 refine (byte _ b a len cap HC.out).mono ?_
 rintro e w' ⟨⟨x,rfl,hx0,hx1⟩,hc',ho'⟩
 have HC':Hid (Cur w' b a len cap):=hc'
 have HO':Hid (Only b w w'):=ho'
 clear hc' ho'
 go_wp2
 go_ret
 exact ⟨⟨_,rfl,Int.emod_nonneg _ (by omega),Int.emod_lt_of_pos _ (by omega)⟩,HC'.out,HO'.out⟩
theorem once (w:World) (b:Nat) (a:Option Addr) (len cap:Nat) (n:Int) (h0:1<=n) (h1:n<=256) (hc:Cur w b a len cap) :
 Calls Tryz.prog 66 #[.pointer (some ⟨b,0,none⟩),.int .i64 n] w fun e w'=>(∃ x:Bool,e=.returned (.bool x))/\Cur w' b a len cap/\Only b w w':=by
 have HC:Hid (Cur w b a len cap):=hc
 clear hc
 go_enter Tryz.func66,Tryz.ntmps66
 go_wp2_with fail
 refine (below _ b a len cap n h0 h1 HC.out).mono ?_
 rintro e w' ⟨⟨x,rfl,hx0,hx1⟩,hc',ho'⟩
 have HC':Hid (Cur w' b a len cap):=hc'
 have HO':Hid (Only b w w'):=ho'
 clear hc' ho'
 go_wp2
 go_ret
 exact ⟨⟨_,rfl⟩,HC'.out,HO'.out⟩
end Dr1
namespace Dw0
open Go.RowKit
open Nd0 Nd3 Ap2
open Dr0 (Cur Only Bytes Off)
def Low (a:Option Addr) (len b:Nat):Prop:=len=0\/∀ x,a=some x->x.block < b
theorem cur_kept {w w':World} {b:Nat} {a:Option Addr} {len cap:Nat} (h:Cur w b a len cap) {S:Nat->Prop} (k:Kept S w w') (hb:¬ S b) (hl:len=0\/∀ x,a=some x->¬ S x.block):Cur w' b a len cap:=by
 have hlt:=h.lt
 obtain ⟨i,hi,c1⟩:=h.c1
 obtain ⟨x,c2⟩:=h.c2
 refine ⟨by rw [k.cell (p:=⟨b,0,none⟩) hlt hb];exact h.c0,⟨i,hi,by rw [k.cell (p:=⟨b,1,none⟩) hlt hb];exact c1⟩,⟨x,by rw [k.cell (p:=⟨b,2,none⟩) hlt hb];exact c2⟩,by rw [k.frozen (p:=⟨b,1,none⟩) hlt hb];exact h.f1,by rw [k.frozen (p:=⟨b,2,none⟩) hlt hb];exact h.f2,?_,h.off⟩
 refine ⟨h.bytes.1,?_⟩
 rcases h.bytes.2 with h0|⟨xb,xo,rfl,hc⟩
 ·exact .inl h0
 ·rcases hl with h0|hl
  ·exact .inl h0
  ·refine .inr ⟨xb,xo,rfl,fun j hj=>?_⟩
   obtain ⟨y,y0,y1,hy⟩:=hc j hj
   exact ⟨y,y0,y1,by rw [k.cell (p:=⟨xb,xo+j,none⟩) (lt_of_cell hy) (hl ⟨xb,xo,none⟩ rfl)];exact hy⟩
theorem only_kept {b:Nat} {w w':World} (h:Only b w w'):Kept (fun k=>k=b) w w':=⟨h.os,h.tape,h.output,h.size,fun k hk hn=>h.block k hk hn⟩
structure Dr (w:World) (b:Nat) (a:Option Addr) (len cap:Nat) (v:Value) (L:List Nd):Prop where
 cur:Cur w b a len cap
 own:Ap2.Own w (b+1) v L
 low:Low a len b
structure Stp (b:Nat) (v v':Value) (w w':World):Prop where
 kept:Kept (fun k=>k=b\/v.ownBlock=some k) w w'
 new:∀ k,v'.ownBlock=some k->v.ownBlock=some k\/w.heap.size<=k
def Vs (w:World) (b:Nat) (v:Value) (va:Option Addr) (vl:List Nd):Prop:=Nodes w va vl/\∀ x,0 < vl.length->va=some x->x.block≠b/\v.ownBlock≠some x.block/\x.block < w.heap.size
theorem Stp.refl (b:Nat) (v:Value) (w:World):Stp b v v w w:=⟨Kept.refl _ _,fun _ h=>.inl h⟩
theorem Stp.trans {b:Nat} {u v x:Value} {w w' w'':World} (h:Stp b u v w w') (k:Stp b v x w' w''):Stp b u x w w'':=by
 constructor
 ·refine ⟨k.kept.os.trans h.kept.os,k.kept.tape.trans h.kept.tape,k.kept.output.trans h.kept.output,Nat.le_trans h.kept.size k.kept.size,fun i hi hb=>?_⟩
  rw [k.kept.block i (Nat.lt_of_lt_of_le hi h.kept.size) (fun e=>?_)]
  ·exact h.kept.block i hi hb
  ·rcases e with e|e
   ·exact hb (.inl e)
   ·rcases h.new i e with e'|e'
    ·exact hb (.inr e')
    ·omega
 ·intro i hi
  rcases k.new i hi with e|e
  ·exact h.new i e
  ·exact .inr (Nat.le_trans h.kept.size e)
theorem Stp.only {b:Nat} {v:Value} {w w':World} (h:Only b w w'):Stp b v v w w':=⟨(only_kept h).mono fun _ e=>.inl e,fun _ h=>.inl h⟩
theorem Stp.ofBelow {b:Nat} {v:Value} {w w':World} (h:Below w.heap.size w w'):Stp b v v w w':=⟨Kept.ofBelow h,fun _ h=>.inl h⟩
theorem Stp.grow {b:Nat} {v v':Value} {w w':World} (h:Kept (fun k=>v.ownBlock=some k) w w') (n:∀ k,v'.ownBlock=some k->v.ownBlock=some k\/w.heap.size<=k):Stp b v v' w w':=⟨h.mono fun _ e=>.inr e,n⟩
theorem Dr.ne {w:World} {b:Nat} {a:Option Addr} {len cap:Nat} {v:Value} {L:List Nd} (h:Dr w b a len cap v L):v.ownBlock≠some b:=fun e=>by have:=(h.own.lt b e).1;omega
theorem Dr.only {w w':World} {b:Nat} {a:Option Addr} {len cap:Nat} {v:Value} {L:List Nd} (h:Dr w b a len cap v L) (hc:Cur w' b a len cap) (k:Only b w w'):Dr w' b a len cap v L :=
 ⟨hc,h.own.kept (only_kept k) (fun i hi e=>h.ne (e ▸ hi)),h.low⟩
theorem Dr.low' {w:World} {b:Nat} {a:Option Addr} {len cap:Nat} {v:Value} {L:List Nd} (h:Dr w b a len cap v L):len=0\/∀ x,a=some x->¬ v.ownBlock=some x.block:=by
 rcases h.low with h0|hl
 ·exact .inl h0
 ·exact .inr fun x hx e=>by have:=(h.own.lt _ e).1;have:=hl x hx;omega
theorem Dr.below {w w':World} {b:Nat} {a:Option Addr} {len cap:Nat} {v:Value} {L:List Nd} (h:Dr w b a len cap v L) (k:Below w.heap.size w w'):Dr w' b a len cap v L :=
 ⟨cur_kept h.cur (S:=fun _=>False) (Kept.ofBelow k) (fun h=>h) (.inr fun _ _ h=>h),h.own.kept (S:=fun _=>False) (Kept.ofBelow k) (fun _ _ h=>h),h.low⟩
theorem Dr.grow {w w':World} {b:Nat} {a:Option Addr} {len cap:Nat} {v v':Value} {L L':List Nd} (h:Dr w b a len cap v L) (k:Kept (fun k=>v.ownBlock=some k) w w') (ho:Ap2.Own w' (b+1) v' L'):Dr w' b a len cap v' L' :=
 ⟨cur_kept h.cur k h.ne h.low',ho,h.low⟩
theorem Vs.stp {w w':World} {b:Nat} {v v':Value} {va:Option Addr} {vl:List Nd} (h:Vs w b v va vl) (s:Stp b v v' w w'):Vs w' b v' va vl:=by
 by_cases h0:vl.length=0
 ·exact ⟨⟨h.1.1,.inl h0⟩,fun x hx=>by omega⟩
 ·refine ⟨h.1.kept s.kept (fun x hx e=>?_),fun x hp hx=>?_⟩
  ·have h9:=h.2 x (by omega) hx
   rcases e with e|e
   ·exact h9.1 e
   ·exact h9.2.1 e
  ·have h9:=h.2 x hp hx
   refine ⟨h9.1,fun e=>?_,Nat.lt_of_lt_of_le h9.2.2 s.kept.size⟩
   rcases s.new _ e with e'|e'
   ·exact h9.2.1 e'
   ·omega
theorem Dr.slice {w:World} {b:Nat} {a:Option Addr} {len cap:Nat} {v:Value} {L:List Nd} (h:Dr w b a len cap v L):∃ va vc,v=.slice va L.length vc:=h.own.len
theorem Dr.size {w:World} {b:Nat} {a:Option Addr} {len cap:Nat} {v:Value} {L:List Nd} (h:Dr w b a len cap v L):b+1<=w.heap.size:=h.cur.lt
end Dw0
namespace Dw1
open Go.RowKit
open Nd0 Nd3 Ap2 Dw0
open Dr0 (Cur Only Bytes Off)
theorem push (w:World) (b:Nat) (a:Option Addr) (len cap:Nat) (v:Value) (L:List Nd) (n:Nd) (h:Dr w b a len cap v L) (hl:L.length<=1048576) :
 Calls Tryz.prog 68 #[v,.agg #[.int .i64 n.op,.int .i64 n.w,.int .i64 n.k,.int .i64 n.a,.int .i64 n.b,.int .i64 n.c]] w fun e w'=>∃ v',e=.returned (.tuple #[v',.int .i64 (L.length:Int)])/\Dr w' b a len cap v' (L++[n])/\Stp b v v' w w':=by
 have HD:Hid (Dr w b a len cap v L):=h
 obtain ⟨va,vc,rfl⟩:=h.slice
 have hsz:=h.size
 clear h
 obtain ⟨wb,hwb⟩:∃ wb:World,wb=w.alloc (.cells #[.int .i64 n.op,.int .i64 n.w,.int .i64 n.k,.int .i64 n.a,.int .i64 n.b,.int .i64 n.c] 58):=⟨_,rfl⟩
 have hbel:Below w.heap.size w wb:=by rw [hwb];exact (Below.refl _ _).alloc (Nat.le_refl _) _
 have HD1:Hid (Dr wb b a len cap (.slice va L.length vc) L):=HD.out.below hbel
 have HS1:Hid (Stp b (.slice va L.length vc) (.slice va L.length vc) w wb):=Stp.ofBelow hbel
 have hB:b+1<=wb.heap.size:=HD1.out.size
 have HWB:Hid (wb=w.alloc (.cells #[.int .i64 n.op,.int .i64 n.w,.int .i64 n.k,.int .i64 n.a,.int .i64 n.b,.int .i64 n.c] 58)):=hwb
 have hws:wb.heap.size=w.heap.size+1:=by rw [hwb];simp
 have HWS:Hid (wb.heap.size=w.heap.size+1):=hws
 clear hwb hws hbel
 go_enter Tryz.func68,Tryz.ntmps68
 go_wp2_with (at_builtin;go_must (rw [<- HWB.out];refine app_node wb rfl _ _ rfl (b+1) (.slice va L.length vc) L n rfl (w.heap.size+1) rfl HWS.out.symm HD1.out.own hB hl ?_;intro g5 cp5 w5 ho5 hk5 hg5))
 have HO5:Hid (Ap2.Own w5 (b+1) (.slice (some ⟨g5,0,none⟩) (L.length+1) cp5) (L++[n])):=ho5
 have HK5:Hid (Kept (fun k=>(Value.slice va L.length vc).ownBlock=some k) wb w5):=hk5
 have HG5:Hid ((Value.slice va L.length vc).ownBlock=some g5\/wb.heap.size<=g5):=hg5
 clear ho5 hk5 hg5
 go_wp2
 refine bodyPost_ret (v:=.tuple #[.slice (some ⟨g5,0,none⟩) (L.length+1) cp5,.int .i64 (L.length:Int)]) (by simp [results,Tryz.results68,go_sem]) rfl ?_
 refine ⟨_,rfl,HD1.out.grow HK5.out HO5.out,HS1.out.trans (Stp.grow HK5.out fun k hk=>?_)⟩
 cases hk
 exact HG5.out
end Dw1
namespace Pl1
open Go.RowKit
def p2 (k:Nat):Int:=2 ^ k
theorem p2_succ (k:Nat):p2 (k+1)=2*p2 k:=by unfold p2;rw [Int.pow_succ];omega
theorem p2_pos (k:Nat):1<=p2 k:=by
 induction k with
 | zero=>simp [p2]
 | succ n ih=>rw [p2_succ];omega
theorem p2_mono {a b:Nat} (h:a<=b):p2 a<=p2 b:=by
 induction b with
 | zero=>have:a=0:=by omega
         subst this;exact Int.le_refl _
 | succ n ih =>
   by_cases e:a=n+1
   ·subst e;exact Int.le_refl _
   ·have:=ih (by omega);have:=p2_pos n;rw [p2_succ];omega
theorem p2_le (k:Nat) (h:k<=8):p2 k<=256:=by
 have:=p2_mono h;have e:p2 8=256:=rfl;omega
def wok (w a:Int):Bool:=decide (1<=w/\w<=8/\0<=a/\a < p2 w.toNat)
theorem wok_iff {w a:Int}:wok w a=true↔1<=w/\w<=8/\0<=a/\a < p2 w.toNat:=by simp [wok]
theorem wok_lt {w a:Int} (h:wok w a=true):0<=a/\a<=255:=by
 obtain ⟨h1,h2,h3,h4⟩:=wok_iff.1 h
 have:=p2_le w.toNat (by omega);omega
theorem eight {w:Int} (h1:1<=w) (h2:w<=8):w=1\/w=2\/w=3\/w=4\/w=5\/w=6\/w=7\/w=8:=by omega
theorem bits_and_u8_nat (a b:Nat) (ha:a < 256) (hb:b < 256):bits .and .u8 (a:Int) (b:Int)=((a &&& b:Nat):Int):=by
 have hx:a &&& b < 2 ^ 8:=Nat.and_lt_two_pow _ (by omega)
 have h1:(BitVec.ofInt 8 (a:Int)).toNat=a:=by
  rw [BitVec.ofInt_natCast,BitVec.toNat_ofNat];exact Nat.mod_eq_of_lt (by omega)
 have h2:(BitVec.ofInt 8 (b:Int)).toNat=b:=by
  rw [BitVec.ofInt_natCast,BitVec.toNat_ofNat];exact Nat.mod_eq_of_lt (by omega)
 show IntKind.u8.wrap ((BitVec.ofInt 8 (a:Int) &&& BitVec.ofInt 8 (b:Int)).toNat:Int)=_
 rw [BitVec.toNat_and,h1,h2]
 simp only [IntKind.wrap,IntKind.signed,IntKind.bits]
 simp
 omega
theorem bits_or_u8_nat (a b:Nat) (ha:a < 256) (hb:b < 256):bits .or .u8 (a:Int) (b:Int)=((a ||| b:Nat):Int):=by
 have hx:a ||| b < 2 ^ 8:=Nat.or_lt_two_pow (by omega) (by omega)
 have h1:(BitVec.ofInt 8 (a:Int)).toNat=a:=by
  rw [BitVec.ofInt_natCast,BitVec.toNat_ofNat];exact Nat.mod_eq_of_lt (by omega)
 have h2:(BitVec.ofInt 8 (b:Int)).toNat=b:=by
  rw [BitVec.ofInt_natCast,BitVec.toNat_ofNat];exact Nat.mod_eq_of_lt (by omega)
 show IntKind.u8.wrap ((BitVec.ofInt 8 (a:Int) ||| BitVec.ofInt 8 (b:Int)).toNat:Int)=_
 rw [BitVec.toNat_or,h1,h2]
 simp only [IntKind.wrap,IntKind.signed,IntKind.bits]
 simp
 omega
theorem and_mask (a:Int) (k:Nat) (h0:0<=a) (h1:a<=255) (hk:k<=8):bits .and .u8 a (p2 k - 1)=a % p2 k:=by
 obtain ⟨n,rfl⟩:=Int.eq_ofNat_of_zero_le h0
 have hp:=p2_pos k
 have hl:=p2_le k hk
 have e:p2 k - 1=((2 ^ k - 1:Nat):Int):=by
  have:1<=2 ^ k:=Nat.one_le_two_pow
  unfold p2;push_cast [this];rfl
 have e2:p2 k=((2 ^ k:Nat):Int):=by unfold p2;push_cast;rfl
 rw [e,bits_and_u8_nat n (2 ^ k - 1) (by omega) (by omega),Nat.and_two_pow_sub_one_eq_mod,e2]
 omega
theorem dvd256 (k:Nat) (hk:k<=8):p2 k∣256:=by
 refine ⟨p2 (8 - k),?_⟩
 unfold p2
 rw [<- Int.pow_add,show k+(8 - k)=8 by omega];rfl
theorem mod256 (x:Int) (k:Nat) (hk:k<=8):x % 256 % p2 k=x % p2 k:=Int.emod_emod_of_dvd x (dvd256 k hk)
theorem wrap_p2 (k:Nat) (hk:k<=8):wrap64 (2 ^ k)=p2 k:=by
 have h:=p2_pos k
 have h':=p2_le k hk
 show wrap64 (p2 k)=p2 k
 unfold wrap64;omega
theorem p2_pow (k:Nat):(2:Int) ^ k=p2 k:=rfl
theorem shl8 (a b:Int) (yk:IntKind) (h:8<=b):Op.shift .shl .u8 a yk b=pure (.int .u8 0):=by
 have hm:min b.toNat 8=8:=by omega
 have hn:¬ b < 0:=by omega
 simp only [Op.shift,IntKind.bits,hm,if_neg hn]
 have:IntKind.u8.wrap (a*2 ^ 8)=0:=by
  simp only [IntKind.wrap,IntKind.signed,IntKind.bits]
  simp
 rw [this]
theorem shr8 (a b:Int) (yk:IntKind) (h:8<=b) (h0:0<=a) (h1:a<=255):Op.shift .shr .u8 a yk b=pure (.int .u8 0):=by
 have hm:min b.toNat 8=8:=by omega
 have hn:¬ b < 0:=by omega
 simp only [Op.shift,IntKind.bits,hm,if_neg hn]
 have:a.fdiv (2 ^ 8)=0:=by
  rw [Int.fdiv_eq_ediv_of_nonneg _ (by decide)];omega
 rw [this]
def vAdd (w a b:Int):Int:=if wok w a&&wok w b then (a+b) % p2 w.toNat else 0
def vSub (w a b:Int):Int:=if wok w a&&wok w b then (a - b) % p2 w.toNat else 0
def vMul (w a b:Int):Int:=if wok w a&&wok w b then a*b % p2 w.toNat else 0
def vDiv (w a b:Int):Int:=if wok w a&&wok w b then (if b=0 then p2 w.toNat - 1 else a / b) else 0
def vRem (w a b:Int):Int:=if wok w a&&wok w b then (if b=0 then a else a % b) else 0
def vShl (w a b:Int):Int:=if wok w a&&wok w b then (if w<=b then 0 else a*p2 b.toNat % p2 w.toNat) else 0
def vShr (w a b:Int):Int:=if wok w a&&wok w b then (if w<=b then 0 else a / p2 b.toNat) else 0
def vFlip (w a:Int):Int:=if wok w a then p2 w.toNat - 1 - a else 0
def sgn (w a:Int):Int:=if p2 (w - 1).toNat<=a then a - p2 w.toNat else a
def vSigned (w a:Int):Int:=if wok w a then sgn w a else 0
def vLess (w a b:Int):Int:=if wok w a&&wok w b&&decide (a < b) then 1 else 0
def vLessSigned (w a b:Int):Int:=if wok w a&&wok w b&&decide (vSigned w a < vSigned w b) then 1 else 0
def vSlice (w a low n:Int):Int:=if wok w a&&decide (0<=low/\1<=n/\n<=w - low) then a / p2 low.toNat % p2 n.toNat else 0
theorem sgn_pos {w a:Int} (h:p2 (w - 1).toNat<=a):sgn w a=a - p2 w.toNat:=if_pos h
theorem sgn_neg {w a:Int} (h:¬ p2 (w - 1).toNat<=a):sgn w a=a:=if_neg h
theorem sgn_hi {w a:Int} (h0:1<=w) (h:p2 (w - 1).toNat<=a):(a / 2 ^ (w.toNat - 1)==0)=false:=by
 rw [p2_pow,show w.toNat - 1=(w - 1).toNat by omega]
 have hp:=p2_pos (w - 1).toNat
 have:1<=a / p2 (w - 1).toNat:=Int.le_ediv_of_mul_le (by omega) (by omega)
 rw [beq_eq_false_iff_ne];omega
theorem sgn_lo {w a:Int} (h0:1<=w) (ha:0<=a) (h:¬ p2 (w - 1).toNat<=a):(a / 2 ^ (w.toNat - 1)==0)=true:=by
 rw [p2_pow,show w.toNat - 1=(w - 1).toNat by omega]
 have:a / p2 (w - 1).toNat=0:=Int.ediv_eq_zero_of_lt ha (by omega)
 rw [beq_iff_eq];exact this
theorem xor255 (a:Int) (h0:0<=a) (h1:a<=255):bits .xor .u8 IntKind.u8.max a=255 - a:=by
 obtain ⟨n,rfl⟩:=Int.eq_ofNat_of_zero_le h0
 have h2:(BitVec.ofInt 8 (n:Int)).toNat=n:=by
  rw [BitVec.ofInt_natCast,BitVec.toNat_ofNat];exact Nat.mod_eq_of_lt (by omega)
 have e:BitVec.ofInt 8 IntKind.u8.max=BitVec.allOnes 8:=by decide
 show IntKind.u8.wrap ((BitVec.ofInt 8 IntKind.u8.max ^^^ BitVec.ofInt 8 (n:Int)).toNat:Int)=_
 rw [e,BitVec.allOnes_xor,BitVec.toNat_not,h2]
 simp only [IntKind.wrap,IntKind.signed,IntKind.bits]
 simp
 omega
theorem flip_spec (a:Int) (k:Nat) (hk:k<=8) (h0:0<=a) (h1:a < p2 k):(255 - a) % p2 k=p2 k - 1 - a:=by
 have hl:=p2_le k hk
 have e:255 - a=(-1 - a) % 256:=by omega
 rw [e,mod256 _ k hk,<- Int.add_emod_right,Int.emod_eq_of_lt (by omega) (by omega)]
 omega
theorem sub_spec (a b:Int) (k:Nat):(a+p2 k - b) % p2 k=(a - b) % p2 k:=by
 rw [show a+p2 k - b=(a - b)+p2 k by omega,Int.add_emod_right]
theorem mul_bd {a b:Int} (ha:0<=a) (ha':a<=255) (hb:0<=b) (hb':b<=255):0<=a*b/\a*b<=65025 :=
 ⟨Int.mul_nonneg ha hb,by have:=Int.mul_le_mul ha' hb' hb (by omega:(0:Int)<=255);omega⟩
theorem emod_le {a:Int} (k:Nat):0<=a % p2 k/\a % p2 k < p2 k :=
 ⟨Int.emod_nonneg _ (by have:=p2_pos k;omega),Int.emod_lt_of_pos _ (by have:=p2_pos k;omega)⟩
end Pl1
namespace Tm0
open Nd0 Pl1
def parts (n:Nd):List Int :=
 if n.op=2\/n.op=17\/n.op=19\/n.op=20 then [n.a]
 else if 3<=n.op/\n.op<=16 then [n.a,n.b]
 else if n.op=18 then [n.a,n.b,n.c]
 else []
theorem parts_one {n:Nd} (h:n.op=2\/n.op=17\/n.op=19\/n.op=20):parts n=[n.a]:=if_pos h
theorem parts_two {n:Nd} (h:3<=n.op/\n.op<=16):parts n=[n.a,n.b]:=by
 unfold parts;rw [if_neg (by omega),if_pos h]
theorem parts_three {n:Nd} (h:n.op=18):parts n=[n.a,n.b,n.c]:=by
 unfold parts;rw [if_neg (by omega),if_neg (by omega),if_pos h]
theorem parts_none {n:Nd} (h:¬ (n.op=2\/n.op=17\/n.op=19\/n.op=20)) (h2:¬ (3<=n.op/\n.op<=16)) (h3:¬ n.op=18):parts n=[]:=by
 unfold parts;rw [if_neg h,if_neg h2,if_neg h3]
theorem parts_le (n:Nd):(parts n).length<=3:=by
 unfold parts;split
 ·simp
 ·split
  ·simp
  ·split<;>simp
def shapeOk (n:Nd) (ws:List Int):Bool :=
 if n.op=0 then wok n.w n.k&&decide (n.a=0/\n.b=0/\n.c=0)
 else if n.op=1 then decide (0<=n.k/\n.k<=7/\n.a=0/\n.b=0/\n.c=0)
 else if n.op=2 then decide (ws.getD 0 0=n.w/\n.k=0/\n.b=0/\n.c=0)
 else if 3<=n.op/\n.op<=12 then decide (ws.getD 0 0=n.w/\ws.getD 1 0=n.w/\n.k=0/\n.c=0)
 else if 13<=n.op/\n.op<=15 then decide (ws.getD 0 0=ws.getD 1 0/\n.w=1/\n.k=0/\n.c=0)
 else if n.op=16 then decide (ws.getD 0 0+ws.getD 1 0=n.w/\n.k=0/\n.c=0)
 else if n.op=17 then decide (0<=n.k/\n.k<=ws.getD 0 0 - n.w/\n.b=0/\n.c=0)
 else if n.op=18 then decide (ws.getD 0 0=1/\ws.getD 1 0=n.w/\ws.getD 2 0=n.w/\n.k=0)
 else if n.op=19\/n.op=20 then decide (0<=n.k/\n.k<=7/\1<=n.b/\n.b<=8/\ws.getD 0 0=1/\n.w=1/\n.c=0)
 else false
def width (l:List Nd) (p:Int):Int:=(nth l p.toNat).w
def nodeOk (l:List Nd) (i:Nat):Bool :=
 let n:=nth l i
 (parts n).all (fun p=>decide (0<=p/\p < i))&&decide (1<=n.w/\n.w<=8)&&shapeOk n ((parts n).map (width l))
theorem node_bad_part {l:List Nd} {i:Nat} (k:Nat) (hk:k < (parts (nth l i)).length) (h:¬ (0<=(parts (nth l i))[k]/\(parts (nth l i))[k] < i)):nodeOk l i=false:=by
 have:(parts (nth l i)).all (fun p=>decide (0<=p/\p < i))=false:=by
  rw [List.all_eq_false]
  exact ⟨_,List.getElem_mem hk,by simpa using h⟩
 simp only [nodeOk]
 rw [this]
 simp
theorem node_bad_width {l:List Nd} {i:Nat} (h:¬ (1<=(nth l i).w/\(nth l i).w<=8)):nodeOk l i=false:=by
 simp only [nodeOk]
 rw [decide_eq_false h]
 simp
theorem node_kind {l:List Nd} {i:Nat} (h:∀ k (hk:k < (parts (nth l i)).length),0<=(parts (nth l i))[k]/\(parts (nth l i))[k] < i) (hw:1<=(nth l i).w/\(nth l i).w<=8) :
 nodeOk l i=shapeOk (nth l i) ((parts (nth l i)).map (width l)):=by
 have:(parts (nth l i)).all (fun p=>decide (0<=p/\p < i))=true:=by
  rw [List.all_eq_true]
  intro p hp
  obtain ⟨k,hk,rfl⟩:=List.getElem_of_mem hp
  simpa using h k hk
 simp only [nodeOk]
 rw [this,decide_eq_true hw]
 simp
theorem node_width {l:List Nd} {i:Nat} (h:nodeOk l i=true):1<=(nth l i).w/\(nth l i).w<=8:=by
 simp only [nodeOk,Bool.and_eq_true,decide_eq_true_eq] at h
 exact h.1.2
def termOk (l:List Nd):Bool:=decide (1<=l.length/\l.length<=80)&&(List.range l.length).all (nodeOk l)
theorem term_long {l:List Nd} (h:¬ (1<=l.length/\l.length<=80)):termOk l=false:=by
 unfold termOk;rw [decide_eq_false h];rfl
theorem term_bad {l:List Nd} (k:Nat) (hk:k < l.length) (h:nodeOk l k=false):termOk l=false:=by
 have:(List.range l.length).all (nodeOk l)=false:=by
  rw [List.all_eq_false];exact ⟨k,List.mem_range.2 hk,by simp [h]⟩
 unfold termOk;rw [this,Bool.and_false]
theorem term_good {l:List Nd} (h:1<=l.length/\l.length<=80) (ha:∀ k,k < l.length->nodeOk l k=true):termOk l=true:=by
 have:(List.range l.length).all (nodeOk l)=true:=by
  rw [List.all_eq_true];intro x hx;exact ha x (List.mem_range.1 hx)
 unfold termOk;rw [this,decide_eq_true h];rfl
theorem term_len {l:List Nd} (h:termOk l=true):1<=l.length/\l.length<=80:=by
 simp only [termOk,Bool.and_eq_true,decide_eq_true_eq] at h;exact h.1
theorem term_node {l:List Nd} (h:termOk l=true) {k:Nat} (hk:k < l.length):nodeOk l k=true:=by
 simp only [termOk,Bool.and_eq_true,List.all_eq_true] at h;exact h.2 k (List.mem_range.2 hk)
end Tm0
end Go.Proofs.YtebejleeadofcaaGreat
