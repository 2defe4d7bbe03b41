import Derived.Test.YtfhdbcfhhbdiiaaPkXW33
namespace Go.Proofs.Ytfhdbcfhhbdiiaa
set_option maxRecDepth 100000
set_option maxHeartbeats 8000000
set_option linter.unusedVariables false
namespace Dr0
open Go.RowKit
/-- From w to w' no block that was there has turned but block b. -/
structure Only (b:Nat) (w w':World):Prop where
 os:w'.os=w.os
 tape:w'.tape=w.tape
 output:w'.output=w.output
 size:w.heap.size<=w'.heap.size
 block:∀ k,k < w.heap.size->k≠b->w'.heap[k]? = w.heap[k]?
theorem Only.refl (b:Nat) (w:World):Only b w w:=⟨rfl,rfl,rfl,Nat.le_refl _,fun _ _ _=>rfl⟩
theorem Only.trans {b:Nat} {u v w:World} (h:Only b u v) (k:Only b v w):Only b u w :=
 ⟨k.os.trans h.os,k.tape.trans h.tape,k.output.trans h.output,Nat.le_trans h.size k.size,fun i hi hb=>(k.block i (Nat.lt_of_lt_of_le hi h.size) hb).trans (h.block i hi hb)⟩
theorem Only.drew {b:Nat} {u w:World} (h:Only b u w):Only b u w.drew:=⟨h.os,h.tape,h.output,h.size,h.block⟩
theorem Only.drewN {b:Nat} {u w:World} (h:Only b u w) (n:Nat):Only b u (w.drewN n):=⟨h.os,h.tape,h.output,h.size,h.block⟩
theorem Only.alloc {b:Nat} {u w:World} (h:Only b u w) (o:Obj):Only b u (w.alloc o) :=
 h.trans ⟨rfl,rfl,rfl,by simp,fun k hk _=>Below.heap_alloc _ _ _ hk⟩
theorem Only.setCell {b:Nat} {u w:World} (h:Only b u w) {p:Addr} (hp:p.block=b) (x:Value):Only b u (w.setCell p x) :=
 h.trans ⟨rfl,rfl,rfl,by simp [World.setCell],fun k _ hk=>Below.heap_setCell _ _ _ _ (by omega)⟩
theorem Only.cell {b:Nat} {w w':World} (h:Only b w w') {p:Addr} (hp:p.block < w.heap.size) (hb:p.block≠b):w'.cell? p=w.cell? p :=
 World.cell?_of_block (w:=w) (h.block p.block hp hb)
theorem Only.frozen {b:Nat} {w w':World} (h:Only b w w') {p:Addr} (hp:p.block < w.heap.size) (hb:p.block≠b):w'.frozen? p=w.frozen? p :=
 World.frozen?_of_block (w:=w) (h.block p.block hp hb)
theorem Only.below {b B:Nat} {w w':World} (h:Only b w w') (hB:B<=b) (hs:B<=w.heap.size):Below B w w' :=
 ⟨h.os,h.tape,h.output,h.size,fun k hk=>h.block k (by omega) (by omega)⟩
theorem lt_of_cell {w:World} {p:Addr} {v:Value} (h:w.cell? p=some v):p.block < w.heap.size:=by
 have:∃ o,w.heap[p.block]? = some o:=by
  unfold World.cell? at h
  cases e:w.heap[p.block]? with
  | none=>simp [e] at h
  | some o=>exact ⟨o,rfl⟩
 obtain ⟨o,ho⟩:=this
 obtain ⟨hl,_⟩:=Array.getElem?_eq_some_iff.1 ho
 exact hl
/-- A slice of bytes that came in: it may be read. -/
def Bytes (w:World) (a:Option Addr) (len:Nat):Prop :=
 len<=maxLen/\(len=0\/∃ xb xo,a=some ⟨xb,xo,none⟩/\∀ i,i < len->∃ v:Int,0<=v/\v<=255/\w.cell? ⟨xb,xo+i,none⟩=some (.int .u8 v))
/-- .. and it lies in another block than b. -/
def Off (a:Option Addr) (len b:Nat):Prop:=len=0\/∀ x,a=some x->x.block≠b
theorem Bytes.only {b:Nat} {w w':World} {a:Option Addr} {len:Nat} (h:Bytes w a len) (ho:Off a len b) (k:Only b w w'):Bytes w' a len:=by
 refine ⟨h.1,?_⟩
 rcases h.2 with h0|⟨xb,xo,rfl,hc⟩
 ·exact .inl h0
 ·rcases ho with h0|ho
  ·exact .inl h0
  ·refine .inr ⟨xb,xo,rfl,fun i hi=>?_⟩
   obtain ⟨v,h1,h2,h3⟩:=hc i hi
   exact ⟨v,h1,h2,by rw [k.cell (lt_of_cell h3) (ho ⟨xb,xo,none⟩ rfl)];exact h3⟩
theorem Bytes.below {w w':World} {a:Option Addr} {len:Nat} (h:Bytes w a len) (k:Below w.heap.size w w'):Bytes w' a len:=by
 refine ⟨h.1,?_⟩
 rcases h.2 with h0|⟨xb,xo,rfl,hc⟩
 ·exact .inl h0
 ·refine .inr ⟨xb,xo,rfl,fun i hi=>?_⟩
  obtain ⟨v,h1,h2,h3⟩:=hc i hi
  exact ⟨v,h1,h2,by rw [k.cell (lt_of_cell h3)];exact h3⟩
/-- A cursor over a slice of bytes in block b. -/
structure Cur (w:World) (b:Nat) (a:Option Addr) (len cap:Nat):Prop where
 c0:w.cell? ⟨b,0,none⟩=some (.slice a len cap)
 c1:∃ i:Nat,i<=len/\w.cell? ⟨b,1,none⟩=some (.int .i64 i)
 c2:∃ h:Int,w.cell? ⟨b,2,none⟩=some (.int .i64 h)
 f1:w.frozen? ⟨b,1,none⟩=false
 f2:w.frozen? ⟨b,2,none⟩=false
 bytes:Bytes w a len
 off:Off a len b
theorem set_other {w:World} {p q:Addr} {v:Value} (h:p≠q):(w.setCell p v).cell? q=w.cell? q:=by apply World.cell?_setCell_other;exact h
theorem set_same {w:World} {p:Addr} {u v:Value} (h:w.cell? p=some u):(w.setCell p v).cell? p=some v:=by apply World.cell?_setCell_same;exact h
theorem Cur.drewN {w:World} {b:Nat} {a:Option Addr} {len cap:Nat} (h:Cur w b a len cap) (n:Nat):Cur (w.drewN n) b a len cap :=
 ⟨h.c0,h.c1,h.c2,h.f1,h.f2,h.bytes.only h.off ((Only.refl b w).drewN n),h.off⟩
theorem Cur.drew {w:World} {b:Nat} {a:Option Addr} {len cap:Nat} (h:Cur w b a len cap):Cur w.drew b a len cap :=
 ⟨h.c0,h.c1,h.c2,h.f1,h.f2,h.bytes.only h.off (Only.refl b w).drew,h.off⟩
theorem Cur.setH {w:World} {b:Nat} {a:Option Addr} {len cap:Nat} (h:Cur w b a len cap) (x:Int):Cur (w.setCell ⟨b,2,none⟩ (.int .i64 x)) b a len cap:=by
 obtain ⟨i,hi,h1⟩:=h.c1
 obtain ⟨y,h2⟩:=h.c2
 refine ⟨?_,⟨i,hi,?_⟩,⟨x,?_⟩,?_,?_,h.bytes.only h.off ((Only.refl b w).setCell rfl _),h.off⟩
 ·rw [set_other (by simp)];exact h.c0
 ·rw [set_other (by simp)];exact h1
 ·exact set_same h2
 ·rw [World.frozen?_setCell];exact h.f1
 ·rw [World.frozen?_setCell];exact h.f2
theorem Cur.setI {w:World} {b:Nat} {a:Option Addr} {len cap:Nat} (h:Cur w b a len cap) (i:Nat) (hi:i < len):Cur (w.setCell ⟨b,1,none⟩ (.int .i64 ((i:Int)+1))) b a len cap:=by
 obtain ⟨j,hj,h1⟩:=h.c1
 obtain ⟨y,h2⟩:=h.c2
 refine ⟨?_,⟨i+1,by omega,?_⟩,⟨y,?_⟩,?_,?_,h.bytes.only h.off ((Only.refl b w).setCell rfl _),h.off⟩
 ·rw [set_other (by simp)];exact h.c0
 ·rw [set_same h1];simp
 ·rw [set_other (by simp)];exact h2
 ·rw [World.frozen?_setCell];exact h.f1
 ·rw [World.frozen?_setCell];exact h.f2
theorem Cur.lt {w:World} {b:Nat} {a:Option Addr} {len cap:Nat} (h:Cur w b a len cap):b < w.heap.size:=lt_of_cell (p:=⟨b,0,none⟩) h.c0
theorem Cur.alloc {w:World} {b:Nat} {a:Option Addr} {len cap:Nat} (h:Cur w b a len cap) (o:Obj):Cur (w.alloc o) b a len cap:=by
 have k:Below w.heap.size w (w.alloc o):=(Below.refl _ w).alloc (Nat.le_refl _) o
 have hb:=h.lt
 obtain ⟨i,hi,h1⟩:=h.c1
 obtain ⟨y,h2⟩:=h.c2
 exact ⟨by rw [k.cell hb];exact h.c0,⟨i,hi,by rw [k.cell hb];exact h1⟩,⟨y,by rw [k.cell hb];exact h2⟩,by rw [k.frozen hb];exact h.f1,by rw [k.frozen hb];exact h.f2,h.bytes.below k,h.off⟩
theorem Bytes.offNew {w:World} {a:Option Addr} {len:Nat} (h:Bytes w a len) (b:Nat) (hb:w.heap.size<=b):Off a len b:=by
 by_cases h0:len=0
 ·exact .inl h0
 ·rcases h.2 with h1|⟨xb,xo,rfl,hc⟩
  ·exact .inl h1
  ·refine .inr fun x hx=>?_
   obtain ⟨v,_,_,hv⟩:=hc 0 (by omega)
   have:=lt_of_cell hv
   simp at hx this
   subst hx
   simp
   omega
theorem Cur.made {w:World} {a:Option Addr} {len cap:Nat} (h:Bytes w a len) (x:Int) (T:Nat):Cur (w.alloc (.cells #[.slice a len cap,.int .i64 0,.int .i64 x] T)) w.heap.size a len cap:=by
 refine ⟨by simp,⟨0,Nat.zero_le _,by simp⟩,⟨x,by simp⟩,by simp,by simp,h.below ((Below.refl _ w).alloc (Nat.le_refl _) _),h.offNew _ (Nat.le_refl _)⟩
theorem bytes_of {w:World} {x:Addr} {len cap:Nat} {z:List Int} (hl:len<=cap) (hm:cap<=maxLen) (hz:z.length=cap) (hcell:∀ i,i < z.length->w.cell? (x.add i)=some (.int .u8 (z.getD i 0))) (hwz:∀ n∈z,(Lit.int .u8 n).wf=true):Bytes w (some x) len:=by
 refine ⟨by omega,?_⟩
 by_cases h0:len=0
 ·exact .inl h0
 ·obtain ⟨xb,xo,spot⟩:=x
  have hc:=hcell 0 (by omega)
  have hspot:spot=none:=by simpa [Addr.add] using World.cell?_spot hc
  subst hspot
  refine .inr ⟨xb,xo,rfl,fun i hi=>⟨z.getD i 0,?_⟩⟩
  have hi2:i < z.length:=by omega
  have eg:z.getD i 0=z[i]:=by simp [List.getD,hi2]
  have hw:=hwz (z.getD i 0) (by rw [eg];exact List.getElem_mem _)
  have hk:=hcell i hi2
  rw [Addr.add_lit] at hk
  generalize z.getD i 0=v at hw hk ⊢
  simp [Lit.wf,IntKind.min,IntKind.max,IntKind.signed,IntKind.bits] at hw
  exact ⟨by omega,by omega,hk⟩
theorem and255 (x:Int):0<=bits .and .i64 x 255/\bits .and .i64 x 255<=255:=by
 have e:bits .and .i64 x 255=IntKind.i64.wrap ((BitVec.ofInt 64 x &&& BitVec.ofInt 64 255).toNat:Int):=rfl
 have h:(BitVec.ofInt 64 x &&& BitVec.ofInt 64 255).toNat<=255:=by
  rw [BitVec.toNat_and];exact Nat.and_le_right
 rw [e,IntKind.wrap_i64]
 omega
theorem and30 (x:Int):0<=bits .and .i64 x 1073741823/\bits .and .i64 x 1073741823<=1073741823:=by
 have e:bits .and .i64 x 1073741823=IntKind.i64.wrap ((BitVec.ofInt 64 x &&& BitVec.ofInt 64 1073741823).toNat:Int):=rfl
 have h:(BitVec.ofInt 64 x &&& BitVec.ofInt 64 1073741823).toNat<=1073741823:=by
  rw [BitVec.toNat_and];exact Nat.and_le_right
 rw [e,IntKind.wrap_i64]
 omega
end Dr0
namespace Dr1
open Go.RowKit
open Dr0
theorem byte (w:World) (b:Nat) (a:Option Addr) (len cap:Nat) (hc:Cur w b a len cap) :
 Calls Try.prog 50 #[.pointer (some ⟨b,0,none⟩)] w fun e w'=>(∃ x:Int,e=.returned (.int .i64 x)/\0<=x/\x<=255)/\Cur w' b a len cap/\Only b w w':=by
 have HC:Hid (Cur w b a len cap):=hc
 obtain ⟨c0,⟨i,hi,c1⟩,⟨h,c2⟩,f1,f2,hb,ho⟩:=hc
 by_cases hlt:i < len
 ·rcases hb.2 with h0|⟨xb,xo,rfl,hcell⟩
  ·omega
  have hne:xb≠b:=by
   rcases ho with h0|ho
   ·omega
   ·exact ho ⟨xb,xo,none⟩ rfl
  obtain ⟨v,hv0,hv1,hv⟩:=hcell i hlt
  have hlz:(i:Int) < (len:Int):=by omega
  have hm:=hb.1
  unfold maxLen at hm
  go_enter Try.func50,Try.ntmps50
  go_wp2
  generalize wrap64 (wrap64 (h*6364136223846793005)+1442695040888963407)=h1
  go_quiet (fail)
  go_wp2
  generalize bits BinOp.xor IntKind.i64 (h1 / 8589934592) (h1 / 35184372088832)=h2
  have hx:=and255 h2
  generalize bits BinOp.and IntKind.i64 h2 255=x at hx ⊢
  go_quiet (fail)
  go_wp2
  go_quiet (fail)
  go_wp2
  go_ret
  exact ⟨⟨_,rfl,(and255 _).1,(and255 _).2⟩,((HC.out.setH h1).drewN _).setI i hlt,(((Only.refl b w).setCell rfl _).drewN _).setCell rfl _⟩
 ·have hlz:¬ (i:Int) < (len:Int):=by omega
  go_enter Try.func50,Try.ntmps50
  go_wp2
  generalize wrap64 (wrap64 (h*6364136223846793005)+1442695040888963407)=h1
  go_quiet (fail)
  go_wp2
  generalize bits BinOp.xor IntKind.i64 (h1 / 8589934592) (h1 / 35184372088832)=h2
  go_quiet (fail)
  go_wp2
  go_ret
  exact ⟨⟨_,rfl,(and255 _).1,(and255 _).2⟩,((HC.out.setH h1).drewN _).drewN _,(((Only.refl b w).setCell rfl _).drewN _).drewN _⟩
theorem below (w:World) (b:Nat) (a:Option Addr) (len cap:Nat) (n:Int) (h0:1<=n) (h1:n<=256) (hc:Cur w b a len cap) :
 Calls Try.prog 24 #[.pointer (some ⟨b,0,none⟩),.int .i64 n] w fun e w'=>(∃ x:Int,e=.returned (.int .i64 x)/\0<=x/\x < n)/\Cur w' b a len cap/\Only b w w':=by
 have HC:Hid (Cur w b a len cap):=hc
 clear hc
 go_enter Try.func24,Try.ntmps24
 go_wp2_with fail
 refine (byte _ b a len cap HC.out).mono ?_
 rintro e w' ⟨⟨x,rfl,hx0,hx1⟩,hc',ho'⟩
 have HC':Hid (Cur w' b a len cap):=hc'
 have HO':Hid (Only b w w'):=ho'
 clear hc' ho'
 go_wp2
 go_ret
 exact ⟨⟨_,rfl,Int.emod_nonneg _ (by omega),Int.emod_lt_of_pos _ (by omega)⟩,HC'.out,HO'.out⟩
theorem once (w:World) (b:Nat) (a:Option Addr) (len cap:Nat) (n:Int) (h0:1<=n) (h1:n<=256) (hc:Cur w b a len cap) :
 Calls Try.prog 41 #[.pointer (some ⟨b,0,none⟩),.int .i64 n] w fun e w'=>(∃ x:Bool,e=.returned (.bool x))/\Cur w' b a len cap/\Only b w w':=by
 have HC:Hid (Cur w b a len cap):=hc
 clear hc
 go_enter Try.func41,Try.ntmps41
 go_wp2_with fail
 refine (below _ b a len cap n h0 h1 HC.out).mono ?_
 rintro e w' ⟨⟨x,rfl,hx0,hx1⟩,hc',ho'⟩
 have HC':Hid (Cur w' b a len cap):=hc'
 have HO':Hid (Only b w w'):=ho'
 clear hc' ho'
 go_wp2
 go_ret
 exact ⟨⟨_,rfl⟩,HC'.out,HO'.out⟩
/-- A list of whole numbers in a block of its own. -/
def Ints (w:World) (g:Nat) (n:Nat):Prop:=∀ i,i < n->∃ v:Int,w.cell? ⟨g,i,none⟩=some (.int .i64 v)
theorem pickInt (w:World) (b:Nat) (a:Option Addr) (len cap:Nat) (g n c:Nat) (h0:1<=n) (h1:n<=256) (hg:g≠b) (hi:Ints w g n) (hc:Cur w b a len cap) :
 Calls Try.prog 42 #[.pointer (some ⟨b,0,none⟩),.slice (some ⟨g,0,none⟩) n c] w fun e w'=>(∃ x:Int,e=.returned (.int .i64 x))/\Cur w' b a len cap/\Only b w w':=by
 have HC:Hid (Cur w b a len cap):=hc
 have HI:Hid (Ints w g n):=hi
 clear hc hi
 go_enter Try.func42,Try.ntmps42
 go_wp2_with fail
 refine (below _ b a len cap _ (by omega) (by omega) HC.out).mono ?_
 rintro e w' ⟨⟨x,rfl,hx0,hx1⟩,hc',ho'⟩
 have HC':Hid (Cur w' b a len cap):=hc'
 have HO':Hid (Only b w w'):=ho'
 clear hc' ho'
 obtain ⟨v,hv⟩:=HI.out x.toNat (by omega)
 have hv':w'.cell? ⟨g,x.toNat,none⟩=some (.int .i64 v):=by rw [HO'.out.cell (lt_of_cell hv) hg];exact hv
 clear hv
 go_wp2
 go_ret
 exact ⟨⟨_,rfl⟩,HC'.out,HO'.out⟩
end Dr1
namespace Dr4
open Go.RowKit
open Dr0 Dr1
theorem pickNew (w:World) (b:Nat) (a:Option Addr) (len cap:Nat) (c:Array Value) (T n:Nat) (h0:1<=n) (h1:n<=256) (hC:∀ i,i < n->∃ v:Int,c[i]? = some (.int .i64 v)) (hc:Cur w b a len cap) :
 Calls Try.prog 42 #[.pointer (some ⟨b,0,none⟩),.slice (some ⟨w.heap.size,0,none⟩) n n] (w.alloc (.cells c T)) fun e w'=>(∃ x:Int,e=.returned (.int .i64 x))/\Cur w' b a len cap/\Only b w w':=by
 have hb:=hc.lt
 refine (pickInt _ b a len cap w.heap.size n n h0 h1 (by omega) ?_ (hc.alloc _)).mono ?_
 ·intro i hi
  obtain ⟨v,hv⟩:=hC i hi
  exact ⟨v,by rw [World.cell?_alloc_new];exact hv⟩
 ·rintro e w' ⟨h1,h2,h3⟩
  exact ⟨h1,h2,((Only.refl b w).alloc _).trans h3⟩
theorem new (w:World) (a:Option Addr) (len cap:Nat) (hb:Bytes w a len) :
 Calls Try.prog 23 #[.slice a len cap] w fun e w'=>e=.returned (.pointer (some ⟨w.heap.size,0,none⟩))/\Cur w' w.heap.size a len cap/\Below w.heap.size w w':=by
 have hm:=hb.1
 unfold maxLen at hm
 have HB:Hid (Bytes w a len):=hb
 clear hb
 go_enter Try.func23,Try.ntmps23
 go_wp2
 go_loop [3,4] (fun h i=>∃ (k:Nat) (x:Int),k<=len/\i=.int .i64 k/\h=.int .i64 x) (fun _ i=>len - (intOf i).toNat)
 case atStart=>exact ⟨0,_,Nat.zero_le _,rfl,rfl⟩
 case round =>
  obtain ⟨k,x,hk,rfl,rfl⟩:=hrel
  by_cases hlt:k < len/\k < 4000
  ·obtain ⟨hlt,hl4⟩:=hlt
   rcases HB.out.2 with h0|⟨xb,xo,rfl,hcell⟩
   ·omega
   obtain ⟨v,hv0,hv1,hv⟩:=hcell k hlt
   clear hcell
   go_wp2
   go_round
   case rel=>exact ⟨k+1,_,by omega,by go_num,rfl⟩
   case measure=>simp [intOf];omega
  ·have hd:(decide ((k:Int) < (len:Int))&&decide ((k:Int) < 4000))=false:=by simp;omega
   by_cases hlt:k < len
   ·have hl4:¬ (k:Int) < 4000:=by omega
    clear hd
    go_wp2
    go_ret
    exact ⟨rfl,Cur.made HB.out x _,(Below.refl _ w).alloc (Nat.le_refl _) _⟩
   ·have hl4:¬ (k:Int) < (len:Int):=by omega
    clear hd
    go_wp2
    go_ret
    exact ⟨rfl,Cur.made HB.out x _,(Below.refl _ w).alloc (Nat.le_refl _) _⟩
end Dr4
namespace Tdw
open Go.RowKit
open Ta0 Ta1 Tc2 Tc5 Ap9 Td1 Td2
open Nd0 (Kept set_same)
open Dr0 (Cur Only Bytes)
open Ss0 (bs bs_size)
/-- Signs alone. -/
def Sgs (l:List UInt8):Prop:=∀ c∈l,c=48\/c=49
theorem sgs_nil:Sgs []:=fun c h=>by cases h
theorem sgs_app {l:List UInt8} (h:Sgs l) (b:Bool):Sgs (l++[sgn b]):=fun c hc=>by
 rcases List.mem_append.1 hc with h1|h1
 ·exact h c h1
 ·rw [List.mem_singleton.1 h1];cases b
  ·exact .inl rfl
  ·exact .inr rfl
theorem sgs_set {l:List UInt8} (h:Sgs l) (j:Nat):Sgs (l.set j 49):=fun c hc=>by
 rcases List.mem_or_eq_of_mem_set hc with h1|h1
 ·exact h c h1
 ·exact .inr h1
theorem sgs_tab {n:Nat} {l:List UInt8} (hl:l.length=2 ^ n) (h:Sgs l):∃ F:Nat->Bool,bs l=bs (tab n F):=by
 have e:=list_tab (F:=fun i=>l.getD i 0==49) hl (by
  intro i hi
  have e:l.getD i 0=l[i]:=by simp [List.getD,hi]
  show l[i]=sgn (l.getD i 0==49)
  rw [e]
  rcases h l[i] (List.getElem_mem hi) with h1|h1
  ·rw [h1];rfl
  ·rw [h1];rfl)
 exact ⟨_,congrArg bs e⟩
/-- What stands while a table is drawn: the cursor, the result's box, the bytes so far. -/
structure DT (w:World) (b:Nat) (a:Option Addr) (len cap:Nat) (v:Value) (k:Nat) (W:World):Prop where
 cur:Cur W b a len cap
 res:Lay W w.heap.size (.int .i64 0) (.string ByteArray.empty)
 own:∃ l:List UInt8,(l.length=k/\Sgs l)/\Owu W (w.heap.size+1) v l
 siz:w.heap.size+1<=W.heap.size
 onl:Only b w W
theorem kept_of_only {b:Nat} {W W':World} (h:Only b W W'):Kept (fun x=>x=b) W W':=⟨h.os,h.tape,h.output,h.size,h.block⟩
theorem DT.only {w W W':World} {b:Nat} {a:Option Addr} {len cap:Nat} {v:Value} {k:Nat} (h:DT w b a len cap v k W) (hb:b < w.heap.size) (hc:Cur W' b a len cap) (ho:Only b W W'):DT w b a len cap v k W':=by
 obtain ⟨l,h1,h2⟩:=h.own
 refine ⟨hc,h.res.kept (kept_of_only ho) (by omega),⟨l,h1,h2.kept (kept_of_only ho) (fun i hi e=>by have:=(h2.lt i hi).1;omega)⟩,by have:=ho.size;have:=h.siz;omega,h.onl.trans ho⟩
theorem only_app {b:Nat} {u W W':World} {v:Value} (h:Only b u W) (hk:Kept (fun k=>v.ownBlock=some k) W W') (hv:∀ k,v.ownBlock=some k->u.heap.size<=k):Only b u W' :=
 ⟨hk.os.trans h.os,hk.tape.trans h.tape,hk.output.trans h.output,Nat.le_trans h.size hk.size,fun i hi hb=>(hk.block i (Nat.lt_of_lt_of_le hi h.size) (fun e=>by have:=hv i e;omega)).trans (h.block i hi hb)⟩
theorem cur_kept {b:Nat} {W W':World} {a:Option Addr} {len cap:Nat} (h:Cur W b a len cap) {S:Nat->Prop} (hk:Kept S W W') (hb:¬ S b) (ha:len=0\/∀ x,a=some x->¬ S x.block):Cur W' b a len cap:=by
 have hl:=h.lt
 obtain ⟨i,hi,hc1⟩:=h.c1
 obtain ⟨q,hc2⟩:=h.c2
 refine ⟨by rw [hk.cell (p:=⟨b,0,none⟩) hl hb];exact h.c0,⟨i,hi,by rw [hk.cell (p:=⟨b,1,none⟩) hl hb];exact hc1⟩,⟨q,by rw [hk.cell (p:=⟨b,2,none⟩) hl hb];exact hc2⟩,by rw [hk.frozen (p:=⟨b,1,none⟩) hl hb];exact h.f1,by rw [hk.frozen (p:=⟨b,2,none⟩) hl hb];exact h.f2,⟨h.bytes.1,?_⟩,h.off⟩
 rcases h.bytes.2 with h0|⟨xb,xo,rfl,hc⟩
 ·exact .inl h0
 ·rcases ha with h0|ha
  ·exact .inl h0
  ·refine .inr ⟨xb,xo,rfl,fun i hi=>?_⟩
   obtain ⟨v,h1,h2,h3⟩:=hc i hi
   exact ⟨v,h1,h2,by rw [hk.cell (Dr0.lt_of_cell h3) (ha ⟨xb,xo,none⟩ rfl)];exact h3⟩
/-- The bytes that are drawn from lie in a block below B. -/
def Low (a:Option Addr) (len B:Nat):Prop:=len=0\/∀ x,a=some x->x.block < B
theorem low_of {W:World} {a:Option Addr} {len:Nat} (h:Bytes W a len):Low a len W.heap.size:=by
 rcases h.2 with h0|⟨xb,xo,rfl,hc⟩
 ·exact .inl h0
 ·by_cases h0:len=0
  ·exact .inl h0
  ·refine .inr fun x hx=>?_
   cases hx
   obtain ⟨v,_,_,h3⟩:=hc 0 (by omega)
   exact Dr0.lt_of_cell h3
theorem DT.next {w W W':World} {b:Nat} {a:Option Addr} {len cap:Nat} {v v':Value} {k k':Nat} {l':List UInt8} (h:DT w b a len cap v k W) (hb:b < w.heap.size) (hlo:Low a len w.heap.size) (hk:Kept (fun x=>v.ownBlock=some x) W W') (hl:l'.length=k'/\Sgs l') (ho:Owu W' (w.heap.size+1) v' l'):DT w b a len cap v' k' W':=by
 obtain ⟨l,h1,h2⟩:=h.own
 have hv:∀ x,v.ownBlock=some x->w.heap.size+1<=x:=fun x hx=>(h2.lt x hx).1
 refine ⟨cur_kept h.cur hk (fun e=>by have:=hv _ e;omega) ?_,h.res.kept hk (fun e=>by have:=hv _ e;omega),⟨l',hl,ho⟩,by have:=hk.size;have:=h.siz;omega,only_app h.onl hk (fun x hx=>by have:=hv x hx;omega)⟩
 rcases hlo with h0|h0
 ·exact .inl h0
 ·exact .inr fun x hx e=>by have:=h0 x hx;have:=hv _ e;omega
theorem sgn_lit (x:Int) (h:x=0\/x=1):∃ y:UInt8,IntKind.u8.wrap (48+x)=(y.toNat:Int)/\(48+x)=(y.toNat:Int):=by
 rcases h with rfl|rfl
 ·exact ⟨48,by decide,rfl⟩
 ·exact ⟨49,by decide,rfl⟩
theorem l06Table (w:World) (b:Nat) (a:Option Addr) (len cap:Nat) (n:Nat) (hn:n<=6) (hc:Cur w b a len cap) :
 Calls Try.prog 26 #[.pointer (some ⟨b,0,none⟩),.int .i64 (n:Int)] w fun e w'=>(∃ F:Nat->Bool,e=.returned (tv (n:Int) (bs (tab n F))))/\Cur w' b a len cap/\Only b w w':=by
 have HLO:Hid (Low a len w.heap.size):=low_of hc.bytes
 have hbl:b < w.heap.size:=hc.lt
 have HPW:Hid (∀ W,Calls Try.prog 51 #[.int .i64 (n:Int)] W fun e w'=>e=.returned (.int .i64 ((2 ^ n:Nat):Int))/\w'=W):=fun W=>sPow n W (by omega)
 have hp:1<=2 ^ n:=Nat.one_le_two_pow
 have hl:2 ^ n<=64:=Nat.pow_le_pow_right (n:=2) (by omega) hn
 obtain ⟨P,hPN⟩:∃ P,P=2 ^ n:=⟨_,rfl⟩
 rw [<- hPN] at HPW hp hl
 have HPN:Hid (P=2 ^ n):=hPN
 clear hPN
 have HD0:Hid (DT w b a len cap (.slice (some ⟨w.heap.size+1,0,none⟩) 0 0) 0 ((w.alloc (.cells #[.int .i64 0,.string ByteArray.empty] 26)).alloc (.cells #[] 5))):=by
  have h1:=Owu.lit (w.alloc (.cells #[.int .i64 0,.string ByteArray.empty] 26)) (w.heap.size+1) (by simp)
  refine ⟨(hc.alloc _).alloc _,(Lay.made _ _ _ _).alloc _,⟨[],⟨rfl,sgs_nil⟩,by simpa using h1⟩,by simp,((Only.refl _ _).alloc _).alloc _⟩
 clear hc
 go_enter Try.func26,Try.ntmps26
 go_wp2_with fail
 refine (Dr1.below _ b a len cap 4 (by omega) (by omega) HD0.out.cur).mono ?_
 rintro e w1 ⟨⟨wy,rfl,hy0,hy1⟩,hc1,ho1⟩
 have HD1:Hid (DT w b a len cap (.slice (some ⟨w.heap.size+1,0,none⟩) 0 0) 0 w1):=HD0.out.only hbl hc1 ho1
 clear hc1 ho1
 go_wp2_with fail
 go_loopw [5,7] (fun v i wr=>∃ k:Nat,k<=P/\i=.int .i64 k/\DT w b a len cap v k wr) (fun _ i _=>P - (intOf i).toNat)
 case atStart=>exact ⟨0,Nat.zero_le _,rfl,HD1.out⟩
 case round =>
  obtain ⟨k,hk,rfl,hdt⟩:=hrel
  have HD:Hid (DT w b a len cap u5 k wr):=hdt
  clear hdt
  by_cases hlt:k < P
  ·have hkz:(k:Int) < (P:Int):=by omega
   go_wp2_with (go_at_call 51;refine (HPW.out _).mono ?_;rintro e w' ⟨rfl,hw'⟩;have hw2:=hw'.symm;clear hw';subst hw2)
   refine (Dr1.below _ b a len cap 2 (by omega) (by omega) HD.out.cur).mono ?_
   rintro e w2 ⟨⟨x,rfl,hx0,hx1⟩,hc2,ho2⟩
   have HD2:Hid (DT w b a len cap u5 k w2):=HD.out.only hbl hc2 ho2
   clear hc2 ho2
   by_cases h0:wy=0
   ·have hw0:(wy==0)=true:=by rw [h0];rfl
    clear h0
    rcases (by omega:(k:Int) / 2 % 2=0\/(k:Int) / 2 % 2=1) with hx|hx
    ·have hx9:(48:Int)+(k:Int) / 2 % 2=48:=by omega
     obtain ⟨l,hll,hol⟩:=HD2.out.own
     have HLL:Hid (l.length=k):=hll.1
     have HSG:Hid (Sgs l):=hll.2
     have HO:Hid (Owu w2 (w.heap.size+1) u5 l):=hol
     have hsz:=HD2.out.siz
     clear hll hol
     go_wp2_with (at_builtin;go_must (refine app_byte _ rfl _ _ rfl (w.heap.size+1) u5 l (sgn _) _ (by first|exact show (49:Int)=((sgn true).toNat:Int) from rfl|exact show (48:Int)=((sgn false).toNat:Int) from rfl) rfl rfl HO.out hsz (by rw [HLL.out];omega) ?_;intro g5 cp5 w5 ho5 hk5 hg5;have HD5:Hid (DT w b a len cap (.slice (some ⟨g5,0,none⟩) (l.length+1) cp5) (k+1) w5):=HD2.out.next hbl HLO.out hk5 ⟨by rw [List.length_append,HLL.out];rfl,sgs_app HSG.out _⟩ ho5;clear ho5 hk5 hg5))
     go_roundw
     case rel=>exact ⟨k+1,by omega,by go_num,HD5.out⟩
     case measure=>simp [intOf];omega
    ·have hx9:(48:Int)+(k:Int) / 2 % 2=49:=by omega
     obtain ⟨l,hll,hol⟩:=HD2.out.own
     have HLL:Hid (l.length=k):=hll.1
     have HSG:Hid (Sgs l):=hll.2
     have HO:Hid (Owu w2 (w.heap.size+1) u5 l):=hol
     have hsz:=HD2.out.siz
     clear hll hol
     go_wp2_with (at_builtin;go_must (refine app_byte _ rfl _ _ rfl (w.heap.size+1) u5 l (sgn _) _ (by first|exact show (49:Int)=((sgn true).toNat:Int) from rfl|exact show (48:Int)=((sgn false).toNat:Int) from rfl) rfl rfl HO.out hsz (by rw [HLL.out];omega) ?_;intro g5 cp5 w5 ho5 hk5 hg5;have HD5:Hid (DT w b a len cap (.slice (some ⟨g5,0,none⟩) (l.length+1) cp5) (k+1) w5):=HD2.out.next hbl HLO.out hk5 ⟨by rw [List.length_append,HLL.out];rfl,sgs_app HSG.out _⟩ ho5;clear ho5 hk5 hg5))
     go_roundw
     case rel=>exact ⟨k+1,by omega,by go_num,HD5.out⟩
     case measure=>simp [intOf];omega
   ·have hw0:(wy==0)=false:=beq_eq_false_iff_ne.2 h0
    by_cases h1:wy=1
    ·have hw1:(wy==1)=true:=by rw [h1];rfl
     clear h0 h1
     rcases (by omega:x=0\/x=1) with rfl|rfl
     all_goals
      go_wp2_with fail
      refine (Dr1.once _ b a len cap 2 (by omega) (by omega) HD2.out.cur).mono ?_
      rintro e w3 ⟨⟨z,rfl⟩,hc3,ho3⟩
      have HD3:Hid (DT w b a len cap u5 k w3):=HD2.out.only hbl hc3 ho3
      clear hc3 ho3
      cases z
      all_goals
       obtain ⟨l,hll,hol⟩:=HD3.out.own
       have HLL:Hid (l.length=k):=hll.1
       have HSG:Hid (Sgs l):=hll.2
       have HO:Hid (Owu w3 (w.heap.size+1) u5 l):=hol
       have hsz:=HD3.out.siz
       clear hll hol
       go_wp2_with (at_builtin;go_must (refine app_byte _ rfl _ _ rfl (w.heap.size+1) u5 l (sgn _) _ (by first|exact show (49:Int)=((sgn true).toNat:Int) from rfl|exact show (48:Int)=((sgn false).toNat:Int) from rfl) rfl rfl HO.out hsz (by rw [HLL.out];omega) ?_;intro g5 cp5 w5 ho5 hk5 hg5;have HD5:Hid (DT w b a len cap (.slice (some ⟨g5,0,none⟩) (l.length+1) cp5) (k+1) w5):=HD3.out.next hbl HLO.out hk5 ⟨by rw [List.length_append,HLL.out];rfl,sgs_app HSG.out _⟩ ho5;clear ho5 hk5 hg5))
       go_roundw
       case rel=>exact ⟨k+1,by omega,by go_num,HD5.out⟩
       case measure=>simp [intOf];omega
    ·have hw1:(wy==1)=false:=beq_eq_false_iff_ne.2 h1
     clear h0 h1
     rcases (by omega:x=0\/x=1) with rfl|rfl
     all_goals
      obtain ⟨l,hll,hol⟩:=HD2.out.own
      have HLL:Hid (l.length=k):=hll.1
      have HSG:Hid (Sgs l):=hll.2
      have HO:Hid (Owu w2 (w.heap.size+1) u5 l):=hol
      have hsz:=HD2.out.siz
      clear hll hol
      go_wp2_with (at_builtin;go_must (refine app_byte _ rfl _ _ rfl (w.heap.size+1) u5 l (sgn _) _ (by first|exact show (49:Int)=((sgn true).toNat:Int) from rfl|exact show (48:Int)=((sgn false).toNat:Int) from rfl) rfl rfl HO.out hsz (by rw [HLL.out];omega) ?_;intro g5 cp5 w5 ho5 hk5 hg5;have HD5:Hid (DT w b a len cap (.slice (some ⟨g5,0,none⟩) (l.length+1) cp5) (k+1) w5):=HD2.out.next hbl HLO.out hk5 ⟨by rw [List.length_append,HLL.out];rfl,sgs_app HSG.out _⟩ ho5;clear ho5 hk5 hg5))
      go_roundw
      case rel=>exact ⟨k+1,by omega,by go_num,HD5.out⟩
      case measure=>simp [intOf];omega
  ·have hkP:k=P:=by omega
   have HDP:Hid (DT w b a len cap u5 P wr):=by have h:=HD.out;rw [hkP] at h;exact h
   have hkz:¬ (k:Int) < (P:Int):=by omega
   clear hkP HD
   go_wp2_with (go_at_call 51;refine (HPW.out _).mono ?_;rintro e w' ⟨rfl,hw'⟩;have hw2:=hw'.symm;clear hw';subst hw2)
   refine (Dr1.once _ b a len cap 8 (by omega) (by omega) HDP.out.cur).mono ?_
   rintro e w3 ⟨⟨z,rfl⟩,hc3,ho3⟩
   have HD3:Hid (DT w b a len cap u5 P w3):=HDP.out.only hbl hc3 ho3
   clear hc3 ho3
   obtain ⟨l,⟨hll,hls⟩,hol⟩:=HD3.out.own
   obtain ⟨g,c,hv,hgB,hgl⟩:=hol.at (by omega)
   subst hll
   subst hv
   clear hol
   cases z
   ·obtain ⟨l3,⟨hl3,hg3⟩,ho3⟩:=HD3.out.own
    have hcv:=ho3.text (by omega)
    obtain ⟨r0,r1,r2,r3⟩:=HD3.out.res
    have HS3:Hid (∃ F:Nat->Bool,bs l3=bs (tab n F)):=sgs_tab (by rw [hl3];exact HPN.out) hg3
    have HC3:Hid (Cur w3 b a len cap):=HD3.out.cur
    have HON:Hid (Only b w w3):=HD3.out.onl
    have HL3:Hid (Lay w3 w.heap.size (.int .i64 0) (.string ByteArray.empty)):=HD3.out.res
    generalize bs l3=RS at *
    clear ho3
    go_wp2
    have K:Kept (fun x=>x=w.heap.size) w3 ((w3.setCell ⟨w.heap.size,0,none⟩ (.int .i64 (n:Int))).setCell ⟨w.heap.size,1,none⟩ (.string RS)):=kset (S:=fun x=>x=w.heap.size) (kset (S:=fun x=>x=w.heap.size) (Kept.refl (fun x=>x=w.heap.size) w3) rfl _) rfl _
    have hz:=HL3.out.put (.int .i64 (n:Int)) (.string RS)
    have hcc:=cur_kept HC3.out K (by omega) (HLO.out.imp id fun h x hx=>by have:=h x hx;omega)
    have hoo:Only b w ((w3.setCell ⟨w.heap.size,0,none⟩ (.int .i64 (n:Int))).setCell ⟨w.heap.size,1,none⟩ (.string RS)):=⟨K.os.trans HON.out.os,K.tape.trans HON.out.tape,K.output.trans HON.out.output,Nat.le_trans HON.out.size K.size,fun i hi hb=>(K.block i (Nat.lt_of_lt_of_le hi HON.out.size) (by omega)).trans (HON.out.block i hi hb)⟩
    obtain ⟨z0,z1,_,_⟩:=hz
    generalize (w3.setCell ⟨w.heap.size,0,none⟩ (.int .i64 (n:Int))).setCell ⟨w.heap.size,1,none⟩ (.string RS)=WF at *
    exact bodyPost_ret (v:=tv (n:Int) RS) (by simp [results,Try.results26,go_sem,z0,z1]) rfl ⟨(by obtain ⟨F,hF⟩:=HS3.out;exact ⟨F,by rw [<- hF]⟩),hcc,hoo⟩
   ·go_wp2_with fail
    go_loopw [9] (fun i wq=>∃ j:Nat,j<=l.length/\i=.int .i64 j/\DT w b a len cap (.slice (some ⟨g,0,none⟩) l.length c) l.length wq) (fun i _=>l.length - (intOf i).toNat)
    case atStart=>exact ⟨0,Nat.zero_le _,rfl,HD3.out⟩
    case round =>
     obtain ⟨j,hj,rfl,hdq⟩:=hrel
     have HQ:Hid (DT w b a len cap (.slice (some ⟨g,0,none⟩) l.length c) l.length wr):=hdq
     clear hdq
     by_cases hjl:j < l.length
     ·have hjz:(j:Int) < (l.length:Int):=by omega
      obtain ⟨l2,⟨hl2,hg2⟩,ho2⟩:=HQ.out.own
      obtain ⟨v0,v1⟩:=ho2.cell' hl2 j hjl
      have HW2:Hid (DT w b a len cap (.slice (some ⟨g,0,none⟩) l.length c) l.length (wr.setCell ⟨g,j,none⟩ (.int .u8 49))) :=
       HQ.out.next hbl HLO.out (kset (S:=fun x=>(Value.slice (some ⟨g,0,none⟩) l.length c).ownBlock=some x) (Kept.refl _ wr) (by simp [Value.ownBlock]) _) ⟨by rw [List.length_set];exact hl2,sgs_set hg2 j⟩ (ho2.set' hl2 j 49)
      clear ho2
      go_wp2
      go_roundw
      case rel=>exact ⟨j+1,by omega,by go_num,HW2.out⟩
      case measure=>simp [intOf];omega
     ·have hjz:¬ (j:Int) < (l.length:Int):=by omega
      obtain ⟨l3,⟨hl3,hg3⟩,ho3⟩:=HQ.out.own
      have hcv:=ho3.text (by omega)
      obtain ⟨r0,r1,r2,r3⟩:=HQ.out.res
      have HS3:Hid (∃ F:Nat->Bool,bs l3=bs (tab n F)):=sgs_tab (by rw [hl3];exact HPN.out) hg3
      have HC3:Hid (Cur wr b a len cap):=HQ.out.cur
      have HON:Hid (Only b w wr):=HQ.out.onl
      have HL3:Hid (Lay wr w.heap.size (.int .i64 0) (.string ByteArray.empty)):=HQ.out.res
      generalize bs l3=RS at *
      clear ho3
      go_wp2
      have K:Kept (fun x=>x=w.heap.size) wr ((wr.setCell ⟨w.heap.size,0,none⟩ (.int .i64 (n:Int))).setCell ⟨w.heap.size,1,none⟩ (.string RS)):=kset (S:=fun x=>x=w.heap.size) (kset (S:=fun x=>x=w.heap.size) (Kept.refl (fun x=>x=w.heap.size) wr) rfl _) rfl _
      have hz:=HL3.out.put (.int .i64 (n:Int)) (.string RS)
      have hcc:=cur_kept HC3.out K (by omega) (HLO.out.imp id fun h x hx=>by have:=h x hx;omega)
      have hoo:Only b w ((wr.setCell ⟨w.heap.size,0,none⟩ (.int .i64 (n:Int))).setCell ⟨w.heap.size,1,none⟩ (.string RS)):=⟨K.os.trans HON.out.os,K.tape.trans HON.out.tape,K.output.trans HON.out.output,Nat.le_trans HON.out.size K.size,fun i hi hb=>(K.block i (Nat.lt_of_lt_of_le hi HON.out.size) (by omega)).trans (HON.out.block i hi hb)⟩
      obtain ⟨z0,z1,_,_⟩:=hz
      generalize (wr.setCell ⟨w.heap.size,0,none⟩ (.int .i64 (n:Int))).setCell ⟨w.heap.size,1,none⟩ (.string RS)=WF at *
      exact bodyPost_ret (v:=tv (n:Int) RS) (by simp [results,Try.results26,go_sem,z0,z1]) rfl ⟨(by obtain ⟨F,hF⟩:=HS3.out;exact ⟨F,by rw [<- hF]⟩),hcc,hoo⟩
end Tdw
namespace Ddr
open Go.RowKit
open Ta0 Ta1 Tc2 Tc5 Td2 Tdw Ap1
open Nd0 (Kept set_same)
open Nd6 (Bools)
open Dr0 (Cur Only Bytes)
open Ss0 (bs bs_size)
/-- What stands while a row is drawn: the cursor, the flags so far. -/
structure DB (w:World) (b:Nat) (a:Option Addr) (len cap:Nat) (v:Value) (k:Nat) (W:World):Prop where
 cur:Cur W b a len cap
 own:∃ l:List Bool,l.length=k/\Owb W w.heap.size v l
 siz:w.heap.size<=W.heap.size
 onl:Only b w W
theorem DB.only {w W W':World} {b:Nat} {a:Option Addr} {len cap:Nat} {v:Value} {k:Nat} (h:DB w b a len cap v k W) (hb:b < w.heap.size) (hc:Cur W' b a len cap) (ho:Only b W W'):DB w b a len cap v k W':=by
 obtain ⟨l,h1,h2⟩:=h.own
 exact ⟨hc,⟨l,h1,h2.kept (kept_of_only ho) (fun i hi e=>by have:=(h2.lt i hi).1;omega)⟩,by have:=ho.size;have:=h.siz;omega,h.onl.trans ho⟩
theorem DB.next {w W W':World} {b:Nat} {a:Option Addr} {len cap:Nat} {v v':Value} {k k':Nat} {l':List Bool} (h:DB w b a len cap v k W) (hb:b < w.heap.size) (hlo:Low a len w.heap.size) (hk:Kept (fun x=>v.ownBlock=some x) W W') (hl:l'.length=k') (ho:Owb W' w.heap.size v' l'):DB w b a len cap v' k' W':=by
 obtain ⟨l,h1,h2⟩:=h.own
 have hv:∀ x,v.ownBlock=some x->w.heap.size<=x:=fun x hx=>(h2.lt x hx).1
 refine ⟨cur_kept h.cur hk (fun e=>by have:=hv _ e;omega) ?_,⟨l',hl,ho⟩,by have:=hk.size;have:=h.siz;omega,only_app h.onl hk (fun x hx=>by have:=hv x hx;omega)⟩
 rcases hlo with h0|h0
 ·exact .inl h0
 ·exact .inr fun x hx e=>by have:=h0 x hx;have:=hv _ e;omega
theorem l08Row (w:World) (b:Nat) (a:Option Addr) (len cap:Nat) (n:Nat) (hn:n<=100) (hc:Cur w b a len cap) :
 Calls Try.prog 25 #[.pointer (some ⟨b,0,none⟩),.int .i64 (n:Int)] w fun e w'=>(∃ v,e=.returned v/\DB w b a len cap v n w'):=by
 have HLO:Hid (Low a len w.heap.size):=low_of hc.bytes
 have hbl:b < w.heap.size:=hc.lt
 have HD0:Hid (DB w b a len cap (.slice (some ⟨w.heap.size,0,none⟩) 0 0) 0 (w.alloc (.cells #[] 4))) :=
  ⟨hc.alloc _,⟨[],rfl,Owb.lit w _ (Nat.le_refl _)⟩,by simp,(Only.refl _ _).alloc _⟩
 clear hc
 go_enter Try.func25,Try.ntmps25
 go_wp2
 go_loopw [5,6] (fun v i wr=>∃ k:Nat,k<=n/\i=.int .i64 k/\DB w b a len cap v k wr) (fun _ i _=>n - (intOf i).toNat)
 case atStart=>exact ⟨0,Nat.zero_le _,rfl,HD0.out⟩
 case round =>
  obtain ⟨k,hk,rfl,hdt⟩:=hrel
  have HD:Hid (DB w b a len cap u5 k wr):=hdt
  clear hdt
  by_cases hlt:k < n
  ·have hkz:(k:Int) < (n:Int):=by omega
   go_wp2_with fail
   refine (Dr1.once _ b a len cap 2 (by omega) (by omega) HD.out.cur).mono ?_
   rintro e w3 ⟨⟨z,rfl⟩,hc3,ho3⟩
   have HD3:Hid (DB w b a len cap u5 k w3):=HD.out.only hbl hc3 ho3
   clear hc3 ho3
   obtain ⟨l,hll,hol⟩:=HD3.out.own
   have HLL:Hid (l.length=k):=hll
   have HO:Hid (Owb w3 w.heap.size u5 l):=hol
   have hsz:=HD3.out.siz
   clear hll hol
   go_wp2_with (at_builtin;go_must (refine app_bool _ rfl _ _ rfl w.heap.size u5 l z rfl rfl HO.out hsz (by rw [HLL.out];omega) ?_;intro g5 cp5 w5 ho5 hk5 hg5;have HD5:Hid (DB w b a len cap (.slice (some ⟨g5,0,none⟩) (l.length+1) cp5) (k+1) w5):=HD3.out.next hbl HLO.out hk5 (by rw [List.length_append,HLL.out];rfl) ho5;clear ho5 hk5 hg5))
   go_roundw
   case rel=>exact ⟨k+1,by omega,by go_num,HD5.out⟩
   case measure=>simp [intOf];omega
  ·have HKN:Hid (DB w b a len cap u5 n wr):=by have h:=HD.out;rw [show k=n by omega] at h;exact h
   clear HD
   go_wp2
   go_ret
   exact ⟨_,rfl,HKN.out⟩
theorem owb_cap {w:World} {B:Nat} {v:Value} {l:List Bool} (h:Owb w B v l):∃ a c,v=.slice a l.length c/\l.length<=c/\WBools w B a l:=by
 obtain ⟨a,c,hv,hw⟩:=h.form
 rcases h.2 with ⟨h1,h0⟩|⟨g,cap,cur,h1,_,_,hn,_⟩
 ·exact ⟨_,_,hv,by omega,hw⟩
 ·rw [hv] at h1
  injection h1 with e1 e2 e3
  exact ⟨_,_,hv,by omega,hw⟩
theorem drawCase (w:World) (a:Option Addr) (len cap:Nat) (hb:Bytes w a len) :
 Calls Try.prog 6 #[.slice a len cap] w fun e w'=>(∃ (n:Nat) (F:Nat->Bool) (row:List Bool) (ra:Option Addr) (c:Nat),n<=6/\row.length=n/\n<=c/\e=.returned (.tuple #[.slice ra n c,tv (n:Int) (bs (tab n F))])/\Bools w' ra row)/\Below w.heap.size w w':=by
 have HB0:Hid (Bytes (w.alloc (.cells #[.int .i64 0,.string ByteArray.empty] 26)) a len):=hb.below ((Below.refl _ _).alloc (Nat.le_refl _) _)
 clear hb
 go_enter Try.func6,Try.ntmps6
 go_wp2_with fail
 refine (Dr4.new _ a len cap HB0.out).mono ?_
 rintro e w1 ⟨rfl,hc1,hb1⟩
 have HR1:Hid (Lay w1 w.heap.size (.int .i64 0) (.string ByteArray.empty)):=(Lay.made w _ _ _).below hb1
 have HB1:Hid (Below w.heap.size w w1):=((Below.refl _ _).alloc (Nat.le_refl _) _).trans (hb1.mono (by simp))
 have hc1':Cur w1 (w.heap.size+1) a len cap:=by simpa using hc1
 clear hb1 hc1
 have hsz1:w.heap.size<=w1.heap.size:=HB1.out.size
 go_wp2_with fail
 refine (Dr1.below _ (w.heap.size+1) a len cap 7 (by omega) (by omega) hc1').mono ?_
 rintro e w2 ⟨⟨x,rfl,hx0,hx1⟩,hc2,ho2⟩
 obtain ⟨n,rfl⟩:=Int.eq_ofNat_of_zero_le hx0
 have hn:n<=6:=by omega
 have HR2:Hid (Lay w2 w.heap.size (.int .i64 0) (.string ByteArray.empty)):=HR1.out.kept (kept_of_only ho2) (by omega)
 have HB2:Hid (Below w.heap.size w w2):=HB1.out.trans (ho2.below (by omega) HB1.out.size)
 have hb2:w.heap.size+1 < w2.heap.size:=hc2.lt
 clear ho2 hc1' HR1 HB1 hx0 hx1
 go_wp2_with fail
 refine (l08Row _ (w.heap.size+1) a len cap n (by omega) hc2).mono ?_
 rintro e w3 ⟨v,rfl,hd3⟩
 have HR3:Hid (Lay w3 w.heap.size (.int .i64 0) (.string ByteArray.empty)):=HR2.out.kept (kept_of_only hd3.onl) (by omega)
 have HB3:Hid (Below w.heap.size w w3):=HB2.out.trans (hd3.onl.below (by omega) HB2.out.size)
 obtain ⟨row,hrl,hor⟩:=hd3.own
 have HOR:Hid (Owb w3 w2.heap.size v row):=hor
 have HC3:Hid (Cur w3 (w.heap.size+1) a len cap):=hd3.cur
 clear hd3 hc2 HR2 HB2 hor
 go_wp2_with fail
 refine (Tdw.l06Table _ (w.heap.size+1) a len cap n hn HC3.out).mono ?_
 rintro e w4 ⟨⟨F,rfl⟩,hc4,ho4⟩
 have HR4:Hid (Lay w4 w.heap.size (.int .i64 0) (.string ByteArray.empty)):=HR3.out.kept (kept_of_only ho4) (by omega)
 have HB4:Hid (Below w.heap.size w w4):=HB3.out.trans (ho4.below (by omega) HB3.out.size)
 have HO4:=HOR.out.kept (kept_of_only ho4) (fun i hi e=>by have:=(HOR.out.lt i hi).1;omega)
 obtain ⟨ra,c,rfl,hcp,hwb⟩:=owb_cap HO4
 have HWB:Hid (WBools w4 w2.heap.size ra row):=hwb
 have HRL:Hid (row.length=n/\n<=c):=⟨hrl,by omega⟩
 clear hc4 ho4 HO4 hwb HOR HC3 HR3 HB3
 rw [hrl]
 clear hcp hrl
 generalize hS:bs (tab n F)=S at *
 have HS:Hid (bs (tab n F)=S):=hS
 clear hS
 obtain ⟨r0,r1,r2,r3⟩:=HR4.out
 have HFN:Hid _:=finT HR4.out HB4.out (Nat.le_refl _) (.int .i64 (n:Int)) (.string S)
 have HK:Hid (Kept (fun b=>b=w.heap.size) w4 ((w4.setCell ⟨w.heap.size,0,none⟩ (.int .i64 (n:Int))).setCell ⟨w.heap.size,1,none⟩ (.string S))):=kset (S:=fun b=>b=w.heap.size) (kset (S:=fun b=>b=w.heap.size) (Kept.refl (fun b=>b=w.heap.size) w4) rfl _) rfl _
 go_wp2
 obtain ⟨W,hW,hz,hbz⟩:=HFN.out
 have hK:=HK.out
 rw [<- hW] at hK ⊢
 obtain ⟨z0,z1,_,_⟩:=hz
 refine bodyPost_ret (v:=.tuple #[.slice ra n c,tv (n:Int) S]) (by simp [results,Try.results6,go_sem,z0,z1]) rfl ⟨⟨n,F,row,ra,c,hn,HRL.out.1,HRL.out.2,by rw [HS.out],?_⟩,hbz⟩
 exact (((Nd6.WBools.within HWB.out).kept hK (fun b h1 _ e=>by omega)).plain)
end Ddr
namespace Tdr
open Go.RowKit
open Ta0 Ta1 Tc2 Tc5 Ap9 Td1 Td2
open Nd0 (Kept set_same)
open Dr0 (Cur Only Bytes)
open Ss0 (bs bs_size)
/-- What stands while a table is drawn: the cursor, the result's box, the bytes so far. -/
structure DT (w:World) (b:Nat) (a:Option Addr) (len cap:Nat) (v:Value) (k:Nat) (W:World):Prop where
 cur:Cur W b a len cap
 res:Lay W w.heap.size (.int .i64 0) (.string ByteArray.empty)
 own:∃ l:List UInt8,l.length=k/\Owu W (w.heap.size+1) v l
 siz:w.heap.size+1<=W.heap.size
 onl:Only b w W
theorem kept_of_only {b:Nat} {W W':World} (h:Only b W W'):Kept (fun x=>x=b) W W':=⟨h.os,h.tape,h.output,h.size,h.block⟩
theorem DT.only {w W W':World} {b:Nat} {a:Option Addr} {len cap:Nat} {v:Value} {k:Nat} (h:DT w b a len cap v k W) (hb:b < w.heap.size) (hc:Cur W' b a len cap) (ho:Only b W W'):DT w b a len cap v k W':=by
 obtain ⟨l,h1,h2⟩:=h.own
 refine ⟨hc,h.res.kept (kept_of_only ho) (by omega),⟨l,h1,h2.kept (kept_of_only ho) (fun i hi e=>by have:=(h2.lt i hi).1;omega)⟩,by have:=ho.size;have:=h.siz;omega,h.onl.trans ho⟩
theorem only_app {b:Nat} {u W W':World} {v:Value} (h:Only b u W) (hk:Kept (fun k=>v.ownBlock=some k) W W') (hv:∀ k,v.ownBlock=some k->u.heap.size<=k):Only b u W' :=
 ⟨hk.os.trans h.os,hk.tape.trans h.tape,hk.output.trans h.output,Nat.le_trans h.size hk.size,fun i hi hb=>(hk.block i (Nat.lt_of_lt_of_le hi h.size) (fun e=>by have:=hv i e;omega)).trans (h.block i hi hb)⟩
theorem cur_kept {b:Nat} {W W':World} {a:Option Addr} {len cap:Nat} (h:Cur W b a len cap) {S:Nat->Prop} (hk:Kept S W W') (hb:¬ S b) (ha:len=0\/∀ x,a=some x->¬ S x.block):Cur W' b a len cap:=by
 have hl:=h.lt
 obtain ⟨i,hi,hc1⟩:=h.c1
 obtain ⟨q,hc2⟩:=h.c2
 refine ⟨by rw [hk.cell (p:=⟨b,0,none⟩) hl hb];exact h.c0,⟨i,hi,by rw [hk.cell (p:=⟨b,1,none⟩) hl hb];exact hc1⟩,⟨q,by rw [hk.cell (p:=⟨b,2,none⟩) hl hb];exact hc2⟩,by rw [hk.frozen (p:=⟨b,1,none⟩) hl hb];exact h.f1,by rw [hk.frozen (p:=⟨b,2,none⟩) hl hb];exact h.f2,⟨h.bytes.1,?_⟩,h.off⟩
 rcases h.bytes.2 with h0|⟨xb,xo,rfl,hc⟩
 ·exact .inl h0
 ·rcases ha with h0|ha
  ·exact .inl h0
  ·refine .inr ⟨xb,xo,rfl,fun i hi=>?_⟩
   obtain ⟨v,h1,h2,h3⟩:=hc i hi
   exact ⟨v,h1,h2,by rw [hk.cell (Dr0.lt_of_cell h3) (ha ⟨xb,xo,none⟩ rfl)];exact h3⟩
/-- The bytes that are drawn from lie in a block below B. -/
def Low (a:Option Addr) (len B:Nat):Prop:=len=0\/∀ x,a=some x->x.block < B
theorem low_of {W:World} {a:Option Addr} {len:Nat} (h:Bytes W a len):Low a len W.heap.size:=by
 rcases h.2 with h0|⟨xb,xo,rfl,hc⟩
 ·exact .inl h0
 ·by_cases h0:len=0
  ·exact .inl h0
  ·refine .inr fun x hx=>?_
   cases hx
   obtain ⟨v,_,_,h3⟩:=hc 0 (by omega)
   exact Dr0.lt_of_cell h3
theorem DT.next {w W W':World} {b:Nat} {a:Option Addr} {len cap:Nat} {v v':Value} {k k':Nat} {l':List UInt8} (h:DT w b a len cap v k W) (hb:b < w.heap.size) (hlo:Low a len w.heap.size) (hk:Kept (fun x=>v.ownBlock=some x) W W') (hl:l'.length=k') (ho:Owu W' (w.heap.size+1) v' l'):DT w b a len cap v' k' W':=by
 obtain ⟨l,h1,h2⟩:=h.own
 have hv:∀ x,v.ownBlock=some x->w.heap.size+1<=x:=fun x hx=>(h2.lt x hx).1
 refine ⟨cur_kept h.cur hk (fun e=>by have:=hv _ e;omega) ?_,h.res.kept hk (fun e=>by have:=hv _ e;omega),⟨l',hl,ho⟩,by have:=hk.size;have:=h.siz;omega,only_app h.onl hk (fun x hx=>by have:=hv x hx;omega)⟩
 rcases hlo with h0|h0
 ·exact .inl h0
 ·exact .inr fun x hx e=>by have:=h0 x hx;have:=hv _ e;omega
theorem sgn_lit (x:Int) (h:x=0\/x=1):∃ y:UInt8,IntKind.u8.wrap (48+x)=(y.toNat:Int)/\(48+x)=(y.toNat:Int):=by
 rcases h with rfl|rfl
 ·exact ⟨48,by decide,rfl⟩
 ·exact ⟨49,by decide,rfl⟩
theorem l06Table (w:World) (b:Nat) (a:Option Addr) (len cap:Nat) (n:Nat) (hn:n<=6) (hc:Cur w b a len cap) :
 Calls Try.prog 26 #[.pointer (some ⟨b,0,none⟩),.int .i64 (n:Int)] w fun e w'=>(∃ S:ByteArray,e=.returned (tv (n:Int) S)/\1<=S.size/\S.size<=64)/\Cur w' b a len cap/\Only b w w':=by
 have HLO:Hid (Low a len w.heap.size):=low_of hc.bytes
 have hbl:b < w.heap.size:=hc.lt
 have HPW:Hid (∀ W,Calls Try.prog 51 #[.int .i64 (n:Int)] W fun e w'=>e=.returned (.int .i64 ((2 ^ n:Nat):Int))/\w'=W):=fun W=>sPow n W (by omega)
 have hp:1<=2 ^ n:=Nat.one_le_two_pow
 have hl:2 ^ n<=64:=Nat.pow_le_pow_right (n:=2) (by omega) hn
 generalize 2 ^ n=P at *
 have HD0:Hid (DT w b a len cap (.slice (some ⟨w.heap.size+1,0,none⟩) 0 0) 0 ((w.alloc (.cells #[.int .i64 0,.string ByteArray.empty] 26)).alloc (.cells #[] 5))):=by
  have h1:=Owu.lit (w.alloc (.cells #[.int .i64 0,.string ByteArray.empty] 26)) (w.heap.size+1) (by simp)
  refine ⟨(hc.alloc _).alloc _,(Lay.made _ _ _ _).alloc _,⟨[],rfl,by simpa using h1⟩,by simp,((Only.refl _ _).alloc _).alloc _⟩
 clear hc
 go_enter Try.func26,Try.ntmps26
 go_wp2_with fail
 refine (Dr1.below _ b a len cap 4 (by omega) (by omega) HD0.out.cur).mono ?_
 rintro e w1 ⟨⟨wy,rfl,hy0,hy1⟩,hc1,ho1⟩
 have HD1:Hid (DT w b a len cap (.slice (some ⟨w.heap.size+1,0,none⟩) 0 0) 0 w1):=HD0.out.only hbl hc1 ho1
 clear hc1 ho1
 go_wp2_with fail
 go_loopw [5,7] (fun v i wr=>∃ k:Nat,k<=P/\i=.int .i64 k/\DT w b a len cap v k wr) (fun _ i _=>P - (intOf i).toNat)
 case atStart=>exact ⟨0,Nat.zero_le _,rfl,HD1.out⟩
 case round =>
  obtain ⟨k,hk,rfl,hdt⟩:=hrel
  have HD:Hid (DT w b a len cap u5 k wr):=hdt
  clear hdt
  by_cases hlt:k < P
  ·have hkz:(k:Int) < (P:Int):=by omega
   go_wp2_with (go_at_call 51;refine (HPW.out _).mono ?_;rintro e w' ⟨rfl,hw'⟩;have hw2:=hw'.symm;clear hw';subst hw2)
   refine (Dr1.below _ b a len cap 2 (by omega) (by omega) HD.out.cur).mono ?_
   rintro e w2 ⟨⟨x,rfl,hx0,hx1⟩,hc2,ho2⟩
   have HD2:Hid (DT w b a len cap u5 k w2):=HD.out.only hbl hc2 ho2
   clear hc2 ho2
   by_cases h0:wy=0
   ·have hw0:(wy==0)=true:=by rw [h0];rfl
    clear h0
    rcases (by omega:(k:Int) / 2 % 2=0\/(k:Int) / 2 % 2=1) with hx|hx
    ·have hx9:(48:Int)+(k:Int) / 2 % 2=48:=by omega
     obtain ⟨l,hll,hol⟩:=HD2.out.own
     have HLL:Hid (l.length=k):=hll
     have HO:Hid (Owu w2 (w.heap.size+1) u5 l):=hol
     have hsz:=HD2.out.siz
     clear hll hol
     go_wp2_with (at_builtin;go_must (refine app_byte _ rfl _ _ rfl (w.heap.size+1) u5 l (sgn _) _ (by first|exact show (49:Int)=((sgn true).toNat:Int) from rfl|exact show (48:Int)=((sgn false).toNat:Int) from rfl) rfl rfl HO.out hsz (by rw [HLL.out];omega) ?_;intro g5 cp5 w5 ho5 hk5 hg5;have HD5:Hid (DT w b a len cap (.slice (some ⟨g5,0,none⟩) (l.length+1) cp5) (k+1) w5):=HD2.out.next hbl HLO.out hk5 (by rw [List.length_append,HLL.out];rfl) ho5;clear ho5 hk5 hg5))
     go_roundw
     case rel=>exact ⟨k+1,by omega,by go_num,HD5.out⟩
     case measure=>simp [intOf];omega
    ·have hx9:(48:Int)+(k:Int) / 2 % 2=49:=by omega
     obtain ⟨l,hll,hol⟩:=HD2.out.own
     have HLL:Hid (l.length=k):=hll
     have HO:Hid (Owu w2 (w.heap.size+1) u5 l):=hol
     have hsz:=HD2.out.siz
     clear hll hol
     go_wp2_with (at_builtin;go_must (refine app_byte _ rfl _ _ rfl (w.heap.size+1) u5 l (sgn _) _ (by first|exact show (49:Int)=((sgn true).toNat:Int) from rfl|exact show (48:Int)=((sgn false).toNat:Int) from rfl) rfl rfl HO.out hsz (by rw [HLL.out];omega) ?_;intro g5 cp5 w5 ho5 hk5 hg5;have HD5:Hid (DT w b a len cap (.slice (some ⟨g5,0,none⟩) (l.length+1) cp5) (k+1) w5):=HD2.out.next hbl HLO.out hk5 (by rw [List.length_append,HLL.out];rfl) ho5;clear ho5 hk5 hg5))
     go_roundw
     case rel=>exact ⟨k+1,by omega,by go_num,HD5.out⟩
     case measure=>simp [intOf];omega
   ·have hw0:(wy==0)=false:=beq_eq_false_iff_ne.2 h0
    by_cases h1:wy=1
    ·have hw1:(wy==1)=true:=by rw [h1];rfl
     clear h0 h1
     rcases (by omega:x=0\/x=1) with rfl|rfl
     all_goals
      go_wp2_with fail
      refine (Dr1.once _ b a len cap 2 (by omega) (by omega) HD2.out.cur).mono ?_
      rintro e w3 ⟨⟨z,rfl⟩,hc3,ho3⟩
      have HD3:Hid (DT w b a len cap u5 k w3):=HD2.out.only hbl hc3 ho3
      clear hc3 ho3
      cases z
      all_goals
       obtain ⟨l,hll,hol⟩:=HD3.out.own
       have HLL:Hid (l.length=k):=hll
       have HO:Hid (Owu w3 (w.heap.size+1) u5 l):=hol
       have hsz:=HD3.out.siz
       clear hll hol
       go_wp2_with (at_builtin;go_must (refine app_byte _ rfl _ _ rfl (w.heap.size+1) u5 l (sgn _) _ (by first|exact show (49:Int)=((sgn true).toNat:Int) from rfl|exact show (48:Int)=((sgn false).toNat:Int) from rfl) rfl rfl HO.out hsz (by rw [HLL.out];omega) ?_;intro g5 cp5 w5 ho5 hk5 hg5;have HD5:Hid (DT w b a len cap (.slice (some ⟨g5,0,none⟩) (l.length+1) cp5) (k+1) w5):=HD3.out.next hbl HLO.out hk5 (by rw [List.length_append,HLL.out];rfl) ho5;clear ho5 hk5 hg5))
       go_roundw
       case rel=>exact ⟨k+1,by omega,by go_num,HD5.out⟩
       case measure=>simp [intOf];omega
    ·have hw1:(wy==1)=false:=beq_eq_false_iff_ne.2 h1
     clear h0 h1
     rcases (by omega:x=0\/x=1) with rfl|rfl
     all_goals
      obtain ⟨l,hll,hol⟩:=HD2.out.own
      have HLL:Hid (l.length=k):=hll
      have HO:Hid (Owu w2 (w.heap.size+1) u5 l):=hol
      have hsz:=HD2.out.siz
      clear hll hol
      go_wp2_with (at_builtin;go_must (refine app_byte _ rfl _ _ rfl (w.heap.size+1) u5 l (sgn _) _ (by first|exact show (49:Int)=((sgn true).toNat:Int) from rfl|exact show (48:Int)=((sgn false).toNat:Int) from rfl) rfl rfl HO.out hsz (by rw [HLL.out];omega) ?_;intro g5 cp5 w5 ho5 hk5 hg5;have HD5:Hid (DT w b a len cap (.slice (some ⟨g5,0,none⟩) (l.length+1) cp5) (k+1) w5):=HD2.out.next hbl HLO.out hk5 (by rw [List.length_append,HLL.out];rfl) ho5;clear ho5 hk5 hg5))
      go_roundw
      case rel=>exact ⟨k+1,by omega,by go_num,HD5.out⟩
      case measure=>simp [intOf];omega
  ·have hkP:k=P:=by omega
   have HDP:Hid (DT w b a len cap u5 P wr):=by have h:=HD.out;rw [hkP] at h;exact h
   have hkz:¬ (k:Int) < (P:Int):=by omega
   clear hkP HD
   go_wp2_with (go_at_call 51;refine (HPW.out _).mono ?_;rintro e w' ⟨rfl,hw'⟩;have hw2:=hw'.symm;clear hw';subst hw2)
   refine (Dr1.once _ b a len cap 8 (by omega) (by omega) HDP.out.cur).mono ?_
   rintro e w3 ⟨⟨z,rfl⟩,hc3,ho3⟩
   have HD3:Hid (DT w b a len cap u5 P w3):=HDP.out.only hbl hc3 ho3
   clear hc3 ho3
   obtain ⟨l,hll,hol⟩:=HD3.out.own
   obtain ⟨g,c,hv,hgB,hgl⟩:=hol.at (by omega)
   subst hll
   subst hv
   clear hol
   cases z
   ·obtain ⟨l3,hl3,ho3⟩:=HD3.out.own
    have hcv:=ho3.text (by omega)
    obtain ⟨r0,r1,r2,r3⟩:=HD3.out.res
    have HS3:Hid (1<=(bs l3).size/\(bs l3).size<=64):=by show _/\_;rw [bs_size];omega
    have HC3:Hid (Cur w3 b a len cap):=HD3.out.cur
    have HON:Hid (Only b w w3):=HD3.out.onl
    have HL3:Hid (Lay w3 w.heap.size (.int .i64 0) (.string ByteArray.empty)):=HD3.out.res
    generalize bs l3=RS at *
    clear ho3
    go_wp2
    have K:Kept (fun x=>x=w.heap.size) w3 ((w3.setCell ⟨w.heap.size,0,none⟩ (.int .i64 (n:Int))).setCell ⟨w.heap.size,1,none⟩ (.string RS)):=kset (S:=fun x=>x=w.heap.size) (kset (S:=fun x=>x=w.heap.size) (Kept.refl (fun x=>x=w.heap.size) w3) rfl _) rfl _
    have hz:=HL3.out.put (.int .i64 (n:Int)) (.string RS)
    have hcc:=cur_kept HC3.out K (by omega) (HLO.out.imp id fun h x hx=>by have:=h x hx;omega)
    have hoo:Only b w ((w3.setCell ⟨w.heap.size,0,none⟩ (.int .i64 (n:Int))).setCell ⟨w.heap.size,1,none⟩ (.string RS)):=⟨K.os.trans HON.out.os,K.tape.trans HON.out.tape,K.output.trans HON.out.output,Nat.le_trans HON.out.size K.size,fun i hi hb=>(K.block i (Nat.lt_of_lt_of_le hi HON.out.size) (by omega)).trans (HON.out.block i hi hb)⟩
    obtain ⟨z0,z1,_,_⟩:=hz
    generalize (w3.setCell ⟨w.heap.size,0,none⟩ (.int .i64 (n:Int))).setCell ⟨w.heap.size,1,none⟩ (.string RS)=WF at *
    exact bodyPost_ret (v:=tv (n:Int) RS) (by simp [results,Try.results26,go_sem,z0,z1]) rfl ⟨⟨RS,rfl,HS3.out⟩,hcc,hoo⟩
   ·go_wp2_with fail
    go_loopw [9] (fun i wq=>∃ j:Nat,j<=l.length/\i=.int .i64 j/\DT w b a len cap (.slice (some ⟨g,0,none⟩) l.length c) l.length wq) (fun i _=>l.length - (intOf i).toNat)
    case atStart=>exact ⟨0,Nat.zero_le _,rfl,HD3.out⟩
    case round =>
     obtain ⟨j,hj,rfl,hdq⟩:=hrel
     have HQ:Hid (DT w b a len cap (.slice (some ⟨g,0,none⟩) l.length c) l.length wr):=hdq
     clear hdq
     by_cases hjl:j < l.length
     ·have hjz:(j:Int) < (l.length:Int):=by omega
      obtain ⟨l2,hl2,ho2⟩:=HQ.out.own
      obtain ⟨v0,v1⟩:=ho2.cell' hl2 j hjl
      have HW2:Hid (DT w b a len cap (.slice (some ⟨g,0,none⟩) l.length c) l.length (wr.setCell ⟨g,j,none⟩ (.int .u8 49))) :=
       HQ.out.next hbl HLO.out (kset (S:=fun x=>(Value.slice (some ⟨g,0,none⟩) l.length c).ownBlock=some x) (Kept.refl _ wr) (by simp [Value.ownBlock]) _) (by rw [List.length_set];exact hl2) (ho2.set' hl2 j 49)
      clear ho2
      go_wp2
      go_roundw
      case rel=>exact ⟨j+1,by omega,by go_num,HW2.out⟩
      case measure=>simp [intOf];omega
     ·have hjz:¬ (j:Int) < (l.length:Int):=by omega
      obtain ⟨l3,hl3,ho3⟩:=HQ.out.own
      have hcv:=ho3.text (by omega)
      obtain ⟨r0,r1,r2,r3⟩:=HQ.out.res
      have HS3:Hid (1<=(bs l3).size/\(bs l3).size<=64):=by show _/\_;rw [bs_size];omega
      have HC3:Hid (Cur wr b a len cap):=HQ.out.cur
      have HON:Hid (Only b w wr):=HQ.out.onl
      have HL3:Hid (Lay wr w.heap.size (.int .i64 0) (.string ByteArray.empty)):=HQ.out.res
      generalize bs l3=RS at *
      clear ho3
      go_wp2
      have K:Kept (fun x=>x=w.heap.size) wr ((wr.setCell ⟨w.heap.size,0,none⟩ (.int .i64 (n:Int))).setCell ⟨w.heap.size,1,none⟩ (.string RS)):=kset (S:=fun x=>x=w.heap.size) (kset (S:=fun x=>x=w.heap.size) (Kept.refl (fun x=>x=w.heap.size) wr) rfl _) rfl _
      have hz:=HL3.out.put (.int .i64 (n:Int)) (.string RS)
      have hcc:=cur_kept HC3.out K (by omega) (HLO.out.imp id fun h x hx=>by have:=h x hx;omega)
      have hoo:Only b w ((wr.setCell ⟨w.heap.size,0,none⟩ (.int .i64 (n:Int))).setCell ⟨w.heap.size,1,none⟩ (.string RS)):=⟨K.os.trans HON.out.os,K.tape.trans HON.out.tape,K.output.trans HON.out.output,Nat.le_trans HON.out.size K.size,fun i hi hb=>(K.block i (Nat.lt_of_lt_of_le hi HON.out.size) (by omega)).trans (HON.out.block i hi hb)⟩
      obtain ⟨z0,z1,_,_⟩:=hz
      generalize (wr.setCell ⟨w.heap.size,0,none⟩ (.int .i64 (n:Int))).setCell ⟨w.heap.size,1,none⟩ (.string RS)=WF at *
      exact bodyPost_ret (v:=tv (n:Int) RS) (by simp [results,Try.results26,go_sem,z0,z1]) rfl ⟨⟨RS,rfl,HS3.out⟩,hcc,hoo⟩
end Tdr
end Go.Proofs.Ytfhdbcfhhbdiiaa
