import Derived.Test.YtjajkmdoggbicaaGreatDoorRows
import Derived.WalkSpells
import Derived.WalkLawsBesides
import Derived.Maps.AppendAt
import Derived.Deep.RegionHeld
import Derived.Test.YtjajkmdoggbicaaGreatDoorPkSV30
import Derived.Test.YtjajkmdoggbicaaGreatDoorPkSV9
import Derived.Test.YtjajkmdoggbicaaGreatDoorPkSV5
import Derived.Test.YtjajkmdoggbicaaGreatDoorPkSV0
namespace Go.Proofs.YtjajkmdoggbicaaGreatDoor
set_option maxRecDepth 100000
set_option maxHeartbeats 8000000
set_option linter.unusedVariables false
namespace Dr1
open Go.RowKit
open Dr0
theorem byte (w:World) (b:Nat) (a:Option Addr) (len cap:Nat) (hc:Cur w b a len cap) :
 Calls Tryz.prog 55 #[.pointer (some ⟨b,0,none⟩)] w fun e w'=>(∃ x:Int,e=.returned (.int .i64 x)/\0<=x/\x<=255)/\Cur w' b a len cap/\Only b w w':=by
 have HC:Hid (Cur w b a len cap):=hc
 obtain ⟨c0,⟨i,hi,c1⟩,⟨h,c2⟩,f1,f2,hb,ho⟩:=hc
 by_cases hlt:i < len
 ·rcases hb.2 with h0|⟨xb,xo,rfl,hcell⟩
  ·omega
  have hne:xb≠b:=by
   rcases ho with h0|ho
   ·omega
   ·exact ho ⟨xb,xo,none⟩ rfl
  obtain ⟨v,hv0,hv1,hv⟩:=hcell i hlt
  have hlz:(i:Int) < (len:Int):=by omega
  have hm:=hb.1
  unfold maxLen at hm
  go_enter Tryz.func55,Tryz.ntmps55
  go_wp2
  generalize wrap64 (wrap64 (h*6364136223846793005)+1442695040888963407)=h1
  go_quiet (fail)
  go_wp2
  generalize bits BinOp.xor IntKind.i64 (h1 / 8589934592) (h1 / 35184372088832)=h2
  have hx:=and255 h2
  generalize bits BinOp.and IntKind.i64 h2 255=x at hx ⊢
  go_quiet (fail)
  go_wp2
  go_quiet (fail)
  go_wp2
  go_ret
  exact ⟨⟨_,rfl,(and255 _).1,(and255 _).2⟩,((HC.out.setH h1).drewN _).setI i hlt,(((Only.refl b w).setCell rfl _).drewN _).setCell rfl _⟩
 ·have hlz:¬ (i:Int) < (len:Int):=by omega
  go_enter Tryz.func55,Tryz.ntmps55
  go_wp2
  generalize wrap64 (wrap64 (h*6364136223846793005)+1442695040888963407)=h1
  go_quiet (fail)
  go_wp2
  generalize bits BinOp.xor IntKind.i64 (h1 / 8589934592) (h1 / 35184372088832)=h2
  go_quiet (fail)
  go_wp2
  go_ret
  exact ⟨⟨_,rfl,(and255 _).1,(and255 _).2⟩,((HC.out.setH h1).drewN _).drewN _,(((Only.refl b w).setCell rfl _).drewN _).drewN _⟩
theorem below (w:World) (b:Nat) (a:Option Addr) (len cap:Nat) (n:Int) (h0:1<=n) (h1:n<=256) (hc:Cur w b a len cap) :
 Calls Tryz.prog 22 #[.pointer (some ⟨b,0,none⟩),.int .i64 n] w fun e w'=>(∃ x:Int,e=.returned (.int .i64 x)/\0<=x/\x < n)/\Cur w' b a len cap/\Only b w w':=by
 have HC:Hid (Cur w b a len cap):=hc
 clear hc
 go_enter Tryz.func22,Tryz.ntmps22
 go_wp2_with fail
 refine (byte _ b a len cap HC.out).mono ?_
 rintro e w' ⟨⟨x,rfl,hx0,hx1⟩,hc',ho'⟩
 have HC':Hid (Cur w' b a len cap):=hc'
 have HO':Hid (Only b w w'):=ho'
 clear hc' ho'
 go_wp2
 go_ret
 exact ⟨⟨_,rfl,Int.emod_nonneg _ (by omega),Int.emod_lt_of_pos _ (by omega)⟩,HC'.out,HO'.out⟩
theorem once (w:World) (b:Nat) (a:Option Addr) (len cap:Nat) (n:Int) (h0:1<=n) (h1:n<=256) (hc:Cur w b a len cap) :
 Calls Tryz.prog 88 #[.pointer (some ⟨b,0,none⟩),.int .i64 n] w fun e w'=>(∃ x:Bool,e=.returned (.bool x))/\Cur w' b a len cap/\Only b w w':=by
 have HC:Hid (Cur w b a len cap):=hc
 clear hc
 go_enter Tryz.func88,Tryz.ntmps88
 go_wp2_with fail
 refine (below _ b a len cap n h0 h1 HC.out).mono ?_
 rintro e w' ⟨⟨x,rfl,hx0,hx1⟩,hc',ho'⟩
 have HC':Hid (Cur w' b a len cap):=hc'
 have HO':Hid (Only b w w'):=ho'
 clear hc' ho'
 go_wp2
 go_ret
 exact ⟨⟨_,rfl⟩,HC'.out,HO'.out⟩
/-- A list of whole numbers in a block of its own. -/
def Ints (w:World) (g:Nat) (n:Nat):Prop:=∀ i,i < n->∃ v:Int,w.cell? ⟨g,i,none⟩=some (.int .i64 v)
theorem pickInt (w:World) (b:Nat) (a:Option Addr) (len cap:Nat) (g n c:Nat) (h0:1<=n) (h1:n<=256) (hg:g≠b) (hi:Ints w g n) (hc:Cur w b a len cap) :
 Calls Tryz.prog 54 #[.pointer (some ⟨b,0,none⟩),.slice (some ⟨g,0,none⟩) n c] w fun e w'=>(∃ x:Int,e=.returned (.int .i64 x))/\Cur w' b a len cap/\Only b w w':=by
 have HC:Hid (Cur w b a len cap):=hc
 have HI:Hid (Ints w g n):=hi
 clear hc hi
 go_enter Tryz.func54,Tryz.ntmps54
 go_wp2_with fail
 refine (below _ b a len cap _ (by omega) (by omega) HC.out).mono ?_
 rintro e w' ⟨⟨x,rfl,hx0,hx1⟩,hc',ho'⟩
 have HC':Hid (Cur w' b a len cap):=hc'
 have HO':Hid (Only b w w'):=ho'
 clear hc' ho'
 obtain ⟨v,hv⟩:=HI.out x.toNat (by omega)
 have hv':w'.cell? ⟨g,x.toNat,none⟩=some (.int .i64 v):=by rw [HO'.out.cell (lt_of_cell hv) hg];exact hv
 clear hv
 go_wp2
 go_ret
 exact ⟨⟨_,rfl⟩,HC'.out,HO'.out⟩
end Dr1
namespace Dr4
open Go.RowKit
open Dr0 Dr1
theorem pickNew (w:World) (b:Nat) (a:Option Addr) (len cap:Nat) (c:Array Value) (T n:Nat) (h0:1<=n) (h1:n<=256) (hC:∀ i,i < n->∃ v:Int,c[i]? = some (.int .i64 v)) (hc:Cur w b a len cap) :
 Calls Tryz.prog 54 #[.pointer (some ⟨b,0,none⟩),.slice (some ⟨w.heap.size,0,none⟩) n n] (w.alloc (.cells c T)) fun e w'=>(∃ x:Int,e=.returned (.int .i64 x))/\Cur w' b a len cap/\Only b w w':=by
 have hb:=hc.lt
 refine (pickInt _ b a len cap w.heap.size n n h0 h1 (by omega) ?_ (hc.alloc _)).mono ?_
 ·intro i hi
  obtain ⟨v,hv⟩:=hC i hi
  exact ⟨v,by rw [World.cell?_alloc_new];exact hv⟩
 ·rintro e w' ⟨h1,h2,h3⟩
  exact ⟨h1,h2,((Only.refl b w).alloc _).trans h3⟩
theorem new (w:World) (a:Option Addr) (len cap:Nat) (hb:Bytes w a len) :
 Calls Tryz.prog 20 #[.slice a len cap] w fun e w'=>e=.returned (.pointer (some ⟨w.heap.size,0,none⟩))/\Cur w' w.heap.size a len cap/\Below w.heap.size w w':=by
 have hm:=hb.1
 unfold maxLen at hm
 have HB:Hid (Bytes w a len):=hb
 clear hb
 go_enter Tryz.func20,Tryz.ntmps20
 go_wp2
 go_loop [3,4] (fun h i=>∃ (k:Nat) (x:Int),k<=len/\i=.int .i64 k/\h=.int .i64 x) (fun _ i=>len - (intOf i).toNat)
 case atStart=>exact ⟨0,_,Nat.zero_le _,rfl,rfl⟩
 case round =>
  obtain ⟨k,x,hk,rfl,rfl⟩:=hrel
  by_cases hlt:k < len/\k < 4000
  ·obtain ⟨hlt,hl4⟩:=hlt
   rcases HB.out.2 with h0|⟨xb,xo,rfl,hcell⟩
   ·omega
   obtain ⟨v,hv0,hv1,hv⟩:=hcell k hlt
   clear hcell
   go_wp2
   go_round
   case rel=>exact ⟨k+1,_,by omega,by go_num,rfl⟩
   case measure=>simp [intOf];omega
  ·have hd:(decide ((k:Int) < (len:Int))&&decide ((k:Int) < 4000))=false:=by simp;omega
   by_cases hlt:k < len
   ·have hl4:¬ (k:Int) < 4000:=by omega
    clear hd
    go_wp2
    go_ret
    exact ⟨rfl,Cur.made HB.out x _,(Below.refl _ w).alloc (Nat.le_refl _) _⟩
   ·have hl4:¬ (k:Int) < (len:Int):=by omega
    clear hd
    go_wp2
    go_ret
    exact ⟨rfl,Cur.made HB.out x _,(Below.refl _ w).alloc (Nat.le_refl _) _⟩
end Dr4
namespace Tdw
open Go.RowKit
open Ta0 Ta1 Tc2 Tc5 Ap9 Td1 Td2
open Nd0 (Kept set_same)
open Dr0 (Cur Only Bytes)
open Ss0 (bs bs_size)
/-- Signs alone. -/
def Sgs (l:List UInt8):Prop:=∀ c∈l,c=48\/c=49
theorem sgs_nil:Sgs []:=fun c h=>by cases h
theorem sgs_app {l:List UInt8} (h:Sgs l) (b:Bool):Sgs (l++[sgn b]):=fun c hc=>by
 rcases List.mem_append.1 hc with h1|h1
 ·exact h c h1
 ·rw [List.mem_singleton.1 h1];cases b
  ·exact .inl rfl
  ·exact .inr rfl
theorem sgs_set {l:List UInt8} (h:Sgs l) (j:Nat):Sgs (l.set j 49):=fun c hc=>by
 rcases List.mem_or_eq_of_mem_set hc with h1|h1
 ·exact h c h1
 ·exact .inr h1
theorem sgs_tab {n:Nat} {l:List UInt8} (hl:l.length=2 ^ n) (h:Sgs l):∃ F:Nat->Bool,bs l=bs (tab n F):=by
 have e:=list_tab (F:=fun i=>l.getD i 0==49) hl (by
  intro i hi
  have e:l.getD i 0=l[i]:=by simp [List.getD,hi]
  show l[i]=sgn (l.getD i 0==49)
  rw [e]
  rcases h l[i] (List.getElem_mem hi) with h1|h1
  ·rw [h1];rfl
  ·rw [h1];rfl)
 exact ⟨_,congrArg bs e⟩
/-- What stands while a table is drawn: the cursor, the result's box, the bytes so far. -/
structure DT (w:World) (b:Nat) (a:Option Addr) (len cap:Nat) (v:Value) (k:Nat) (W:World):Prop where
 cur:Cur W b a len cap
 res:Lay W w.heap.size (.int .i64 0) (.string ByteArray.empty)
 own:∃ l:List UInt8,(l.length=k/\Sgs l)/\Owu W (w.heap.size+1) v l
 siz:w.heap.size+1<=W.heap.size
 onl:Only b w W
theorem kept_of_only {b:Nat} {W W':World} (h:Only b W W'):Kept (fun x=>x=b) W W':=⟨h.os,h.tape,h.output,h.size,h.block⟩
theorem DT.only {w W W':World} {b:Nat} {a:Option Addr} {len cap:Nat} {v:Value} {k:Nat} (h:DT w b a len cap v k W) (hb:b < w.heap.size) (hc:Cur W' b a len cap) (ho:Only b W W'):DT w b a len cap v k W':=by
 obtain ⟨l,h1,h2⟩:=h.own
 refine ⟨hc,h.res.kept (kept_of_only ho) (by omega),⟨l,h1,h2.kept (kept_of_only ho) (fun i hi e=>by have:=(h2.lt i hi).1;omega)⟩,by have:=ho.size;have:=h.siz;omega,h.onl.trans ho⟩
theorem only_app {b:Nat} {u W W':World} {v:Value} (h:Only b u W) (hk:Kept (fun k=>v.ownBlock=some k) W W') (hv:∀ k,v.ownBlock=some k->u.heap.size<=k):Only b u W' :=
 ⟨hk.os.trans h.os,hk.tape.trans h.tape,hk.output.trans h.output,Nat.le_trans h.size hk.size,fun i hi hb=>(hk.block i (Nat.lt_of_lt_of_le hi h.size) (fun e=>by have:=hv i e;omega)).trans (h.block i hi hb)⟩
theorem cur_kept {b:Nat} {W W':World} {a:Option Addr} {len cap:Nat} (h:Cur W b a len cap) {S:Nat->Prop} (hk:Kept S W W') (hb:¬ S b) (ha:len=0\/∀ x,a=some x->¬ S x.block):Cur W' b a len cap:=by
 have hl:=h.lt
 obtain ⟨i,hi,hc1⟩:=h.c1
 obtain ⟨q,hc2⟩:=h.c2
 refine ⟨by rw [hk.cell (p:=⟨b,0,none⟩) hl hb];exact h.c0,⟨i,hi,by rw [hk.cell (p:=⟨b,1,none⟩) hl hb];exact hc1⟩,⟨q,by rw [hk.cell (p:=⟨b,2,none⟩) hl hb];exact hc2⟩,by rw [hk.frozen (p:=⟨b,1,none⟩) hl hb];exact h.f1,by rw [hk.frozen (p:=⟨b,2,none⟩) hl hb];exact h.f2,⟨h.bytes.1,?_⟩,h.off⟩
 rcases h.bytes.2 with h0|⟨xb,xo,rfl,hc⟩
 ·exact .inl h0
 ·rcases ha with h0|ha
  ·exact .inl h0
  ·refine .inr ⟨xb,xo,rfl,fun i hi=>?_⟩
   obtain ⟨v,h1,h2,h3⟩:=hc i hi
   exact ⟨v,h1,h2,by rw [hk.cell (Dr0.lt_of_cell h3) (ha ⟨xb,xo,none⟩ rfl)];exact h3⟩
/-- The bytes that are drawn from lie in a block below B. -/
def Low (a:Option Addr) (len B:Nat):Prop:=len=0\/∀ x,a=some x->x.block < B
theorem low_of {W:World} {a:Option Addr} {len:Nat} (h:Bytes W a len):Low a len W.heap.size:=by
 rcases h.2 with h0|⟨xb,xo,rfl,hc⟩
 ·exact .inl h0
 ·by_cases h0:len=0
  ·exact .inl h0
  ·refine .inr fun x hx=>?_
   cases hx
   obtain ⟨v,_,_,h3⟩:=hc 0 (by omega)
   exact Dr0.lt_of_cell h3
theorem DT.next {w W W':World} {b:Nat} {a:Option Addr} {len cap:Nat} {v v':Value} {k k':Nat} {l':List UInt8} (h:DT w b a len cap v k W) (hb:b < w.heap.size) (hlo:Low a len w.heap.size) (hk:Kept (fun x=>v.ownBlock=some x) W W') (hl:l'.length=k'/\Sgs l') (ho:Owu W' (w.heap.size+1) v' l'):DT w b a len cap v' k' W':=by
 obtain ⟨l,h1,h2⟩:=h.own
 have hv:∀ x,v.ownBlock=some x->w.heap.size+1<=x:=fun x hx=>(h2.lt x hx).1
 refine ⟨cur_kept h.cur hk (fun e=>by have:=hv _ e;omega) ?_,h.res.kept hk (fun e=>by have:=hv _ e;omega),⟨l',hl,ho⟩,by have:=hk.size;have:=h.siz;omega,only_app h.onl hk (fun x hx=>by have:=hv x hx;omega)⟩
 rcases hlo with h0|h0
 ·exact .inl h0
 ·exact .inr fun x hx e=>by have:=h0 x hx;have:=hv _ e;omega
theorem sgn_lit (x:Int) (h:x=0\/x=1):∃ y:UInt8,IntKind.u8.wrap (48+x)=(y.toNat:Int)/\(48+x)=(y.toNat:Int):=by
 rcases h with rfl|rfl
 ·exact ⟨48,by decide,rfl⟩
 ·exact ⟨49,by decide,rfl⟩
theorem l06Table (w:World) (b:Nat) (a:Option Addr) (len cap:Nat) (n:Nat) (hn:n<=6) (hc:Cur w b a len cap) :
 Calls Tryz.prog 53 #[.pointer (some ⟨b,0,none⟩),.int .i64 (n:Int)] w fun e w'=>(∃ F:Nat->Bool,e=.returned (tv (n:Int) (bs (tab n F))))/\Cur w' b a len cap/\Only b w w':=by
 have HLO:Hid (Low a len w.heap.size):=low_of hc.bytes
 have hbl:b < w.heap.size:=hc.lt
 have HPW:Hid (∀ W,Calls Tryz.prog 89 #[.int .i64 (n:Int)] W fun e w'=>e=.returned (.int .i64 ((2 ^ n:Nat):Int))/\w'=W):=fun W=>sPow n W (by omega)
 have hp:1<=2 ^ n:=Nat.one_le_two_pow
 have hl:2 ^ n<=64:=Nat.pow_le_pow_right (n:=2) (by omega) hn
 obtain ⟨P,hPN⟩:∃ P,P=2 ^ n:=⟨_,rfl⟩
 rw [<- hPN] at HPW hp hl
 have HPN:Hid (P=2 ^ n):=hPN
 clear hPN
 have HD0:Hid (DT w b a len cap (.slice (some ⟨w.heap.size+1,0,none⟩) 0 0) 0 ((w.alloc (.cells #[.int .i64 0,.string ByteArray.empty] 26)).alloc (.cells #[] 5))):=by
  have h1:=Owu.lit (w.alloc (.cells #[.int .i64 0,.string ByteArray.empty] 26)) (w.heap.size+1) (by simp)
  refine ⟨(hc.alloc _).alloc _,(Lay.made _ _ _ _).alloc _,⟨[],⟨rfl,sgs_nil⟩,by simpa using h1⟩,by simp,((Only.refl _ _).alloc _).alloc _⟩
 clear hc
 go_enter Tryz.func53,Tryz.ntmps53
 go_wp2_with fail
 refine (Dr1.below _ b a len cap 4 (by omega) (by omega) HD0.out.cur).mono ?_
 rintro e w1 ⟨⟨wy,rfl,hy0,hy1⟩,hc1,ho1⟩
 have HD1:Hid (DT w b a len cap (.slice (some ⟨w.heap.size+1,0,none⟩) 0 0) 0 w1):=HD0.out.only hbl hc1 ho1
 clear hc1 ho1
 go_wp2_with fail
 go_loopw [5,7] (fun v i wr=>∃ k:Nat,k<=P/\i=.int .i64 k/\DT w b a len cap v k wr) (fun _ i _=>P - (intOf i).toNat)
 case atStart=>exact ⟨0,Nat.zero_le _,rfl,HD1.out⟩
 case round =>
  obtain ⟨k,hk,rfl,hdt⟩:=hrel
  have HD:Hid (DT w b a len cap u5 k wr):=hdt
  clear hdt
  by_cases hlt:k < P
  ·have hkz:(k:Int) < (P:Int):=by omega
   go_wp2_with (go_at_call 89;refine (HPW.out _).mono ?_;rintro e w' ⟨rfl,hw'⟩;have hw2:=hw'.symm;clear hw';subst hw2)
   refine (Dr1.below _ b a len cap 2 (by omega) (by omega) HD.out.cur).mono ?_
   rintro e w2 ⟨⟨x,rfl,hx0,hx1⟩,hc2,ho2⟩
   have HD2:Hid (DT w b a len cap u5 k w2):=HD.out.only hbl hc2 ho2
   clear hc2 ho2
   by_cases h0:wy=0
   ·have hw0:(wy==0)=true:=by rw [h0];rfl
    clear h0
    rcases (by omega:(k:Int) / 2 % 2=0\/(k:Int) / 2 % 2=1) with hx|hx
    ·have hx9:(48:Int)+(k:Int) / 2 % 2=48:=by omega
     obtain ⟨l,hll,hol⟩:=HD2.out.own
     have HLL:Hid (l.length=k):=hll.1
     have HSG:Hid (Sgs l):=hll.2
     have HO:Hid (Owu w2 (w.heap.size+1) u5 l):=hol
     have hsz:=HD2.out.siz
     clear hll hol
     go_wp2_with (at_builtin;go_must (refine app_byte _ rfl _ _ rfl (w.heap.size+1) u5 l (sgn _) _ (by first|exact show (49:Int)=((sgn true).toNat:Int) from rfl|exact show (48:Int)=((sgn false).toNat:Int) from rfl) rfl rfl HO.out hsz (by rw [HLL.out];omega) ?_;intro g5 cp5 w5 ho5 hk5 hg5;have HD5:Hid (DT w b a len cap (.slice (some ⟨g5,0,none⟩) (l.length+1) cp5) (k+1) w5):=HD2.out.next hbl HLO.out hk5 ⟨by rw [List.length_append,HLL.out];rfl,sgs_app HSG.out _⟩ ho5;clear ho5 hk5 hg5))
     go_roundw
     case rel=>exact ⟨k+1,by omega,by go_num,HD5.out⟩
     case measure=>simp [intOf];omega
    ·have hx9:(48:Int)+(k:Int) / 2 % 2=49:=by omega
     obtain ⟨l,hll,hol⟩:=HD2.out.own
     have HLL:Hid (l.length=k):=hll.1
     have HSG:Hid (Sgs l):=hll.2
     have HO:Hid (Owu w2 (w.heap.size+1) u5 l):=hol
     have hsz:=HD2.out.siz
     clear hll hol
     go_wp2_with (at_builtin;go_must (refine app_byte _ rfl _ _ rfl (w.heap.size+1) u5 l (sgn _) _ (by first|exact show (49:Int)=((sgn true).toNat:Int) from rfl|exact show (48:Int)=((sgn false).toNat:Int) from rfl) rfl rfl HO.out hsz (by rw [HLL.out];omega) ?_;intro g5 cp5 w5 ho5 hk5 hg5;have HD5:Hid (DT w b a len cap (.slice (some ⟨g5,0,none⟩) (l.length+1) cp5) (k+1) w5):=HD2.out.next hbl HLO.out hk5 ⟨by rw [List.length_append,HLL.out];rfl,sgs_app HSG.out _⟩ ho5;clear ho5 hk5 hg5))
     go_roundw
     case rel=>exact ⟨k+1,by omega,by go_num,HD5.out⟩
     case measure=>simp [intOf];omega
   ·have hw0:(wy==0)=false:=beq_eq_false_iff_ne.2 h0
    by_cases h1:wy=1
    ·have hw1:(wy==1)=true:=by rw [h1];rfl
     clear h0 h1
     rcases (by omega:x=0\/x=1) with rfl|rfl
     all_goals
      go_wp2_with fail
      refine (Dr1.once _ b a len cap 2 (by omega) (by omega) HD2.out.cur).mono ?_
      rintro e w3 ⟨⟨z,rfl⟩,hc3,ho3⟩
      have HD3:Hid (DT w b a len cap u5 k w3):=HD2.out.only hbl hc3 ho3
      clear hc3 ho3
      cases z
      all_goals
       obtain ⟨l,hll,hol⟩:=HD3.out.own
       have HLL:Hid (l.length=k):=hll.1
       have HSG:Hid (Sgs l):=hll.2
       have HO:Hid (Owu w3 (w.heap.size+1) u5 l):=hol
       have hsz:=HD3.out.siz
       clear hll hol
       go_wp2_with (at_builtin;go_must (refine app_byte _ rfl _ _ rfl (w.heap.size+1) u5 l (sgn _) _ (by first|exact show (49:Int)=((sgn true).toNat:Int) from rfl|exact show (48:Int)=((sgn false).toNat:Int) from rfl) rfl rfl HO.out hsz (by rw [HLL.out];omega) ?_;intro g5 cp5 w5 ho5 hk5 hg5;have HD5:Hid (DT w b a len cap (.slice (some ⟨g5,0,none⟩) (l.length+1) cp5) (k+1) w5):=HD3.out.next hbl HLO.out hk5 ⟨by rw [List.length_append,HLL.out];rfl,sgs_app HSG.out _⟩ ho5;clear ho5 hk5 hg5))
       go_roundw
       case rel=>exact ⟨k+1,by omega,by go_num,HD5.out⟩
       case measure=>simp [intOf];omega
    ·have hw1:(wy==1)=false:=beq_eq_false_iff_ne.2 h1
     clear h0 h1
     rcases (by omega:x=0\/x=1) with rfl|rfl
     all_goals
      obtain ⟨l,hll,hol⟩:=HD2.out.own
      have HLL:Hid (l.length=k):=hll.1
      have HSG:Hid (Sgs l):=hll.2
      have HO:Hid (Owu w2 (w.heap.size+1) u5 l):=hol
      have hsz:=HD2.out.siz
      clear hll hol
      go_wp2_with (at_builtin;go_must (refine app_byte _ rfl _ _ rfl (w.heap.size+1) u5 l (sgn _) _ (by first|exact show (49:Int)=((sgn true).toNat:Int) from rfl|exact show (48:Int)=((sgn false).toNat:Int) from rfl) rfl rfl HO.out hsz (by rw [HLL.out];omega) ?_;intro g5 cp5 w5 ho5 hk5 hg5;have HD5:Hid (DT w b a len cap (.slice (some ⟨g5,0,none⟩) (l.length+1) cp5) (k+1) w5):=HD2.out.next hbl HLO.out hk5 ⟨by rw [List.length_append,HLL.out];rfl,sgs_app HSG.out _⟩ ho5;clear ho5 hk5 hg5))
      go_roundw
      case rel=>exact ⟨k+1,by omega,by go_num,HD5.out⟩
      case measure=>simp [intOf];omega
  ·have hkP:k=P:=by omega
   have HDP:Hid (DT w b a len cap u5 P wr):=by have h:=HD.out;rw [hkP] at h;exact h
   have hkz:¬ (k:Int) < (P:Int):=by omega
   clear hkP HD
   go_wp2_with (go_at_call 89;refine (HPW.out _).mono ?_;rintro e w' ⟨rfl,hw'⟩;have hw2:=hw'.symm;clear hw';subst hw2)
   refine (Dr1.once _ b a len cap 8 (by omega) (by omega) HDP.out.cur).mono ?_
   rintro e w3 ⟨⟨z,rfl⟩,hc3,ho3⟩
   have HD3:Hid (DT w b a len cap u5 P w3):=HDP.out.only hbl hc3 ho3
   clear hc3 ho3
   obtain ⟨l,⟨hll,hls⟩,hol⟩:=HD3.out.own
   obtain ⟨g,c,hv,hgB,hgl⟩:=hol.at (by omega)
   subst hll
   subst hv
   clear hol
   cases z
   ·obtain ⟨l3,⟨hl3,hg3⟩,ho3⟩:=HD3.out.own
    have hcv:=ho3.text (by omega)
    obtain ⟨r0,r1,r2,r3⟩:=HD3.out.res
    have HS3:Hid (∃ F:Nat->Bool,bs l3=bs (tab n F)):=sgs_tab (by rw [hl3];exact HPN.out) hg3
    have HC3:Hid (Cur w3 b a len cap):=HD3.out.cur
    have HON:Hid (Only b w w3):=HD3.out.onl
    have HL3:Hid (Lay w3 w.heap.size (.int .i64 0) (.string ByteArray.empty)):=HD3.out.res
    generalize bs l3=RS at *
    clear ho3
    go_wp2
    have K:Kept (fun x=>x=w.heap.size) w3 ((w3.setCell ⟨w.heap.size,0,none⟩ (.int .i64 (n:Int))).setCell ⟨w.heap.size,1,none⟩ (.string RS)):=kset (S:=fun x=>x=w.heap.size) (kset (S:=fun x=>x=w.heap.size) (Kept.refl (fun x=>x=w.heap.size) w3) rfl _) rfl _
    have hz:=HL3.out.put (.int .i64 (n:Int)) (.string RS)
    have hcc:=cur_kept HC3.out K (by omega) (HLO.out.imp id fun h x hx=>by have:=h x hx;omega)
    have hoo:Only b w ((w3.setCell ⟨w.heap.size,0,none⟩ (.int .i64 (n:Int))).setCell ⟨w.heap.size,1,none⟩ (.string RS)):=⟨K.os.trans HON.out.os,K.tape.trans HON.out.tape,K.output.trans HON.out.output,Nat.le_trans HON.out.size K.size,fun i hi hb=>(K.block i (Nat.lt_of_lt_of_le hi HON.out.size) (by omega)).trans (HON.out.block i hi hb)⟩
    obtain ⟨z0,z1,_,_⟩:=hz
    generalize (w3.setCell ⟨w.heap.size,0,none⟩ (.int .i64 (n:Int))).setCell ⟨w.heap.size,1,none⟩ (.string RS)=WF at *
    exact bodyPost_ret (v:=tv (n:Int) RS) (by simp [results,Tryz.results53,go_sem,z0,z1]) rfl ⟨(by obtain ⟨F,hF⟩:=HS3.out;exact ⟨F,by rw [<- hF]⟩),hcc,hoo⟩
   ·go_wp2_with fail
    go_loopw [9] (fun i wq=>∃ j:Nat,j<=l.length/\i=.int .i64 j/\DT w b a len cap (.slice (some ⟨g,0,none⟩) l.length c) l.length wq) (fun i _=>l.length - (intOf i).toNat)
    case atStart=>exact ⟨0,Nat.zero_le _,rfl,HD3.out⟩
    case round =>
     obtain ⟨j,hj,rfl,hdq⟩:=hrel
     have HQ:Hid (DT w b a len cap (.slice (some ⟨g,0,none⟩) l.length c) l.length wr):=hdq
     clear hdq
     by_cases hjl:j < l.length
     ·have hjz:(j:Int) < (l.length:Int):=by omega
      obtain ⟨l2,⟨hl2,hg2⟩,ho2⟩:=HQ.out.own
      obtain ⟨v0,v1⟩:=ho2.cell' hl2 j hjl
      have HW2:Hid (DT w b a len cap (.slice (some ⟨g,0,none⟩) l.length c) l.length (wr.setCell ⟨g,j,none⟩ (.int .u8 49))) :=
       HQ.out.next hbl HLO.out (kset (S:=fun x=>(Value.slice (some ⟨g,0,none⟩) l.length c).ownBlock=some x) (Kept.refl _ wr) (by simp [Value.ownBlock]) _) ⟨by rw [List.length_set];exact hl2,sgs_set hg2 j⟩ (ho2.set' hl2 j 49)
      clear ho2
      go_wp2
      go_roundw
      case rel=>exact ⟨j+1,by omega,by go_num,HW2.out⟩
      case measure=>simp [intOf];omega
     ·have hjz:¬ (j:Int) < (l.length:Int):=by omega
      obtain ⟨l3,⟨hl3,hg3⟩,ho3⟩:=HQ.out.own
      have hcv:=ho3.text (by omega)
      obtain ⟨r0,r1,r2,r3⟩:=HQ.out.res
      have HS3:Hid (∃ F:Nat->Bool,bs l3=bs (tab n F)):=sgs_tab (by rw [hl3];exact HPN.out) hg3
      have HC3:Hid (Cur wr b a len cap):=HQ.out.cur
      have HON:Hid (Only b w wr):=HQ.out.onl
      have HL3:Hid (Lay wr w.heap.size (.int .i64 0) (.string ByteArray.empty)):=HQ.out.res
      generalize bs l3=RS at *
      clear ho3
      go_wp2
      have K:Kept (fun x=>x=w.heap.size) wr ((wr.setCell ⟨w.heap.size,0,none⟩ (.int .i64 (n:Int))).setCell ⟨w.heap.size,1,none⟩ (.string RS)):=kset (S:=fun x=>x=w.heap.size) (kset (S:=fun x=>x=w.heap.size) (Kept.refl (fun x=>x=w.heap.size) wr) rfl _) rfl _
      have hz:=HL3.out.put (.int .i64 (n:Int)) (.string RS)
      have hcc:=cur_kept HC3.out K (by omega) (HLO.out.imp id fun h x hx=>by have:=h x hx;omega)
      have hoo:Only b w ((wr.setCell ⟨w.heap.size,0,none⟩ (.int .i64 (n:Int))).setCell ⟨w.heap.size,1,none⟩ (.string RS)):=⟨K.os.trans HON.out.os,K.tape.trans HON.out.tape,K.output.trans HON.out.output,Nat.le_trans HON.out.size K.size,fun i hi hb=>(K.block i (Nat.lt_of_lt_of_le hi HON.out.size) (by omega)).trans (HON.out.block i hi hb)⟩
      obtain ⟨z0,z1,_,_⟩:=hz
      generalize (wr.setCell ⟨w.heap.size,0,none⟩ (.int .i64 (n:Int))).setCell ⟨w.heap.size,1,none⟩ (.string RS)=WF at *
      exact bodyPost_ret (v:=tv (n:Int) RS) (by simp [results,Tryz.results53,go_sem,z0,z1]) rfl ⟨(by obtain ⟨F,hF⟩:=HS3.out;exact ⟨F,by rw [<- hF]⟩),hcc,hoo⟩
end Tdw
namespace Ddr
open Go.RowKit
open Ta0 Ta1 Tc2 Tc5 Td2 Tdw Ap1
open Nd0 (Kept set_same)
open Nd6 (Bools)
open Dr0 (Cur Only Bytes)
open Ss0 (bs bs_size)
/-- What stands while a row is drawn: the cursor, the flags so far. -/
structure DB (w:World) (b:Nat) (a:Option Addr) (len cap:Nat) (v:Value) (k:Nat) (W:World):Prop where
 cur:Cur W b a len cap
 own:∃ l:List Bool,l.length=k/\Owb W w.heap.size v l
 siz:w.heap.size<=W.heap.size
 onl:Only b w W
theorem DB.only {w W W':World} {b:Nat} {a:Option Addr} {len cap:Nat} {v:Value} {k:Nat} (h:DB w b a len cap v k W) (hb:b < w.heap.size) (hc:Cur W' b a len cap) (ho:Only b W W'):DB w b a len cap v k W':=by
 obtain ⟨l,h1,h2⟩:=h.own
 exact ⟨hc,⟨l,h1,h2.kept (kept_of_only ho) (fun i hi e=>by have:=(h2.lt i hi).1;omega)⟩,by have:=ho.size;have:=h.siz;omega,h.onl.trans ho⟩
theorem DB.next {w W W':World} {b:Nat} {a:Option Addr} {len cap:Nat} {v v':Value} {k k':Nat} {l':List Bool} (h:DB w b a len cap v k W) (hb:b < w.heap.size) (hlo:Low a len w.heap.size) (hk:Kept (fun x=>v.ownBlock=some x) W W') (hl:l'.length=k') (ho:Owb W' w.heap.size v' l'):DB w b a len cap v' k' W':=by
 obtain ⟨l,h1,h2⟩:=h.own
 have hv:∀ x,v.ownBlock=some x->w.heap.size<=x:=fun x hx=>(h2.lt x hx).1
 refine ⟨cur_kept h.cur hk (fun e=>by have:=hv _ e;omega) ?_,⟨l',hl,ho⟩,by have:=hk.size;have:=h.siz;omega,only_app h.onl hk (fun x hx=>by have:=hv x hx;omega)⟩
 rcases hlo with h0|h0
 ·exact .inl h0
 ·exact .inr fun x hx e=>by have:=h0 x hx;have:=hv _ e;omega
theorem l08Row (w:World) (b:Nat) (a:Option Addr) (len cap:Nat) (n:Nat) (hn:n<=100) (hc:Cur w b a len cap) :
 Calls Tryz.prog 51 #[.pointer (some ⟨b,0,none⟩),.int .i64 (n:Int)] w fun e w'=>(∃ v,e=.returned v/\DB w b a len cap v n w'):=by
 have HLO:Hid (Low a len w.heap.size):=low_of hc.bytes
 have hbl:b < w.heap.size:=hc.lt
 have HD0:Hid (DB w b a len cap (.slice (some ⟨w.heap.size,0,none⟩) 0 0) 0 (w.alloc (.cells #[] 4))) :=
  ⟨hc.alloc _,⟨[],rfl,Owb.lit w _ (Nat.le_refl _)⟩,by simp,(Only.refl _ _).alloc _⟩
 clear hc
 go_enter Tryz.func51,Tryz.ntmps51
 go_wp2
 go_loopw [5,6] (fun v i wr=>∃ k:Nat,k<=n/\i=.int .i64 k/\DB w b a len cap v k wr) (fun _ i _=>n - (intOf i).toNat)
 case atStart=>exact ⟨0,Nat.zero_le _,rfl,HD0.out⟩
 case round =>
  obtain ⟨k,hk,rfl,hdt⟩:=hrel
  have HD:Hid (DB w b a len cap u5 k wr):=hdt
  clear hdt
  by_cases hlt:k < n
  ·have hkz:(k:Int) < (n:Int):=by omega
   go_wp2_with fail
   refine (Dr1.once _ b a len cap 2 (by omega) (by omega) HD.out.cur).mono ?_
   rintro e w3 ⟨⟨z,rfl⟩,hc3,ho3⟩
   have HD3:Hid (DB w b a len cap u5 k w3):=HD.out.only hbl hc3 ho3
   clear hc3 ho3
   obtain ⟨l,hll,hol⟩:=HD3.out.own
   have HLL:Hid (l.length=k):=hll
   have HO:Hid (Owb w3 w.heap.size u5 l):=hol
   have hsz:=HD3.out.siz
   clear hll hol
   go_wp2_with (at_builtin;go_must (refine app_bool _ rfl _ _ rfl w.heap.size u5 l z rfl rfl HO.out hsz (by rw [HLL.out];omega) ?_;intro g5 cp5 w5 ho5 hk5 hg5;have HD5:Hid (DB w b a len cap (.slice (some ⟨g5,0,none⟩) (l.length+1) cp5) (k+1) w5):=HD3.out.next hbl HLO.out hk5 (by rw [List.length_append,HLL.out];rfl) ho5;clear ho5 hk5 hg5))
   go_roundw
   case rel=>exact ⟨k+1,by omega,by go_num,HD5.out⟩
   case measure=>simp [intOf];omega
  ·have HKN:Hid (DB w b a len cap u5 n wr):=by have h:=HD.out;rw [show k=n by omega] at h;exact h
   clear HD
   go_wp2
   go_ret
   exact ⟨_,rfl,HKN.out⟩
theorem owb_cap {w:World} {B:Nat} {v:Value} {l:List Bool} (h:Owb w B v l):∃ a c,v=.slice a l.length c/\l.length<=c/\WBools w B a l:=by
 obtain ⟨a,c,hv,hw⟩:=h.form
 rcases h.2 with ⟨h1,h0⟩|⟨g,cap,cur,h1,_,_,hn,_⟩
 ·exact ⟨_,_,hv,by omega,hw⟩
 ·rw [hv] at h1
  injection h1 with e1 e2 e3
  exact ⟨_,_,hv,by omega,hw⟩
end Ddr
namespace Ap11
open Go.RowKit
open Nd0 Ap1
def bv (l:List Bool):List Value:=l.map fun x=>.bool x
theorem bv_len (l:List Bool):(bv l).length=l.length:=by simp [bv]
theorem one_b (l:List Bool):∀ u∈bv l,u.oneCell'=true:=by
 intro u hu
 obtain ⟨n,_,rfl⟩:=List.mem_map.1 hu
 rfl
theorem step_bs {ops:Array Oper} {o:Oper} {a:Act} {K:Act->World->Prop} {Q:Exit->Act->World->Prop} {E:Prop} (W:World) (hgd:o.guard=none) (s x:Operand)
 (ho:o.op=.call { callee:=.builtin .append,args := #[s,x],argTypes := #[24,24] })
 (B g cp gx ox cx:Nat) (l ys:List Bool) (hs:a.eval s=.slice (some ⟨g,0,none⟩) l.length cp) (hx:a.eval x=.slice (some ⟨gx,ox,none⟩) ys.length cx)
 (hown:Owb W B (.slice (some ⟨g,0,none⟩) l.length cp) l) (hy:∀ j (h:j < ys.length),W.cell? ⟨gx,ox+j,none⟩=some (.bool ys[j])) (hB:B<=W.heap.size) (hlen:l.length+ys.length<=1048577) (L:List Bool) (hL:l++ys=L)
 (h:∀ g' cp' w',Owb w' B (.slice (some ⟨g',0,none⟩) L.length cp') L->Kept (fun k=>k=g) W w'->(g'=g\/W.heap.size<=g')->K (a.put o.dst (.slice (some ⟨g',0,none⟩) L.length cp')) w') :
 if Region.wanted o (yielded ops a.tmps)=true then Oper.wp Tryz.prog o a W K Q else E:=by
 subst hL
 have hw:Region.wanted o (yielded ops a.tmps)=true:=by simp [Region.wanted,hgd]
 rw [if_pos hw]
 obtain ⟨i,hi,hzz⟩:=Option.map_eq_some_iff.1 infoBool
 simp only [Prod.mk.injEq] at hzz
 obtain ⟨hz,hsz,hb⟩:=hzz
 obtain ⟨v',w',hr,h1,h2,h3,h4⟩:=run_append_own_at (P:=Tryz.prog) W B 24 o.type 4 i _ 1 1 Tryz.underlying24 hi hz hsz hb rfl (by omega) _ l.length (bv l) hown ⟨gx,ox,none⟩ ys.length cx (bv ys) (by rw [bv_len];omega) (fun j u hu=>by
  have hj:j < ys.length:=by have:=(List.getElem?_eq_some_iff.1 hu).1;rw [bv_len] at this;exact this
  have hadd:(⟨gx,ox,none⟩:Addr).add j=⟨gx,ox+j,none⟩:=by unfold Addr.add;split<;>simp_all
  rw [hadd,hy j hj,<- hu]
  simp [bv,hj]) (one_b ys) (by unfold maxLen;omega) (by omega) hB
 have h5:Owb w' B v' (l++ys):=by unfold Owb;rw [List.map_append,List.length_append];exact h1
 have h6:∃ g' cp',v'=.slice (some ⟨g',0,none⟩) (l++ys).length cp':=by
  rcases h5.2 with ⟨h0,_⟩|⟨g',cap',cur,he,_⟩
  ·exact absurd (h3.1 h0).1 (by simp)
  ·exact ⟨g',cap',he⟩
 obtain ⟨g',cp',rfl⟩:=h6
 have hK:=h g' cp' w' h5 ⟨h2.os,h2.tape,h2.output,h2.size,fun k hk hn=>h2.block k hk (fun e=>hn (by simpa [Value.ownBlock] using e))⟩ (by
  rcases h4 with e|e
  ·exact .inl (by simpa [Value.ownBlock] using e)
  ·exact .inr (by have e':g'=W.heap.size:=(by simpa [Value.ownBlock] using e);omega))
 unfold Oper.wp execOp
 simp only [ho,resolve,invoke,builtin,Sem.run_bind,Sem.run_pure,Result.andThen_ok,List.map_toArray,List.map_cons,List.map_nil,hs,hx,hr]
 exact hK
end Ap11
end Go.Proofs.YtjajkmdoggbicaaGreatDoor
