import Derived.Test.YtfhdbcfhhbdiiaaPkWJ0
import Derived.Test.YtfhdbcfhhbdiiaaWr7
namespace Go.Proofs.Ytfhdbcfhhbdiiaa
set_option maxRecDepth 100000
set_option maxHeartbeats 8000000
set_option linter.unusedVariables false
namespace Tdr
open Go.RowKit
open Ta0 Ta1 Tc2 Tc5 Ap9 Td1 Td2
open Nd0 (Kept set_same)
open Dr0 (Cur Only Bytes)
open Ss0 (bs bs_size)
/-- What stands while a table is drawn: the cursor, the result's box, the bytes so far. -/
structure DT (w:World) (b:Nat) (a:Option Addr) (len cap:Nat) (v:Value) (k:Nat) (W:World):Prop where
 cur:Cur W b a len cap
 res:Lay W w.heap.size (.int .i64 0) (.string ByteArray.empty)
 own:∃ l:List UInt8,l.length=k/\Owu W (w.heap.size+1) v l
 siz:w.heap.size+1<=W.heap.size
 onl:Only b w W
theorem kept_of_only {b:Nat} {W W':World} (h:Only b W W'):Kept (fun x=>x=b) W W':=⟨h.os,h.tape,h.output,h.size,h.block⟩
theorem DT.only {w W W':World} {b:Nat} {a:Option Addr} {len cap:Nat} {v:Value} {k:Nat} (h:DT w b a len cap v k W) (hb:b < w.heap.size) (hc:Cur W' b a len cap) (ho:Only b W W'):DT w b a len cap v k W':=by
 obtain ⟨l,h1,h2⟩:=h.own
 refine ⟨hc,h.res.kept (kept_of_only ho) (by omega),⟨l,h1,h2.kept (kept_of_only ho) (fun i hi e=>by have:=(h2.lt i hi).1;omega)⟩,by have:=ho.size;have:=h.siz;omega,h.onl.trans ho⟩
theorem only_app {b:Nat} {u W W':World} {v:Value} (h:Only b u W) (hk:Kept (fun k=>v.ownBlock=some k) W W') (hv:∀ k,v.ownBlock=some k->u.heap.size<=k):Only b u W' :=
 ⟨hk.os.trans h.os,hk.tape.trans h.tape,hk.output.trans h.output,Nat.le_trans h.size hk.size,fun i hi hb=>(hk.block i (Nat.lt_of_lt_of_le hi h.size) (fun e=>by have:=hv i e;omega)).trans (h.block i hi hb)⟩
theorem cur_kept {b:Nat} {W W':World} {a:Option Addr} {len cap:Nat} (h:Cur W b a len cap) {S:Nat->Prop} (hk:Kept S W W') (hb:¬ S b) (ha:len=0\/∀ x,a=some x->¬ S x.block):Cur W' b a len cap:=by
 have hl:=h.lt
 obtain ⟨i,hi,hc1⟩:=h.c1
 obtain ⟨q,hc2⟩:=h.c2
 refine ⟨by rw [hk.cell (p:=⟨b,0,none⟩) hl hb];exact h.c0,⟨i,hi,by rw [hk.cell (p:=⟨b,1,none⟩) hl hb];exact hc1⟩,⟨q,by rw [hk.cell (p:=⟨b,2,none⟩) hl hb];exact hc2⟩,by rw [hk.frozen (p:=⟨b,1,none⟩) hl hb];exact h.f1,by rw [hk.frozen (p:=⟨b,2,none⟩) hl hb];exact h.f2,⟨h.bytes.1,?_⟩,h.off⟩
 rcases h.bytes.2 with h0|⟨xb,xo,rfl,hc⟩
 ·exact .inl h0
 ·rcases ha with h0|ha
  ·exact .inl h0
  ·refine .inr ⟨xb,xo,rfl,fun i hi=>?_⟩
   obtain ⟨v,h1,h2,h3⟩:=hc i hi
   exact ⟨v,h1,h2,by rw [hk.cell (Dr0.lt_of_cell h3) (ha ⟨xb,xo,none⟩ rfl)];exact h3⟩
/-- The bytes that are drawn from lie in a block below B. -/
def Low (a:Option Addr) (len B:Nat):Prop:=len=0\/∀ x,a=some x->x.block < B
theorem low_of {W:World} {a:Option Addr} {len:Nat} (h:Bytes W a len):Low a len W.heap.size:=by
 rcases h.2 with h0|⟨xb,xo,rfl,hc⟩
 ·exact .inl h0
 ·by_cases h0:len=0
  ·exact .inl h0
  ·refine .inr fun x hx=>?_
   cases hx
   obtain ⟨v,_,_,h3⟩:=hc 0 (by omega)
   exact Dr0.lt_of_cell h3
theorem DT.next {w W W':World} {b:Nat} {a:Option Addr} {len cap:Nat} {v v':Value} {k k':Nat} {l':List UInt8} (h:DT w b a len cap v k W) (hb:b < w.heap.size) (hlo:Low a len w.heap.size) (hk:Kept (fun x=>v.ownBlock=some x) W W') (hl:l'.length=k') (ho:Owu W' (w.heap.size+1) v' l'):DT w b a len cap v' k' W':=by
 obtain ⟨l,h1,h2⟩:=h.own
 have hv:∀ x,v.ownBlock=some x->w.heap.size+1<=x:=fun x hx=>(h2.lt x hx).1
 refine ⟨cur_kept h.cur hk (fun e=>by have:=hv _ e;omega) ?_,h.res.kept hk (fun e=>by have:=hv _ e;omega),⟨l',hl,ho⟩,by have:=hk.size;have:=h.siz;omega,only_app h.onl hk (fun x hx=>by have:=hv x hx;omega)⟩
 rcases hlo with h0|h0
 ·exact .inl h0
 ·exact .inr fun x hx e=>by have:=h0 x hx;have:=hv _ e;omega
theorem sgn_lit (x:Int) (h:x=0\/x=1):∃ y:UInt8,IntKind.u8.wrap (48+x)=(y.toNat:Int)/\(48+x)=(y.toNat:Int):=by
 rcases h with rfl|rfl
 ·exact ⟨48,by decide,rfl⟩
 ·exact ⟨49,by decide,rfl⟩
theorem l06Table (w:World) (b:Nat) (a:Option Addr) (len cap:Nat) (n:Nat) (hn:n<=6) (hc:Cur w b a len cap) :
 Calls Try.prog 26 #[.pointer (some ⟨b,0,none⟩),.int .i64 (n:Int)] w fun e w'=>(∃ S:ByteArray,e=.returned (tv (n:Int) S)/\1<=S.size/\S.size<=64)/\Cur w' b a len cap/\Only b w w':=by
 have HLO:Hid (Low a len w.heap.size):=low_of hc.bytes
 have hbl:b < w.heap.size:=hc.lt
 have HPW:Hid (∀ W,Calls Try.prog 51 #[.int .i64 (n:Int)] W fun e w'=>e=.returned (.int .i64 ((2 ^ n:Nat):Int))/\w'=W):=fun W=>sPow n W (by omega)
 have hp:1<=2 ^ n:=Nat.one_le_two_pow
 have hl:2 ^ n<=64:=Nat.pow_le_pow_right (n:=2) (by omega) hn
 generalize 2 ^ n=P at *
 have HD0:Hid (DT w b a len cap (.slice (some ⟨w.heap.size+1,0,none⟩) 0 0) 0 ((w.alloc (.cells #[.int .i64 0,.string ByteArray.empty] 26)).alloc (.cells #[] 5))):=by
  have h1:=Owu.lit (w.alloc (.cells #[.int .i64 0,.string ByteArray.empty] 26)) (w.heap.size+1) (by simp)
  refine ⟨(hc.alloc _).alloc _,(Lay.made _ _ _ _).alloc _,⟨[],rfl,by simpa using h1⟩,by simp,((Only.refl _ _).alloc _).alloc _⟩
 clear hc
 go_enter Try.func26,Try.ntmps26
 go_wp2_with fail
 refine (Dr1.below _ b a len cap 4 (by omega) (by omega) HD0.out.cur).mono ?_
 rintro e w1 ⟨⟨wy,rfl,hy0,hy1⟩,hc1,ho1⟩
 have HD1:Hid (DT w b a len cap (.slice (some ⟨w.heap.size+1,0,none⟩) 0 0) 0 w1):=HD0.out.only hbl hc1 ho1
 clear hc1 ho1
 go_wp2_with fail
 go_loopw [5,7] (fun v i wr=>∃ k:Nat,k<=P/\i=.int .i64 k/\DT w b a len cap v k wr) (fun _ i _=>P - (intOf i).toNat)
 case atStart=>exact ⟨0,Nat.zero_le _,rfl,HD1.out⟩
 case round =>
  obtain ⟨k,hk,rfl,hdt⟩:=hrel
  have HD:Hid (DT w b a len cap u5 k wr):=hdt
  clear hdt
  by_cases hlt:k < P
  ·have hkz:(k:Int) < (P:Int):=by omega
   go_wp2_with (go_at_call 51;refine (HPW.out _).mono ?_;rintro e w' ⟨rfl,hw'⟩;have hw2:=hw'.symm;clear hw';subst hw2)
   refine (Dr1.below _ b a len cap 2 (by omega) (by omega) HD.out.cur).mono ?_
   rintro e w2 ⟨⟨x,rfl,hx0,hx1⟩,hc2,ho2⟩
   have HD2:Hid (DT w b a len cap u5 k w2):=HD.out.only hbl hc2 ho2
   clear hc2 ho2
   by_cases h0:wy=0
   ·have hw0:(wy==0)=true:=by rw [h0];rfl
    clear h0
    rcases (by omega:(k:Int) / 2 % 2=0\/(k:Int) / 2 % 2=1) with hx|hx
    ·have hx9:(48:Int)+(k:Int) / 2 % 2=48:=by omega
     obtain ⟨l,hll,hol⟩:=HD2.out.own
     have HLL:Hid (l.length=k):=hll
     have HO:Hid (Owu w2 (w.heap.size+1) u5 l):=hol
     have hsz:=HD2.out.siz
     clear hll hol
     go_wp2_with (at_builtin;go_must (refine app_byte _ rfl _ _ rfl (w.heap.size+1) u5 l (sgn _) _ (by first|exact show (49:Int)=((sgn true).toNat:Int) from rfl|exact show (48:Int)=((sgn false).toNat:Int) from rfl) rfl rfl HO.out hsz (by rw [HLL.out];omega) ?_;intro g5 cp5 w5 ho5 hk5 hg5;have HD5:Hid (DT w b a len cap (.slice (some ⟨g5,0,none⟩) (l.length+1) cp5) (k+1) w5):=HD2.out.next hbl HLO.out hk5 (by rw [List.length_append,HLL.out];rfl) ho5;clear ho5 hk5 hg5))
     go_roundw
     case rel=>exact ⟨k+1,by omega,by go_num,HD5.out⟩
     case measure=>simp [intOf];omega
    ·have hx9:(48:Int)+(k:Int) / 2 % 2=49:=by omega
     obtain ⟨l,hll,hol⟩:=HD2.out.own
     have HLL:Hid (l.length=k):=hll
     have HO:Hid (Owu w2 (w.heap.size+1) u5 l):=hol
     have hsz:=HD2.out.siz
     clear hll hol
     go_wp2_with (at_builtin;go_must (refine app_byte _ rfl _ _ rfl (w.heap.size+1) u5 l (sgn _) _ (by first|exact show (49:Int)=((sgn true).toNat:Int) from rfl|exact show (48:Int)=((sgn false).toNat:Int) from rfl) rfl rfl HO.out hsz (by rw [HLL.out];omega) ?_;intro g5 cp5 w5 ho5 hk5 hg5;have HD5:Hid (DT w b a len cap (.slice (some ⟨g5,0,none⟩) (l.length+1) cp5) (k+1) w5):=HD2.out.next hbl HLO.out hk5 (by rw [List.length_append,HLL.out];rfl) ho5;clear ho5 hk5 hg5))
     go_roundw
     case rel=>exact ⟨k+1,by omega,by go_num,HD5.out⟩
     case measure=>simp [intOf];omega
   ·have hw0:(wy==0)=false:=beq_eq_false_iff_ne.2 h0
    by_cases h1:wy=1
    ·have hw1:(wy==1)=true:=by rw [h1];rfl
     clear h0 h1
     rcases (by omega:x=0\/x=1) with rfl|rfl
     all_goals
      go_wp2_with fail
      refine (Dr1.once _ b a len cap 2 (by omega) (by omega) HD2.out.cur).mono ?_
      rintro e w3 ⟨⟨z,rfl⟩,hc3,ho3⟩
      have HD3:Hid (DT w b a len cap u5 k w3):=HD2.out.only hbl hc3 ho3
      clear hc3 ho3
      cases z
      all_goals
       obtain ⟨l,hll,hol⟩:=HD3.out.own
       have HLL:Hid (l.length=k):=hll
       have HO:Hid (Owu w3 (w.heap.size+1) u5 l):=hol
       have hsz:=HD3.out.siz
       clear hll hol
       go_wp2_with (at_builtin;go_must (refine app_byte _ rfl _ _ rfl (w.heap.size+1) u5 l (sgn _) _ (by first|exact show (49:Int)=((sgn true).toNat:Int) from rfl|exact show (48:Int)=((sgn false).toNat:Int) from rfl) rfl rfl HO.out hsz (by rw [HLL.out];omega) ?_;intro g5 cp5 w5 ho5 hk5 hg5;have HD5:Hid (DT w b a len cap (.slice (some ⟨g5,0,none⟩) (l.length+1) cp5) (k+1) w5):=HD3.out.next hbl HLO.out hk5 (by rw [List.length_append,HLL.out];rfl) ho5;clear ho5 hk5 hg5))
       go_roundw
       case rel=>exact ⟨k+1,by omega,by go_num,HD5.out⟩
       case measure=>simp [intOf];omega
    ·have hw1:(wy==1)=false:=beq_eq_false_iff_ne.2 h1
     clear h0 h1
     rcases (by omega:x=0\/x=1) with rfl|rfl
     all_goals
      obtain ⟨l,hll,hol⟩:=HD2.out.own
      have HLL:Hid (l.length=k):=hll
      have HO:Hid (Owu w2 (w.heap.size+1) u5 l):=hol
      have hsz:=HD2.out.siz
      clear hll hol
      go_wp2_with (at_builtin;go_must (refine app_byte _ rfl _ _ rfl (w.heap.size+1) u5 l (sgn _) _ (by first|exact show (49:Int)=((sgn true).toNat:Int) from rfl|exact show (48:Int)=((sgn false).toNat:Int) from rfl) rfl rfl HO.out hsz (by rw [HLL.out];omega) ?_;intro g5 cp5 w5 ho5 hk5 hg5;have HD5:Hid (DT w b a len cap (.slice (some ⟨g5,0,none⟩) (l.length+1) cp5) (k+1) w5):=HD2.out.next hbl HLO.out hk5 (by rw [List.length_append,HLL.out];rfl) ho5;clear ho5 hk5 hg5))
      go_roundw
      case rel=>exact ⟨k+1,by omega,by go_num,HD5.out⟩
      case measure=>simp [intOf];omega
  ·have hkP:k=P:=by omega
   have HDP:Hid (DT w b a len cap u5 P wr):=by have h:=HD.out;rw [hkP] at h;exact h
   have hkz:¬ (k:Int) < (P:Int):=by omega
   clear hkP HD
   go_wp2_with (go_at_call 51;refine (HPW.out _).mono ?_;rintro e w' ⟨rfl,hw'⟩;have hw2:=hw'.symm;clear hw';subst hw2)
   refine (Dr1.once _ b a len cap 8 (by omega) (by omega) HDP.out.cur).mono ?_
   rintro e w3 ⟨⟨z,rfl⟩,hc3,ho3⟩
   have HD3:Hid (DT w b a len cap u5 P w3):=HDP.out.only hbl hc3 ho3
   clear hc3 ho3
   obtain ⟨l,hll,hol⟩:=HD3.out.own
   obtain ⟨g,c,hv,hgB,hgl⟩:=hol.at (by omega)
   subst hll
   subst hv
   clear hol
   cases z
   ·obtain ⟨l3,hl3,ho3⟩:=HD3.out.own
    have hcv:=ho3.text (by omega)
    obtain ⟨r0,r1,r2,r3⟩:=HD3.out.res
    have HS3:Hid (1<=(bs l3).size/\(bs l3).size<=64):=by show _/\_;rw [bs_size];omega
    have HC3:Hid (Cur w3 b a len cap):=HD3.out.cur
    have HON:Hid (Only b w w3):=HD3.out.onl
    have HL3:Hid (Lay w3 w.heap.size (.int .i64 0) (.string ByteArray.empty)):=HD3.out.res
    generalize bs l3=RS at *
    clear ho3
    go_wp2
    have K:Kept (fun x=>x=w.heap.size) w3 ((w3.setCell ⟨w.heap.size,0,none⟩ (.int .i64 (n:Int))).setCell ⟨w.heap.size,1,none⟩ (.string RS)):=kset (S:=fun x=>x=w.heap.size) (kset (S:=fun x=>x=w.heap.size) (Kept.refl (fun x=>x=w.heap.size) w3) rfl _) rfl _
    have hz:=HL3.out.put (.int .i64 (n:Int)) (.string RS)
    have hcc:=cur_kept HC3.out K (by omega) (HLO.out.imp id fun h x hx=>by have:=h x hx;omega)
    have hoo:Only b w ((w3.setCell ⟨w.heap.size,0,none⟩ (.int .i64 (n:Int))).setCell ⟨w.heap.size,1,none⟩ (.string RS)):=⟨K.os.trans HON.out.os,K.tape.trans HON.out.tape,K.output.trans HON.out.output,Nat.le_trans HON.out.size K.size,fun i hi hb=>(K.block i (Nat.lt_of_lt_of_le hi HON.out.size) (by omega)).trans (HON.out.block i hi hb)⟩
    obtain ⟨z0,z1,_,_⟩:=hz
    generalize (w3.setCell ⟨w.heap.size,0,none⟩ (.int .i64 (n:Int))).setCell ⟨w.heap.size,1,none⟩ (.string RS)=WF at *
    exact bodyPost_ret (v:=tv (n:Int) RS) (by simp [results,Try.results26,go_sem,z0,z1]) rfl ⟨⟨RS,rfl,HS3.out⟩,hcc,hoo⟩
   ·go_wp2_with fail
    go_loopw [9] (fun i wq=>∃ j:Nat,j<=l.length/\i=.int .i64 j/\DT w b a len cap (.slice (some ⟨g,0,none⟩) l.length c) l.length wq) (fun i _=>l.length - (intOf i).toNat)
    case atStart=>exact ⟨0,Nat.zero_le _,rfl,HD3.out⟩
    case round =>
     obtain ⟨j,hj,rfl,hdq⟩:=hrel
     have HQ:Hid (DT w b a len cap (.slice (some ⟨g,0,none⟩) l.length c) l.length wr):=hdq
     clear hdq
     by_cases hjl:j < l.length
     ·have hjz:(j:Int) < (l.length:Int):=by omega
      obtain ⟨l2,hl2,ho2⟩:=HQ.out.own
      obtain ⟨v0,v1⟩:=ho2.cell' hl2 j hjl
      have HW2:Hid (DT w b a len cap (.slice (some ⟨g,0,none⟩) l.length c) l.length (wr.setCell ⟨g,j,none⟩ (.int .u8 49))) :=
       HQ.out.next hbl HLO.out (kset (S:=fun x=>(Value.slice (some ⟨g,0,none⟩) l.length c).ownBlock=some x) (Kept.refl _ wr) (by simp [Value.ownBlock]) _) (by rw [List.length_set];exact hl2) (ho2.set' hl2 j 49)
      clear ho2
      go_wp2
      go_roundw
      case rel=>exact ⟨j+1,by omega,by go_num,HW2.out⟩
      case measure=>simp [intOf];omega
     ·have hjz:¬ (j:Int) < (l.length:Int):=by omega
      obtain ⟨l3,hl3,ho3⟩:=HQ.out.own
      have hcv:=ho3.text (by omega)
      obtain ⟨r0,r1,r2,r3⟩:=HQ.out.res
      have HS3:Hid (1<=(bs l3).size/\(bs l3).size<=64):=by show _/\_;rw [bs_size];omega
      have HC3:Hid (Cur wr b a len cap):=HQ.out.cur
      have HON:Hid (Only b w wr):=HQ.out.onl
      have HL3:Hid (Lay wr w.heap.size (.int .i64 0) (.string ByteArray.empty)):=HQ.out.res
      generalize bs l3=RS at *
      clear ho3
      go_wp2
      have K:Kept (fun x=>x=w.heap.size) wr ((wr.setCell ⟨w.heap.size,0,none⟩ (.int .i64 (n:Int))).setCell ⟨w.heap.size,1,none⟩ (.string RS)):=kset (S:=fun x=>x=w.heap.size) (kset (S:=fun x=>x=w.heap.size) (Kept.refl (fun x=>x=w.heap.size) wr) rfl _) rfl _
      have hz:=HL3.out.put (.int .i64 (n:Int)) (.string RS)
      have hcc:=cur_kept HC3.out K (by omega) (HLO.out.imp id fun h x hx=>by have:=h x hx;omega)
      have hoo:Only b w ((wr.setCell ⟨w.heap.size,0,none⟩ (.int .i64 (n:Int))).setCell ⟨w.heap.size,1,none⟩ (.string RS)):=⟨K.os.trans HON.out.os,K.tape.trans HON.out.tape,K.output.trans HON.out.output,Nat.le_trans HON.out.size K.size,fun i hi hb=>(K.block i (Nat.lt_of_lt_of_le hi HON.out.size) (by omega)).trans (HON.out.block i hi hb)⟩
      obtain ⟨z0,z1,_,_⟩:=hz
      generalize (wr.setCell ⟨w.heap.size,0,none⟩ (.int .i64 (n:Int))).setCell ⟨w.heap.size,1,none⟩ (.string RS)=WF at *
      exact bodyPost_ret (v:=tv (n:Int) RS) (by simp [results,Try.results26,go_sem,z0,z1]) rfl ⟨⟨RS,rfl,HS3.out⟩,hcc,hoo⟩
end Tdr
namespace Tds
open Go.RowKit
open Ta0 Ta1 Tc2 Tc5 Td1 Td2 Tdr
open Nd0 (Kept set_same)
open Dr0 (Cur Only Bytes)
/-- What stands while any table is drawn. -/
structure DA (w:World) (b:Nat) (a:Option Addr) (len cap q:Nat) (N:Int) (S:ByteArray) (W:World):Prop where
 cur:Cur W b a len cap
 res:Lay W w.heap.size (.int .i64 0) (.string ByteArray.empty)
 box:Lay W q (.int .i64 N) (.string S)
 onl:Only b w W
theorem DA.only {w W W':World} {b:Nat} {a:Option Addr} {len cap q:Nat} {N:Int} {S:ByteArray} (h:DA w b a len cap q N S W) (hb:b < w.heap.size) (hq:w.heap.size < q) (hc:Cur W' b a len cap) (ho:Only b W W'):DA w b a len cap q N S W' :=
 ⟨hc,h.res.kept (kept_of_only ho) (by omega),h.box.kept (kept_of_only ho) (by omega),h.onl.trans ho⟩
theorem only_set {b z o:Nat} {u W:World} (h:Only b u W) (hz:u.heap.size<=z) (x:Value):Only b u (W.setCell ⟨z,o,none⟩ x):=by
 have K:=kset (S:=fun k=>k=z) (Kept.refl (fun k=>k=z) W) (b:=z) (o:=o) rfl x
 exact ⟨K.os.trans h.os,K.tape.trans h.tape,K.output.trans h.output,Nat.le_trans h.size K.size,fun i hi hb=>(K.block i (Nat.lt_of_lt_of_le hi h.size) (by omega)).trans (h.block i hi hb)⟩
theorem cur_set {b z o:Nat} {W:World} {a:Option Addr} {len cap B:Nat} (h:Cur W b a len cap) (hb:b < B) (hlo:Low a len B) (hz:B<=z) (x:Value):Cur (W.setCell ⟨z,o,none⟩ x) b a len cap:=by
 have K:=kset (S:=fun k=>k=z) (Kept.refl (fun k=>k=z) W) (b:=z) (o:=o) rfl x
 exact cur_kept h K (by omega) (hlo.imp id fun h x hx=>by have:=h x hx;omega)
theorem DA.setN {w W:World} {b:Nat} {a:Option Addr} {len cap q:Nat} {N:Int} {S:ByteArray} (h:DA w b a len cap q N S W) (hb:b < w.heap.size) (hlo:Low a len w.heap.size) (hq:w.heap.size < q) (x:Int):DA w b a len cap q x S (W.setCell ⟨q,0,none⟩ (.int .i64 x)):=by
 have K:=kset (S:=fun k=>k=q) (Kept.refl (fun k=>k=q) W) (b:=q) (o:=0) rfl (.int .i64 x)
 exact ⟨cur_set h.cur hb hlo (by omega) _,h.res.kept K (by omega),⟨set_same h.box.c0,by rw [Nd0.set_other (by simp)];exact h.box.c1,by rw [World.frozen?_setCell];exact h.box.f0,by rw [World.frozen?_setCell];exact h.box.f1⟩,only_set h.onl (by omega) _⟩
theorem DA.setS {w W:World} {b:Nat} {a:Option Addr} {len cap q:Nat} {N:Int} {S:ByteArray} (h:DA w b a len cap q N S W) (hb:b < w.heap.size) (hlo:Low a len w.heap.size) (hq:w.heap.size < q) (T:ByteArray):DA w b a len cap q N T (W.setCell ⟨q,1,none⟩ (.string T)):=by
 have K:=kset (S:=fun k=>k=q) (Kept.refl (fun k=>k=q) W) (b:=q) (o:=1) rfl (.string T)
 exact ⟨cur_set h.cur hb hlo (by omega) _,h.res.kept K (by omega),⟨by rw [Nd0.set_other (by simp)];exact h.box.c0,set_same h.box.c1,by rw [World.frozen?_setCell];exact h.box.f0,by rw [World.frozen?_setCell];exact h.box.f1⟩,only_set h.onl (by omega) _⟩
theorem l06Any (w:World) (b:Nat) (a:Option Addr) (len cap:Nat) (hc:Cur w b a len cap) :
 Calls Try.prog 71 #[.pointer (some ⟨b,0,none⟩)] w fun e w'=>(∃ (N:Int) (S:ByteArray),e=.returned (tv N S)/\S.size<=64)/\Cur w' b a len cap/\Only b w w':=by
 have HLO:Hid (Low a len w.heap.size):=low_of hc.bytes
 have hbl:b < w.heap.size:=hc.lt
 have HC0:Hid (Cur (w.alloc (.cells #[.int .i64 0,.string ByteArray.empty] 26)) b a len cap):=hc.alloc _
 have HR0:Hid (Lay (w.alloc (.cells #[.int .i64 0,.string ByteArray.empty] 26)) w.heap.size (.int .i64 0) (.string ByteArray.empty)):=Lay.made _ _ _ _
 have HO0:Hid (Only b w (w.alloc (.cells #[.int .i64 0,.string ByteArray.empty] 26))):=(Only.refl _ _).alloc _
 clear hc
 go_enter Try.func71,Try.ntmps71
 go_wp2_with fail
 refine (Dr1.below _ b a len cap 6 (by omega) (by omega) HC0.out).mono ?_
 rintro e w1 ⟨⟨x,rfl,hx0,hx1⟩,hc1,ho1⟩
 obtain ⟨n,rfl⟩:=Int.eq_ofNat_of_zero_le hx0
 have HC1:Hid (Cur w1 b a len cap):=hc1
 have HR1:Hid (Lay w1 w.heap.size (.int .i64 0) (.string ByteArray.empty)):=HR0.out.kept (kept_of_only ho1) (by omega)
 have HO1:Hid (Only b w w1):=HO0.out.trans ho1
 clear hc1 ho1
 go_wp2_with fail
 refine (l06Table _ b a len cap n (by omega) HC1.out).mono ?_
 rintro e w2 ⟨⟨S,rfl,hS1,hS2⟩,hc2,ho2⟩
 have HD2:Hid (DA w b a len cap w2.heap.size (n:Int) S (w2.alloc (.cells #[.int .i64 (n:Int),.string S] 26))) :=
  ⟨hc2.alloc _,(HR1.out.kept (kept_of_only ho2) (by omega)).alloc _,Lay.made _ _ _ _,(HO1.out.trans ho2).alloc _⟩
 have hq:w.heap.size < w2.heap.size:=(HR1.out.kept (kept_of_only ho2) (by omega)).lt
 clear hc2 ho2
 go_wp2_with fail
 refine (Dr1.below _ b a len cap 14 (by omega) (by omega) HD2.out.cur).mono ?_
 rintro e w3 ⟨⟨y,rfl,hy0,hy1⟩,hc3,ho3⟩
 have HD3:Hid (DA w b a len cap w2.heap.size (n:Int) S w3):=HD2.out.only hbl hq hc3 ho3
 clear hc3 ho3
 have hFIN:Hid (∀ (N:Int) (T:ByteArray) (W:World),DA w b a len cap w2.heap.size N T W->∃ W',W'=(W.setCell ⟨w.heap.size,0,none⟩ (.int .i64 N)).setCell ⟨w.heap.size,1,none⟩ (.string T)/\Lay W' w.heap.size (.int .i64 N) (.string T)/\Cur W' b a len cap/\Only b w W'):=fun N T W h =>
  ⟨_,rfl,h.res.put _ _,cur_set (cur_set h.cur hbl HLO.out (Nat.le_refl _) _) hbl HLO.out (Nat.le_refl _) _,only_set (only_set h.onl (Nat.le_refl _) _) (Nat.le_refl _) _⟩
 by_cases h0:y=0
 ·have hw0:(y==0)=true:=by rw [h0];rfl
  clear h0
  obtain ⟨x0,x1,x2,x3⟩:=HD3.out.box
  go_wp2_with fail
  refine (Dr4.pickNew w3 b a len cap _ _ 3 (by omega) (by omega) (fun i hi=>by
   rcases (by omega:i=0\/i=1\/i=2) with rfl|rfl|rfl
   ·exact ⟨_,rfl⟩
   ·exact ⟨_,rfl⟩
   ·exact ⟨_,rfl⟩) HD3.out.cur).mono ?_
  rintro e w4 ⟨⟨x,rfl⟩,hc4,ho4⟩
  have HD4:Hid (DA w b a len cap w2.heap.size (n:Int) S w4):=HD3.out.only hbl hq hc4 ho4
  clear hc4 ho4 x0 x1 x2 x3
  obtain ⟨x0,x1,x2,x3⟩:=HD4.out.box
  have HD5:=HD4.out.setN hbl HLO.out hq x
  have HD6:Hid _:=HD5
  clear HD5
  obtain ⟨y0,y1,_,_⟩:=HD6.out.box
  obtain ⟨r0,r1,r2,r3⟩:=HD6.out.res
  go_wp2
  obtain ⟨W,hW,hz,hcw,how⟩:=hFIN.out _ _ _ HD6.out
  rw [<- hW]
  obtain ⟨z0,z1,_,_⟩:=hz
  exact bodyPost_ret (v:=tv x S) (by simp [results,Try.results71,go_sem,z0,z1]) rfl ⟨⟨x,S,rfl,hS2⟩,hcw,how⟩
 ·have hw0:(y==0)=false:=beq_eq_false_iff_ne.2 h0
  clear h0
  obtain ⟨x0,x1,x2,x3⟩:=HD3.out.box
  obtain ⟨r0,r1,r2,r3⟩:=HD3.out.res
  by_cases h1:y=1
  ·have hw1:(y==1)=true:=by rw [h1];rfl
   clear h1
   have hSz:(1:Int)<=(S.size:Int):=by omega
   have HD5:Hid (DA w b a len cap w2.heap.size (n:Int) (S.extract 1 S.size++⟨#[50]⟩) (w3.setCell ⟨w2.heap.size,1,none⟩ (.string (S.extract 1 S.size++⟨#[50]⟩)))):=HD3.out.setS hbl HLO.out hq _
   obtain ⟨y0,y1,_,_⟩:=HD5.out.box
   obtain ⟨s0,s1,s2,s3⟩:=HD5.out.res
   have HZ:Hid ((S.extract 1 S.size++⟨#[50]⟩).size<=64):=by
    show _<=_
    have h2:(S.extract 1 S.size).size=S.size - 1:=by rw [ByteArray.size_extract];omega
    rw [ByteArray.size_append,h2]
    show S.size - 1+1<=64
    omega
   go_wp2
   obtain ⟨W,hW,hz,hcw,how⟩:=hFIN.out _ _ _ HD5.out
   rw [<- hW]
   obtain ⟨z0,z1,_,_⟩:=hz
   exact bodyPost_ret (v:=tv (n:Int) (S.extract 1 S.size++⟨#[50]⟩)) (by simp [results,Try.results71,go_sem,z0,z1]) rfl ⟨⟨_,_,rfl,HZ.out⟩,hcw,how⟩
  ·have hw1:(y==1)=false:=beq_eq_false_iff_ne.2 h1
   clear h1
   go_wp2
   obtain ⟨W,hW,hz,hcw,how⟩:=hFIN.out _ _ _ HD3.out
   rw [<- hW]
   obtain ⟨z0,z1,_,_⟩:=hz
   exact bodyPost_ret (v:=tv (n:Int) S) (by simp [results,Try.results71,go_sem,z0,z1]) rfl ⟨⟨(n:Int),S,rfl,hS2⟩,hcw,how⟩
end Tds
namespace Wt2
open Go.RowKit
open Ta0 Ta1 Tc2 Tc5 Tdw Ap1 Ddr
open Nd0 (Kept set_same set_other lt_of_cell)
open Nd0 (Ints)
open Nd6 (Bools)
open Dr0 (Cur Only Bytes)
open Ss0 (bs bs_size)
open Td2 (finT)
open Wr5 (step_call)
set_option linter.unusedSimpArgs false
theorem sMod (x n:Int) (w:World) (h0:1<=n) (h1:n<=1000) :
 Calls Try.prog 72 #[.int .i64 x,.int .i64 n] w fun e w'=>(∃ y:Nat,e=.returned (.int .i64 (y:Int))/\(y:Int) < n)/\w'=w:=by
 have hn0:(n==0)=false:=beq_eq_false_iff_ne.2 (by omega)
 have hm1:IntKind.i64.wrap (x.tmod n)=x.tmod n:=by
  have h2:=Int.tmod_lt_of_pos x (show 0 < n by omega)
  have h3 : -n < x.tmod n:=Int.lt_tmod_of_pos x (by omega)
  rw [IntKind.wrap_i64]<;>omega
 have h2:=Int.tmod_lt_of_pos x (show 0 < n by omega)
 have h3 : -n < x.tmod n:=Int.lt_tmod_of_pos x (by omega)
 by_cases hneg:x.tmod n < 0
 ·go_enter Try.func72,Try.ntmps72
  go_wp2
  go_ret
  exact ⟨⟨(x.tmod n+n).toNat,congrArg Ending.returned (congrArg (Value.int .i64) (by omega)),by omega⟩,rfl⟩
 ·go_enter Try.func72,Try.ntmps72
  go_wp2
  go_ret
  exact ⟨⟨(x.tmod n).toNat,congrArg Ending.returned (congrArg (Value.int .i64) (by omega)),by omega⟩,rfl⟩
/-- A row and any table are given back. -/
def AnyD (w:World) (e:Ending) (w':World):Prop:=(∃ (N:Int) (S:ByteArray) (row:List Bool) (ra:Option Addr) (c:Nat),S.size<=64/\row.length<=20/\row.length<=c/\e=.returned (.tuple #[.slice ra row.length c,tv N S])/\Bools w' ra row/\∀ x,ra=some x->0 < row.length->w.heap.size < x.block)/\Below w.heap.size w w'
theorem drawAny (w:World) (a:Option Addr) (len cap:Nat) (hb:Bytes w a len) :
 Calls Try.prog 40 #[.slice a len cap] w (AnyD w):=by
 have HB0:Hid (Bytes (w.alloc (.cells #[.int .i64 0,.string ByteArray.empty] 26)) a len):=hb.below ((Below.refl _ _).alloc (Nat.le_refl _) _)
 clear hb
 go_enter Try.func40,Try.ntmps40
 go_wp2_with fail
 refine (Dr4.new _ a len cap HB0.out).mono ?_
 rintro e w1 ⟨rfl,hc1,hb1⟩
 have HR1:Hid (Lay w1 w.heap.size (.int .i64 0) (.string ByteArray.empty)):=(Lay.made w _ _ _).below hb1
 have HB1:Hid (Below w.heap.size w w1):=((Below.refl _ _).alloc (Nat.le_refl _) _).trans (hb1.mono (by simp))
 have hc1':Cur w1 (w.heap.size+1) a len cap:=by simpa using hc1
 have HC1:Hid (Cur w1 (w.heap.size+1) a len cap):=hc1'
 clear hb1 hc1 hc1'
 go_wp2_with fail
 refine (Tds.l06Any _ (w.heap.size+1) a len cap HC1.out).mono ?_
 rintro e w2 ⟨⟨N,S,rfl,hS⟩,hc2,ho2⟩
 obtain ⟨w3,hw3⟩:∃ z,z=w2.alloc (.cells #[.int .i64 N,.string S] 26):=⟨_,rfl⟩
 obtain ⟨qt,hqt⟩:∃ z,z=w2.heap.size:=⟨_,rfl⟩
 have hb3:Below w2.heap.size w2 w3:=by rw [hw3];exact (Below.refl _ _).alloc (Nat.le_refl _) _
 have HT3:Hid (Lay w3 qt (.int .i64 N) (.string S)):=by rw [hw3,hqt];exact Lay.made _ _ _ _
 have HQ3:Hid (w.heap.size+1 < qt):=by rw [hqt];exact hc2.lt
 have HC3:Hid (Cur w3 (w.heap.size+1) a len cap):=by rw [hw3];exact hc2.alloc _
 have HR3:Hid (Lay w3 w.heap.size (.int .i64 0) (.string ByteArray.empty)):=(HR1.out.kept (kept_of_only ho2) (by omega)).below hb3
 have HB3:Hid (Below w.heap.size w w3):=(HB1.out.trans (ho2.below (by omega) HB1.out.size)).trans (hb3.mono (Nat.le_trans HB1.out.size ho2.size))
 go_upto_region 3 with fail
 rw [<- hw3,<- hqt]
 clear hw3 hqt hb3 hc2 ho2 HC1 HR1 HB1
 obtain ⟨t0,t1,_,_⟩:=HT3.out
 have tl:=lt_of_cell t0
 go_wp2_with fail
 clear t0 t1 tl
 refine (sMod N 14 w3 (by omega) (by omega)).mono ?_
 rintro e w' ⟨⟨y,rfl,hy⟩,hq⟩
 have hq':=hq.symm
 clear hq
 subst hq'
 go_wp2_with fail
 refine (Dr1.once _ (w.heap.size+1) a len cap 15 (by omega) (by omega) HC3.out).mono ?_
 rintro e w4 ⟨⟨z,rfl⟩,hc4,ho4⟩
 have HC4:Hid (Cur w4 (w.heap.size+1) a len cap):=hc4
 have HT4:Hid (Lay w4 qt (.int .i64 N) (.string S)):=HT3.out.kept (kept_of_only ho4) (by have:=HQ3.out;omega)
 have HR4:Hid (Lay w4 w.heap.size (.int .i64 0) (.string ByteArray.empty)):=HR3.out.kept (kept_of_only ho4) (by omega)
 have HB4:Hid (Below w.heap.size w w4):=HB3.out.trans (ho4.below (by omega) HB3.out.size)
 clear hc4 ho4 HC3 HT3 HR3 HB3
 have FIN:Hid (∀ m:Nat,m<=20->Calls Try.prog 25 #[.pointer (some ⟨w.heap.size+1,0,none⟩),.int .i64 (m:Int)] w4.drew fun e w'=>∃ v,e=.returned v/\DB w4.drew (w.heap.size+1) a len cap v m w'):=fun m hm=>l08Row _ (w.heap.size+1) a len cap m (by omega) HC4.out.drew
 have HT4D:Hid (Lay w4.drew qt (.int .i64 N) (.string S)):=HT4.out.below (Below.refl _ _).drew
 have HR4D:Hid (Lay w4.drew w.heap.size (.int .i64 0) (.string ByteArray.empty)):=HR4.out.below (Below.refl _ _).drew
 have HB4D:Hid (Below w.heap.size w w4.drew):=HB4.out.drew
 go_upto_if 15 with fail
 go_cut [6] from 16 to 17 (fun s6 wc=>∃ m:Nat,s6=.int .i64 (m:Int)/\m<=20/\wc=w4)
 case first =>
  cases z
  ·go_wp2_with fail
   go_meet
   case rel=>exact ⟨y,rfl,by omega,rfl⟩
  ·go_wp2_with fail
   go_meet
   case rel=>exact ⟨y+1,rfl,by omega,rfl⟩
 case rest =>
  obtain ⟨m,rfl,hm,rfl⟩:=hcut
  go_upto_region 6 with fail
  refine wp_region_held_drew (S:=fun W=>W.cell? ⟨qt,0,none⟩=some (.int .i64 N)/\W.cell? ⟨qt,1,none⟩=some (.string S)) (by kernel_rfl) (⟨HT4D.out.c0,HT4D.out.c1⟩) (fun hHeld=>?_)
  refine wpAnyH_take (i:=0) (v:=?_) rfl (by kernel_rfl) (by kernel_rfl) (by kernel_rfl) (fun _ _ _ h=>h) (Or.inl ⟨by rfl,?_⟩) hHeld ?_
  rotate_left
  ·intro v9 hS9
   try dsimp only at hS9
   skip
   go_simp
   try with_reducible rfl
  try simp only [Act.put,List.setIfInBounds_toArray,List.set_cons_zero,List.set_cons_succ,List.getElem_toArray,List.getElem_cons_zero]
  refine wpAnyH_take (i:=1) (v:=?_) rfl (by kernel_rfl) (by kernel_rfl) (by kernel_rfl) (fun _ _ _ h=>h) (Or.inl ⟨by rfl,?_⟩) hHeld ?_
  rotate_left
  ·intro v9 hS9
   try dsimp only at hS9
   skip
   go_simp
   try with_reducible rfl
  try simp only [Act.put,List.setIfInBounds_toArray,List.set_cons_zero,List.set_cons_succ,List.getElem_toArray,List.getElem_cons_zero,List.getElem_cons_succ]
  refine wpAnyH_take (i:=3) (v:=?_) rfl (by kernel_rfl) (by kernel_rfl) (by kernel_rfl) (fun _ _ _ h=>h) (Or.inl ⟨by rfl,?_⟩) hHeld ?_
  rotate_left
  ·intro v9 hS9
   try dsimp only at hS9
   obtain ⟨s0,s1⟩:=hS9
   go_simp
   try with_reducible rfl
  try simp only [Act.put,List.setIfInBounds_toArray,List.set_cons_zero,List.set_cons_succ,List.getElem_toArray,List.getElem_cons_zero,List.getElem_cons_succ]
  refine wpAnyH_ready (rs:=[2]) (by kernel_rfl) (by simp) ?_
  refine (AllReadyH.cons rfl (fun K hK=>?_) AllReadyH.nil)
  refine step_call (f:=25) (args := #[.pointer (some ⟨w.heap.size+1,0,none⟩),.int .i64 (m:Int)]) rfl (by go_simp) ?_
  refine (FIN.out m hm).mono ?_
  rintro e w5 ⟨v,rfl,hd⟩
  have HT5:Hid (Lay w5 qt (.int .i64 N) (.string S)):=HT4D.out.kept (kept_of_only hd.onl) (by have:=HQ3.out;omega)
  have HR5:Hid (Lay w5 w.heap.size (.int .i64 0) (.string ByteArray.empty)):=HR4D.out.kept (kept_of_only hd.onl) (by omega)
  have HB5:Hid (Below w.heap.size w w5):=HB4D.out.trans (hd.onl.below (by omega) HB4D.out.size)
  obtain ⟨row,hrl,hor⟩:=hd.own
  obtain ⟨ra,c,hv,hcp,hwb⟩:=owb_cap hor
  subst hv
  have HWB:Hid (Bools w5 ra row/\(∀ x,ra=some x->0 < row.length->w.heap.size < x.block)):=by
   refine ⟨Nd6.WBools.plain hwb,fun x hx h0=>?_⟩
   rcases hwb.2 with e|⟨y,o,e,hB,hc⟩
   ·omega
   ·rw [hx] at e
    cases e
    have:=HR4D.out.lt
    show w.heap.size < y
    omega
  have HRL:Hid (row.length<=c/\row.length<=20):=⟨hcp,by omega⟩
  clear hd hor hwb hcp hrl
  obtain ⟨r0,r1,r2,r3⟩:=HR5.out
  have rl:=lt_of_cell r0
  have HFN:Hid _:=finT HR5.out HB5.out (Nat.le_refl _) (.int .i64 N) (.string S)
  have HK:Hid (Kept (fun b=>b=w.heap.size) w5 ((w5.setCell ⟨w.heap.size,0,none⟩ (.int .i64 N)).setCell ⟨w.heap.size,1,none⟩ (.string S))):=kset (S:=fun b=>b=w.heap.size) (kset (S:=fun b=>b=w.heap.size) (Kept.refl (fun b=>b=w.heap.size) w5) rfl _) rfl _
  refine ⟨_,rfl,?_⟩
  refine hK.out _ _ (⟨HT5.out.c0,HT5.out.c1⟩) (fun hNext=>?_)
  clear hK K hHeld
  have hHeld:=hNext
  clear hNext
  try simp only [Act.put,List.setIfInBounds_toArray,List.set_cons_zero,List.set_cons_succ,List.getElem_toArray,List.getElem_cons_zero,List.getElem_cons_succ]
  refine wpAnyH_take (i:=4) (v:=?_) rfl (by kernel_rfl) (by kernel_rfl) (by kernel_rfl) (fun _ _ _ h=>h) (Or.inl ⟨by rfl,?_⟩) hHeld ?_
  rotate_left
  ·intro v9 hS9
   try dsimp only at hS9
   skip
   go_simp
   try with_reducible rfl
  try simp only [Act.put,List.setIfInBounds_toArray,List.set_cons_zero,List.set_cons_succ,List.getElem_toArray,List.getElem_cons_zero,List.getElem_cons_succ]
  refine wpAnyH_ready (rs:=[5]) (by kernel_rfl) (by simp) ?_
  refine (AllReadyH.cons rfl (fun K hK=>?_) AllReadyH.nil)
  go_simp
  have hq9:¬ qt=w.heap.size:=by have:=HQ3.out;omega
  refine hK.out _ _ (⟨(HT5.out.kept HK.out hq9).c0,(HT5.out.kept HK.out hq9).c1⟩) (fun hNext=>?_)
  clear hK K hHeld
  have hHeld:=hNext
  clear hNext
  try simp only [Act.put,List.setIfInBounds_toArray,List.set_cons_zero,List.set_cons_succ,List.getElem_toArray,List.getElem_cons_zero,List.getElem_cons_succ]
  refine wpAnyH_done (by kernel_rfl) ?_ _
  clear hHeld
  go_wp2
  obtain ⟨W,hW,hz,hbz⟩:=HFN.out
  have hK:=HK.out
  rw [<- hW] at hK ⊢
  obtain ⟨z0,z1,_,_⟩:=hz
  refine bodyPost_ret (v:=.tuple #[.slice ra row.length c,tv N S]) (by simp [results,Try.results40,go_sem,z0,z1]) rfl ⟨⟨N,S,row,ra,c,hS,HRL.out.2,HRL.out.1,rfl,?_,HWB.out.2⟩,hbz⟩
  refine ⟨HWB.out.1.1,?_⟩
  rcases HWB.out.1.2 with e|⟨y9,o9,e,hc⟩
  ·exact .inl e
  ·refine .inr ⟨y9,o9,e,fun i hi=>?_⟩
   have hn9:w.heap.size < y9:=HWB.out.2 _ e (by omega)
   have hne:¬ y9=w.heap.size:=by omega
   rw [hK.cell (p:=⟨y9,o9+i,none⟩) (lt_of_cell (hc i hi)) hne]
   exact hc i hi
end Wt2
namespace Wt3
open Go.RowKit
open Tdw
open Nd0 (Kept Ints WInts set_same set_other lt_of_cell)
open Op6 (Pk PkAt Pks)
open Dr0 (Cur Only Bytes)
open Ta2 (bitB)
open Ap0 Wq0 Wr0 Wr1
open Wr5 (step_call)
set_option linter.unusedSimpArgs false
/-- A number that fits. -/
abbrev Wf (x:Int):Prop:=(Lit.int .i64 x).wf=true
/-- A pick whose values lie from the block M on. -/
def PkF (W:World) (M b p:Nat) (k:Pk):Prop:=∃ a c,W.cell? ⟨b,p,none⟩=some (.slice a k.l.length c)/\W.cell? ⟨b,p+1,none⟩=some (.int .i64 k.v)/\Ints W a k.l/\∀ x,a=some x->0 < k.l.length->M<=x.block
def PksF (W:World) (M:Nat) (a:Option Addr) (ps:List Pk):Prop:=ps.length<=maxLen/\∃ b o,a=some ⟨b,o,none⟩/\M<=b/\∀ i (h:i < ps.length),PkF W M b (o+i*2) ps[i]
theorem PksF.kept {W W':World} {M:Nat} {a:Option Addr} {ps:List Pk} (h:PksF W M a ps) {S:Nat->Prop} (k:Kept S W W') (hs:∀ b,M<=b->¬ S b):Pks W' a ps:=by
 obtain ⟨h0,b,o,rfl,hb,hc⟩:=h
 refine ⟨h0,.inr ⟨b,o,rfl,fun i hi=>?_⟩⟩
 obtain ⟨a,c,c0,c1,hI,hf⟩:=hc i hi
 have hl:=lt_of_cell c0
 refine ⟨a,c,by rw [k.cell (p:=⟨b,o+i*2,none⟩) hl (hs b hb)];exact c0,by rw [k.cell (p:=⟨b,o+i*2+1,none⟩) hl (hs b hb)];exact c1,hI.1,?_⟩
 rcases hI.2 with e|⟨y,z,e,hx⟩
 ·exact .inl e
 ·refine .inr ⟨y,z,e,fun j hj=>?_⟩
  rw [k.cell (p:=⟨y,z+j,none⟩) (lt_of_cell (hx j hj)) (hs y (hf _ e (by omega)))]
  exact hx j hj
theorem pks_of {W:World} {M g o:Nat} (hM:M<=g) (m:Nat) (hm:m<=maxLen) (h:∀ j,j < m->∃ k:Pk,PkF W M g (o+j*2) k/\Wf k.v):∃ ps:List Pk,ps.length=m/\PksF W M (some ⟨g,o,none⟩) ps/\∀ p∈ps,Wf p.v:=by
 have key:∀ n,n<=m->∃ ps:List Pk,ps.length=n/\∀ j (hj:j < ps.length),PkF W M g (o+j*2) ps[j]/\Wf ps[j].v:=by
  intro n
  induction n with
  | zero=>exact fun _=>⟨[],rfl,fun j hj=>by cases hj⟩
  | succ n ih =>
    intro hn
    obtain ⟨ps,hl,hp⟩:=ih (by omega)
    obtain ⟨k,hk⟩:=h n (by omega)
    refine ⟨ps++[k],by rw [List.length_append,hl];rfl,fun j hj=>?_⟩
    by_cases e:j < ps.length
    ·rw [List.getElem_append_left e]
     exact hp j e
    ·have e2:j=n:=by rw [List.length_append,List.length_singleton] at hj;omega
     subst e2
     rw [List.getElem_append_right (by omega)]
     simp only [hl,Nat.sub_self,List.getElem_cons_zero]
     exact hk
 obtain ⟨ps,hl,hp⟩:=key m (Nat.le_refl _)
 refine ⟨ps,hl,⟨by omega,g,o,rfl,hM,fun i hi=>(hp i hi).1⟩,fun p hm=>?_⟩
 obtain ⟨j,hj,rfl⟩:=List.getElem_of_mem hm
 exact (hp j hj).2
theorem bit_wf {x:Int} (h:bitB x=true):Wf x:=by
 have h2:x=0\/x=1:=by
  simp [bitB] at h
  omega
 rcases h2 with e|e<;>rw [e]<;>rfl
/-- What is given back: a list that can be read. -/
def Pv (W':World) (M:Nat) (e:Ending):Prop:=∃ (a:Option Addr) (ps:List Pk) (c:Nat),e=.returned (.slice a ps.length c)/\PksF W' M a ps/\∀ p∈ps,Wf p.v
/-- A value of the list is another one. -/
theorem set_val {W:World} {B g cap:Nat} {qs:List Pq} (h:Lq W B g cap qs) (hb:∀ q∈qs,bitB q.v=true) {i:Nat} (hi:i < qs.length) (hl:qs.length<=maxLen) {x:Int} (hx:Wf x):∃ ps:List Pk,ps.length=qs.length/\PksF (W.setCell ⟨g,i*2+1,none⟩ (.int .i64 x)) B (some ⟨g,0,none⟩) ps/\∀ p∈ps,Wf p.v:=by
 have K:Kept (fun b=>b=g) W (W.setCell ⟨g,i*2+1,none⟩ (.int .i64 x)):=(Kept.refl (fun b=>b=g) W).setCell (p:=⟨g,i*2+1,none⟩) rfl _
 refine pks_of h.lt.1 qs.length hl fun j hj=>?_
 have hf:∀ x,qs[j].a=some x->0 < qs[j].l.length->B<=x.block:=fun x hx h0=>(wi_own (h.ins _ (List.getElem_mem hj)) ⟨h0,x,hx,rfl⟩).1
 have h0:=(h.at_ j hj 0 (by omega)).1
 have h1:=(h.at_ j hj 1 (by omega)).1
 have hin:Ints (W.setCell ⟨g,i*2+1,none⟩ (.int .i64 x)) qs[j].a qs[j].l:=(wi_kept (h.ins _ (List.getElem_mem hj)) K fun b hb2 hbg=>h.out _ (List.getElem_mem hj) (by rw [hbg] at hb2;exact hb2)).ints
 rw [Nat.zero_add]
 by_cases e:j=i
 ·subst e
  exact ⟨⟨qs[j].l,x⟩,⟨qs[j].a,qs[j].c,by rw [set_other (by simp)];exact h0,set_same h1,hin,hf⟩,hx⟩
 ·exact ⟨qs[j].pk,⟨qs[j].a,qs[j].c,by rw [set_other (by simp<;>omega)];exact h0,by rw [set_other (by simp<;>omega)];exact h1,hin,hf⟩,bit_wf (hb _ (List.getElem_mem hj))⟩
/-- A row of picks' cells that is one's own; their lists can be read since W0. -/
structure Rq (W0 W:World) (M B g cap:Nat) (qs:List Pq):Prop where
 row:W.ownsRow B 61 2 (.slice (some ⟨g,0,none⟩) qs.length cap) qs.length (flatP qs)
 ins:∀ q∈qs,Ints W0 q.a q.l
 far:∀ q∈qs,∀ x,q.a=some x->0 < q.l.length->M<=x.block
 bits:∀ q∈qs,bitB q.v=true
 bel:Below W0.heap.size W0 W
theorem Rq.pks {W0 W:World} {M B g cap:Nat} {qs:List Pq} (h:Rq W0 W M B g cap qs) (hMB:M<=B) (hl:qs.length<=maxLen):∃ ps:List Pk,ps.length=qs.length/\PksF W M (some ⟨g,0,none⟩) ps/\∀ p∈ps,Wf p.v:=by
 refine pks_of (Nat.le_trans hMB (World.ownsRow.lt h.row g rfl).1) qs.length hl fun j hj=>?_
 rcases h.row.2 with ⟨e,_⟩|⟨g',cap',cur,e,hb,hgg,_,_,hsz,ht⟩
 ·cases e
 ·cases e
  have at_:∀ d,d < 2->W.cell? ⟨g,j*2+d,none⟩=(qs[j].cells)[d]? := fun d hd=>by
   rw [cell_of_row W g (j*2+d) cur _ _ hgg]
   have e2:=flatP_get qs j d hj hd
   rw [<- ht,List.getElem?_take_of_lt (by omega)] at e2
   simpa using e2
  rw [Nat.zero_add]
  exact ⟨qs[j].pk,⟨qs[j].a,qs[j].c,at_ 0 (by omega),at_ 1 (by omega),(h.ins _ (List.getElem_mem hj)).below h.bel,h.far _ (List.getElem_mem hj)⟩,bit_wf (h.bits _ (List.getElem_mem hj))⟩
theorem wp_row {o:Oper} {a:Act} {K:Act->World->Prop} {Q:Exit->Act->World->Prop} (W0 W:World) (s x:Operand)
 (ho:o.op=.call { callee:=.builtin .append,args := #[s,x],argTypes := #[29,29] })
 (M g cap gx ox cx n m:Nat) (xs ys:List Pq) (hn:n=xs.length) (hm:m=ys.length) (hs:a.eval s=.slice (some ⟨g,0,none⟩) n cap) (hx:a.eval x=.slice (some ⟨gx,ox,none⟩) m cx)
 (h1:Rq W0 W M W0.heap.size g cap xs) (hy:∀ j u,(flatP ys)[j]? = some u->W.cell? ⟨gx,ox+j,none⟩=some u) (hyi:∀ q∈ys,Ints W0 q.a q.l) (hyf:∀ q∈ys,∀ x,q.a=some x->0 < q.l.length->M<=x.block) (hyb:∀ q∈ys,bitB q.v=true) (hlen:xs.length+ys.length<=1000000)
 (h:∀ g' cap' w',Rq W0 w' M W0.heap.size g' cap' (xs++ys)->K (a.put o.dst (.slice (some ⟨g',0,none⟩) (xs.length+ys.length) cap')) w') :
 Oper.wp Try.prog o a W K Q:=by
 subst hn hm
 obtain ⟨i,hi,hzz⟩:=Option.map_eq_some_iff.1 infoPk
 simp only [Prod.mk.injEq] at hzz
 obtain ⟨hz,hsz,hb⟩:=hzz
 obtain ⟨v',w',hr,k2,k3,k4,k5⟩:=run_append_own_at (P:=Try.prog) W W0.heap.size 29 o.type 61 i _ 2 32 Try.underlying29 hi hz hsz hb rfl (by omega) _ xs.length (flatP xs) h1.row ⟨gx,ox,none⟩ ys.length cx (flatP ys) (flatP_length ys) (fun j u hu=>by rw [add_at];exact hy j u hu) (fun u hu=>by
  obtain ⟨q,_,hq⟩:=List.mem_flatMap.1 hu
  simp [Pq.cells] at hq
  rcases hq with rfl|rfl<;>rfl) (by unfold maxLen;omega) (by omega) h1.bel.size
 unfold Oper.wp execOp
 simp only [ho,resolve,invoke,builtin,Sem.run_bind,Sem.run_pure,Result.andThen_ok,List.map_toArray,List.map_cons,List.map_nil,hs,hx,hr]
 have hg0:=(World.ownsRow.lt h1.row g rfl).1
 rcases k2.2 with ⟨e,_⟩|⟨g',cap',cur,e,hbg,hgg,rest⟩
 ·rw [e] at k4
  have:=k4.1 rfl
  cases this.1
 ·subst e
  have kk:Kept (fun k=>k=g) W w':=⟨k3.os,k3.tape,k3.output,k3.size,fun k hk hn=>k3.block k hk (fun e=>hn (by cases e;rfl))⟩
  refine h g' cap' w' ⟨by rw [flatP_app,List.length_append];exact k2,fun q hq=>?_,fun q hq=>?_,fun q hq=>?_,h1.bel.trans (kk.below (fun b hb=>by omega) h1.bel.size)⟩
  ·rcases List.mem_append.1 hq with e|e
   ·exact h1.ins q e
   ·exact hyi q e
  ·rcases List.mem_append.1 hq with e|e
   ·exact h1.far q e
   ·exact hyf q e
  ·rcases List.mem_append.1 hq with e|e
   ·exact h1.bits q e
   ·exact hyb q e
theorem step_row {ops:Array Oper} {o:Oper} {a:Act} {K:Act->World->Prop} {Q:Exit->Act->World->Prop} {E:Prop} (W0 W:World) (hgd:o.guard=none) (s x:Operand)
 (ho:o.op=.call { callee:=.builtin .append,args := #[s,x],argTypes := #[29,29] })
 (M g cap gx ox cx n m:Nat) (xs ys:List Pq) (hn:n=xs.length) (hm:m=ys.length) (hs:a.eval s=.slice (some ⟨g,0,none⟩) n cap) (hx:a.eval x=.slice (some ⟨gx,ox,none⟩) m cx)
 (h1:Rq W0 W M W0.heap.size g cap xs) (hy:∀ j u,(flatP ys)[j]? = some u->W.cell? ⟨gx,ox+j,none⟩=some u) (hyi:∀ q∈ys,Ints W0 q.a q.l) (hyf:∀ q∈ys,∀ x,q.a=some x->0 < q.l.length->M<=x.block) (hyb:∀ q∈ys,bitB q.v=true) (hlen:xs.length+ys.length<=1000000)
 (h:∀ g' cap' w',Rq W0 w' M W0.heap.size g' cap' (xs++ys)->K (a.put o.dst (.slice (some ⟨g',0,none⟩) (xs.length+ys.length) cap')) w') :
 if Region.wanted o (yielded ops a.tmps)=true then Oper.wp Try.prog o a W K Q else E:=by
 rw [if_pos (by simp [Region.wanted,hgd])]
 exact wp_row W0 W s x ho M g cap gx ox cx n m xs ys hn hm hs hx h1 hy hyi hyf hyb hlen h
theorem app_row {ops:Array Oper} {rest:List Oper} {o:Oper} {a:Act} {Q:Exit->Act->World->Prop} (W0 W:World) (hgd:o.guard=none) (s x:Operand)
 (ho:o.op=.call { callee:=.builtin .append,args := #[s,x],argTypes := #[29,29] })
 (M g cap gx ox cx n m:Nat) (xs ys:List Pq) (hn:n=xs.length) (hm:m=ys.length) (hs:a.eval s=.slice (some ⟨g,0,none⟩) n cap) (hx:a.eval x=.slice (some ⟨gx,ox,none⟩) m cx)
 (h1:Rq W0 W M W0.heap.size g cap xs) (hy:∀ j u,(flatP ys)[j]? = some u->W.cell? ⟨gx,ox+j,none⟩=some u) (hyi:∀ q∈ys,Ints W0 q.a q.l) (hyf:∀ q∈ys,∀ x,q.a=some x->0 < q.l.length->M<=x.block) (hyb:∀ q∈ys,bitB q.v=true) (hlen:xs.length+ys.length<=1000000)
 (h:∀ g' cap' w',Rq W0 w' M W0.heap.size g' cap' (xs++ys)->wpList Try.prog ops Q rest (a.put o.dst (.slice (some ⟨g',0,none⟩) (xs.length+ys.length) cap')) w') :
 wpList Try.prog ops Q (o :: rest) a W :=
 wpList_plain hgd fun K hK=>wp_row W0 W s x ho M g cap gx ox cx n m xs ys hn hm hs hx h1 hy hyi hyf hyb hlen fun g' cap' w' hr=>hK _ _ (h g' cap' w' hr)
theorem sl_h (b o n c k:Nat) (h:k<=c) (w:World) :
 (Instr.slice 29 (.slice (some ⟨b,o,none⟩) n c) none (some (.int .i64 (k:Int))) none).run Try.prog w=.ok (.slice (some ⟨b,o,none⟩) k c) w:=by
 rw [run_slice_h w 29 _ _ _ Try.underlying29 .i64 (k:Int) (by omega) (by omega)]
 by_cases e:c=0
 ·simp [go_sem,e,sliced]
 ·simp [go_sem,e,sliced]
theorem sl_l (b n c k:Nat) (h:k<=n) (hc:n<=c):∃ ox,(k < n->ox=k*2)/\∀ w:World,
 (Instr.slice 29 (.slice (some ⟨b,0,none⟩) n c) (some (.int .i64 (k:Int))) none none).run Try.prog w=.ok (.slice (some ⟨b,ox,none⟩) (n - k) (c - k)) w:=by
 by_cases e:c=k
 ·refine ⟨0,fun h2=>by omega,fun w=>?_⟩
  rw [run_slice_l w 29 _ _ _ Try.underlying29 .i64 (k:Int) (by omega) (by omega)]
  simp [go_sem,e,sliced]
 ·refine ⟨k*2,fun _=>rfl,fun w=>?_⟩
  rw [run_slice_l w 29 _ _ _ Try.underlying29 .i64 (k:Int) (by omega) (by omega)]
  simp [go_sem,e,sliced]
theorem pickP (w:World) (b:Nat) (a:Option Addr) (len cap:Nat) (c:Array Value) (T m:Nat) (P:Int->Prop) (h0:1<=m) (h1:m<=256) (hC:∀ i,i < m->∃ v:Int,c[i]? = some (.int .i64 v)/\P v) (hc:Cur w b a len cap) :
 Calls Try.prog 42 #[.pointer (some ⟨b,0,none⟩),.slice (some ⟨w.heap.size,0,none⟩) m m] (w.alloc (.cells c T)) fun e w'=>(∃ x:Int,e=.returned (.int .i64 x)/\P x)/\Cur w' b a len cap/\Only b w w':=by
 have hbl:=hc.lt
 have HC:Hid (Cur (w.alloc (.cells c T)) b a len cap):=hc.alloc _
 have HI:Hid (∀ i,i < m->∃ v:Int,(w.alloc (.cells c T)).cell? ⟨w.heap.size,i,none⟩=some (.int .i64 v)/\P v):=fun i hi=>by
  obtain ⟨v,hv,hp⟩:=hC i hi
  exact ⟨v,by rw [World.cell?_alloc_new];exact hv,hp⟩
 have HO:Hid (Only b w (w.alloc (.cells c T))):=(Only.refl b w).alloc _
 obtain ⟨W,hW⟩:∃ W,W=w.alloc (.cells c T):=⟨_,rfl⟩
 obtain ⟨g,hg⟩:∃ g,g=w.heap.size:=⟨_,rfl⟩
 rw [<- hW] at HC HI HO ⊢
 rw [<- hg] at HI ⊢
 have hgb:g≠b:=by omega
 clear hc hC hW hg hbl
 go_enter Try.func42,Try.ntmps42
 go_wp2_with fail
 refine (Dr1.below _ b a len cap _ (by omega) (by omega) HC.out).mono ?_
 rintro e w' ⟨⟨x,rfl,hx0,hx1⟩,hc',ho'⟩
 have HC':Hid (Cur w' b a len cap):=hc'
 have HO':Hid (Only b w w'):=HO.out.trans ho'
 obtain ⟨v,hv,hp⟩:=HI.out x.toNat (by omega)
 have hv':w'.cell? ⟨g,x.toNat,none⟩=some (.int .i64 v):=by rw [ho'.cell (lt_of_cell hv) hgb];exact hv
 have HP:Hid (P v):=hp
 clear hv hp hc' ho' HI HO HC
 go_wp2
 go_ret
 exact ⟨⟨_,rfl,HP.out⟩,HC'.out,HO'.out⟩
theorem spoil (w:World) (b:Nat) (a:Option Addr) (len cap B g cp:Nat) (qs:List Pq) (hc:Cur w b a len cap) (hL:Lq w B g cp qs) (hbB:b < B) (hlow:len=0\/∀ x,a=some x->x.block≠g) (hq:qs.length<=256) (hbit:∀ q∈qs,bitB q.v=true) :
 Calls Try.prog 43 #[.pointer (some ⟨b,0,none⟩),.slice (some ⟨g,0,none⟩) qs.length cp] w fun e w'=>Pv w' B e/\Kept (fun i=>i=b\/i=g) w w':=by
 have hqc:qs.length<=cp:=by
  rcases hL.row.2 with ⟨e,_⟩|⟨g',cap',cur,e,_,_,hn,_⟩
  ·cases e
  ·cases e;exact hn
 have hgB:=hL.lt.1
 have HBT:Hid (∀ q∈qs,bitB q.v=true):=hbit
 have HC:Hid (Cur w b a len cap):=hc
 have HL:Hid (Lq w B g cp qs):=hL
 have HPV:Hid (∀ W,Lq W B g cp qs->Pv W B (.returned (.slice (some ⟨g,0,none⟩) qs.length cp))):=fun W h=>by
  obtain ⟨ps,hl,hp,hv⟩:=pks_of (W:=W) (M:=B) (g:=g) (o:=0) h.lt.1 qs.length (by unfold maxLen;omega) fun j hj=>⟨qs[j].pk,⟨qs[j].a,qs[j].c,by rw [Nat.zero_add];exact (h.at_ j hj 0 (by omega)).1,by rw [Nat.zero_add];exact (h.at_ j hj 1 (by omega)).1,(h.ins _ (List.getElem_mem hj)).ints,fun x hx h0=>(wi_own (h.ins _ (List.getElem_mem hj)) ⟨h0,x,hx,rfl⟩).1⟩,bit_wf (hbit _ (List.getElem_mem hj))⟩
  exact ⟨some ⟨g,0,none⟩,ps,cp,by rw [hl],hp,hv⟩
 clear hc hL hbit
 by_cases h0:qs.length=0
 ·go_enter Try.func43,Try.ntmps43
  go_wp2
  go_ret
  exact ⟨HPV.out _ HL.out,Kept.refl _ _⟩
 have h0z:((qs.length:Int)==0)=false:=beq_eq_false_iff_ne.2 (by omega)
 go_enter Try.func43,Try.ntmps43
 go_wp2_with fail
 refine (Dr1.below _ b a len cap (qs.length:Int) (by omega) (by omega) HC.out).mono ?_
 rintro e w1 ⟨⟨x,rfl,hx0,hx1⟩,hc1,ho1⟩
 obtain ⟨i,rfl⟩:=Int.eq_ofNat_of_zero_le hx0
 have HL1:Hid (Lq w1 B g cp qs):=HL.out.kept (kept_of_only ho1) (by omega) (fun q hq j hj e=>by have:=(wi_own (HL.out.ins q hq) hj).1;omega)
 have HC1:Hid (Cur w1 b a len cap):=hc1
 have HK1:Hid (Kept (fun i=>i=b\/i=g) w w1):=(kept_of_only ho1).mono fun i h=>.inl h
 have hi:i < qs.length:=by omega
 clear hc1 ho1 HC HL hx0 hx1
 go_wp2_with fail
 refine (Dr1.below _ b a len cap 7 (by omega) (by omega) HC1.out).mono ?_
 rintro e w2 ⟨⟨x,rfl,hx0,hx1⟩,hc2,ho2⟩
 obtain ⟨y,rfl⟩:=Int.eq_ofNat_of_zero_le hx0
 have HL2:Hid (Lq w2 B g cp qs):=HL1.out.kept (kept_of_only ho2) (by omega) (fun q hq j hj e=>by have:=(wi_own (HL1.out.ins q hq) hj).1;omega)
 have HC2:Hid (Cur w2 b a len cap):=hc2
 have HK2:Hid (Kept (fun i=>i=b\/i=g) w w2):=HK1.out.trans ((kept_of_only ho2).mono fun i h=>.inl h)
 clear hc2 ho2 HC1 HL1 HK1 hx0 hx1
 have HI:Hid (i < qs.length):=hi
 have hiz:(i:Int) < (qs.length:Int):=by omega
 obtain ⟨q,c0',c1',f1,hmem⟩:∃ q:Pq,w2.cell? ⟨g,i*2,none⟩=some (.slice q.a q.l.length q.c)/\w2.cell? ⟨g,i*2+1,none⟩=some (.int .i64 q.v)/\w2.frozen? ⟨g,i*2+1,none⟩=false/\q∈qs:=⟨qs[i],(HL2.out.at_ i hi 0 (by omega)).1,(HL2.out.at_ i hi 1 (by omega)).1,(HL2.out.at_ i hi 1 (by omega)).2,List.getElem_mem hi⟩
 have gl:=lt_of_cell c1'
 have hzb:=HBT.out _ hmem
 have hz:q.v=0\/q.v=1:=by
  simp [bitB] at hzb
  omega
 clear hzb
 by_cases y0:y=0
 ·subst y0
  have hw:IntKind.i64.wrap (1 - q.v)=1 - q.v:=by rw [IntKind.wrap_i64]<;>omega
  go_wp2
  go_ret
  obtain ⟨ps,hl,hp,hv⟩:=set_val HL2.out HBT.out HI.out (by unfold maxLen;omega) (x:=1 - q.v) (by rcases hz with e|e<;>rw [e]<;>rfl)
  exact ⟨⟨_,ps,cp,by rw [hl];rfl,hp,hv⟩,HK2.out.setCell (p:=⟨g,i*2+1,none⟩) (.inr rfl) _⟩
 by_cases y1:y=1
 ·subst y1
  have HYC:Hid (∀ j u,(flatP qs)[j]? = some u->w2.cell? ⟨g,j,none⟩=some u):=fun j u hu=>by
   have h:=World.ownsRow.cells HL2.out.row (g:=g) rfl j u hu
   rw [add_at,Nat.zero_add] at h
   exact h
  have HYI:Hid (∀ q∈qs,Ints w2 q.a q.l):=fun q hq=>(HL2.out.ins q hq).ints
  have HYF:Hid (∀ q∈qs,∀ x,q.a=some x->0 < q.l.length->B<=x.block):=fun q hq x hx h0=>(wi_own (HL2.out.ins q hq) ⟨h0,x,hx,rfl⟩).1
  have HBW:Hid (B<=w2.heap.size):=Nat.le_of_lt (Nat.lt_of_le_of_lt HL2.out.lt.1 HL2.out.lt.2)
  have hsh:=sl_h g 0 qs.length cp i (by omega)
  obtain ⟨ox,hox,hsl⟩:=sl_l g qs.length cp (i+1) (by omega) hqc
  rw [show (((i+1:Nat)):Int)=(i:Int)+1 by omega] at hsl
  have HOX:Hid (i+1 < qs.length->ox=(i+1)*2):=hox
  have hwi:IntKind.i64.wrap ((i:Int)+1)=(i:Int)+1:=by rw [IntKind.wrap_i64]<;>omega
  have HTK:Hid (∀ j u,(flatP (qs.take i))[j]? = some u->w2.cell? ⟨g,0+j,none⟩=some u):=fun j u hu=>by
   rw [Nat.zero_add]
   refine HYC.out j u ?_
   rw [<- List.take_append_drop i qs,flatP_app,List.getElem?_append_left (List.getElem?_eq_some_iff.1 hu).1]
   exact hu
  have HDR:Hid (∀ j u,(flatP (qs.drop (i+1)))[j]? = some u->w2.cell? ⟨g,ox+j,none⟩=some u):=fun j u hu=>by
   have hj:=(List.getElem?_eq_some_iff.1 hu).1
   rw [flatP_length,List.length_drop] at hj
   rw [HOX.out (by omega)]
   refine HYC.out _ u ?_
   rw [<- List.take_append_drop (i+1) qs,flatP_app,List.getElem?_append_right (by rw [flatP_length,List.length_take];omega),flatP_length,List.length_take,Nat.min_eq_left (by omega),show (i+1)*2+j - (i+1)*2=j by omega]
   exact hu
  have htl:(qs.take i).length=i:=by rw [List.length_take];omega
  have hdl:(qs.drop (i+1)).length=qs.length - (i+1):=List.length_drop
  have HTL:Hid ((qs.take i).length=i/\(qs.drop (i+1)).length=qs.length - (i+1)):=⟨htl,hdl⟩
  have HTM:Hid (∀ q∈qs.take i,q∈qs):=fun q h=>List.mem_of_mem_take h
  have HDM:Hid (∀ q∈qs.drop (i+1),q∈qs):=fun q h=>List.mem_of_mem_drop h
  have RQ0:Hid (Rq w2 (w2.drew.alloc (.cells #[] 61)) B w2.heap.size w2.heap.size 0 []):=⟨(Lq.lit w2.drew w2.heap.size (Nat.le_refl _)).row,fun _ h=>(by cases h),fun _ h=>(by cases h),fun _ h=>(by cases h),(Below.refl w2.heap.size w2).drew.alloc (Nat.le_refl _) _⟩
  clear hox htl hdl c0' c1' f1 gl
  go_upto_region 8 with fail
  refine wp_region_held_drew (S:=fun _=>True) (by kernel_rfl) (trivial) (fun hHeld=>?_)
  refine wpAnyH_take (i:=1) (v:=?_) rfl (by kernel_rfl) (by kernel_rfl) (by kernel_rfl) (fun _ _ _ h=>h) (Or.inl ⟨by rfl,?_⟩) hHeld ?_
  rotate_left
  ·intro v9 hS9
   try dsimp only at hS9
   skip
   go_simp
   try with_reducible rfl
  try simp only [Act.put,List.setIfInBounds_toArray,List.set_cons_zero,List.set_cons_succ,List.getElem_toArray,List.getElem_cons_zero,List.getElem_cons_succ]
  refine wpAnyH_take (i:=2) (v:=?_) rfl (by kernel_rfl) (by kernel_rfl) (by kernel_rfl) (fun _ _ _ h=>h) (Or.inl ⟨by rfl,?_⟩) hHeld ?_
  rotate_left
  ·intro v9 hS9
   try dsimp only at hS9
   skip
   go_simp
   try with_reducible rfl
  try simp only [Act.put,List.setIfInBounds_toArray,List.set_cons_zero,List.set_cons_succ,List.getElem_toArray,List.getElem_cons_zero,List.getElem_cons_succ]
  refine wpAnyH_take (i:=3) (v:=?_) rfl (by kernel_rfl) (by kernel_rfl) (by kernel_rfl) (fun _ _ _ h=>h) (Or.inl ⟨by rfl,?_⟩) hHeld ?_
  rotate_left
  ·intro v9 hS9
   try dsimp only at hS9
   skip
   go_simp
   try with_reducible rfl
  try simp only [Act.put,List.setIfInBounds_toArray,List.set_cons_zero,List.set_cons_succ,List.getElem_toArray,List.getElem_cons_zero,List.getElem_cons_succ]
  refine wpAnyH_take (i:=5) (v:=?_) rfl (by kernel_rfl) (by kernel_rfl) (by kernel_rfl) (fun _ _ _ h=>h) (Or.inl ⟨by rfl,?_⟩) hHeld ?_
  rotate_left
  ·intro v9 hS9
   try dsimp only at hS9
   skip
   go_simp
   try with_reducible rfl
  try simp only [Act.put,List.setIfInBounds_toArray,List.set_cons_zero,List.set_cons_succ,List.getElem_toArray,List.getElem_cons_zero,List.getElem_cons_succ]
  refine wpAnyH_take (i:=6) (v:=?_) rfl (by kernel_rfl) (by kernel_rfl) (by kernel_rfl) (fun _ _ _ h=>h) (Or.inl ⟨by rfl,?_⟩) hHeld ?_
  rotate_left
  ·intro v9 hS9
   try dsimp only at hS9
   skip
   go_simp
   try with_reducible rfl
  try simp only [Act.put,List.setIfInBounds_toArray,List.set_cons_zero,List.set_cons_succ,List.getElem_toArray,List.getElem_cons_zero,List.getElem_cons_succ]
  refine wpAnyH_take (i:=7) (v:=?_) rfl (by kernel_rfl) (by kernel_rfl) (by kernel_rfl) (fun _ _ _ h=>h) (Or.inl ⟨by rfl,?_⟩) hHeld ?_
  rotate_left
  ·intro v9 hS9
   try dsimp only at hS9
   skip
   go_simp
   try with_reducible rfl
  try simp only [Act.put,List.setIfInBounds_toArray,List.set_cons_zero,List.set_cons_succ,List.getElem_toArray,List.getElem_cons_zero,List.getElem_cons_succ]
  refine wpAnyH_take (i:=8) (v:=?_) rfl (by kernel_rfl) (by kernel_rfl) (by kernel_rfl) (fun _ _ _ h=>h) (Or.inl ⟨by rfl,?_⟩) hHeld ?_
  rotate_left
  ·intro v9 hS9
   try dsimp only at hS9
   skip
   go_simp
   try with_reducible rfl
  try simp only [Act.put,List.setIfInBounds_toArray,List.set_cons_zero,List.set_cons_succ,List.getElem_toArray,List.getElem_cons_zero,List.getElem_cons_succ]
  refine wpAnyH_ready (rs:=[0]) (by kernel_rfl) (by simp) ?_
  refine (AllReadyH.cons rfl (fun K hK=>?_) AllReadyH.nil)
  go_simp
  refine hK.out _ _ (trivial) (fun hNext=>?_)
  clear hK K hHeld
  have hHeld:=hNext
  clear hNext
  try simp only [Act.put,List.setIfInBounds_toArray,List.set_cons_zero,List.set_cons_succ,List.getElem_toArray,List.getElem_cons_zero,List.getElem_cons_succ]
  refine wpAnyH_ready (rs:=[4]) (by kernel_rfl) (by simp) ?_
  refine (AllReadyH.cons rfl (fun K hK=>?_) AllReadyH.nil)
  refine step_row w2 (w2.drew.alloc (.cells #[] 61)) rfl _ _ rfl B w2.heap.size 0 g 0 cp 0 i [] (qs.take i) rfl HTL.out.1.symm rfl rfl RQ0.out (fun j u hu=>by
   have h:=HTK.out j u hu
   rw [((Below.refl w2.heap.size w2).drew.alloc (Nat.le_refl _) (.cells #[] 61)).cell (lt_of_cell h)]
   exact h) (fun q h=>HYI.out q (HTM.out q h)) (fun q h=>HYF.out q (HTM.out q h)) (fun q h=>HBT.out q (HTM.out q h)) (by rw [HTL.out.1,List.length_nil];omega) ?_
  intro g5 cp5 w5 hr5
  have HR5:Hid (Rq w2 w5 B w2.heap.size g5 cp5 ([]++qs.take i)):=hr5
  clear hr5
  refine hK.out _ _ (trivial) (fun hNext=>?_)
  clear hK K hHeld
  have hHeld:=hNext
  clear hNext
  try simp only [Act.put,List.setIfInBounds_toArray,List.set_cons_zero,List.set_cons_succ,List.getElem_toArray,List.getElem_cons_zero,List.getElem_cons_succ]
  refine wpAnyH_ready (rs:=[9]) (by kernel_rfl) (by simp) ?_
  refine (AllReadyH.cons rfl (fun K hK=>?_) AllReadyH.nil)
  refine step_row w2 w5 rfl _ _ rfl B g5 cp5 g ox (cp - (i+1)) (([]:List Pq).length+(qs.take i).length) (qs.length - (i+1)) ([]++qs.take i) (qs.drop (i+1)) (by rw [List.length_append]) HTL.out.2.symm rfl rfl HR5.out (fun j u hu=>by
   have h:=HDR.out j u hu
   rw [HR5.out.bel.cell (lt_of_cell h)]
   exact h) (fun q h=>HYI.out q (HDM.out q h)) (fun q h=>HYF.out q (HDM.out q h)) (fun q h=>HBT.out q (HDM.out q h)) (by rw [List.length_append,HTL.out.1,HTL.out.2,List.length_nil];omega) ?_
  intro g6 cp6 w6 hr6
  have HR6:Hid (Rq w2 w6 B w2.heap.size g6 cp6 (([]++qs.take i)++qs.drop (i+1))):=hr6
  clear hr6
  refine hK.out _ _ (trivial) (fun hNext=>?_)
  clear hK K hHeld
  have hHeld:=hNext
  clear hNext
  try simp only [Act.put,List.setIfInBounds_toArray,List.set_cons_zero,List.set_cons_succ,List.getElem_toArray,List.getElem_cons_zero,List.getElem_cons_succ]
  refine wpAnyH_take (i:=10) (v:=?_) rfl (by kernel_rfl) (by kernel_rfl) (by kernel_rfl) (fun _ _ _ h=>h) (Or.inl ⟨by rfl,?_⟩) hHeld ?_
  rotate_left
  ·intro v9 hS9
   try dsimp only at hS9
   skip
   go_simp
   try with_reducible rfl
  try simp only [Act.put,List.setIfInBounds_toArray,List.set_cons_zero,List.set_cons_succ,List.getElem_toArray,List.getElem_cons_zero,List.getElem_cons_succ]
  refine wpAnyH_done (by kernel_rfl) ?_ _
  clear hHeld
  go_wp2
  go_ret
  obtain ⟨ps,hl,hp,hv⟩:=HR6.out.pks HBW.out (by rw [List.length_append,List.length_append,HTL.out.1,HTL.out.2,List.length_nil];unfold maxLen;omega)
  exact ⟨⟨_,ps,cp6,by rw [show ps.length=min i qs.length+(qs.length - (i+1)) from by rw [hl,List.length_append,List.length_append,List.length_take,List.length_drop,List.length_nil,Nat.zero_add]];rfl,hp,hv⟩,HK2.out.trans (Kept.ofBelow HR6.out.bel)⟩
 by_cases y2:y=2
 ·subst y2
  go_wp2_with fail
  refine (pickP w2 b a len cap _ _ 2 (fun x=>Wf x) (by omega) (by omega) (fun j hj=>?_) HC2.out).mono ?_
  ·have:j=0\/j=1:=by omega
   rcases this with e|e<;>subst e
   ·exact ⟨_,rfl,rfl⟩
   ·exact ⟨_,rfl,rfl⟩
  rintro e w3 ⟨⟨x,rfl,hx⟩,hc3,ho3⟩
  have HL3:Hid (Lq w3 B g cp qs):=HL2.out.kept (kept_of_only ho3) (by omega) (fun q hq j hj e=>by have:=(wi_own (HL2.out.ins q hq) hj).1;omega)
  have HK3:Hid (Kept (fun i=>i=b\/i=g) w w3):=HK2.out.trans ((kept_of_only ho3).mono fun i h=>.inl h)
  have HXF:Hid (Wf x):=hx
  clear c0' c1' f1 gl hc3 ho3 hx
  obtain ⟨q,c1',f1⟩:∃ q:Pq,w3.cell? ⟨g,i*2+1,none⟩=some (.int .i64 q.v)/\w3.frozen? ⟨g,i*2+1,none⟩=false:=⟨qs[i],(HL3.out.at_ i hi 1 (by omega)).1,(HL3.out.at_ i hi 1 (by omega)).2⟩
  have gl:=lt_of_cell c1'
  go_wp2
  go_ret
  obtain ⟨ps,hl,hp,hv⟩:=set_val HL3.out HBT.out HI.out (by unfold maxLen;omega) HXF.out
  exact ⟨⟨_,ps,cp,by rw [hl];rfl,hp,hv⟩,HK3.out.setCell (p:=⟨g,i*2+1,none⟩) (.inr rfl) _⟩
 by_cases y3:y=3
 ·subst y3
  have HYC:Hid (∀ j u,(flatP qs)[j]? = some u->w2.cell? ⟨g,j,none⟩=some u):=fun j u hu=>by
   have h:=World.ownsRow.cells HL2.out.row (g:=g) rfl j u hu
   rw [add_at,Nat.zero_add] at h
   exact h
  have HYI:Hid (∀ q∈qs,Ints w2 q.a q.l):=fun q hq=>(HL2.out.ins q hq).ints
  have HYF:Hid (∀ q∈qs,∀ x,q.a=some x->0 < q.l.length->B<=x.block):=fun q hq x hx h0=>(wi_own (HL2.out.ins q hq) ⟨h0,x,hx,rfl⟩).1
  have HBW:Hid (B<=w2.heap.size):=Nat.le_of_lt (Nat.lt_of_le_of_lt HL2.out.lt.1 HL2.out.lt.2)
  have HAL:Hid (Below w2.heap.size w2 (w2.alloc (.cells #[.slice q.a q.l.length q.c,.int .i64 q.v] 61))):=(Below.refl _ _).alloc (Nat.le_refl _) _
  have RQ1:Hid (Rq w2 (w2.alloc (.cells #[.slice q.a q.l.length q.c,.int .i64 q.v] 61)) B w2.heap.size w2.heap.size 1 [q]):=⟨⟨rfl,.inr ⟨w2.heap.size,1,_,rfl,Nat.le_refl _,heap_alloc_new w2 _,Nat.le_refl _,by unfold maxLen;omega,rfl,rfl⟩⟩,fun p hp=>by rw [List.mem_singleton.1 hp];exact HYI.out q hmem,fun p hp=>by rw [List.mem_singleton.1 hp];exact HYF.out q hmem,fun p hp=>by rw [List.mem_singleton.1 hp];exact HBT.out q hmem,HAL.out⟩
  go_upto_region 13 with (at_builtin;go_must (refine app_row w2 _ rfl _ _ rfl B w2.heap.size 1 g 0 cp 1 qs.length [q] qs rfl rfl rfl rfl RQ1.out (fun j u hu=>(by rw [Nat.zero_add,HAL.out.cell (lt_of_cell (HYC.out j u hu))];exact HYC.out j u hu)) HYI.out HYF.out HBT.out (by simp;omega) ?_;intro g7 cp7 w7 hr7;have HR7:Hid (Rq w2 w7 B w2.heap.size g7 cp7 ([q]++qs)):=hr7;clear hr7))
  go_wp2
  go_ret
  obtain ⟨ps,hl,hp,hv⟩:=HR7.out.pks HBW.out (by rw [List.length_append,List.length_singleton];unfold maxLen;omega)
  exact ⟨⟨_,ps,cp7,by rw [hl,List.length_append];rfl,hp,hv⟩,HK2.out.trans (Kept.ofBelow HR7.out.bel)⟩
 have z0:((y:Int)==0)=false:=beq_eq_false_iff_ne.2 (by omega)
 have z1:((y:Int)==1)=false:=beq_eq_false_iff_ne.2 (by omega)
 have z2:((y:Int)==2)=false:=beq_eq_false_iff_ne.2 (by omega)
 have z3:((y:Int)==3)=false:=beq_eq_false_iff_ne.2 (by omega)
 go_wp2
 go_ret
 exact ⟨HPV.out _ HL2.out,HK2.out⟩
end Wt3
namespace Wt4
open Go.RowKit
open Ta0 Ta1 Tc2 Tc5 Tdw Ddr
open Nd0 (Kept set_same set_other lt_of_cell)
open Nd6 (Bools)
open Op6 (Pk PkAt Pks)
open Dr0 (Cur Only Bytes)
open Ta2 (bitB)
open Ss0 (bs bs_size)
open Ss1 (tl bs_tl)
open De0 (dc)
open Wr0 Wr3 Wt2 Wt3
open Wr5 (step_call)
open Wr7 (sWin sWinN WP)
set_option linter.unusedSimpArgs false
theorem tok_str {N:Int} {S:ByteArray} (h:tokB N (tl S)=true):∃ (n:Nat) (F:Nat->Bool),n<=12/\N=(n:Int)/\S=bs (tab n F):=by
 obtain ⟨n,F,h1,h2,h3⟩:=tok_tab h
 exact ⟨n,F,h1,h2,by rw [<- bs_tl S,h3]⟩
/-- The model's Win of a small table: few picks, of bits. -/
theorem smallWin (row:List Bool) (N:Int) (S:ByteArray) (hS:S.size<=64):∃ (ps:List Pk) (v:Int) (ok:Bool),ps.length<=64/\(∀ p∈ps,bitB p.v=true)/\(v=0\/v=1) /\
 (∀ (W:World) (ra:Option Addr) (c:Nat),Bools W ra row->row.length<=c->Calls Try.prog 15 #[.slice ra row.length c,tv N S] W (WP ps v ok W)):=by
 by_cases h:tokB N (tl S)=true/\(row.length:Int)=N
 ·obtain ⟨h1,h2⟩:=h
  obtain ⟨n,F,hn,rfl,rfl⟩:=tok_str h1
  obtain rfl:n=row.length:=by omega
  have hp:2 ^ row.length<=64:=by
   rw [bs_size,tab_length] at hS
   exact hS
  have hl:=wn_len ((dc row F).toNat:Int) row F []
  exact ⟨wn ((dc row F).toNat:Int) row F [],((dc row F).toNat:Int),true,by omega,Wt0.wn_bits _ row F [],by cases dc row F<;>simp,fun W ra c hB hc=>sWin row F ra c W hn hB hc⟩
 ·exact ⟨[],0,false,by simp,fun p hp=>(by cases hp),.inl rfl,fun W ra c hB hc=>sWinN N S ra row.length c W (by omega) h⟩
/-- A row, a table, a number, a list are given back. -/
def ChD (w:World) (e:Ending) (w':World):Prop:=(∃ (N:Int) (S:ByteArray) (row:List Bool) (ra:Option Addr) (c:Nat) (v:Int) (la:Option Addr) (ps:List Pk) (lc:Nat),S.size<=64/\row.length<=20/\row.length<=c/\e=.returned (.tuple #[.slice ra row.length c,tv N S,.int .i64 v,.slice la ps.length lc])/\Bools w' ra row/\Pks w' la ps/\∀ p∈ps,Wf p.v)/\Below w.heap.size w w'
theorem drawChecks (w:World) (a:Option Addr) (len cap:Nat) (hb:Bytes w a len) :
 Calls Try.prog 12 #[.slice a len cap] w (ChD w):=by
 have HB:Hid (Bytes w a len):=hb
 have HB0:Hid (Bytes (w.alloc (.cells #[.int .i64 0,.string ByteArray.empty] 26)) a len):=hb.below ((Below.refl _ _).alloc (Nat.le_refl _) _)
 clear hb
 go_enter Try.func12,Try.ntmps12
 go_wp2_with fail
 refine (Dr4.new _ a len cap HB0.out).mono ?_
 rintro e w1 ⟨rfl,hc1,hb1⟩
 have HR1:Hid (Lay w1 w.heap.size (.int .i64 0) (.string ByteArray.empty)):=(Lay.made w _ _ _).below hb1
 have HB1:Hid (Below w.heap.size w w1):=((Below.refl _ _).alloc (Nat.le_refl _) _).trans (hb1.mono (by simp))
 have hc1':Cur w1 (w.heap.size+1) a len cap:=by simpa using hc1
 have HC1:Hid (Cur w1 (w.heap.size+1) a len cap):=hc1'
 have hcl:w.heap.size+1 < w1.heap.size:=hc1'.lt
 clear hb1 hc1 hc1'
 go_wp2_with fail
 refine (drawAny w1 a len cap (HB.out.below HB1.out)).mono ?_
 rintro e w2 ⟨⟨N,S,row,ra,c,hS,hr20,hrc,rfl,hrow,hrb⟩,hb2⟩
 obtain ⟨w3,hw3⟩:∃ z,z=w2.alloc (.cells #[.int .i64 N,.string S] 26):=⟨_,rfl⟩
 obtain ⟨qt,hqt⟩:∃ z,z=w2.heap.size:=⟨_,rfl⟩
 have hb3:Below w2.heap.size w2 w3:=by rw [hw3];exact (Below.refl _ _).alloc (Nat.le_refl _) _
 have HT3:Hid (Lay w3 qt (.int .i64 N) (.string S)):=by rw [hw3,hqt];exact Lay.made _ _ _ _
 have h13:Below w1.heap.size w1 w3:=hb2.trans (hb3.mono hb2.size)
 have HQ3:Hid (w1.heap.size<=qt):=by rw [hqt];exact hb2.size
 have HC3:Hid (Cur w3 (w.heap.size+1) a len cap):=cur_kept HC1.out (S:=fun _=>False) (Kept.ofBelow h13) (fun h=>h) (.inr fun _ _ h=>h)
 have HR3:Hid (Lay w3 w.heap.size (.int .i64 0) (.string ByteArray.empty)):=HR1.out.below h13
 have HB3:Hid (Below w.heap.size w w3):=HB1.out.trans (h13.mono HB1.out.size)
 have HW3:Hid (Bools w3 ra row):=hrow.below hb3
 have hz3:w1.heap.size<=w3.heap.size:=h13.size
 obtain ⟨ps0,v0,ok,hpl,hpb,hv01,hwin⟩:=smallWin row N S hS
 have HWN:Hid (∀ (W:World) (ra:Option Addr) (c:Nat),Bools W ra row->row.length<=c->Calls Try.prog 15 #[.slice ra row.length c,tv N S] W (WP ps0 v0 ok W)):=hwin
 have HPB:Hid (∀ p∈ps0,bitB p.v=true):=hpb
 go_upto_region 3 with fail
 rw [<- hw3,<- hqt]
 clear hw3 hqt hb3 hb2 hrow h13 HC1 HR1 hwin hpb
 obtain ⟨t0,t1,_,_⟩:=HT3.out
 have tl:=lt_of_cell t0
 go_wp2_with fail
 clear t0 t1 tl
 refine (HWN.out w3 ra c HW3.out hrc).mono ?_
 rintro e w4 ⟨g,cp,qs,rfl,hq1,hq2,hb4⟩
 have HQ1:Hid (qs.map Pq.pk=ps0):=hq1
 have HQL:Hid (qs.length=ps0.length):=by show _=_;rw [<- hq1,List.length_map]
 have HL4:Hid (Lq w4 w3.heap.size g cp qs):=hq2
 have HC4:Hid (Cur w4 (w.heap.size+1) a len cap):=cur_kept HC3.out (S:=fun _=>False) (Kept.ofBelow hb4) (fun h=>h) (.inr fun _ _ h=>h)
 have HR4:Hid (Lay w4 w.heap.size (.int .i64 0) (.string ByteArray.empty)):=HR3.out.below hb4
 have HT4:Hid (Lay w4 qt (.int .i64 N) (.string S)):=HT3.out.below hb4
 have HB4:Hid (Below w.heap.size w w4):=HB3.out.trans (hb4.mono HB3.out.size)
 have HW4:Hid (Bools w4 ra row):=HW3.out.below hb4
 have HGL:Hid (w3.heap.size<=g/\qt < w3.heap.size):=⟨hq2.lt.1,HT3.out.lt⟩
 have HRA:Hid (∀ x,ra=some x->0 < row.length->x.block < w3.heap.size):=fun x hx h0=>ra_lt HW3.out hx h0
 clear hq1 hq2 hb4 HC3 HR3 HT3 HB3 HW3 HWN
 go_wp2_with fail
 refine (Dr1.once _ (w.heap.size+1) a len cap 8 (by omega) (by omega) HC4.out).mono ?_
 rintro e w5 ⟨⟨z,rfl⟩,hc5,ho5⟩
 have HC5:Hid (Cur w5 (w.heap.size+1) a len cap):=hc5
 have HO5:Hid (Only (w.heap.size+1) w4 w5):=ho5
 have hw1:IntKind.i64.wrap (1 - v0)=1 - v0:=by rw [IntKind.wrap_i64]<;>omega
 clear hc5 ho5
 go_upto_if 27 with fail
 go_cut [10] from 28 to 32 (fun s10 wc=>∃ v':Int,s10=.int .i64 v'/\Cur wc (w.heap.size+1) a len cap/\Only (w.heap.size+1) w5 wc)
 case first =>
  cases z
  ·go_wp2_with fail
   go_meet
   case rel=>exact ⟨v0,rfl,HC5.out,Only.refl _ _⟩
  ·go_wp2_with fail
   refine (pickP w5 (w.heap.size+1) a len cap _ _ 3 (fun _=>True) (by omega) (by omega) (fun j hj=>?_) HC5.out).mono ?_
   ·have:j=0\/j=1\/j=2:=by omega
    rcases this with e|e|e<;>subst e<;>exact ⟨_,rfl,trivial⟩
   rintro e w6 ⟨⟨x,rfl,_⟩,hc6,ho6⟩
   have HX6:Hid (Cur w6 (w.heap.size+1) a len cap/\Only (w.heap.size+1) w5 w6):=⟨hc6,ho6⟩
   clear hc6 ho6
   go_wp2_with fail
   go_meet
   case rel=>exact ⟨x,rfl,HX6.out.1,HX6.out.2⟩
 case rest =>
  obtain ⟨v1,hs10,hc6,ho6⟩:=hcut
  subst hs10
  have KK:Kept (fun i=>i=w.heap.size+1) w4 wc:=(kept_of_only HO5.out).trans (kept_of_only ho6)
  have hzz:=HQ3.out
  have hgg:=HGL.out
  have HD:Hid (Kept (fun i=>i=w.heap.size+1) w4 wc.drew):=KK.drew
  have HC6:Hid (Cur wc.drew (w.heap.size+1) a len cap):=hc6.drew
  have HL6:Hid (Lq wc.drew w3.heap.size g cp qs):=HL4.out.kept HD.out (by omega) (fun q hq j hj e=>by have:=(wi_own (HL4.out.ins q hq) hj).1;omega)
  have HT6:Hid (Lay wc.drew qt (.int .i64 N) (.string S)):=HT4.out.kept HD.out (by omega)
  have HR6:Hid (Lay wc.drew w.heap.size (.int .i64 0) (.string ByteArray.empty)):=HR4.out.kept HD.out (by omega)
  have HW6:Hid (Bools wc.drew ra row):=Wp15.bools_kept HW4.out HD.out (fun x hx h0 e=>by have:=hrb x hx h0;omega)
  have HB6:Hid (Below w.heap.size w wc.drew):=HB4.out.trans (HD.out.below (fun b hb=>by omega) HB4.out.size)
  have HQB:Hid (∀ q∈qs,bitB q.v=true):=fun q hq=>by
   have h9:q.pk∈ps0:=by rw [<- HQ1.out];exact List.mem_map_of_mem hq
   exact HPB.out _ h9
  have HLOW:Hid (len=0\/∀ x,a=some x->x.block≠g):=(low_of HB.out).imp id fun h x hx=>by have:=h x hx;omega
  clear hc6 ho6 KK HC5 HO5 HC4 HL4 HT4 HR4 HW4 HB4 HPB
  go_upto_region 6 with fail
  refine wp_region_held_drew (S:=fun W=>W.cell? ⟨qt,0,none⟩=some (.int .i64 N)/\W.cell? ⟨qt,1,none⟩=some (.string S)) (by kernel_rfl) (⟨HT6.out.c0,HT6.out.c1⟩) (fun hHeld=>?_)
  refine wpAnyH_take (i:=0) (v:=?_) rfl (by kernel_rfl) (by kernel_rfl) (by kernel_rfl) (fun _ _ _ h=>h) (Or.inl ⟨by rfl,?_⟩) hHeld ?_
  rotate_left
  ·intro v9 hS9
   try dsimp only at hS9
   skip
   go_simp
   try with_reducible rfl
  try simp only [Act.put,List.setIfInBounds_toArray,List.set_cons_zero,List.set_cons_succ,List.getElem_toArray,List.getElem_cons_zero]
  refine wpAnyH_take (i:=1) (v:=?_) rfl (by kernel_rfl) (by kernel_rfl) (by kernel_rfl) (fun _ _ _ h=>h) (Or.inl ⟨by rfl,?_⟩) hHeld ?_
  rotate_left
  ·intro v9 hS9
   try dsimp only at hS9
   obtain ⟨s0,s1⟩:=hS9
   go_simp
   try with_reducible rfl
  try simp only [Act.put,List.setIfInBounds_toArray,List.set_cons_zero,List.set_cons_succ,List.getElem_toArray,List.getElem_cons_zero,List.getElem_cons_succ]
  refine wpAnyH_take (i:=2) (v:=?_) rfl (by kernel_rfl) (by kernel_rfl) (by kernel_rfl) (fun _ _ _ h=>h) (Or.inl ⟨by rfl,?_⟩) hHeld ?_
  rotate_left
  ·intro v9 hS9
   try dsimp only at hS9
   skip
   go_simp
   try with_reducible rfl
  try simp only [Act.put,List.setIfInBounds_toArray,List.set_cons_zero,List.set_cons_succ,List.getElem_toArray,List.getElem_cons_zero,List.getElem_cons_succ]
  refine wpAnyH_take (i:=3) (v:=?_) rfl (by kernel_rfl) (by kernel_rfl) (by kernel_rfl) (fun _ _ _ h=>h) (Or.inl ⟨by rfl,?_⟩) hHeld ?_
  rotate_left
  ·intro v9 hS9
   try dsimp only at hS9
   skip
   go_simp
   try with_reducible rfl
  try simp only [Act.put,List.setIfInBounds_toArray,List.set_cons_zero,List.set_cons_succ,List.getElem_toArray,List.getElem_cons_zero,List.getElem_cons_succ]
  refine wpAnyH_take (i:=4) (v:=?_) rfl (by kernel_rfl) (by kernel_rfl) (by kernel_rfl) (fun _ _ _ h=>h) (Or.inl ⟨by rfl,?_⟩) hHeld ?_
  rotate_left
  ·intro v9 hS9
   try dsimp only at hS9
   skip
   go_simp
   try with_reducible rfl
  try simp only [Act.put,List.setIfInBounds_toArray,List.set_cons_zero,List.set_cons_succ,List.getElem_toArray,List.getElem_cons_zero,List.getElem_cons_succ]
  refine wpAnyH_ready (rs:=[5]) (by kernel_rfl) (by simp) ?_
  refine (AllReadyH.cons rfl (fun K hK=>?_) AllReadyH.nil)
  refine step_call (f:=43) (args := #[.pointer (some ⟨w.heap.size+1,0,none⟩),.slice (some ⟨g,0,none⟩) qs.length cp]) rfl (by go_simp) ?_
  refine (spoil wc.drew (w.heap.size+1) a len cap w3.heap.size g cp qs HC6.out HL6.out (by omega) HLOW.out (by rw [HQL.out];omega) HQB.out).mono ?_
  rintro e w7 ⟨⟨la,ps,lc,rfl,hp7,hv7⟩,hk7⟩
  have HT7:Hid (Lay w7 qt (.int .i64 N) (.string S)):=HT6.out.kept hk7 (by omega)
  have HR7:Hid (Lay w7 w.heap.size (.int .i64 0) (.string ByteArray.empty)):=HR6.out.kept hk7 (by omega)
  have HW7:Hid (Bools w7 ra row):=Wp15.bools_kept HW6.out hk7 (fun x hx h0 e=>by have:=hrb x hx h0;have:=HRA.out x hx h0;omega)
  have HB7:Hid (Below w.heap.size w w7):=HB6.out.trans (hk7.below (fun b hb=>by omega) HB6.out.size)
  have HP7:Hid (PksF w7 w3.heap.size la ps/\∀ p∈ps,Wf p.v):=⟨hp7,hv7⟩
  clear hp7 hv7 hk7
  obtain ⟨r0,r1,r2,r3⟩:=HR7.out
  have rl:=lt_of_cell r0
  have HFN:Hid _:=Td2.finT HR7.out HB7.out (Nat.le_refl _) (.int .i64 N) (.string S)
  have HK:Hid (Kept (fun b=>b=w.heap.size) w7 ((w7.setCell ⟨w.heap.size,0,none⟩ (.int .i64 N)).setCell ⟨w.heap.size,1,none⟩ (.string S))):=Kept.setCell (S:=fun b=>b=w.heap.size) (Kept.setCell (S:=fun b=>b=w.heap.size) (Kept.refl _ w7) (p:=⟨w.heap.size,0,none⟩) rfl _) (p:=⟨w.heap.size,1,none⟩) rfl _
  refine ⟨_,rfl,?_⟩
  refine hK.out _ _ (⟨HT7.out.c0,HT7.out.c1⟩) (fun hNext=>?_)
  clear hK K hHeld
  have hHeld:=hNext
  clear hNext
  try simp only [Act.put,List.setIfInBounds_toArray,List.set_cons_zero,List.set_cons_succ,List.getElem_toArray,List.getElem_cons_zero,List.getElem_cons_succ]
  refine wpAnyH_take (i:=6) (v:=?_) rfl (by kernel_rfl) (by kernel_rfl) (by kernel_rfl) (fun _ _ _ h=>h) (Or.inl ⟨by rfl,?_⟩) hHeld ?_
  rotate_left
  ·intro v9 hS9
   try dsimp only at hS9
   skip
   go_simp
   try with_reducible rfl
  try simp only [Act.put,List.setIfInBounds_toArray,List.set_cons_zero,List.set_cons_succ,List.getElem_toArray,List.getElem_cons_zero,List.getElem_cons_succ]
  refine wpAnyH_ready (rs:=[7]) (by kernel_rfl) (by simp) ?_
  refine (AllReadyH.cons rfl (fun K hK=>?_) AllReadyH.nil)
  go_simp
  have hq9:¬ qt=w.heap.size:=by omega
  refine hK.out _ _ (⟨(HT7.out.kept HK.out hq9).c0,(HT7.out.kept HK.out hq9).c1⟩) (fun hNext=>?_)
  clear hK K hHeld
  have hHeld:=hNext
  clear hNext
  try simp only [Act.put,List.setIfInBounds_toArray,List.set_cons_zero,List.set_cons_succ,List.getElem_toArray,List.getElem_cons_zero,List.getElem_cons_succ]
  refine wpAnyH_take (i:=8) (v:=?_) rfl (by kernel_rfl) (by kernel_rfl) (by kernel_rfl) (fun _ _ _ h=>h) (Or.inl ⟨by rfl,?_⟩) hHeld ?_
  rotate_left
  ·intro v9 hS9
   try dsimp only at hS9
   skip
   go_simp
   try with_reducible rfl
  try simp only [Act.put,List.setIfInBounds_toArray,List.set_cons_zero,List.set_cons_succ,List.getElem_toArray,List.getElem_cons_zero,List.getElem_cons_succ]
  refine wpAnyH_take (i:=9) (v:=?_) rfl (by kernel_rfl) (by kernel_rfl) (by kernel_rfl) (fun _ _ _ h=>h) (Or.inl ⟨by rfl,?_⟩) hHeld ?_
  rotate_left
  ·intro v9 hS9
   try dsimp only at hS9
   skip
   go_simp
   try with_reducible rfl
  try simp only [Act.put,List.setIfInBounds_toArray,List.set_cons_zero,List.set_cons_succ,List.getElem_toArray,List.getElem_cons_zero,List.getElem_cons_succ]
  refine wpAnyH_done (by kernel_rfl) ?_ _
  clear hHeld
  go_wp2
  obtain ⟨W,hW,hz,hbz⟩:=HFN.out
  have hK:=HK.out
  rw [<- hW] at hK ⊢
  obtain ⟨z0,z1,_,_⟩:=hz
  refine bodyPost_ret (v:=.tuple #[.slice ra row.length c,tv N S,.int .i64 v1,.slice la ps.length lc]) (by simp [results,Try.results12,go_sem,z0,z1]) rfl ⟨⟨N,S,row,ra,c,v1,la,ps,lc,hS,hr20,hrc,rfl,Wp15.bools_kept HW7.out hK (fun x hx h0 e=>by have:=hrb x hx h0;omega),HP7.out.1.kept hK (fun b hb e=>by omega),HP7.out.2⟩,hbz⟩
end Wt4
namespace Wp11
open Go.RowKit
open Nd0 (Kept Ints WInts IntsIn lt_of_cell)
open Nd6 (Bools)
open Op6 (Pk PkAt Pks)
open Ta1 (tab tokB)
open Ta2 (bitB)
open Tc2 (tv sInT sInF ret_bool)
open Tc5 (Lay)
open Ss0 (bs)
open Ss1 (tl)
open Dm1 (sOkR0 sOkR)
open Ap0 Wp7 Wp9 Wp10
/-- Of what is not so. -/
theorem sChecks0 (N:Int) (S:ByteArray) (v:Int) (ps:List Pk) (ra la:Option Addr) (L c lc:Nat) (w:World) (hS:S.size<=1048576) (hm:ps.length<=maxLen) (h:¬ ((tokB N (tl S)=true/\(L:Int)=N)/\bitB v=true/\ps.length<=5000))
 (hok:(tokB N (tl S)=true/\(L:Int)=N)->∀ W,Calls Try.prog 33 #[.slice ra L c,tv N S] W fun e w'=>e=.returned (.bool true)/\Below W.heap.size W w') :
 Calls Try.prog 13 #[.slice ra L c,tv N S,.int .i64 v,.slice la ps.length lc] w fun e w'=>e=.returned (.bool false)/\Below w.heap.size w w':=by
 unfold maxLen at hm
 obtain ⟨X0,hX0⟩:∃ X,X=w.alloc (.cells #[.int .i64 N,.string S] 26):=⟨_,rfl⟩
 have HB0:Hid (Below w.heap.size w X0):=by rw [hX0];exact (Below.refl _ _).alloc (Nat.le_refl _) _
 have HL0:Hid (Lay X0 w.heap.size (.int .i64 N) (.string S)):=by rw [hX0];exact Lay.made _ _ _ _
 have hE:w.alloc (.cells #[.int .i64 N,.string S] 26)=X0:=hX0.symm
 clear hX0
 by_cases h1:tokB N (tl S)=true/\(L:Int)=N
 ·have HOK:Hid _:=hok h1
  by_cases h2:bitB v=true
  ·have hin:=bit_in.1 h2
   have h5:¬ (ps.length:Int)<=5000:=fun e=>h ⟨h1,h2,by omega⟩
   clear h h1 h2 hok hS
   go_enter Try.func13,Try.ntmps13
   go_upto_region 1 with fail
   clear hE
   obtain ⟨d0,d1,_,_⟩:=HL0.out
   have hd:=HL0.out.lt
   go_wp2_with (first|(go_at_call 33;refine (HOK.out _).mono ?_;rintro e w1 ⟨rfl,hb1⟩;have HB1:Hid (Below w.heap.size w w1):=HB0.out.trans (hb1.mono HB0.out.size);clear hb1)|(go_at_call 44;refine (sInT _ hin).mono ?_;rintro e w2 ⟨rfl,hw2⟩;have hw2':=hw2.symm;clear hw2;subst hw2'))
   go_ret
   exact ⟨rfl,HB1.out⟩
  ·have hno:¬ (0<=v/\v<=1):=fun e=>h2 (bit_in.2 e)
   clear h h1 h2 hok hS
   go_enter Try.func13,Try.ntmps13
   go_upto_region 1 with fail
   clear hE
   obtain ⟨d0,d1,_,_⟩:=HL0.out
   have hd:=HL0.out.lt
   go_wp2_with (first|(go_at_call 33;refine (HOK.out _).mono ?_;rintro e w1 ⟨rfl,hb1⟩;have HB1:Hid (Below w.heap.size w w1):=HB0.out.trans (hb1.mono HB0.out.size);clear hb1)|(go_at_call 44;refine (sInF _ hno).mono ?_;rintro e w2 ⟨rfl,hw2⟩;have hw2':=hw2.symm;clear hw2;subst hw2'))
   go_ret
   exact ⟨rfl,HB1.out⟩
 ·have HOK:Hid (∀ W,Calls Try.prog 33 #[.slice ra L c,tv N S] W fun e w'=>e=.returned (.bool false)/\Below W.heap.size W w'):=fun W=>sOkR0 ra L c W hS h1
  clear h h1 hok hS
  go_enter Try.func13,Try.ntmps13
  go_upto_region 1 with fail
  clear hE
  obtain ⟨d0,d1,_,_⟩:=HL0.out
  have hd:=HL0.out.lt
  go_wp2_with (go_at_call 33;refine (HOK.out _).mono ?_;rintro e w1 ⟨rfl,hb1⟩;have HB1:Hid (Below w.heap.size w w1):=HB0.out.trans (hb1.mono HB0.out.size);clear hb1)
  go_ret
  exact ⟨rfl,HB1.out⟩
/-- Of what is so. -/
theorem sChecks (row:List Bool) (F:Nat->Bool) (v:Int) (ps:List Pk) (ra la:Option Addr) (c lc:Nat) (w:World) (hn:row.length<=12) (hB:Bools w ra row) (hc:row.length<=c) (hv:bitB v=true) (hl:ps.length<=5000) (hP:Pks w la ps) :
 Calls Try.prog 13 #[.slice ra row.length c,tv (row.length:Int) (bs (tab row.length F)),.int .i64 v,.slice la ps.length lc] w fun e w'=>e=.returned (.bool (chk ps v row F []))/\Below w.heap.size w w':=by
 obtain ⟨X0,hX0⟩:∃ X,X=w.alloc (.cells #[.int .i64 (row.length:Int),.string (bs (tab row.length F))] 26):=⟨_,rfl⟩
 have HB0:Hid (Below w.heap.size w X0):=by rw [hX0];exact (Below.refl _ _).alloc (Nat.le_refl _) _
 have HL0:Hid (Lay X0 w.heap.size (.int .i64 (row.length:Int)) (.string (bs (tab row.length F)))):=by rw [hX0];exact Lay.made _ _ _ _
 have hE:w.alloc (.cells #[.int .i64 (row.length:Int),.string (bs (tab row.length F))] 26)=X0:=hX0.symm
 have hin:=bit_in.1 hv
 have h5:(ps.length:Int)<=5000:=by omega
 have HOK:Hid (∀ W,Calls Try.prog 33 #[.slice ra row.length c,tv (row.length:Int) (bs (tab row.length F))] W fun e w'=>e=.returned (.bool true)/\Below W.heap.size W w'):=fun W=>sOkR row.length F ra c W hn
 have HCK:Hid (∀ W g,Below w.heap.size w W->Calls Try.prog 45 #[.slice ra row.length c,tv (row.length:Int) (bs (tab row.length F)),.int .i64 v,.slice la ps.length lc,.slice (some ⟨g,0,none⟩) 0 0] W fun e w'=>e=.returned (.bool (chk ps v row F []))/\Below W.heap.size W w'):=fun W g hb=>mc_all ps v row hn F W ra la _ c lc 0 [] (hB.below hb) hc (pks_below hP hb) ⟨Nat.zero_le _,.inl rfl⟩ (by simp;omega)
 clear hX0 hn hB hc hv hl hP
 obtain ⟨R,hR⟩:∃ R,R=chk ps v row F []:=⟨_,rfl⟩
 rw [<- hR] at HCK ⊢
 clear hR
 generalize bs (tab row.length F)=S at *
 generalize row.length=n at *
 go_enter Try.func13,Try.ntmps13
 go_upto_region 1 with fail
 clear hE
 obtain ⟨d0,d1,_,_⟩:=HL0.out
 have hd:=HL0.out.lt
 go_wp2_with fail
 clear d0 d1 hd
 refine (HOK.out _).mono ?_
 rintro e w1 ⟨rfl,hb1⟩
 have HB1:Hid (Below w.heap.size w w1):=HB0.out.trans (hb1.mono HB0.out.size)
 have HL1:Hid (Lay w1 w.heap.size (.int .i64 (n:Int)) (.string S)):=HL0.out.below hb1
 clear hb1
 obtain ⟨d0,d1,_,_⟩:=HL1.out
 have hd:=HL1.out.lt
 go_wp2_with (first|(go_at_call 44;refine (sInT _ hin).mono ?_;rintro e w2 ⟨rfl,hw2⟩;have hw2':=hw2.symm;clear hw2;subst hw2')|(go_at_call 45;refine (HCK.out _ _ (HB1.out.alloc HB1.out.size _)).mono ?_;rintro e w3 ⟨rfl,hb3⟩;have HB3:Hid (Below w.heap.size w w3):=(HB1.out.alloc HB1.out.size _).trans (hb3.mono (HB1.out.alloc HB1.out.size _).size);clear hb3))
 go_ret
 exact ⟨rfl,HB3.out⟩
end Wp11
namespace Wp23
open Go.RowKit
open Nd0 (Kept Ints WInts lt_of_cell)
open Nd6 (Bools)
open Op6 (Pk PkAt Pks)
open Ta1 (tab tokB tok_tab)
open Ta2 (bitB)
open Tc2 (tv ret_bool)
open Tc5 (Lay)
open Ss0 (bs bs_size)
open Ss1 (tl bs_tl)
open Dq1 (ownL)
open Dp4 (iRuled0 iRuled)
open Dm1 (sOkR)
open Wp10 (chk)
open Wp11 (sChecks0 sChecks)
open Ap0 Wp7 Wp12 Wp15 Wp22
/-- Where there is no game. -/
theorem iChecksN (N:Int) (S:ByteArray) (v:Int) (ra la:Option Addr) (L c l lc:Nat) (w:World) (h:¬ ((tokB N (tl S)=true/\(L:Int)=N)/\bitB v=true))
 (hR:∀ W,∃ rr:Bool,(rr=true->bitB v=false)/\Calls Try.prog 52 #[.slice ra L c,tv N S] W fun e w'=>∃ (a1:Option Addr) (n1 m1:Nat) (z1:Int) (a2:Option Addr) (n2 m2:Nat),e=.returned (.tuple #[.agg #[.slice a1 n1 m1,.int .i64 z1,.slice a2 n2 m2],.bool rr])/\Below W.heap.size W w') :
 Calls Try.prog 9 #[.slice ra L c,tv N S,.int .i64 v,.slice la l lc] w fun e w'=>e=.returned (.bool false)/\Below w.heap.size w w':=by
 obtain ⟨X0,hX0⟩:∃ X,X=w.alloc (.cells #[.int .i64 N,.string S] 26):=⟨_,rfl⟩
 have HB0:Hid (Below w.heap.size w X0):=by rw [hX0];exact (Below.refl _ _).alloc (Nat.le_refl _) _
 have HL0:Hid (Lay X0 w.heap.size (.int .i64 N) (.string S)):=by rw [hX0];exact Lay.made _ _ _ _
 have hE:w.alloc (.cells #[.int .i64 N,.string S] 26)=X0:=hX0.symm
 have HGA:Hid _:=iGame0 N S v ra L c X0 h hR
 clear hX0 h hR
 go_enter Try.func9,Try.ntmps9
 go_upto_region 1 with fail
 clear hE
 obtain ⟨d0,d1,_,_⟩:=HL0.out
 have hd:=HL0.out.lt
 go_wp2_with fail
 clear d0 d1 hd
 refine Calls.mono HGA.out ?_
 rintro e w1 ⟨rfl,hb1⟩
 have HB1:Hid (Below w.heap.size w w1):=HB0.out.trans (hb1.mono HB0.out.size)
 clear hb1 HB0 HL0 HGA
 go_wp2
 go_ret
 exact ⟨rfl,HB1.out.alloc HB1.out.size _⟩
/-- Where there are too many picks. -/
theorem iChecksM (row:List Bool) (F:Nat->Bool) (v:Int) (ra la:Option Addr) (c l lc:Nat) (w:World) (hn:row.length<=12) (hB:Bools w ra row) (hv:bitB v=true) (hl:¬ l<=5000) :
 Calls Try.prog 9 #[.slice ra row.length c,tv (row.length:Int) (bs (tab row.length F)),.int .i64 v,.slice la l lc] w fun e w'=>e=.returned (.bool false)/\Below w.heap.size w w':=by
 obtain ⟨X0,hX0⟩:∃ X,X=w.alloc (.cells #[.int .i64 (row.length:Int),.string (bs (tab row.length F))] 26):=⟨_,rfl⟩
 have b0:Below w.heap.size w X0:=by rw [hX0];exact (Below.refl _ _).alloc (Nat.le_refl _) _
 have HB0:Hid (Below w.heap.size w X0):=b0
 have HL0:Hid (Lay X0 w.heap.size (.int .i64 (row.length:Int)) (.string (bs (tab row.length F)))):=by rw [hX0];exact Lay.made _ _ _ _
 have hE:w.alloc (.cells #[.int .i64 (row.length:Int),.string (bs (tab row.length F))] 26)=X0:=hX0.symm
 have HGA:Hid _:=iGame row.length F v row ra c X0 hn rfl (hB.below b0) hv
 have hlz:(5000:Int) < (l:Int):=by omega
 clear hX0 b0 hn hB hv hl
 generalize ownL v row=OL at *
 generalize bs (tab row.length F)=S at *
 go_enter Try.func9,Try.ntmps9
 go_upto_region 1 with fail
 clear hE
 obtain ⟨d0,d1,_,_⟩:=HL0.out
 have hd:=HL0.out.lt
 go_wp2_with fail
 clear d0 d1 hd
 refine Calls.mono HGA.out ?_
 rintro e w1 ⟨⟨ga,go,rfl,hb1'⟩,hb1⟩
 have HB1:Hid (Below w.heap.size w w1):=HB0.out.trans (hb1.mono HB0.out.size)
 clear hb1 hb1' HB0 HL0 HGA
 go_wp2
 go_ret
 exact ⟨rfl,HB1.out.alloc HB1.out.size _⟩
theorem tok_str {N:Int} {S:ByteArray} (h:tokB N (tl S)=true):∃ (n:Nat) (F:Nat->Bool),n<=12/\N=(n:Int)/\S=bs (tab n F):=by
 obtain ⟨n,F,h1,h2,h3⟩:=tok_tab h
 exact ⟨n,F,h1,h2,by rw [<- bs_tl S,h3]⟩
/-- One answer of both. -/
theorem bChecks (row:List Bool) (N:Int) (S:ByteArray) (v:Int) (ps:List Pk) (hS:S.size<=1048576) (hw:∀ p∈ps,(Lit.int .i64 p.v).wf=true):∃ b:Bool,
 (∀ (W:World) (ra la:Option Addr) (c lc:Nat),Bools W ra row->row.length<=c->Pks W la ps->Calls Try.prog 13 #[.slice ra row.length c,tv N S,.int .i64 v,.slice la ps.length lc] W fun e w'=>e=.returned (.bool b)/\Below W.heap.size W w') /\
 (∀ (W:World) (ra la:Option Addr) (c lc:Nat),Bools W ra row->Pks W la ps->Calls Try.prog 9 #[.slice ra row.length c,tv N S,.int .i64 v,.slice la ps.length lc] W fun e w'=>e=.returned (.bool b)/\Below W.heap.size W w'):=by
 by_cases h:tokB N (tl S)=true/\(row.length:Int)=N
 ·obtain ⟨h1,h2⟩:=h
  have h1':=h1
  obtain ⟨n,F,hn,rfl,rfl⟩:=tok_str h1
  obtain rfl:n=row.length:=by omega
  by_cases hv:bitB v=true
  ·by_cases hl:ps.length<=5000
   ·exact ⟨_,fun W ra la c lc hB hc hP=>sChecks row F v ps ra la c lc W hn hB hc hv hl hP,fun W ra la c lc hB hP=>iChecks row F v ps ra la c lc W hn hB hv hl hP hw⟩
   ·exact ⟨false,fun W ra la c lc hB hc hP=>sChecks0 _ _ v ps ra la _ c lc W hS hP.1 (fun e=>hl e.2.2) (fun _ W'=>sOkR row.length F ra c W' hn),fun W ra la c lc hB hP=>iChecksM row F v ra la c _ lc W hn hB hv hl⟩
  ·exact ⟨false,fun W ra la c lc hB hc hP=>sChecks0 _ _ v ps ra la _ c lc W hS hP.1 (fun e=>hv e.2.1) (fun _ W'=>sOkR row.length F ra c W' hn),fun W ra la c lc hB hP=>iChecksN _ _ v ra la _ c _ lc W (fun e=>hv e.2) fun W'=>⟨true,(fun _=>by simpa using hv),(iRuled row.length F ra c W' hn).mono fun e w' hh=>by
    obtain ⟨g,he,_,_,hb⟩:=hh
    exact ⟨_,_,_,_,_,_,_,he,hb⟩⟩⟩
 ·exact ⟨false,fun W ra la c lc hB hc hP=>sChecks0 _ _ v ps ra la _ c lc W hS hP.1 (fun e=>h e.1) (fun e=>absurd e h),fun W ra la c lc hB hP=>iChecksN _ _ v ra la _ c _ lc W (fun e=>h e.1) fun W'=>⟨false,(fun e=>by cases e),(iRuled0 ra _ c W' hS h).mono fun e w' hh=>by
   obtain ⟨he,hb⟩:=hh
   exact ⟨_,_,_,_,_,_,_,he,hb⟩⟩⟩
end Wp23
namespace Lw4
open Go.RowKit
open Dr0 Dr1
open Ws1 (ret_int ret_bool)
theorem lat (w:World) (a:Option Addr) (len cap:Nat) (i:Int) (h0:0<=i) (hk:i<=1000) (hb:Bytes w a len) (hs:len<=1048576) :
 Calls Try.prog 10 #[.slice a len cap,.int .i64 i] w fun e w'=>(∃ x:Int,e=.returned (.int .i64 x)/\0<=x/\x<=255)/\w'=w:=by
 obtain ⟨k,rfl⟩:=Int.eq_ofNat_of_zero_le h0
 by_cases hlt:k < len
 ·rcases hb.2 with h0|⟨xb,xo,rfl,hcell⟩
  ·omega
  obtain ⟨v,hv0,hv1,hv⟩:=hcell k hlt
  clear hcell hb
  go_enter Try.func10,Try.ntmps10
  go_wp2
  go_ret
  exact ⟨⟨_,rfl,by omega,by omega⟩,rfl⟩
 ·clear hb
  go_enter Try.func10,Try.ntmps10
  go_wp2
  go_ret
  exact ⟨⟨_,rfl,by omega,by omega⟩,rfl⟩
theorem lbig (w:World) (a:Option Addr) (len cap:Nat) (b:Bool) (hb:b=decide (1048576 < len)) :
 Calls Try.prog 5 #[.slice a len cap] w fun e w'=>e=.returned (.bool b)/\w'=w:=by
 subst hb
 go_enter Try.func5,Try.ntmps5
 go_wp2
 go_ret
 exact ⟨ret_bool (by rw [Bool.eq_iff_iff];simp;omega),rfl⟩
end Lw4
namespace Lat
open Go.RowKit
open Nd0
open Dr0 (Bytes)
open Ws1 (ret_int ret_bool)
theorem lat3 (w:World) (a:Option Addr) (len cap:Nat) (i:Int) (h0:0<=i) (hk:i<=1000) (hb:Bytes w a len) (hs:len<=1048576) :
 ∃ x:Int,0<=x/\x<=255/\∀ W:World,Below w.heap.size w W->Calls Try.prog 10 #[.slice a len cap,.int .i64 i] W fun e w'=>e=.returned (.int .i64 x)/\w'=W:=by
 obtain ⟨k,rfl⟩:=Int.eq_ofNat_of_zero_le h0
 by_cases hlt:k < len
 ·rcases hb.2 with h0|⟨xb,xo,rfl,hcell⟩
  ·omega
  obtain ⟨v,hv0,hv1,hv⟩:=hcell k hlt
  refine ⟨v,by omega,by omega,fun W hW=>?_⟩
  have hv2:W.cell? ⟨xb,xo+k,none⟩=some (.int .u8 v):=(hW.cell (p:=⟨xb,xo+k,none⟩) (lt_of_cell hv)).trans hv
  clear hcell hb hW hv
  go_enter Try.func10,Try.ntmps10
  go_wp2
  go_ret
  exact ⟨ret_int (by omega),rfl⟩
 ·refine ⟨((k:Int)*7+(len:Int)) % 256,by omega,by omega,fun W hW=>?_⟩
  clear hb hW
  go_enter Try.func10,Try.ntmps10
  go_wp2
  go_ret
  exact ⟨rfl,rfl⟩
end Lat
namespace Wd1
open Go.RowKit
open Pl1
theorem ret_int {k:IntKind} {a b:Int} (h:a=b):Ending.returned (.int k a)=.returned (.int k b):=by rw [h]
theorem ret_bool {a b:Bool} (h:a=b):Ending.returned (.bool a)=.returned (.bool b):=by rw [h]
theorem spow (m:Int) (w:World) (h0:0<=m) (h1:m<=8) :
 Calls Try.prog 51 #[.int .i64 m] w fun e w'=>e=.returned (.int .i64 (p2 m.toNat))/\w'=w:=by
 obtain ⟨n,rfl⟩:=Int.eq_ofNat_of_zero_le h0
 rw [Int.toNat_natCast]
 go_enter Try.func51,Try.ntmps51
 go_wp2
 go_loop [3,4] (fun x i=>∃ k:Nat,k<=n/\i=.int .i64 k/\x=.int .i64 (p2 k)) (fun _ i=>n - (intOf i).toNat)
 case atStart=>exact ⟨0,Nat.zero_le _,rfl,rfl⟩
 case round =>
  obtain ⟨k,hk,rfl,rfl⟩:=hrel
  have hp:=p2_pos k
  have hl:=p2_le k (by omega)
  by_cases hlt:k < n
  ·go_wp2
   go_round
   case rel=>exact ⟨k+1,by omega,by go_num,by rw [p2_succ]⟩
   case measure=>simp [intOf];omega
  ·go_wp2
   go_ret
   have:k=n:=by omega
   subst this
   exact ⟨rfl,rfl⟩
theorem sIn (x a b:Int) (w:World) :
 Calls Try.prog 44 #[.int .i64 x,.int .i64 a,.int .i64 b] w fun e w'=>e=.returned (.bool (decide (a<=x/\x<=b)))/\w'=w:=by
 by_cases h1:a<=x<;>by_cases h2:x<=b
 all_goals
  go_enter Try.func44,Try.ntmps44
  go_wp2
  go_ret
  exact ⟨ret_bool (by simp<;>omega),rfl⟩
end Wd1
namespace Dr2
open Go.RowKit
open Dr0 Dr1 Pl1 Wd1
theorem belowBig (w:World) (b:Nat) (a:Option Addr) (len cap:Nat) (n:Int) (h0:257<=n) (hc:Cur w b a len cap) :
 Calls Try.prog 24 #[.pointer (some ⟨b,0,none⟩),.int .i64 n] w fun e w'=>(∃ x:Int,e=.returned (.int .i64 x)/\0<=x/\x < n)/\Cur w' b a len cap/\Only b w w':=by
 have HC:Hid (Cur w b a len cap):=hc
 clear hc
 go_enter Try.func24,Try.ntmps24
 go_wp2_with fail
 refine (byte _ b a len cap HC.out).mono ?_
 rintro e w1 ⟨⟨x,rfl,hx0,hx1⟩,hc',ho'⟩
 have HC1:Hid (Cur w1 b a len cap):=hc'
 have HO1:Hid (Only b w w1):=ho'
 clear hc' ho'
 go_wp2_with fail
 refine (byte _ b a len cap HC1.out).mono ?_
 rintro e w2 ⟨⟨y,rfl,hy0,hy1⟩,hc',ho'⟩
 have HC2:Hid (Cur w2 b a len cap):=hc'
 have HO2:Hid (Only b w w2):=HO1.out.trans ho'
 clear hc' ho'
 go_wp2_with fail
 refine (byte _ b a len cap HC2.out).mono ?_
 rintro e w3 ⟨⟨z,rfl,hz0,hz1⟩,hc',ho'⟩
 have HC3:Hid (Cur w3 b a len cap):=hc'
 have HO3:Hid (Only b w w3):=HO2.out.trans ho'
 clear hc' ho'
 go_wp2_with fail
 refine (byte _ b a len cap HC3.out).mono ?_
 rintro e w4 ⟨⟨u,rfl,hu0,hu1⟩,hc',ho'⟩
 have HC4:Hid (Cur w4 b a len cap):=hc'
 have HO4:Hid (Only b w w4):=HO3.out.trans ho'
 clear hc' ho'
 go_wp2
 go_ret
 exact ⟨⟨_,rfl,Int.emod_nonneg _ (by omega),Int.emod_lt_of_pos _ (by omega)⟩,HC4.out,HO4.out⟩
theorem pickNew (w:World) (b:Nat) (a:Option Addr) (len cap:Nat) (c:Array Value) (T n:Nat) (h0:1<=n) (h1:n<=256) (hC:∀ i,i < n->∃ v:Int,c[i]? = some (.int .i64 v)) (hc:Cur w b a len cap) :
 Calls Try.prog 42 #[.pointer (some ⟨b,0,none⟩),.slice (some ⟨w.heap.size,0,none⟩) n n] (w.alloc (.cells c T)) fun e w'=>(∃ x:Int,e=.returned (.int .i64 x))/\Cur w' b a len cap/\Only b w w':=by
 have hb:=hc.lt
 refine (pickInt _ b a len cap w.heap.size n n h0 h1 (by omega) ?_ (hc.alloc _)).mono ?_
 ·intro i hi
  obtain ⟨v,hv⟩:=hC i hi
  exact ⟨v,by rw [World.cell?_alloc_new];exact hv⟩
 ·rintro e w' ⟨h1,h2,h3⟩
  exact ⟨h1,h2,((Only.refl b w).alloc _).trans h3⟩
theorem new (w:World) (a:Option Addr) (len cap:Nat) (hb:Bytes w a len) :
 Calls Try.prog 23 #[.slice a len cap] w fun e w'=>e=.returned (.pointer (some ⟨w.heap.size,0,none⟩))/\Cur w' w.heap.size a len cap/\Below w.heap.size w w':=by
 have hm:=hb.1
 unfold maxLen at hm
 have HB:Hid (Bytes w a len):=hb
 clear hb
 go_enter Try.func23,Try.ntmps23
 go_wp2
 go_loop [3,4] (fun h i=>∃ (k:Nat) (x:Int),k<=len/\i=.int .i64 k/\h=.int .i64 x) (fun _ i=>len - (intOf i).toNat)
 case atStart=>exact ⟨0,_,Nat.zero_le _,rfl,rfl⟩
 case round =>
  obtain ⟨k,x,hk,rfl,rfl⟩:=hrel
  by_cases hlt:k < len/\k < 4000
  ·obtain ⟨hlt,hl4⟩:=hlt
   rcases HB.out.2 with h0|⟨xb,xo,rfl,hcell⟩
   ·omega
   obtain ⟨v,hv0,hv1,hv⟩:=hcell k hlt
   clear hcell
   go_wp2
   go_round
   case rel=>exact ⟨k+1,_,by omega,by go_num,rfl⟩
   case measure=>simp [intOf];omega
  ·have hd:(decide ((k:Int) < (len:Int))&&decide ((k:Int) < 4000))=false:=by simp;omega
   by_cases hlt:k < len
   ·have hl4:¬ (k:Int) < 4000:=by omega
    clear hd
    go_wp2
    go_ret
    exact ⟨rfl,Cur.made HB.out x _,(Below.refl _ w).alloc (Nat.le_refl _) _⟩
   ·have hl4:¬ (k:Int) < (len:Int):=by omega
    clear hd
    go_wp2
    go_ret
    exact ⟨rfl,Cur.made HB.out x _,(Below.refl _ w).alloc (Nat.le_refl _) _⟩
end Dr2
namespace Dr3
open Go.RowKit
open Dr0 Dr1 Dr2 Pl1 Wd1
theorem belowAny (w:World) (b:Nat) (a:Option Addr) (len cap:Nat) (n:Int) (h0:1<=n) (hc:Cur w b a len cap) :
 Calls Try.prog 24 #[.pointer (some ⟨b,0,none⟩),.int .i64 n] w fun e w'=>(∃ x:Int,e=.returned (.int .i64 x)/\0<=x/\x < n)/\Cur w' b a len cap/\Only b w w':=by
 by_cases h:n<=256
 ·exact below w b a len cap n h0 h hc
 ·exact belowBig w b a len cap n (by omega) hc
end Dr3
namespace Wd2
open Go.RowKit
open Pl1 Wd1
theorem two_iff {m a b:Int} (h:(wok m a&&wok m b)=true):1<=m/\m<=8/\0<=a/\a < p2 m.toNat/\0<=b/\b < p2 m.toNat/\p2 m.toNat<=256:=by
 rw [Bool.and_eq_true] at h
 obtain ⟨h1,h2,h3,h4⟩:=wok_iff.1 h.1
 obtain ⟨_,_,h5,h6⟩:=wok_iff.1 h.2
 exact ⟨h1,h2,h3,h4,h5,h6,p2_le _ (by omega)⟩
theorem one_iff {m a:Int} (h:wok m a=true):1<=m/\m<=8/\0<=a/\a < p2 m.toNat/\p2 m.toNat<=256:=by
 obtain ⟨h1,h2,h3,h4⟩:=wok_iff.1 h
 exact ⟨h1,h2,h3,h4,p2_le _ (by omega)⟩
end Wd2
namespace Wd3
open Go.RowKit
open Pl1 Wd1 Wd2
theorem div_bd {a b:Int} (ha:0<=a) (hb:0<=b):0<=a / b/\a / b<=a:=⟨Int.ediv_nonneg ha hb,Int.ediv_le_self _ ha⟩
theorem rem_bd {a b:Int} (ha:0<=a) (hb:0<=b) (hz:¬ b=0):0<=a % b/\a % b < b:=⟨Int.emod_nonneg _ hz,Int.emod_lt_of_pos _ (by omega)⟩
end Wd3
namespace Wd4
open Go.RowKit
open Pl1 Wd1 Wd2 Wd3
theorem shl_zero (a:Int) {m b:Int} (h1:1<=m) (h:m<=b):a*p2 b.toNat % p2 m.toNat=0:=by
 have e:p2 b.toNat=p2 m.toNat*p2 (b - m).toNat:=by
  unfold p2;rw [<- Int.pow_add,show m.toNat+(b - m).toNat=b.toNat by omega]
 rw [e,<- Int.mul_assoc,Int.mul_comm a,Int.mul_assoc]
 exact Int.mul_emod_right _ _
theorem shr_zero {a m b:Int} (h0:0<=a) (h:m<=b) (ha:a < p2 m.toNat):a / p2 b.toNat=0:=by
 have:=p2_mono (show m.toNat<=b.toNat by omega)
 exact Int.ediv_eq_zero_of_lt h0 (by omega)
theorem iOne (b:Bool) (w:World) :
 Calls Try.prog 67 #[.bool b] w fun e w'=>e=.returned (.int .i64 (if b then 1 else 0))/\w'=w:=by
 cases b
 all_goals
  go_enter Try.func67,Try.ntmps67
  go_wp2
  go_ret
  exact ⟨rfl,rfl⟩
end Wd4
namespace Wd5
open Go.RowKit
open Pl1 Wd1 Wd2 Wd3 Wd4
theorem less_of {p q:Bool} {x y:Int} (h:(p&&decide (x < y))=q):(if p&&decide (x < y) then (1:Int) else 0)=if q then 1 else 0:=by rw [h]
theorem wrap_sub {m n:Int} (h1:1<=m) (h2:m<=8) (hn:0<=n) (hw:(Lit.int .i64 n).wf=true):wrap64 (m - n)=m - n:=by
 have:n<=9223372036854775807:=by
  simp [Lit.wf,IntKind.min,IntKind.max,IntKind.signed,IntKind.bits] at hw;omega
 unfold wrap64;omega
end Wd5
namespace Lw0
open Go.RowKit
open Dr0 Dr1 Dr2 Dr3 Pl1 Wd1
theorem lat (w:World) (a:Option Addr) (len cap:Nat) (i:Int) (h0:0<=i) (hk:i<=1000) (hb:Bytes w a len) (hs:len<=1048576) :
 Calls Try.prog 10 #[.slice a len cap,.int .i64 i] w fun e w'=>(∃ x:Int,e=.returned (.int .i64 x)/\0<=x/\x<=255)/\w'=w:=by
 obtain ⟨k,rfl⟩:=Int.eq_ofNat_of_zero_le h0
 by_cases hlt:k < len
 ·rcases hb.2 with h0|⟨xb,xo,rfl,hcell⟩
  ·omega
  obtain ⟨v,hv0,hv1,hv⟩:=hcell k hlt
  clear hcell hb
  go_enter Try.func10,Try.ntmps10
  go_wp2
  go_ret
  exact ⟨⟨_,rfl,by omega,by omega⟩,rfl⟩
 ·clear hb
  go_enter Try.func10,Try.ntmps10
  go_wp2
  go_ret
  exact ⟨⟨_,rfl,by omega,by omega⟩,rfl⟩
theorem lbig (w:World) (a:Option Addr) (len cap:Nat) (b:Bool) (hb:b=decide (1048576 < len)) :
 Calls Try.prog 5 #[.slice a len cap] w fun e w'=>e=.returned (.bool b)/\w'=w:=by
 subst hb
 go_enter Try.func5,Try.ntmps5
 go_wp2
 go_ret
 exact ⟨ret_bool (by rw [Bool.eq_iff_iff];simp;omega),rfl⟩
end Lw0
namespace Lwi1
open Go.RowKit
open Ta0 Ta1 Tc2 Tc5
open Nd0 (Kept Ints WInts lt_of_cell)
open Nd6 (Bools)
open Op6 (Pk PkAt Pks)
open Dr0 (Bytes)
open Ta2 (bitB atB)
open Ss0 (bs bs_size)
open Ss1 (tl bs_tl)
open De0 (dc)
open Dq1 (ownF)
open Dp4 (iDecide iRuled0 iRuled)
open Dm1 (sOkR)
open Dm3 (sDecide sDecide0)
open Wp10 (chk)
open Wp11 (sChecks0 sChecks)
open Wp22 (iChecks)
open Wp23 (iChecksN iChecksM)
open Ddr (drawCase)
open Lat (lat3)
open Lw0 (lbig)
open Ap0 Wp7 Wr0 Wr3 Wt0 Wt1
open Wr4 (iWin)
open Wt4 (tok_str drawChecks)
/-- Checks of both, and what a yes means. -/
theorem cChecks (row:List Bool) (N:Int) (S:ByteArray) (v:Int) (ps:List Pk) (hS:S.size<=1048576) (hw:∀ p∈ps,(Lit.int .i64 p.v).wf=true):∃ (b:Bool) (x:Int) (f:Bool),(b=true->f=true/\x=v) /\
 (∀ (W:World) (ra la:Option Addr) (c lc:Nat),Bools W ra row->row.length<=c->Pks W la ps->Calls Try.prog 13 #[.slice ra row.length c,tv N S,.int .i64 v,.slice la ps.length lc] W fun e w'=>e=.returned (.bool b)/\Below W.heap.size W w') /\
 (∀ (W:World) (ra la:Option Addr) (c lc:Nat),Bools W ra row->Pks W la ps->Calls Try.prog 9 #[.slice ra row.length c,tv N S,.int .i64 v,.slice la ps.length lc] W fun e w'=>e=.returned (.bool b)/\Below W.heap.size W w') /\
 (∀ (W:World) (ra:Option Addr) (c:Nat),Bools W ra row->row.length<=c->Calls Try.prog 8 #[.slice ra row.length c,tv N S] W fun e w'=>e=.returned (.tuple #[.int .i64 x,.bool f])/\Below W.heap.size W w'):=by
 by_cases h:tokB N (tl S)=true/\(row.length:Int)=N
 ·obtain ⟨h1,h2⟩:=h
  obtain ⟨n,F,hn,rfl,rfl⟩:=tok_str h1
  obtain rfl:n=row.length:=by omega
  have hd:∀ (W:World) (ra:Option Addr) (c:Nat),Bools W ra row->row.length<=c->Calls Try.prog 8 #[.slice ra row.length c,tv (row.length:Int) (bs (tab row.length F))] W fun e w'=>e=.returned (.tuple #[.int .i64 ((dc row F).toNat:Int),.bool true])/\Below W.heap.size W w':=fun W ra c hB hc=>sDecide row.length F ra row c W hn rfl hB hc
  by_cases hv:bitB v=true
  ·by_cases hl:ps.length<=5000
   ·refine ⟨_,((dc row F).toNat:Int),true,fun hb=>⟨rfl,chk_dc ps v row ?_ F [] hb⟩,fun W ra la c lc hB hc hP=>sChecks row F v ps ra la c lc W hn hB hc hv hl hP,fun W ra la c lc hB hP=>iChecks row F v ps ra la c lc W hn hB hv hl hP hw,hd⟩
    have:=Wp9.bit_in.1 hv
    omega
   ·exact ⟨false,((dc row F).toNat:Int),true,fun e=>(by cases e),fun W ra la c lc hB hc hP=>sChecks0 _ _ v ps ra la _ c lc W hS hP.1 (fun e=>hl e.2.2) (fun _ W'=>sOkR row.length F ra c W' hn),fun W ra la c lc hB hP=>iChecksM row F v ra la c _ lc W hn hB hv hl,hd⟩
  ·exact ⟨false,((dc row F).toNat:Int),true,fun e=>(by cases e),fun W ra la c lc hB hc hP=>sChecks0 _ _ v ps ra la _ c lc W hS hP.1 (fun e=>hv e.2.1) (fun _ W'=>sOkR row.length F ra c W' hn),fun W ra la c lc hB hP=>iChecksN _ _ v ra la _ c _ lc W (fun e=>hv e.2) fun W'=>⟨true,(fun _=>by simpa using hv),(iRuled row.length F ra c W' hn).mono fun e w' hh=>by
    obtain ⟨g,he,_,_,hb⟩:=hh
    exact ⟨_,_,_,_,_,_,_,he,hb⟩⟩,hd⟩
 ·exact ⟨false,0,false,fun e=>(by cases e),fun W ra la c lc hB hc hP=>sChecks0 _ _ v ps ra la _ c lc W hS hP.1 (fun e=>h e.1) (fun e=>absurd e h),fun W ra la c lc hB hP=>iChecksN _ _ v ra la _ c _ lc W (fun e=>h e.1) fun W'=>⟨false,(fun e=>by cases e),(iRuled0 ra _ c W' hS h).mono fun e w' hh=>by
   obtain ⟨he,hb⟩:=hh
   exact ⟨_,_,_,_,_,_,_,he,hb⟩⟩,fun W ra c hB hc=>sDecide0 ra _ c W hS h⟩
/-- What the law asks of the drawn row and table. -/
structure Wg (row:List Bool) (N:Int) (S:ByteArray) (m:Nat) (ps:List Pk) (v:Int):Prop where
 win:∀ (W:World) (ra:Option Addr) (c:Nat),Bools W ra row->row.length<=c->Calls Try.prog 7 #[.slice ra row.length c,tv N S] W fun e w'=>(∃ g cap,e=.returned (.tuple #[.slice (some ⟨g,0,none⟩) m cap,.int .i64 v,.bool true])/\Pks w' (some ⟨g,0,none⟩) ps)/\Below W.heap.size W w'
 dec:∀ (W:World) (ra:Option Addr) (c:Nat),Bools W ra row->row.length<=c->Calls Try.prog 8 #[.slice ra row.length c,tv N S] W fun e w'=>e=.returned (.tuple #[.int .i64 v,.bool true])/\Below W.heap.size W w'
 chk:∀ (W:World) (ra la:Option Addr) (c lc:Nat),Bools W ra row->Pks W la ps->Calls Try.prog 9 #[.slice ra row.length c,tv N S,.int .i64 v,.slice la m lc] W fun e w'=>e=.returned (.bool true)/\Below W.heap.size W w'
 play:∀ (W:World) (ra la ma:Option Addr) (c lc mc:Nat) (ml:List Int),Bools W ra row->Pks W la ps->Ints W ma ml->ml.length<=1000->Calls Try.prog 11 #[.slice ra row.length c,tv N S,.int .i64 v,.slice la m lc,.slice ma ml.length mc] W fun e w'=>e=.returned (.int .i64 v)/\Below W.heap.size W w'
theorem wg_of (row:List Bool) (F:Nat->Bool) (hn:row.length<=6):∃ (m:Nat) (ps:List Pk) (v:Int),Wg row (row.length:Int) (bs (tab row.length F)) m ps v:=by
 obtain ⟨d,hd⟩:∃ d,d=dc row F:=⟨_,rfl⟩
 have hwl:=wn_len (d.toNat:Int) row F []
 have hp:2 ^ row.length<=2 ^ 6:=Nat.pow_le_pow_right (by decide) hn
 have hv:bitB (d.toNat:Int)=true:=by cases d<;>rfl
 have hb:=wn_bits (d.toNat:Int) row F []
 refine ⟨(wn (d.toNat:Int) row F []).length,wn (d.toNat:Int) row F [],(d.toNat:Int),fun W ra c hB hc=>?_,fun W ra c hB hc=>?_,fun W ra la c lc hB hP=>?_,fun W ra la ma c lc mc ml hB hP hM hl=>?_⟩
 ·rw [hd]
  refine (iWin row F ra c W (by omega) hB hc).mono ?_
  rintro e w' ⟨g,cap,qs,rfl,hq,hL,hb⟩
  have h1:=hL.pks (by have:=congrArg List.length hq;rw [List.length_map] at this;rw [hd] at hwl;unfold maxLen;omega)
  rw [hq] at h1
  exact ⟨⟨g,cap,by rw [<- hq,List.length_map],h1⟩,hb⟩
 ·rw [hd]
  exact sDecide row.length F ra row c W (by omega) rfl hB hc
 ·have h1:=iChecks row F (d.toNat:Int) (wn (d.toNat:Int) row F []) ra la c lc W (by omega) hB hv (by omega) hP (fun p hp=>Wt3.bit_wf (hb p hp))
  rw [wn_chk (d.toNat:Int) row F [] d hd.symm rfl] at h1
  exact h1
 ·have h1:=iPlay row F (d.toNat:Int) (wn (d.toNat:Int) row F []) ml ra la ma c lc mc W (by omega) hB hv (by omega) hP hb hM hl
  rw [win_plays hd.symm (by omega) (mvB ml) (mvB_bit ml)] at h1
  exact h1
theorem lawWin (w:World) (a:Option Addr) (len cap:Nat) (hb:Bytes w a len) :
 Calls Try.prog 3 #[.slice a len cap] w fun e w'=>e=.returned (.bool true)/\Below w.heap.size w w':=by
 have HB:Hid (Bytes w a len):=hb
 clear hb
 by_cases hs:1048576 < len
 ·go_enter Try.func3,Try.ntmps3
  go_wp2_with fail
  refine (lbig _ a len cap true (by simp;omega)).mono ?_
  rintro e w' ⟨rfl,rfl⟩
  go_wp2
  go_ret
  exact ⟨rfl,Below.refl _ _⟩
 have hsl:len<=1048576:=by omega
 have HAT:Hid (∀ i:Nat,i<=1000->∃ y:Int,0<=y/\y<=255/\∀ W:World,Below w.heap.size w W->Calls Try.prog 10 #[.slice a len cap,.int .i64 (i:Int)] W fun e w'=>e=.returned (.int .i64 y)/\w'=W):=fun i hi=>lat3 w a len cap (i:Int) (by omega) (by omega) HB.out hsl
 go_enter Try.func3,Try.ntmps3
 go_wp2_with fail
 refine (lbig _ a len cap false (by simp;omega)).mono ?_
 rintro e w0 ⟨rfl,hw0⟩
 have hw0':=hw0.symm
 clear hw0
 subst hw0'
 go_wp2_with fail
 refine (drawCase _ a len cap HB.out).mono ?_
 rintro e w1 ⟨⟨n,F,row,ra,c,hn6,rfl,hrc,rfl,hrow⟩,hb1⟩
 obtain ⟨m,ps,v,hwg⟩:=wg_of row F hn6
 have HWG:Hid (Wg row (row.length:Int) (bs (tab row.length F)) m ps v):=hwg
 have HR1:Hid (Bools w1 ra row):=hrow
 have HB1:Hid (Below w.heap.size w w1):=hb1
 clear hwg hrow hb1
 generalize bs (tab row.length F)=S at *
 go_upto_region 4 with fail
 obtain ⟨w2,hw2⟩:∃ z,z=w1.alloc (.cells #[.int .i64 (row.length:Int),.string S] 26):=⟨_,rfl⟩
 obtain ⟨qt,hqt⟩:∃ z,z=w1.heap.size:=⟨_,rfl⟩
 have hb2:Below w1.heap.size w1 w2:=by rw [hw2];exact (Below.refl _ _).alloc (Nat.le_refl _) _
 have HT2:Hid (Lay w2 qt (.int .i64 (row.length:Int)) (.string S)):=by rw [hw2,hqt];exact Lay.made _ _ _ _
 have HB2:Hid (Below w.heap.size w w2):=HB1.out.trans (hb2.mono HB1.out.size)
 have HR2:Hid (Bools w2 ra row):=HR1.out.below hb2
 rw [<- hw2,<- hqt]
 clear hw2 hqt hb2 HB1 HR1
 obtain ⟨t0,t1,_,_⟩:=HT2.out
 have tl0:=lt_of_cell t0
 go_wp2_with fail
 clear t0 t1 tl0
 refine (HWG.out.win w2 ra c HR2.out hrc).mono ?_
 rintro e w3 ⟨⟨g,cp,rfl,hp3⟩,hb3⟩
 have HP3:Hid (Pks w3 (some ⟨g,0,none⟩) ps):=hp3
 have HT3:Hid (Lay w3 qt (.int .i64 (row.length:Int)) (.string S)):=HT2.out.below hb3
 have HB3:Hid (Below w.heap.size w w3):=HB2.out.trans (hb3.mono HB2.out.size)
 have HR3:Hid (Bools w3 ra row):=HR2.out.below hb3
 clear hp3 hb3 HT2 HB2 HR2
 obtain ⟨t0,t1,_,_⟩:=HT3.out
 have tl0:=lt_of_cell t0
 go_wp2_with fail
 clear t0 t1 tl0
 refine (HWG.out.dec w3 ra c HR3.out hrc).mono ?_
 rintro e w4 ⟨rfl,hb4⟩
 have HP4:Hid (Pks w4 (some ⟨g,0,none⟩) ps):=pks_below HP3.out hb4
 have HT4:Hid (Lay w4 qt (.int .i64 (row.length:Int)) (.string S)):=HT3.out.below hb4
 have HB4:Hid (Below w.heap.size w w4):=HB3.out.trans (hb4.mono HB3.out.size)
 have HR4:Hid (Bools w4 ra row):=HR3.out.below hb4
 clear hb4 HP3 HT3 HB3 HR3
 have hvv:(v != v)=false:=by simp
 obtain ⟨t0,t1,_,_⟩:=HT4.out
 have tl0:=lt_of_cell t0
 go_wp2_with fail
 clear t0 t1 tl0
 refine (HWG.out.chk w4 ra _ c cp HR4.out HP4.out).mono ?_
 rintro e w5 ⟨rfl,hb5⟩
 have HP5:Hid (Pks w5 (some ⟨g,0,none⟩) ps):=pks_below HP4.out hb5
 have HT5:Hid (Lay w5 qt (.int .i64 (row.length:Int)) (.string S)):=HT4.out.below hb5
 have HB5:Hid (Below w.heap.size w w5):=HB4.out.trans (hb5.mono HB4.out.size)
 have HR5:Hid (Bools w5 ra row):=HR4.out.below hb5
 clear hb5 HP4 HT4 HB4 HR4
 obtain ⟨w6,hw6⟩:∃ z,z=w5.alloc (.cells #[] 3):=⟨_,rfl⟩
 have hb6:Below w5.heap.size w5 w6:=by rw [hw6];exact (Below.refl _ _).alloc (Nat.le_refl _) _
 have HO6:Hid (Ows w6 w5.heap.size (.slice (some ⟨w5.heap.size,0,none⟩) 0 0) []):=by rw [hw6];exact Ows.lit w5 _ (Nat.le_refl _)
 have HB56:Hid (Below w5.heap.size w5 w6):=hb6
 clear hb6
 go_upto_region 9 with fail
 rw [<- hw6]
 clear hw6
 go_wp2_with fail
 go_loopw [10,11] (fun z i wr=>∃ ml:List Int,ml.length<=row.length/\i=.int .i64 (ml.length:Int)/\Ows wr w5.heap.size z ml/\Below w5.heap.size w5 wr) (fun _ i _=>row.length - (intOf i).toNat)
 case atStart=>exact ⟨[],Nat.zero_le _,rfl,HO6.out,HB56.out⟩
 case round =>
  obtain ⟨ml,hml,rfl,hows,hbr⟩:=hrel
  obtain ⟨va,vc,rfl,hwi⟩:=hows.form
  have HOR:Hid (Ows wr w5.heap.size (.slice va ml.length vc) ml):=hows
  have HVI:Hid (Ints wr va ml):=hwi.ints
  have HBR:Hid (Below w5.heap.size w5 wr):=hbr
  have HBW:Hid (Below w.heap.size w wr):=HB5.out.trans (hbr.mono HB5.out.size)
  have HTR:Hid (Lay wr qt (.int .i64 (row.length:Int)) (.string S)):=HT5.out.below hbr
  have hsz:=hbr.size
  clear hows hwi hbr
  by_cases hlt:ml.length < row.length
  ·have hlz:(ml.length:Int) < (row.length:Int):=by omega
   obtain ⟨y,hy0,hy1,hat⟩:=HAT.out (ml.length+2) (by omega)
   rw [show ((ml.length+2:Nat):Int)=(ml.length:Int)+2 by omega] at hat
   have HAY:Hid (∀ W:World,Below w.heap.size w W->Calls Try.prog 10 #[.slice a len cap,.int .i64 ((ml.length:Int)+2)] W fun e w'=>e=.returned (.int .i64 y)/\w'=W):=hat
   clear hat
   obtain ⟨t0,t1,_,_⟩:=HTR.out
   have tl0:=lt_of_cell t0
   go_wp2_with fail
   clear t0 t1 tl0
   refine (HAY.out _ HBW.out).mono ?_
   rintro e w' ⟨rfl,hq⟩
   have hq':=hq.symm
   clear hq
   subst hq'
   go_upto_region 11 with (at_builtin;go_must (refine app_int _ rfl _ _ rfl w5.heap.size (.slice va ml.length vc) ml _ rfl rfl HOR.out (by omega) (by omega) ?_;intro g7 cp7 w7 ho7 hk7 hg7;have HK7:Hid (Kept (fun b=>((.slice va ml.length vc):Value).ownBlock=some b) wr w7):=hk7;have HO7:Hid (∃ l7:List Int,l7.length=ml.length+1/\Ows w7 w5.heap.size (.slice (some ⟨g7,0,none⟩) (ml.length+1) cp7) l7):=⟨_,by rw [List.length_append];rfl,ho7⟩;clear ho7 hk7 hg7))
   go_wp2
   go_roundw
   case rel =>
    obtain ⟨l7,h7,h8⟩:=HO7.out
    exact ⟨l7,by omega,by rw [h7];go_num,h8,HBR.out.trans (HK7.out.below (fun b hb=>(HOR.out.lt b hb).1) (by omega))⟩
   case measure=>simp [intOf];omega
  ·have hlz:¬ (ml.length:Int) < (row.length:Int):=by omega
   have HPR:Hid (Pks wr (some ⟨g,0,none⟩) ps):=pks_below HP5.out HBR.out
   have HRR:Hid (Bools wr ra row):=HR5.out.below HBR.out
   clear HOR
   obtain ⟨t0,t1,_,_⟩:=HTR.out
   have tl0:=lt_of_cell t0
   go_wp2_with fail
   clear t0 t1 tl0
   refine (HWG.out.play wr ra _ va c cp vc ml HRR.out HPR.out HVI.out (by omega)).mono ?_
   rintro e w8 ⟨rfl,hb8⟩
   have HP8:Hid (Pks w8 (some ⟨g,0,none⟩) ps):=pks_below HPR.out hb8
   have HT8:Hid (Lay w8 qt (.int .i64 (row.length:Int)) (.string S)):=HTR.out.below hb8
   have HB8:Hid (Below w.heap.size w w8):=HBW.out.trans (hb8.mono HBW.out.size)
   have HR8:Hid (Bools w8 ra row):=HRR.out.below hb8
   clear hb8 HPR HTR HBW HRR HVI HBR
   obtain ⟨t0,t1,_,_⟩:=HT8.out
   have tl0:=lt_of_cell t0
   go_wp2_with fail
   clear t0 t1 tl0
   refine (HWG.out.play w8 ra _ none c cp 0 [] HR8.out HP8.out ⟨Nat.zero_le _,.inl rfl⟩ (by simp)).mono ?_
   rintro e w9 ⟨rfl,hb9⟩
   have HB9:Hid (Below w.heap.size w w9):=HB8.out.trans (hb9.mono HB8.out.size)
   clear hb9 HP8 HT8 HB8 HR8
   go_wp2_with fail
   refine (drawChecks w9 a len cap (HB.out.below HB9.out)).mono ?_
   rintro e wa ⟨⟨N2,S2,row2,ra2,c2,v2,la2,ps2,lc2,hS2,_,hrc2,rfl,hr2,hp2,hw2⟩,hba⟩
   obtain ⟨b2,x2,f2,himp,hsp,him,hde⟩:=cChecks row2 N2 S2 v2 ps2 (by omega) hw2
   have HIMP:Hid (b2=true->f2=true/\x2=v2):=himp
   have HSP:Hid _:=hsp
   have HIM:Hid _:=him
   have HDE:Hid _:=hde
   obtain ⟨wb,hwb⟩:∃ z,z=wa.alloc (.cells #[.int .i64 N2,.string S2] 26):=⟨_,rfl⟩
   obtain ⟨qu,hqu⟩:∃ z,z=wa.heap.size:=⟨_,rfl⟩
   have hbb:Below wa.heap.size wa wb:=by rw [hwb];exact (Below.refl _ _).alloc (Nat.le_refl _) _
   have HTb:Hid (Lay wb qu (.int .i64 N2) (.string S2)):=by rw [hwb,hqu];exact Lay.made _ _ _ _
   have HBb:Hid (Below w.heap.size w wb):=(HB9.out.trans (hba.mono HB9.out.size)).trans (hbb.mono (Nat.le_trans HB9.out.size hba.size))
   have HRb:Hid (Bools wb ra2 row2):=hr2.below hbb
   have HPb:Hid (Pks wb la2 ps2):=pks_below hp2 hbb
   go_upto_region 16 with fail
   rw [<- hwb,<- hqu]
   clear hwb hqu hbb hba hr2 hp2 hw2 himp hsp him hde HB9
   obtain ⟨t0,t1,_,_⟩:=HTb.out
   have tl0:=lt_of_cell t0
   go_wp2_with fail
   clear t0 t1 tl0
   refine (HIM.out wb ra2 la2 c2 lc2 HRb.out HPb.out).mono ?_
   rintro e wc ⟨rfl,hbc⟩
   have HTc:Hid (Lay wc qu (.int .i64 N2) (.string S2)):=HTb.out.below hbc
   have HBc:Hid (Below w.heap.size w wc):=HBb.out.trans (hbc.mono HBb.out.size)
   have HRc:Hid (Bools wc ra2 row2):=HRb.out.below hbc
   have HPc:Hid (Pks wc la2 ps2):=pks_below HPb.out hbc
   clear hbc HTb HBb HRb HPb
   have hbb2:(b2 != b2)=false:=by simp
   obtain ⟨t0,t1,_,_⟩:=HTc.out
   have tl0:=lt_of_cell t0
   go_wp2_with fail
   clear t0 t1 tl0
   refine (HSP.out wc ra2 la2 c2 lc2 HRc.out hrc2 HPc.out).mono ?_
   rintro e wd ⟨rfl,hbd⟩
   have HTd:Hid (Lay wd qu (.int .i64 N2) (.string S2)):=HTc.out.below hbd
   have HBd:Hid (Below w.heap.size w wd):=HBc.out.trans (hbd.mono HBc.out.size)
   have HRd:Hid (Bools wd ra2 row2):=HRc.out.below hbd
   clear hbd HTc HBc HRc HPc
   obtain ⟨t0,t1,_,_⟩:=HTd.out
   have tl0:=lt_of_cell t0
   go_wp2_with fail
   clear t0 t1 tl0
   refine (HDE.out wd ra2 c2 HRd.out hrc2).mono ?_
   rintro e we ⟨rfl,hbe⟩
   have HBe:Hid (Below w.heap.size w we):=HBd.out.trans (hbe.mono HBd.out.size)
   clear hbe HTd HBd HRd
   have hv2:(v2==v2)=true:=by simp
   cases b2
   ·go_wp2
    go_ret
    exact ⟨rfl,HBe.out⟩
   ·obtain ⟨h1,h2⟩:=HIMP.out rfl
    subst h1 h2
    go_wp2
    go_ret
    exact ⟨rfl,HBe.out⟩
end Lwi1
end Go.Proofs.Ytfhdbcfhhbdiiaa
