import Derived.Test.YthanhcobfehmnaaGreatDw4
import Derived.Test.YthanhcobfehmnaaGreatSp11
namespace Go.Proofs.YthanhcobfehmnaaGreat
set_option maxRecDepth 100000
set_option maxHeartbeats 8000000
set_option linter.unusedVariables false
namespace Dw5
open Go.RowKit
open Nd0 Nd3 Ap2 Dw0 Dw1 Dw2 Dw3 Dw4 Tm0 Tm6
open Dr0 (Cur Only Bytes Off)
open Dr1 (once below)
open Sp11 (sSentence)
theorem madeC (d:Nat):MadeC d:=by
 induction d with
 | zero=>exact madeAny 0 (fun d h=>by omega)
 | succ d ih=>exact madeAny (d+1) (fun d' h=>by have:d'=d:=by omega
                                                subst this;exact ih)
def SPost (b:Nat) (a:Option Addr) (len cap:Nat) (w:World) (e:Ending) (w':World):Prop :=
 ∃ (g c:Nat) (L:List Nd),e=.returned (.slice (some ⟨g,0,none⟩) L.length c)/\Dr w' b a len cap (.slice (some ⟨g,0,none⟩) L.length c) L/\Kept (fun k=>k=b) w w'/\1<=L.length/\L.length<=80/\w.heap.size<=g
theorem own_at {w:World} {B:Nat} {v:Value} {l:List Nd} (h:Ap2.Own w B v l) (hl:1<=l.length):∃ g c,v=.slice (some ⟨g,0,none⟩) l.length c:=by
 obtain ⟨h1,h2⟩:=h
 rcases h2 with ⟨rfl,h0⟩|⟨g,cap,cur,rfl,_⟩
 ·omega
 ·exact ⟨g,cap,rfl⟩
theorem sent_len {l:List Nd} (h:sentB l=true):1<=l.length:=by
 have:termOk l=true:=by
  cases ht:termOk l
  ·rw [sent_term ht] at h;cases h
  ·rfl
 exact (term_len this).1
theorem stp_kept {b:Nat} {v v':Value} {w0 w w':World} (hk:Kept (fun k=>k=b) w0 w) (s:Stp b v v' w w') (hv:∀ k,v.ownBlock=some k->w0.heap.size<=k):Kept (fun k=>k=b) w0 w':=by
 refine ⟨s.kept.os.trans hk.os,s.kept.tape.trans hk.tape,s.kept.output.trans hk.output,Nat.le_trans hk.size s.kept.size,fun i hi hb=>?_⟩
 rw [s.kept.block i (Nat.lt_of_lt_of_le hi hk.size) (fun e=>?_)]
 ·exact hk.block i hi hb
 ·rcases e with e|e
  ·exact hb e
  ·have:=hv i e;omega
theorem sentence (w:World) (b:Nat) (a:Option Addr) (len cap:Nat) (bits:Int) (hc:Cur w b a len cap) (hlo:Low a len b) (hb0:0<=bits) (hb1:bits<=100) :
 Calls Tryz.prog 93 #[.pointer (some ⟨b,0,none⟩),.int .i64 bits] w (SPost b a len cap w):=by
 have hbs:=hc.lt
 have hB1:Below w.heap.size w (w.alloc (.cells #[] 44)):=(Below.refl _ _).alloc (Nat.le_refl _) _
 have hB2:Below w.heap.size w ((w.alloc (.cells #[] 44)).alloc (.cells #[] 44)):=hB1.alloc (by simp) _
 have HD:Hid (Dr ((w.alloc (.cells #[] 44)).alloc (.cells #[] 44)) b a len cap (.slice (some ⟨w.heap.size,0,none⟩) 0 0) []) :=
  ⟨cur_kept hc (S:=fun _=>False) (Kept.ofBelow hB2) (fun h=>h) (.inr fun _ _ h=>h),World.ownsRow.alloc (Own.lit w _ (by omega)) _,hlo⟩
 have HK:Hid (Kept (fun k=>k=b) w ((w.alloc (.cells #[] 44)).alloc (.cells #[] 44))):=Kept.ofBelow hB2
 clear hc hlo hB1 hB2
 go_enter Tryz.func93,Tryz.ntmps93
 go_wp2_with fail
 refine (madeC 4 _ b a len cap (.slice (some ⟨w.heap.size,0,none⟩) 0 0) [] (some ⟨w.heap.size+1,0,none⟩) [] 0 0 bits 4 rfl HD.out ⟨⟨Nat.zero_le _,.inl rfl⟩,fun x h=>absurd h (Nat.not_lt_zero _)⟩ (fun i h=>absurd h (Nat.not_lt_zero _)) (by simp) (by omega) hb0 hb1 (by show 0+gd 4<=_;decide)).mono ?_
 rintro e w1 ⟨v1,L1,at1,n1,lf1,rfl,hd,hs,hl,_,_,_,_⟩
 obtain ⟨ta,tc,rfl⟩:=hd.slice
 have HD1:Hid (Dr w1 b a len cap (.slice ta L1.length tc) L1):=hd
 have HK1:Hid (Kept (fun k=>k=b) w w1):=stp_kept HK.out hs (fun k hk=>by cases hk;exact Nat.le_refl _)
 have hl1:L1.length<=700:=by
  have:gd 4=655:=by decide
  simp at hl;omega
 have HG1:Hid (∀ k,(Value.slice ta L1.length tc).ownBlock=some k->w.heap.size<=k):=by
  show ∀ _,_
  intro k hk
  rcases hs.new k hk with e|e
  ·cases e;exact Nat.le_refl _
  ·simp at e;omega
 clear hd hs hl HD HK
 have HLIT:Hid (∀ wz:World,Dr wz b a len cap (.slice ta L1.length tc) L1->Kept (fun k=>k=b) w wz->SPost b a len cap w (.returned (.slice (some ⟨wz.heap.size,0,none⟩) 2 2)) (wz.alloc (.cells #[.int .i64 1,.int .i64 1,.int .i64 0,.int .i64 0,.int .i64 0,.int .i64 0,.int .i64 20,.int .i64 1,.int .i64 0,.int .i64 0,.int .i64 1,.int .i64 0] 44))):=by
  show ∀ _,_
  intro wz hd hk
  refine ⟨wz.heap.size,2,[⟨1,1,0,0,0,0⟩,⟨20,1,0,0,1,0⟩],rfl,⟨cur_kept hd.cur (S:=fun _=>False) ((Kept.refl _ _).alloc _) (fun h=>h) (.inr fun _ _ h=>h),?_,hd.low⟩,hk.alloc _,by simp,by simp,hk.size⟩
  exact World.ownsRow_lit wz #[.int .i64 1,.int .i64 1,.int .i64 0,.int .i64 0,.int .i64 0,.int .i64 0,.int .i64 20,.int .i64 1,.int .i64 0,.int .i64 0,.int .i64 1,.int .i64 0] 2 hd.size (by decide) rfl
 by_cases h80:80 < L1.length
 ·have h81:(80:Int) < (L1.length:Int):=by omega
  go_wp2
  go_ret
  exact HLIT.out _ HD1.out HK1.out
 ·have h81:¬ (80:Int) < (L1.length:Int):=by omega
  go_wp2_with fail
  obtain ⟨a2,c2,hv2,hw2⟩:=HD1.out.own.form
  cases hv2
  refine (sSentence _ _ L1 _ hw2.nodes).mono ?_
  rintro e w2 ⟨rfl,hb2⟩
  have HD2:Hid (Dr w2 b a len cap (.slice ta L1.length tc) L1):=HD1.out.below hb2
  have HK2:Hid (Kept (fun k=>k=b) w w2):=HK1.out.trans (Kept.ofBelow hb2)
  clear hb2 hw2
  cases hS:sentB L1
  ·go_wp2
   go_ret
   exact HLIT.out _ HD2.out HK2.out
  ·have h1:=sent_len hS
   obtain ⟨g3,c3,hv3⟩:=own_at HD2.out.own h1
   cases hv3
   clear hS
   go_wp2
   go_ret
   exact ⟨g3,tc,L1,rfl,HD2.out,HK2.out,h1,by omega,HG1.out _ rfl⟩
end Dw5
namespace Dr4
open Go.RowKit
open Dr0 Dr1
theorem pickNew (w:World) (b:Nat) (a:Option Addr) (len cap:Nat) (c:Array Value) (T n:Nat) (h0:1<=n) (h1:n<=256) (hC:∀ i,i < n->∃ v:Int,c[i]? = some (.int .i64 v)) (hc:Cur w b a len cap) :
 Calls Tryz.prog 94 #[.pointer (some ⟨b,0,none⟩),.slice (some ⟨w.heap.size,0,none⟩) n n] (w.alloc (.cells c T)) fun e w'=>(∃ x:Int,e=.returned (.int .i64 x))/\Cur w' b a len cap/\Only b w w':=by
 have hb:=hc.lt
 refine (pickInt _ b a len cap w.heap.size n n h0 h1 (by omega) ?_ (hc.alloc _)).mono ?_
 ·intro i hi
  obtain ⟨v,hv⟩:=hC i hi
  exact ⟨v,by rw [World.cell?_alloc_new];exact hv⟩
 ·rintro e w' ⟨h1,h2,h3⟩
  exact ⟨h1,h2,((Only.refl b w).alloc _).trans h3⟩
theorem new (w:World) (a:Option Addr) (len cap:Nat) (hb:Bytes w a len) :
 Calls Tryz.prog 10 #[.slice a len cap] w fun e w'=>e=.returned (.pointer (some ⟨w.heap.size,0,none⟩))/\Cur w' w.heap.size a len cap/\Below w.heap.size w w':=by
 have hm:=hb.1
 unfold maxLen at hm
 have HB:Hid (Bytes w a len):=hb
 clear hb
 go_enter Tryz.func10,Tryz.ntmps10
 go_wp2
 go_loop [3,4] (fun h i=>∃ (k:Nat) (x:Int),k<=len/\i=.int .i64 k/\h=.int .i64 x) (fun _ i=>len - (intOf i).toNat)
 case atStart=>exact ⟨0,_,Nat.zero_le _,rfl,rfl⟩
 case round =>
  obtain ⟨k,x,hk,rfl,rfl⟩:=hrel
  by_cases hlt:k < len/\k < 4000
  ·obtain ⟨hlt,hl4⟩:=hlt
   rcases HB.out.2 with h0|⟨xb,xo,rfl,hcell⟩
   ·omega
   obtain ⟨v,hv0,hv1,hv⟩:=hcell k hlt
   clear hcell
   go_wp2
   go_round
   case rel=>exact ⟨k+1,_,by omega,by go_num,rfl⟩
   case measure=>simp [intOf];omega
  ·have hd:(decide ((k:Int) < (len:Int))&&decide ((k:Int) < 4000))=false:=by simp;omega
   by_cases hlt:k < len
   ·have hl4:¬ (k:Int) < 4000:=by omega
    clear hd
    go_wp2
    go_ret
    exact ⟨rfl,Cur.made HB.out x _,(Below.refl _ w).alloc (Nat.le_refl _) _⟩
   ·have hl4:¬ (k:Int) < (len:Int):=by omega
    clear hd
    go_wp2
    go_ret
    exact ⟨rfl,Cur.made HB.out x _,(Below.refl _ w).alloc (Nat.le_refl _) _⟩
end Dr4
namespace Dw6
open Go.RowKit
open Nd0 Nd3 Ap2 Dw0 Dw1 Dw2 Dw3 Dw4 Dw5
open Dr0 (Cur Only Bytes Off)
open Dr1 (once below)
open Dr4 (pickNew)
def Wild (w:World) (g n:Nat):Prop:=∀ p,p < n*6->(∃ x:Int,w.cell? ⟨g,p,none⟩=some (.int .i64 x))/\w.frozen? ⟨g,p,none⟩=false
theorem own_wild {w:World} {B g c:Nat} {L:List Nd} (h:Ap2.Own w B (.slice (some ⟨g,0,none⟩) L.length c) L):Wild w g L.length:=by
 obtain ⟨a',c',hv,hw⟩:=h.form
 cases hv
 intro p hp
 rcases hw.2 with h0|⟨b',o',he,_,hc,hf⟩
 ·omega
 ·cases he
  refine ⟨?_,by have:=hf p hp;rw [Nat.zero_add] at this;exact this⟩
  obtain ⟨c0,c1,c2,c3,c4,c5⟩:=hc (p / 6) (by omega)
  have h6:p=0+p / 6*6\/p=0+p / 6*6+1\/p=0+p / 6*6+2\/p=0+p / 6*6+3\/p=0+p / 6*6+4\/p=0+p / 6*6+5:=by omega
  rcases h6 with r|r|r|r|r|r
  ·exact ⟨_,by rw [r];exact c0⟩
  ·exact ⟨_,by rw [r];exact c1⟩
  ·exact ⟨_,by rw [r];exact c2⟩
  ·exact ⟨_,by rw [r];exact c3⟩
  ·exact ⟨_,by rw [r];exact c4⟩
  ·exact ⟨_,by rw [r];exact c5⟩
theorem Wild.set {w:World} {g n:Nat} (h:Wild w g n) {p:Nat} (hp:p < n*6) (x:Int):Wild (w.setCell ⟨g,p,none⟩ (.int .i64 x)) g n:=by
 intro q hq
 refine ⟨?_,by simp only [World.frozen?_setCell];exact (h q hq).2⟩
 by_cases e:q=p
 ·subst e
  obtain ⟨y,hy⟩:=(h q hq).1
  exact ⟨x,set_same hy⟩
 ·obtain ⟨y,hy⟩:=(h q hq).1
  exact ⟨y,by rw [set_other (by intro z;cases z;exact e rfl)];exact hy⟩
theorem Wild.kept {w w':World} {g n:Nat} (h:Wild w g n) {S:Nat->Prop} (k:Kept S w w') (hs:¬ S g):Wild w' g n:=by
 intro q hq
 obtain ⟨⟨y,hy⟩,hf⟩:=h q hq
 exact ⟨⟨y,by rw [k.cell (p:=⟨g,q,none⟩) (lt_of_cell hy) hs];exact hy⟩,by rw [k.frozen (p:=⟨g,q,none⟩) (lt_of_cell hy) hs];exact hf⟩
def val (o:Option Value):Int:=match o with|some (.int _ x)=>x|_=>0
theorem Wild.nodes {w:World} {g n:Nat} (h:Wild w g n) (hn:n<=maxLen):∃ L:List Nd,L.length=n/\Nodes w (some ⟨g,0,none⟩) L:=by
 refine ⟨(List.range n).map fun i=>⟨val (w.cell? ⟨g,i*6,none⟩),val (w.cell? ⟨g,i*6+1,none⟩),val (w.cell? ⟨g,i*6+2,none⟩),val (w.cell? ⟨g,i*6+3,none⟩),val (w.cell? ⟨g,i*6+4,none⟩),val (w.cell? ⟨g,i*6+5,none⟩)⟩,by simp,by simpa using hn,.inr ⟨g,0,rfl,fun i hi=>?_⟩⟩
 have hi':i < n:=by simpa using hi
 have hv:∀ r,r < 6->w.cell? ⟨g,i*6+r,none⟩=some (.int .i64 (val (w.cell? ⟨g,i*6+r,none⟩))):=by
  intro r hr
  obtain ⟨⟨y,hy⟩,_⟩:=h (i*6+r) (by omega)
  rw [hy];rfl
 have e:((List.range n).map fun i=>(⟨val (w.cell? ⟨g,i*6,none⟩),val (w.cell? ⟨g,i*6+1,none⟩),val (w.cell? ⟨g,i*6+2,none⟩),val (w.cell? ⟨g,i*6+3,none⟩),val (w.cell? ⟨g,i*6+4,none⟩),val (w.cell? ⟨g,i*6+5,none⟩)⟩:Nd))[i]=⟨val (w.cell? ⟨g,i*6,none⟩),val (w.cell? ⟨g,i*6+1,none⟩),val (w.cell? ⟨g,i*6+2,none⟩),val (w.cell? ⟨g,i*6+3,none⟩),val (w.cell? ⟨g,i*6+4,none⟩),val (w.cell? ⟨g,i*6+5,none⟩)⟩:=by simp
 rw [e,Nat.zero_add]
 exact ⟨hv 0 (by omega),hv 1 (by omega),hv 2 (by omega),hv 3 (by omega),hv 4 (by omega),hv 5 (by omega)⟩
theorem own_cap {w:World} {B g n c:Nat} {L:List Nd} (h:Ap2.Own w B (.slice (some ⟨g,0,none⟩) n c) L):L.length<=c:=by
 obtain ⟨h1,h2⟩:=h
 rcases h2 with ⟨h0,_⟩|⟨g',cap,cur,he,hb,hg,hn,rest⟩
 ·cases h0
 ·cases he;exact hn
def APost (b:Nat) (a:Option Addr) (len cap:Nat) (w:World) (e:Ending) (w':World):Prop :=
 ∃ (g c:Nat) (L:List Nd),e=.returned (.slice (some ⟨g,0,none⟩) L.length c)/\Nodes w' (some ⟨g,0,none⟩) L/\b < g/\g < w'.heap.size/\Cur w' b a len cap/\Kept (fun k=>k=b) w w'/\1<=L.length/\L.length<=81/\L.length<=c
theorem apost {b:Nat} {a:Option Addr} {len cap:Nat} {w w':World} {g n c:Nat} (hw:Wild w' g n) (hb:b < g) (hc:Cur w' b a len cap) (hk:Kept (fun k=>k=b) w w') (h1:1<=n) (h2:n<=81) (h3:n<=c):APost b a len cap w (.returned (.slice (some ⟨g,0,none⟩) n c)) w':=by
 obtain ⟨L,rfl,hL⟩:=hw.nodes (by unfold maxLen;omega)
 obtain ⟨⟨x,hx⟩,_⟩:=hw 0 (by omega)
 exact ⟨g,c,L,rfl,hL,hb,lt_of_cell hx,hc,hk,h1,h2,h3⟩
theorem apost_set {b:Nat} {a:Option Addr} {len cap:Nat} {w w':World} {g n c p:Nat} {x:Int} (hlo:Low a len b) (hw:Wild w' g n) (hb:b < g) (hg:w.heap.size<=g) (hc:Cur w' b a len cap) (hk:Kept (fun k=>k=b) w w') (h1:1<=n) (h2:n<=81) (h3:n<=c) (hp:p < n*6):APost b a len cap w (.returned (.slice (some ⟨g,0,none⟩) n c)) (w'.setCell ⟨g,p,none⟩ (.int .i64 x)):=by
 have hS:Kept (fun k=>k=g) w' (w'.setCell ⟨g,p,none⟩ (.int .i64 x)):=(Kept.refl (fun k=>k=g) w').setCell (p:=⟨g,p,none⟩) rfl _
 refine apost (hw.set hp x) hb (cur_kept hc hS (by show ¬ b=g;omega) ?_) ?_ h1 h2 h3
 ·rcases hlo with h0|hl
  ·exact .inl h0
  ·exact .inr fun y hy e=>by have:=hl y hy;have:y.block=g:=e;omega
 ·refine ⟨hS.os.trans hk.os,hS.tape.trans hk.tape,hS.output.trans hk.output,Nat.le_trans hk.size hS.size,fun i hi hn=>?_⟩
  rw [hS.block i (Nat.lt_of_lt_of_le hi hk.size) (by show ¬ i=g;omega)]
  exact hk.block i hi hn
end Dw6
namespace Dw7
open Go.RowKit
open Nd0 Nd3 Ap2 Dw0 Dw1 Dw2 Dw3 Dw4 Dw5 Dw6
open Dr0 (Cur Only Bytes Off)
open Dr1 (once below)
open Dr4 (pickNew)
theorem four (p q r s:Int):∀ i,i < 4->∃ v:Int,(#[.int .i64 p,.int .i64 q,.int .i64 r,.int .i64 s]:Array Value)[i]? = some (.int .i64 v):=by
 intro i hi
 have h:i=0\/i=1\/i=2\/i=3:=by omega
 rcases h with rfl|rfl|rfl|rfl
 ·exact ⟨p,rfl⟩
 ·exact ⟨q,rfl⟩
 ·exact ⟨r,rfl⟩
 ·exact ⟨s,rfl⟩
theorem anyNodes (w:World) (b:Nat) (a:Option Addr) (len cap:Nat) (hc:Cur w b a len cap) (hlo:Low a len b) :
 Calls Tryz.prog 49 #[.pointer (some ⟨b,0,none⟩)] w (APost b a len cap w):=by
 have HC0:Hid (Cur w b a len cap):=hc
 have HLO:Hid (Low a len b):=hlo
 have HBS:Hid (b < w.heap.size):=hc.lt
 clear hc hlo
 go_enter Tryz.func49,Tryz.ntmps49
 go_wp2_with fail
 refine (sentence _ b a len cap 8 HC0.out HLO.out (by omega) (by omega)).mono ?_
 rintro e w1 ⟨g,c,L,rfl,hd,hk,hl1,hl2,hg⟩
 have HD1:Hid (Dr w1 b a len cap (.slice (some ⟨g,0,none⟩) L.length c) L):=hd
 have HK1:Hid (Kept (fun k=>k=b) w w1):=hk
 have HG:Hid (w.heap.size<=g):=hg
 have HGB:Hid (b < g):=by have:=HBS.out;show _ < _;omega
 have HCAP:Hid (L.length<=c):=own_cap hd.own
 clear hd hk hg HC0
 go_wp2_with fail
 refine (below _ b a len cap _ (by omega) (by omega) HD1.out.cur).mono ?_
 rintro e w2 ⟨⟨x2,rfl,hx2,hy2⟩,hc',ho'⟩
 obtain ⟨i,rfl⟩:=Int.eq_ofNat_of_zero_le hx2
 have HD2:Hid (Dr w2 b a len cap (.slice (some ⟨g,0,none⟩) L.length c) L):=HD1.out.only hc' ho'
 have HK2:Hid (Kept (fun k=>k=b) w w2):=HK1.out.trans (only_kept ho')
 have hil:i < L.length:=by omega
 clear hc' ho' HD1 HK1 hx2
 go_wp2_with fail
 refine (below _ b a len cap _ (by omega) (by omega) HD2.out.cur).mono ?_
 rintro e w3 ⟨⟨x,rfl,hx3,hy3⟩,hc',ho'⟩
 have HD3:Hid (Dr w3 b a len cap (.slice (some ⟨g,0,none⟩) L.length c) L):=HD2.out.only hc' ho'
 have HK3:Hid (Kept (fun k=>k=b) w w3):=HK2.out.trans (only_kept ho')
 clear hc' ho' HD2 HK2
 by_cases e0:x=0
 ·
  have t0:(x==0)=true:=by simpa using e0
  clear e0
  go_wp2_with fail
  refine (pickNew w3 b a len cap #[.int .i64 0,.int .i64 1,.int .i64 2,.int .i64 9] 3 4 (by omega) (by omega) (four _ _ _ _) HD3.out.cur).mono ?_
  rintro e w4 ⟨⟨x4,rfl⟩,hc',ho'⟩
  have HC4:Hid (Cur w4 b a len cap):=hc'
  have HK4:Hid (Kept (fun k=>k=b) w w4):=HK3.out.trans (only_kept ho')
  have HW9:Hid (Wild w4 g L.length):=(own_wild HD3.out.own).kept (only_kept ho') (by have:=HGB.out;show ¬ g=b;omega)
  obtain ⟨⟨z9,hz9⟩,hf9⟩:=HW9.out (i*6+1) (by omega)
  clear hc' ho'
  go_wp2
  go_ret
  exact apost_set HLO.out HW9.out HGB.out HG.out HC4.out HK4.out hl1 (by omega) HCAP.out (by omega)
 have t0:(x==0)=false:=by simpa using e0
 by_cases e1:x=1
 ·
  have t1:(x==1)=true:=by simpa using e1
  clear e0 e1
  go_wp2_with fail
  refine (below _ b a len cap _ (by omega) (by omega) HD3.out.cur).mono ?_
  rintro e w4 ⟨⟨x4,rfl,hx4,hy4⟩,hc',ho'⟩
  have HC4:Hid (Cur w4 b a len cap):=hc'
  have HK4:Hid (Kept (fun k=>k=b) w w4):=HK3.out.trans (only_kept ho')
  have HW9:Hid (Wild w4 g L.length):=(own_wild HD3.out.own).kept (only_kept ho') (by have:=HGB.out;show ¬ g=b;omega)
  obtain ⟨⟨z9,hz9⟩,hf9⟩:=HW9.out (i*6+3) (by omega)
  clear hc' ho'
  go_wp2
  go_ret
  exact apost_set HLO.out HW9.out HGB.out HG.out HC4.out HK4.out hl1 (by omega) HCAP.out (by omega)
 have t1:(x==1)=false:=by simpa using e1
 by_cases e2:x=2
 ·
  have t2:(x==2)=true:=by simpa using e2
  clear e0 e1 e2
  go_wp2_with fail
  refine (pickNew w3 b a len cap #[.int .i64 (-1),.int .i64 0,.int .i64 1,.int .i64 8] 3 4 (by omega) (by omega) (four _ _ _ _) HD3.out.cur).mono ?_
  rintro e w4 ⟨⟨x4,rfl⟩,hc',ho'⟩
  have HC4:Hid (Cur w4 b a len cap):=hc'
  have HK4:Hid (Kept (fun k=>k=b) w w4):=HK3.out.trans (only_kept ho')
  have HW9:Hid (Wild w4 g L.length):=(own_wild HD3.out.own).kept (only_kept ho') (by have:=HGB.out;show ¬ g=b;omega)
  obtain ⟨⟨z9,hz9⟩,hf9⟩:=HW9.out (i*6+2) (by omega)
  clear hc' ho'
  go_wp2
  go_ret
  exact apost_set HLO.out HW9.out HGB.out HG.out HC4.out HK4.out hl1 (by omega) HCAP.out (by omega)
 have t2:(x==2)=false:=by simpa using e2
 by_cases e3:x=3
 ·
  have t3:(x==3)=true:=by simpa using e3
  clear e0 e1 e2 e3
  go_wp2_with fail
  refine (below _ b a len cap _ (by omega) (by omega) HD3.out.cur).mono ?_
  rintro e w4 ⟨⟨x4,rfl,hx4,hy4⟩,hc',ho'⟩
  have HC4:Hid (Cur w4 b a len cap):=hc'
  have HK4:Hid (Kept (fun k=>k=b) w w4):=HK3.out.trans (only_kept ho')
  have HW9:Hid (Wild w4 g L.length):=(own_wild HD3.out.own).kept (only_kept ho') (by have:=HGB.out;show ¬ g=b;omega)
  obtain ⟨⟨z9,hz9⟩,hf9⟩:=HW9.out (i*6) (by omega)
  clear hc' ho'
  go_wp2
  go_ret
  exact apost_set HLO.out HW9.out HGB.out HG.out HC4.out HK4.out hl1 (by omega) HCAP.out (by omega)
 have t3:(x==3)=false:=by simpa using e3
 by_cases e4:x=4
 ·
  have t4:(x==4)=true:=by simpa using e4
  clear e0 e1 e2 e3 e4
  have hcc:i+1<=c:=by have:=HCAP.out;omega
  have hcz:(i:Int)+1<=(c:Int):=by omega
  go_wp2
  go_ret
  have hwi:=own_wild HD3.out.own
  exact apost (n:=i+1) (fun p hp=>hwi p (by omega)) HGB.out HD3.out.cur HK3.out (by omega) (by omega) (by omega)
 have t4:(x==4)=false:=by simpa using e4
 by_cases e5:x=5
 ·
  have t5:(x==5)=true:=by simpa using e5
  clear e0 e1 e2 e3 e4 e5
  by_cases hi0:0 < i
  ·have hiz:(0:Int) < (i:Int):=by omega
   obtain ⟨⟨z9,hz9⟩,hf9⟩:=(own_wild HD3.out.own) (i*6+1) (by omega)
   have hB3:b+1<=w3.heap.size:=HD3.out.size
   go_wp2_with (at_builtin;go_must (refine app_node w3 rfl _ _ rfl (b+1) (.slice (some ⟨g,0,none⟩) L.length c) L ⟨2,z9,0,i,0,0⟩ rfl w3.heap.size rfl rfl HD3.out.own hB3 (by omega) ?_;intro g5 cp5 w5 ho5 hk5 hg5))
   have HD5:Hid (Dr w5 b a len cap (.slice (some ⟨g5,0,none⟩) (L.length+1) cp5) (L++[⟨2,z9,0,i,0,0⟩])):=HD3.out.grow hk5 ho5
   have HG5:Hid (w.heap.size<=g5):=by
    have h1:=HG.out
    have h2:=HK3.out.size
    rcases hg5 with e|e
    ·cases e;exact h1
    ·show _<=_;omega
   have HK5:Hid (Kept (fun k=>k=b) w w5):=by
    refine ⟨hk5.os.trans HK3.out.os,hk5.tape.trans HK3.out.tape,hk5.output.trans HK3.out.output,Nat.le_trans HK3.out.size hk5.size,fun k hk hn=>?_⟩
    rw [hk5.block k (Nat.lt_of_lt_of_le hk HK3.out.size) (fun e=>by have h1:g=k:=Option.some.inj e;have:=HG.out;omega)]
    exact HK3.out.block k hk hn
   clear ho5 hk5 hg5
   go_wp2
   go_ret
   have e9:(L++[(⟨2,z9,0,i,0,0⟩:Nd)]).length=L.length+1:=by simp
   have hw9:=own_wild (w:=w5) (B:=b+1) (g:=g5) (c:=cp5) (L:=L++[⟨2,z9,0,i,0,0⟩]) (by rw [e9];exact HD5.out.own)
   have hc9:=own_cap HD5.out.own
   rw [e9] at hw9 hc9
   exact apost hw9 (by have:=HBS.out;have:=HG5.out;omega) HD5.out.cur HK5.out (by omega) (by omega) hc9
  ·have hiz:¬ (0:Int) < (i:Int):=by omega
   go_wp2
   go_ret
   exact apost (own_wild HD3.out.own) HGB.out HD3.out.cur HK3.out hl1 (by omega) HCAP.out
 have t5:(x==5)=false:=by simpa using e5
 clear e0 e1 e2 e3 e4 e5
 go_wp2
 go_ret
 exact apost (own_wild HD3.out.own) HGB.out HD3.out.cur HK3.out hl1 (by omega) HCAP.out
end Dw7
namespace Dw8
open Go.RowKit
open Nd0 Nd3 Ap0 Ap2 Tm5 Dw0 Dw4 Dw5 Dw6 Dw7
open Dr0 (Cur Only Bytes Off)
open Dr1 (once below)
open Sp10 (sQuant)
theorem nodes_take {w:World} {g:Nat} {L:List Nd} (h:Nodes w (some ⟨g,0,none⟩) L) {m:Nat} (hm:m<=L.length):Nodes w (some ⟨g,0,none⟩) (L.take m):=by
 refine ⟨by rw [List.length_take];have:=h.1;omega,?_⟩
 by_cases h0:m=0
 ·exact .inl (by subst h0;simp)
 ·rcases h.2 with e|⟨b,o,he,hc⟩
  ·omega
  ·refine .inr ⟨b,o,he,fun i hi=>?_⟩
   have hi':i < L.length:=by rw [List.length_take] at hi;omega
   rw [List.getElem_take];exact hc i hi'
theorem openNodes (w:World) (b:Nat) (a:Option Addr) (len cap:Nat) (hc:Cur w b a len cap) (hlo:Low a len b) :
 Calls Tryz.prog 23 #[.pointer (some ⟨b,0,none⟩)] w (APost b a len cap w):=by
 have HC0:Hid (Cur w b a len cap):=hc
 have HLO:Hid (Low a len b):=hlo
 clear hc hlo
 go_enter Tryz.func23,Tryz.ntmps23
 go_wp2_with fail
 refine (anyNodes _ b a len cap HC0.out HLO.out).mono ?_
 rintro e w1 ⟨g,c,L,rfl,hn,hbg,hgs,hcu,hk,h1,h2,h3⟩
 have HN1:Hid (Nodes w1 (some ⟨g,0,none⟩) L):=hn
 have HC1:Hid (Cur w1 b a len cap):=hcu
 have HK1:Hid (Kept (fun k=>k=b) w w1):=hk
 have HBG:Hid (b < g):=hbg
 have HCL:Hid (L.length<=c):=h3
 have HL2:Hid (1<=L.length/\L.length<=81):=⟨h1,h2⟩
 have HGS:Hid (g < w1.heap.size):=hgs
 clear hn hcu hk hbg h1 h2 h3 hgs HC0
 go_wp2_with fail
 go_loopw [3,4] (fun v q wr=>∃ (k:Nat) (M:List Nd),k<=3/\q=.int .i64 k/\v=.slice (some ⟨g,0,none⟩) M.length c/\Nodes wr (some ⟨g,0,none⟩) M/\1<=M.length/\M.length<=81/\M.length<=c/\Cur wr b a len cap/\Kept (fun k=>k=b) w wr/\g < wr.heap.size) (fun _ q _=>3 - (intOf q).toNat)
 case atStart=>exact ⟨0,L,by omega,rfl,rfl,HN1.out,HL2.out.1,HL2.out.2,HCL.out,HC1.out,HK1.out,HGS.out⟩
 case round =>
  clear HN1 HC1 HK1 HL2 HGS HCL
  obtain ⟨k,M,hk,rfl,rfl,hn,h1,h2,h3,hcu,hkk,hgs⟩:=hrel
  have HN:Hid (Nodes wr (some ⟨g,0,none⟩) M):=hn
  have HC:Hid (Cur wr b a len cap):=hcu
  have HK:Hid (Kept (fun k=>k=b) w wr):=hkk
  have HGS:Hid (g < wr.heap.size):=hgs
  clear hn hcu hkk hgs
  by_cases hk3:k < 3
  ·have hkz:(k:Int) < 3:=by omega
   by_cases hm1:1 < M.length
   ·have hmz:(1:Int) < (M.length:Int):=by omega
    rcases HN.out.2 with h0|⟨b',o',he,hcn⟩
    ·omega
    cases he
    have p0:=(hcn (M.length - 1) (by omega)).c0
    rw [Nat.zero_add] at p0
    clear hcn
    have g1:(0:Int)<=(M.length:Int) - 1:=by omega
    have g2:(M.length:Int) - 1 < (M.length:Int):=by omega
    generalize M[M.length - 1].op=op at p0
    cases hq:quant op
    ·go_wp2_with (go_at_call 28;refine (sQuant _ _).mono ?_;rintro e w' ⟨rfl,rfl⟩;rw [hq])
     go_ret
     exact ⟨g,c,M,rfl,HN.out,HBG.out,HGS.out,HC.out,HK.out,h1,h2,h3⟩
    ·go_wp2_with (go_at_call 28;refine (sQuant _ _).mono ?_;rintro e w' ⟨rfl,rfl⟩;rw [hq])
     refine (once _ b a len cap 3 (by omega) (by omega) HC.out).mono ?_
     rintro e w2 ⟨⟨x2,rfl⟩,hc',ho'⟩
     have HC2:Hid (Cur w2 b a len cap):=hc'
     have HK2:Hid (Kept (fun k=>k=b) w w2):=HK.out.trans (only_kept ho')
     have HN2:Hid (Nodes w2 (some ⟨g,0,none⟩) M):=HN.out.kept (only_kept ho') (fun x hx=>by cases hx;have:=HBG.out;show ¬ g=b;omega)
     have HGS2:Hid (g < w2.heap.size):=Nat.lt_of_lt_of_le HGS.out ho'.size
     clear hc' ho' p0
     cases x2
     ·have hcz:(M.length:Int) - 1<=(c:Int):=by omega
      go_wp2
      go_roundw
      case rel =>
       have e9:(M.take (M.length - 1)).length=M.length - 1:=by rw [List.length_take];omega
       exact ⟨k+1,M.take (M.length - 1),by omega,by go_num,by rw [e9],nodes_take HN2.out (by omega),by rw [e9];omega,by rw [e9];omega,by rw [e9];omega,HC2.out,HK2.out,HGS2.out⟩
      case measure=>simp [intOf];omega
     ·go_wp2
      go_ret
      exact ⟨g,c,M,rfl,HN2.out,HBG.out,HGS2.out,HC2.out,HK2.out,h1,h2,h3⟩
   ·have hmz:¬ (1:Int) < (M.length:Int):=by omega
    go_wp2
    go_ret
    exact ⟨g,c,M,rfl,HN.out,HBG.out,HGS.out,HC.out,HK.out,h1,h2,h3⟩
  ·have hkz:¬ (k:Int) < 3:=by omega
   go_wp2
   go_ret
   exact ⟨g,c,M,rfl,HN.out,HBG.out,HGS.out,HC.out,HK.out,h1,h2,h3⟩
theorem low_of {w:World} {a:Option Addr} {len:Nat} (h:Bytes w a len):Low a len w.heap.size:=by
 rcases h.2 with h0|⟨xb,xo,rfl,hc⟩
 ·exact .inl h0
 ·by_cases hl:len=0
  ·exact .inl hl
  ·refine .inr fun x hx=>?_
   cases hx
   obtain ⟨v,_,_,hv⟩:=hc 0 (by omega)
   exact lt_of_cell (p:=⟨xb,xo+0,none⟩) hv
end Dw8
namespace Wd1
open Go.RowKit
open Pl1
theorem ret_int {k:IntKind} {a b:Int} (h:a=b):Ending.returned (.int k a)=.returned (.int k b):=by rw [h]
theorem ret_bool {a b:Bool} (h:a=b):Ending.returned (.bool a)=.returned (.bool b):=by rw [h]
theorem spow (m:Int) (w:World) (h0:0<=m) (h1:m<=8) :
 Calls Tryz.prog 62 #[.int .i64 m] w fun e w'=>e=.returned (.int .i64 (p2 m.toNat))/\w'=w:=by
 obtain ⟨n,rfl⟩:=Int.eq_ofNat_of_zero_le h0
 rw [Int.toNat_natCast]
 go_enter Tryz.func62,Tryz.ntmps62
 go_wp2
 go_loop [3,4] (fun x i=>∃ k:Nat,k<=n/\i=.int .i64 k/\x=.int .i64 (p2 k)) (fun _ i=>n - (intOf i).toNat)
 case atStart=>exact ⟨0,Nat.zero_le _,rfl,rfl⟩
 case round =>
  obtain ⟨k,hk,rfl,rfl⟩:=hrel
  have hp:=p2_pos k
  have hl:=p2_le k (by omega)
  by_cases hlt:k < n
  ·go_wp2
   go_round
   case rel=>exact ⟨k+1,by omega,by go_num,by rw [p2_succ]⟩
   case measure=>simp [intOf];omega
  ·go_wp2
   go_ret
   have:k=n:=by omega
   subst this
   exact ⟨rfl,rfl⟩
theorem mask (m:Int) (w:World) (h0:1<=m) (h1:m<=8) :
 Calls Tryz.prog 170 #[.int .i64 m] w fun e w'=>e=.returned (.int .u8 (p2 m.toNat - 1))/\w'=w:=by
 rcases eight h0 h1 with rfl|rfl|rfl|rfl|rfl|rfl|rfl|rfl
 all_goals
  go_enter Tryz.func170,Tryz.ntmps170
  go_wp2
  go_ret
  exact ⟨rfl,rfl⟩
theorem cut (a m:Int) (w:World) (ha:0<=a) (hb:a<=255) (h0:1<=m) (h1:m<=8) :
 Calls Tryz.prog 169 #[.int .u8 a,.int .i64 m] w fun e w'=>e=.returned (.int .u8 (a % p2 m.toNat))/\w'=w:=by
 have hm:=and_mask a m.toNat ha hb (by omega)
 go_enter Tryz.func169,Tryz.ntmps169
 go_wp2_with (go_at_call 170;refine (mask m _ h0 h1).mono ?_;rintro e w' ⟨rfl,rfl⟩)
 go_ret
 exact ⟨rfl,rfl⟩
theorem sIn (x a b:Int) (w:World) :
 Calls Tryz.prog 41 #[.int .i64 x,.int .i64 a,.int .i64 b] w fun e w'=>e=.returned (.bool (decide (a<=x/\x<=b)))/\w'=w:=by
 by_cases h1:a<=x<;>by_cases h2:x<=b
 all_goals
  go_enter Tryz.func41,Tryz.ntmps41
  go_wp2
  go_ret
  exact ⟨ret_bool (by simp<;>omega),rfl⟩
theorem sWordOk (m a:Int) (w:World) :
 Calls Tryz.prog 50 #[.int .i64 m,.int .i64 a] w fun e w'=>e=.returned (.bool (wok m a))/\w'=w:=by
 by_cases h:1<=m/\m<=8
 ·have hp:=p2_pos m.toNat
  have hl:=p2_le m.toNat (by omega)
  have hd:decide (1<=m/\m<=8)=true:=by simpa using h
  go_enter Tryz.func50,Tryz.ntmps50
  go_wp2_with (first|(go_at_call 41;refine (sIn _ _ _ _).mono ?_;rintro e w' ⟨rfl,rfl⟩)|(go_at_call 62;refine (spow m _ (by omega) (by omega)).mono ?_;rintro e w' ⟨rfl,rfl⟩))
  go_ret
  exact ⟨ret_bool (by rw [Bool.eq_iff_iff];simp [wok];omega),rfl⟩
 ·have hd:decide (1<=m/\m<=8)=false:=by simpa using h
  go_enter Tryz.func50,Tryz.ntmps50
  go_wp2_with (go_at_call 41;refine (sIn _ _ _ _).mono ?_;rintro e w' ⟨rfl,rfl⟩)
  go_ret
  exact ⟨ret_bool (by unfold wok;symm;rw [decide_eq_false_iff_not];omega),rfl⟩
theorem sTwo (m a b:Int) (w:World) :
 Calls Tryz.prog 95 #[.int .i64 m,.int .i64 a,.int .i64 b] w fun e w'=>e=.returned (.bool (wok m a&&wok m b))/\w'=w:=by
 cases hA:wok m a
 all_goals
  go_enter Tryz.func95,Tryz.ntmps95
  go_wp2_with (go_at_call 50;refine (sWordOk _ _ _).mono ?_;rintro e w' ⟨rfl,rfl⟩)
  go_ret
  exact ⟨ret_bool (by simp),rfl⟩
theorem iWidthOk (m:Int) (w:World) :
 Calls Tryz.prog 68 #[.int .i64 m] w fun e w'=>e=.returned (.bool (decide (1<=m/\m<=8)))/\w'=w:=by
 by_cases h1:1<=m<;>by_cases h2:m<=8
 all_goals
  go_enter Tryz.func68,Tryz.ntmps68
  go_wp2
  go_ret
  exact ⟨ret_bool (by simp<;>omega),rfl⟩
theorem iWordOk (m a:Int) (w:World) :
 Calls Tryz.prog 89 #[.int .i64 m,.int .i64 a] w fun e w'=>e=.returned (.bool (wok m a))/\w'=w:=by
 by_cases h:1<=m/\m<=8
 ·have hd:decide (1<=m/\m<=8)=true:=by simpa using h
  by_cases ha:0<=a
  all_goals
   go_enter Tryz.func89,Tryz.ntmps89
   go_wp2_with (go_at_call 68;refine (iWidthOk _ _).mono ?_;rintro e w' ⟨rfl,rfl⟩)
   go_ret
   exact ⟨ret_bool (by rw [Bool.eq_iff_iff];try rw [wrap_p2 _ (by omega)]
                       simp [wok];omega),rfl⟩
 ·have hd:decide (1<=m/\m<=8)=false:=by simpa using h
  go_enter Tryz.func89,Tryz.ntmps89
  go_wp2_with (go_at_call 68;refine (iWidthOk _ _).mono ?_;rintro e w' ⟨rfl,rfl⟩)
  go_ret
  exact ⟨ret_bool (by unfold wok;symm;rw [decide_eq_false_iff_not];omega),rfl⟩
theorem iTwo (m a b:Int) (w:World) :
 Calls Tryz.prog 160 #[.int .i64 m,.int .i64 a,.int .i64 b] w fun e w'=>e=.returned (.bool (wok m a&&wok m b))/\w'=w:=by
 cases hA:wok m a
 all_goals
  go_enter Tryz.func160,Tryz.ntmps160
  go_wp2_with (go_at_call 89;refine (iWordOk _ _ _).mono ?_;rintro e w' ⟨rfl,rfl⟩)
  go_ret
  exact ⟨ret_bool (by simp),rfl⟩
theorem plus (a b m:Int) (w:World) (ha:0<=a) (ha':a<=255) (hb:0<=b) (hb':b<=255) (h0:1<=m) (h1:m<=8) :
 Calls Tryz.prog 161 #[.int .u8 a,.int .i64 m,.int .u8 b] w fun e w'=>e=.returned (.int .u8 ((a+b) % p2 m.toNat))/\w'=w:=by
 go_enter Tryz.func161,Tryz.ntmps161
 go_wp2_with (go_at_call 169;refine (cut _ m _ (by omega) (by omega) h0 h1).mono ?_;rintro e w' ⟨rfl,rfl⟩)
 go_ret
 exact ⟨ret_int (mod256 _ _ (by omega)),rfl⟩
theorem minus (a b m:Int) (w:World) (ha:0<=a) (ha':a<=255) (hb:0<=b) (hb':b<=255) (h0:1<=m) (h1:m<=8) :
 Calls Tryz.prog 162 #[.int .u8 a,.int .i64 m,.int .u8 b] w fun e w'=>e=.returned (.int .u8 ((a - b) % p2 m.toNat))/\w'=w:=by
 go_enter Tryz.func162,Tryz.ntmps162
 go_wp2_with (go_at_call 169;refine (cut _ m _ (by omega) (by omega) h0 h1).mono ?_;rintro e w' ⟨rfl,rfl⟩)
 go_ret
 exact ⟨ret_int (mod256 _ _ (by omega)),rfl⟩
theorem times (a b m:Int) (w:World) (ha:0<=a) (ha':a<=255) (hb:0<=b) (hb':b<=255) (h0:1<=m) (h1:m<=8) :
 Calls Tryz.prog 163 #[.int .u8 a,.int .i64 m,.int .u8 b] w fun e w'=>e=.returned (.int .u8 (a*b % p2 m.toNat))/\w'=w:=by
 go_enter Tryz.func163,Tryz.ntmps163
 go_wp2_with (go_at_call 169;refine (cut _ m _ (by omega) (by omega) h0 h1).mono ?_;rintro e w' ⟨rfl,rfl⟩)
 go_ret
 exact ⟨ret_int (mod256 _ _ (by omega)),rfl⟩
theorem over (a b m:Int) (w:World) (ha:0<=a) (ha':a<=255) (hb:0<=b) (hb':b<=255) (h0:1<=m) (h1:m<=8) :
 Calls Tryz.prog 164 #[.int .u8 a,.int .i64 m,.int .u8 b] w fun e w'=>e=.returned (.int .u8 (if b=0 then p2 m.toNat - 1 else a / b))/\w'=w:=by
 by_cases hz:b=0
 ·subst hz
  go_enter Tryz.func164,Tryz.ntmps164
  go_wp2_with (go_at_call 170;refine (mask m _ h0 h1).mono ?_;rintro e w' ⟨rfl,rfl⟩)
  go_ret
  exact ⟨rfl,rfl⟩
 ·have hz':(b==0)=false:=by simpa using hz
  go_enter Tryz.func164,Tryz.ntmps164
  go_wp2
  go_ret
  exact ⟨rfl,rfl⟩
theorem rest (a b:Int) (w:World) (ha:0<=a) (ha':a<=255) (hb:0<=b) (hb':b<=255) :
 Calls Tryz.prog 165 #[.int .u8 a,.int .u8 b] w fun e w'=>e=.returned (.int .u8 (if b=0 then a else a % b))/\w'=w:=by
 by_cases hz:b=0
 ·subst hz
  go_enter Tryz.func165,Tryz.ntmps165
  go_wp2
  go_ret
  exact ⟨rfl,rfl⟩
 ·have hz':(b==0)=false:=by simpa using hz
  go_enter Tryz.func165,Tryz.ntmps165
  go_wp2
  go_ret
  exact ⟨rfl,rfl⟩
theorem up (a b m:Int) (w:World) (ha:0<=a) (ha':a<=255) (hb:0<=b) (hb':b<=7) (h0:1<=m) (h1:m<=8) :
 Calls Tryz.prog 166 #[.int .u8 a,.int .i64 m,.int .u8 b] w fun e w'=>e=.returned (.int .u8 (a*p2 b.toNat % p2 m.toNat))/\w'=w:=by
 go_enter Tryz.func166,Tryz.ntmps166
 go_wp2_with (go_at_call 169;refine (cut _ m _ (by omega) (by omega) h0 h1).mono ?_;rintro e w' ⟨rfl,rfl⟩)
 go_ret
 exact ⟨ret_int (mod256 _ _ (by omega)),rfl⟩
theorem upFar (a b m:Int) (w:World) (ha:0<=a) (ha':a<=255) (hb:8<=b) (h0:1<=m) (h1:m<=8) :
 Calls Tryz.prog 166 #[.int .u8 a,.int .i64 m,.int .u8 b] w fun e w'=>e=.returned (.int .u8 0)/\w'=w:=by
 have hs:=shl8 a b .u8 hb
 go_enter Tryz.func166,Tryz.ntmps166
 go_wp2_with (go_at_call 169;refine (cut _ m _ (by omega) (by omega) h0 h1).mono ?_;rintro e w' ⟨rfl,rfl⟩)
 go_ret
 exact ⟨ret_int (by simp),rfl⟩
theorem down (a b:Int) (w:World) (ha:0<=a) (ha':a<=255) (hb:0<=b) (hb':b<=7) :
 Calls Tryz.prog 167 #[.int .u8 a,.int .u8 b] w fun e w'=>e=.returned (.int .u8 (a / p2 b.toNat))/\w'=w:=by
 go_enter Tryz.func167,Tryz.ntmps167
 go_wp2
 go_ret
 exact ⟨rfl,rfl⟩
theorem downFar (a b:Int) (w:World) (ha:0<=a) (ha':a<=255) (hb:8<=b) :
 Calls Tryz.prog 167 #[.int .u8 a,.int .u8 b] w fun e w'=>e=.returned (.int .u8 0)/\w'=w:=by
 have hs:=shr8 a b .u8 hb ha ha'
 go_enter Tryz.func167,Tryz.ntmps167
 go_wp2
 go_ret
 exact ⟨rfl,rfl⟩
theorem flip (a m:Int) (w:World) (ha:0<=a) (ha':a < p2 m.toNat) (h0:1<=m) (h1:m<=8) :
 Calls Tryz.prog 159 #[.int .u8 a,.int .i64 m] w fun e w'=>e=.returned (.int .u8 (p2 m.toNat - 1 - a))/\w'=w:=by
 have hl:=p2_le m.toNat (by omega)
 have hx:=xor255 a ha (by omega)
 have HF:Hid ((255 - a) % p2 m.toNat=p2 m.toNat - 1 - a):=flip_spec a _ (by omega) ha ha'
 go_enter Tryz.func159,Tryz.ntmps159
 go_wp2_with (go_at_call 169;refine (cut _ m _ (by omega) (by omega) h0 h1).mono ?_;rintro e w' ⟨rfl,rfl⟩)
 go_ret
 exact ⟨ret_int HF.out,rfl⟩
theorem signed (a m:Int) (w:World) (ha:0<=a) (ha':a < p2 m.toNat) (h0:1<=m) (h1:m<=8) :
 Calls Tryz.prog 168 #[.int .u8 a,.int .i64 m] w fun e w'=>e=.returned (.int .i64 (sgn m a))/\w'=w:=by
 have hp:=p2_le m.toNat (by omega)
 have hq:=p2_pos m.toNat
 have HW:Hid (wrap64 (2 ^ m.toNat)=p2 m.toNat):=wrap_p2 _ (by omega)
 by_cases hs:p2 (m - 1).toNat<=a
 ·have hd:(a / 2 ^ (m.toNat - 1)==0)=false:=sgn_hi h0 hs
  have HS:Hid (sgn m a=a - p2 m.toNat):=sgn_pos hs
  clear hs
  go_enter Tryz.func168,Tryz.ntmps168
  go_wp2
  go_ret
  exact ⟨ret_int (by rw [HS.out,HW.out];unfold wrap64;omega),rfl⟩
 ·have hd:(a / 2 ^ (m.toNat - 1)==0)=true:=sgn_lo h0 ha hs
  have HS:Hid (sgn m a=a):=sgn_neg hs
  clear hs
  go_enter Tryz.func168,Tryz.ntmps168
  go_wp2
  go_ret
  exact ⟨ret_int (by rw [HS.out]),rfl⟩
end Wd1
end Go.Proofs.YthanhcobfehmnaaGreat
