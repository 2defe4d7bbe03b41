import Derived.Deep.AppendLies
import Derived.OwnWalk
import Derived.Deep.Upon
import Derived.Test.YtebejleeadofcaaGreatRows
import Derived.Test.YtebejleeadofcaaGreatPkFR29
import Derived.Test.YtebejleeadofcaaGreatPkFR25
import Derived.Test.YtebejleeadofcaaGreatFr1
import Derived.Test.YtebejleeadofcaaGreatPkFR0
import Derived.Test.YtebejleeadofcaaGreatPkFR2
import Derived.Test.YtebejleeadofcaaGreatPkFR3
namespace Go.Proofs.YtebejleeadofcaaGreat
set_option maxRecDepth 100000
set_option maxHeartbeats 8000000
set_option linter.unusedVariables false
namespace Qi1
open Go.RowKit
open Nd0 Qa0 Qi0 Fr0
open Fm1 (quAt below_drewN)
theorem infoQv:(Tryz.prog.info? 51).map (fun i=>(i.zero,i.size,i.bytes))=some (some .nilIface,1,16):=by kernel_rfl
def Qvs (w:World) (a:Option Addr) (l:List Qu):Prop :=
 l.length<=maxLen/\(l.length=0\/∃ b o,a=some ⟨b,o,none⟩/\∀ i (h:i < l.length),w.cell? ⟨b,o+i,none⟩=some (qv l[i]))
theorem Qvs.below {w w':World} {a:Option Addr} {l:List Qu} (h:Qvs w a l) (k:Below w.heap.size w w'):Qvs w' a l:=by
 refine ⟨h.1,?_⟩
 rcases h.2 with h0|⟨b,o,rfl,hc⟩
 ·exact .inl h0
 ·exact .inr ⟨b,o,rfl,fun i hi=>by rw [k.cell (lt_of_cell (hc i hi))];exact hc i hi⟩
theorem Qvs.kept {w w':World} {a:Option Addr} {l:List Qu} (h:Qvs w a l) {S:Nat->Prop} (k:Kept S w w') (hs:∀ x,a=some x->¬ S x.block):Qvs w' a l:=by
 refine ⟨h.1,?_⟩
 rcases h.2 with h0|⟨b,o,rfl,hc⟩
 ·exact .inl h0
 ·exact .inr ⟨b,o,rfl,fun i hi=>by rw [k.cell (lt_of_cell (hc i hi)) (hs ⟨b,o,none⟩ rfl)];exact hc i hi⟩
def Owi (w:World) (B:Nat) (v:Value) (l:List Qu):Prop:=w.ownsRow B 51 1 v l.length (l.map qv)
theorem Owi.form {w:World} {B:Nat} {v:Value} {l:List Qu} (h:Owi w B v l):∃ a c,v=.slice a l.length c/\Qvs w a l/\l.length<=c/\∀ x,0 < l.length->a=some x->B<=x.block/\x.block < w.heap.size:=by
 have hlt:=World.ownsRow.lt h
 obtain ⟨h1,h2⟩:=h
 rcases h2 with ⟨rfl,h0⟩|⟨g,cap,cur,rfl,hb,hg,hn,hm,hs,ht⟩
 ·have:l=[]:=List.eq_nil_of_length_eq_zero h0
  subst this
  exact ⟨none,0,rfl,⟨Nat.zero_le _,.inl rfl⟩,Nat.zero_le _,fun x _ hx=>by cases hx⟩
 ·refine ⟨_,_,rfl,⟨by omega,.inr ⟨g,0,rfl,fun i hi=>?_⟩⟩,by omega,fun x _ hx=>by cases hx;exact hlt g rfl⟩
  rw [Nat.zero_add,cell_of_row w g i cur _ _ hg]
  have e:(cur.toList.take (l.length*1))[i]? = some (qv l[i]):=by rw [ht];simp [hi]
  rw [List.getElem?_take_of_lt (by omega)] at e
  simpa using e
theorem Owi.lit (w:World) (B:Nat) (hB:B<=w.heap.size):Owi (w.alloc (.cells #[] 51)) B (.slice (some ⟨w.heap.size,0,none⟩) 0 0) [] :=
 World.ownsRow_lit w #[] 0 hB (Nat.zero_le _) rfl
theorem Owi.lt {w:World} {B:Nat} {v:Value} {l:List Qu} (h:Owi w B v l):∀ k,v.ownBlock=some k->B<=k/\k < w.heap.size:=World.ownsRow.lt h
theorem Owi.kept {w w':World} {B:Nat} {v:Value} {l:List Qu} (h:Owi w B v l) {S:Nat->Prop} (k:Kept S w w') (hs:∀ i,v.ownBlock=some i->¬ S i):Owi w' B v l:=by
 refine ⟨h.1,?_⟩
 rcases h.2 with hn|⟨g,cap,cur,rfl,hb,hgg,rest⟩
 ·exact .inl hn
 ·refine .inr ⟨g,cap,cur,rfl,hb,?_,rest⟩
  rw [k.block g (Array.getElem?_eq_some_iff.1 hgg).1 (hs g rfl)]
  exact hgg
theorem app_qvs {ops:Array Oper} {rest:List Oper} {o:Oper} {a:Act} {Q:Exit->Act->World->Prop} (W:World) (hgd:o.guard=none) (s x:Operand)
 (ho:o.op=.call { callee:=.builtin .append,args := #[s,x],argTypes := #[48,48] })
 (B:Nat) (v:Value) (l ys:List Qu) (gx ox c:Nat) (hs:a.eval s=v) (hx:a.eval x=.slice (some ⟨gx,ox,none⟩) ys.length c)
 (hy:∀ i (h:i < ys.length),W.cell? ⟨gx,ox+i,none⟩=some (qv ys[i])) (hp:0 < ys.length)
 (hown:Owi W B v l) (hB:B<=W.heap.size) (hlen:l.length+ys.length<=1048577)
 (h:∀ g cap w',Owi w' B (.slice (some ⟨g,0,none⟩) (l.length+ys.length) cap) (l++ys)->Kept (fun k=>v.ownBlock=some k) W w'->(v.ownBlock=some g\/W.heap.size<=g)->wpList Tryz.prog ops Q rest (a.put o.dst (.slice (some ⟨g,0,none⟩) (l.length+ys.length) cap)) w') :
 wpList Tryz.prog ops Q (o :: rest) a W:=by
 obtain ⟨i,hi,hzz⟩:=Option.map_eq_some_iff.1 infoQv
 simp only [Prod.mk.injEq] at hzz
 obtain ⟨hz,hsz,hb⟩:=hzz
 refine wpList_append_lies W hgd s x 48 ho B 51 i _ 1 16 Tryz.underlying48 hi hz hsz hb rfl (by omega) v l.length (l.map qv) hs hown
  ⟨gx,ox,none⟩ ys.length c (ys.map qv) hx (by simp) (fun j u hu=>?_) ?_ hp (by unfold maxLen;omega) (by omega) hB _ rfl ?_
 ·have hj:j < ys.length:=by have:=(List.getElem?_eq_some_iff.1 hu).1;simpa using this
  have hadd:(⟨gx,ox,none⟩:Addr).add j=⟨gx,ox+j,none⟩:=by unfold Addr.add;split<;>simp_all
  rw [hadd,hy j hj,<- hu]
  simp [hj]
 ·intro u hu
  obtain ⟨n,_,rfl⟩:=List.mem_map.1 hu
  rfl
 ·intro g cap w' h1 h2 h3 h4
  refine h g cap w' ?_ ?_ ?_
  ·unfold Owi
   rw [List.map_append,List.length_append]
   exact h1
  ·exact ⟨h2.os,h2.tape,h2.output,h2.size,fun k hk hn=>h2.block k hk (fun e=>hn e.symm)⟩
  ·rcases h3 with h3|h3
   ·exact .inl h3
   ·exact .inr (by rw [h3];exact Nat.le_refl _)
theorem app_qv {ops:Array Oper} {rest:List Oper} {o:Oper} {a:Act} {Q:Exit->Act->World->Prop} (W:World) (hgd:o.guard=none) (s x:Operand)
 (ho:o.op=.call { callee:=.builtin .append,args := #[s,x],argTypes := #[48,48] })
 (B:Nat) (v:Value) (l:List Qu) (y:Qu) (yv:Value) (hs:a.eval s=v) (G:Nat) (hx:a.eval x=.slice (some ⟨G,0,none⟩) 1 1) (hG:G=W.heap.size)
 (hown:Owi W B v l) (hB:B<=W.heap.size) (hlen:l.length<=1048576) (hyv:yv=qv y)
 (h:∀ g cap w',Owi w' B (.slice (some ⟨g,0,none⟩) (l.length+1) cap) (l++[y])->Kept (fun k=>v.ownBlock=some k) W w'->(v.ownBlock=some g\/W.heap.size<=g)->wpList Tryz.prog ops Q rest (a.put o.dst (.slice (some ⟨g,0,none⟩) (l.length+1) cap)) w') :
 wpList Tryz.prog ops Q (o :: rest) a (W.alloc (.cells #[yv] 51)):=by
 subst hG hyv
 have k1:Kept (fun k=>v.ownBlock=some k) W (W.alloc (.cells #[qv y] 51)):=(Kept.refl _ W).alloc _
 refine app_qvs (W.alloc (.cells #[qv y] 51)) hgd s x ho B v l [y] W.heap.size 0 1 hs hx (fun i hi=>?_) (by simp) (World.ownsRow.alloc hown _) (by simp;omega) (by simp;omega) (fun g cap w' h1 h2 h3=>?_)
 ·have:i=0:=by simpa using hi
  subst this
  rw [World.cell?_alloc_new];rfl
 ·refine h g cap w' h1 (k1.trans h2) ?_
  rcases h3 with h3|h3
  ·exact .inl h3
  ·exact .inr (by simp at h3;omega)
theorem iQuantsC (w:World) (a:Option Addr) (q:List Qu) (c:Nat) (hN:Qus w a q) (hl:q.length<=1048576) :
 Calls Tryz.prog 32 #[.slice a q.length c] w fun e w'=>(∃ a' c',e=.returned (.slice a' q.length c')/\Qvs w' a' q/\q.length<=c'/\∀ x,0 < q.length->a'=some x->w.heap.size<=x.block)/\Below w.heap.size w w':=by
 have HN:Hid (Qus w a q):=hN
 clear hN
 have HAL:Hid (Below w.heap.size w (w.alloc (.cells #[] 51))):=(Below.refl _ _).alloc (Nat.le_refl _) _
 have HO0:Hid (Owi (w.alloc (.cells #[] 51)) w.heap.size (.slice (some ⟨w.heap.size,0,none⟩) 0 0) []):=Owi.lit w _ (Nat.le_refl _)
 go_enter Tryz.func32,Tryz.ntmps32
 go_wp2
 go_loopw [3,9] (fun v i wr=>∃ k:Nat,k<=q.length/\i=.int .i64 k/\Owi wr w.heap.size v (q.take k)/\Below w.heap.size w wr) (fun _ i _=>q.length - (intOf i).toNat)
 case atStart=>exact ⟨0,Nat.zero_le _,rfl,by rw [List.take_zero];exact HO0.out,HAL.out⟩
 case round =>
  obtain ⟨k,hk,rfl,ho,hb⟩:=hrel
  have HO:Hid (Owi wr w.heap.size u3 (q.take k)):=ho
  have HB:Hid (Below w.heap.size w wr):=hb
  have hbs:w.heap.size<=wr.heap.size:=hb.size
  have HTL:Hid ((q.take k).length=k):=by show _=_;rw [List.length_take];omega
  clear ho hb
  by_cases hlt:k < q.length
  ·have hlz:(k:Int) < (q.length:Int):=by omega
   obtain ⟨b,o,rfl,hc⟩:=quAt (HN.out.below HB.out) hlt
   obtain ⟨p0,p1,p2⟩:=hc k hlt
   clear hc
   have HT:Hid (q.take (k+1)=q.take k++[qth q k]):=by
    show _=_
    rw [List.take_succ_eq_append_getElem hlt,qth_get hlt]
   obtain ⟨x,hx⟩:∃ x,x=qth q k:=⟨_,rfl⟩
   rw [<- hx] at p0 p1 p2 HT
   clear hx
   obtain ⟨al,vr,bt⟩:=x
   simp only at p0 p1 p2
   generalize q.take k=L at HO HTL HT
   obtain ⟨wx,hwx⟩:∃ wx:World,wx=wr.alloc (.cells #[.bool al,.int .i64 vr,.int .i64 bt] 42):=⟨_,rfl⟩
   have hbx:Below wr.heap.size wr wx:=by rw [hwx];exact (Below.refl _ _).alloc (Nat.le_refl _) _
   have HBX:Hid (Below w.heap.size w wx):=HB.out.trans (hbx.mono hbs)
   have HOX:Hid (Owi wx w.heap.size u3 L):=HO.out.kept (S:=fun _=>False) (Kept.ofBelow hbx) (fun _ _ h=>h)
   have hbs2:w.heap.size<=wx.heap.size:=HBX.out.size
   clear hbx
   go_wp2_with fail
   rw [<- hwx]
   clear hwx
   refine (iNewQ _ _ _ _).mono ?_
   rintro e w1 ⟨rfl,hw⟩
   have hw':=hw.symm
   clear hw
   subst hw'
   cases al
   ·rw [qv_some]
    go_wp2_with (at_builtin;go_must (refine app_qv _ rfl _ _ rfl w.heap.size u3 L ⟨false,vr,bt⟩ (.iface 105 (.agg #[.int .i64 vr,.int .i64 bt])) rfl _ rfl rfl HOX.out hbs2 (by rw [HTL.out];omega) rfl ?_;intro g5 cp5 w5 ho5 hk5 hg5;have HO5:Hid (Owi w5 w.heap.size (.slice (some ⟨g5,0,none⟩) (L.length+1) cp5) (L++[⟨false,vr,bt⟩])):=ho5;have HB5:Hid (Below w.heap.size w w5):=HBX.out.trans (hk5.below (fun b hb=>(HOX.out.lt b hb).1) hbs2);clear ho5 hk5 hg5))
    go_roundw
    case rel=>exact ⟨k+1,by omega,by go_num,by rw [HT.out];exact HO5.out,HB5.out⟩
    case measure=>simp [intOf];omega
   ·rw [qv_all]
    go_wp2_with (at_builtin;go_must (refine app_qv _ rfl _ _ rfl w.heap.size u3 L ⟨true,vr,bt⟩ (.iface 104 (.agg #[.int .i64 vr,.int .i64 bt])) rfl _ rfl rfl HOX.out hbs2 (by rw [HTL.out];omega) rfl ?_;intro g5 cp5 w5 ho5 hk5 hg5;have HO5:Hid (Owi w5 w.heap.size (.slice (some ⟨g5,0,none⟩) (L.length+1) cp5) (L++[⟨true,vr,bt⟩])):=ho5;have HB5:Hid (Below w.heap.size w w5):=HBX.out.trans (hk5.below (fun b hb=>(HOX.out.lt b hb).1) hbs2);clear ho5 hk5 hg5))
    go_roundw
    case rel=>exact ⟨k+1,by omega,by go_num,by rw [HT.out];exact HO5.out,HB5.out⟩
    case measure=>simp [intOf];omega
  ·have HE:Hid (q.take k=q):=by show _=_;rw [List.take_of_length_le (by omega)]
   obtain ⟨av,cv,hv,hq,hcap,hlt9⟩:=HO.out.form
   rw [HE.out] at hv hq hlt9 hcap
   subst hv
   have HI:Hid (Qvs wr av q/\q.length<=cv/\∀ x,0 < q.length->av=some x->w.heap.size<=x.block):=⟨hq,hcap,fun x h1 h2=>(hlt9 x h1 h2).1⟩
   clear hq hlt9 hcap HO HE
   go_wp2
   go_ret
   exact ⟨⟨_,_,rfl,HI.out⟩,HB.out⟩
theorem iQuantsOf (w:World) (a:Option Addr) (q:List Qu) (c:Nat) (hN:Qus w a q) (hl:q.length<=1048576) :
 Calls Tryz.prog 32 #[.slice a q.length c] w fun e w'=>(∃ a' c',e=.returned (.slice a' q.length c')/\Qvs w' a' q/\∀ x,0 < q.length->a'=some x->w.heap.size<=x.block)/\Below w.heap.size w w' :=
 (iQuantsC w a q c hN hl).mono (fun e w' h=>⟨by obtain ⟨⟨a',c',h1,h2,_,h3⟩,_⟩:=h;exact ⟨a',c',h1,h2,h3⟩,h.2⟩)
end Qi1
namespace Qi2
open Go.RowKit
open Nd0 Qa0 Qi0 Qi1
theorem owi_cap {w:World} {B n c g:Nat} {l:List Qu} (h:Owi w B (.slice (some ⟨g,0,none⟩) n c) l):l.length<=c:=by
 obtain ⟨h1,h2⟩:=h
 rcases h2 with ⟨h0,_⟩|⟨g',cap,cur,he,hb,hg,hn,rest⟩
 ·cases h0
 ·cases he;exact hn
theorem app_opt {ops:Array Oper} {rest:List Oper} {o:Oper} {a:Act} {Q:Exit->Act->World->Prop} (W:World) (hgd:o.guard=none) (s x:Operand)
 (ho:o.op=.call { callee:=.builtin .append,args := #[s,x],argTypes := #[48,48] })
 (B g c:Nat) (l ys L:List Qu) (hL:l++ys=L) (ao:Option Addr) (cx n m:Nat) (hs:a.eval s=.slice (some ⟨g,0,none⟩) n c) (hx:a.eval x=.slice ao m cx) (hn:n=l.length) (hm:m=ys.length)
 (hy:Qvs W ao ys) (hown:Owi W B (.slice (some ⟨g,0,none⟩) l.length c) l) (hB:B<=W.heap.size) (hlen:l.length+ys.length<=1048577)
 (h:∀ g' cap w',Owi w' B (.slice (some ⟨g',0,none⟩) L.length cap) L->Kept (fun k=>k=g) W w'->wpList Tryz.prog ops Q rest (a.put o.dst (.slice (some ⟨g',0,none⟩) L.length cap)) w') :
 wpList Tryz.prog ops Q (o :: rest) a W:=by
 subst hn hm hL
 by_cases h0:ys.length=0
 ·have e:ys=[]:=List.eq_nil_of_length_eq_zero h0
  subst e
  obtain ⟨i,hi,hzz⟩:=Option.map_eq_some_iff.1 infoQv
  have hsrc:Src Tryz.prog i.size 48 (.slice ao 0 cx) 0 [] W:=by
   cases ao with
   | none=>exact Src.ofNil W Tryz.underlying48 cx
   | some ad=>exact Src.ofSlice W Tryz.underlying48 ad 0 cx [] (by simp) (fun j u hu=>by simp at hu) (fun u hu=>by cases hu)
  have hrun:=run_append_nothing (P:=Tryz.prog) W 48 48 o.type 51 i Tryz.underlying48 hi (some ⟨g,0,none⟩) l.length c (owi_cap hown) (.slice ao 0 cx) hsrc
  refine wpList_plain hgd fun K hK'=>?_
  have h9:=h g c W (by rw [List.append_nil];exact hown) (Kept.refl _ _)
  rw [List.append_nil] at h9
  unfold Oper.wp
  simp only [List.length_nil] at hx
  simp [execOp,ho,resolve,invoke,builtin,hs,hx,hrun,Result.andThen]
  exact hK' _ _ h9
 ·rcases hy.2 with h1|⟨b,o',rfl,hc⟩
  ·exact absurd h1 h0
  ·refine app_qvs W hgd s x ho B (.slice (some ⟨g,0,none⟩) l.length c) l ys b o' cx hs hx hc (by omega) hown hB hlen (fun g' cap w' h2 h3 _=>?_)
   have h9:=h g' cap w' (by rw [List.length_append];exact h2) ⟨h3.os,h3.tape,h3.output,h3.size,fun k hk hne=>h3.block k hk (fun e=>hne (by cases e;rfl))⟩
   rw [List.length_append] at h9
   exact h9
end Qi2
namespace Fq1
open Go.RowKit
open Nd0 Qa0 Qi0 Qi1 Qi2 Fr1
theorem findTAll (v b:Int) (w:World):(method 255 104 (.agg #[.int .i64 v,.int .i64 b]) "loop.example/g00116/impl.turned").run Tryz.prog w=.ok (167,.agg #[.int .i64 v,.int .i64 b]) w:=by kernel_rfl
theorem findTSome (v b:Int) (w:World):(method 255 105 (.agg #[.int .i64 v,.int .i64 b]) "loop.example/g00116/impl.turned").run Tryz.prog w=.ok (170,.agg #[.int .i64 v,.int .i64 b]) w:=by kernel_rfl
theorem iTAll (v b:Int) (w:World):Calls Tryz.prog 167 #[.agg #[.int .i64 v,.int .i64 b]] w fun e w'=>e=.returned (.iface 105 (.agg #[.int .i64 v,.int .i64 b]))/\Below w.heap.size w w':=by
 go_enter Tryz.func167,Tryz.ntmps167
 go_wp2
 go_ret
 exact ⟨rfl,(Below.refl _ _).alloc (Nat.le_refl _) _⟩
theorem iTSome (v b:Int) (w:World):Calls Tryz.prog 170 #[.agg #[.int .i64 v,.int .i64 b]] w fun e w'=>e=.returned (.iface 104 (.agg #[.int .i64 v,.int .i64 b]))/\Below w.heap.size w w':=by
 go_enter Tryz.func170,Tryz.ntmps170
 go_wp2
 go_ret
 exact ⟨rfl,(Below.refl _ _).alloc (Nat.le_refl _) _⟩
theorem turn_some (v b:Int):turnQ ⟨false,v,b⟩=⟨true,v,b⟩:=rfl
theorem turn_all (v b:Int):turnQ ⟨true,v,b⟩=⟨false,v,b⟩:=rfl
theorem iTurnedAll (w:World) (a:Option Addr) (q:List Qu) (c:Nat) (hN:Qvs w a q) (hl:q.length<=1048576) :
 Calls Tryz.prog 44 #[.slice a q.length c] w fun e w'=>(∃ v,e=.returned v/\Owi w' w.heap.size v (q.map turnQ))/\Below w.heap.size w w':=by
 have HN:Hid (Qvs w a q):=hN
 clear hN
 have HAL:Hid (Below w.heap.size w (w.alloc (.cells #[] 51))):=(Below.refl _ _).alloc (Nat.le_refl _) _
 have HO0:Hid (Owi (w.alloc (.cells #[] 51)) w.heap.size (.slice (some ⟨w.heap.size,0,none⟩) 0 0) []):=Owi.lit w _ (Nat.le_refl _)
 go_enter Tryz.func44,Tryz.ntmps44
 go_wp2
 go_loopw [3,9] (fun v i wr=>∃ k:Nat,k<=q.length/\i=.int .i64 k/\Owi wr w.heap.size v ((q.map turnQ).take k)/\Below w.heap.size w wr) (fun _ i _=>q.length - (intOf i).toNat)
 case atStart=>exact ⟨0,Nat.zero_le _,rfl,by rw [List.take_zero];exact HO0.out,HAL.out⟩
 case round =>
  obtain ⟨k,hk,rfl,ho,hb⟩:=hrel
  have HO:Hid (Owi wr w.heap.size u3 ((q.map turnQ).take k)):=ho
  have HB:Hid (Below w.heap.size w wr):=hb
  have hbs:w.heap.size<=wr.heap.size:=hb.size
  have HTL:Hid (((q.map turnQ).take k).length=k):=by show _=_;rw [List.length_take,List.length_map];omega
  clear ho hb
  by_cases hlt:k < q.length
  ·have hlz:(k:Int) < (q.length:Int):=by omega
   rcases (HN.out.below HB.out).2 with h0|⟨b,o,rfl,hc⟩
   ·omega
   have p0:=hc k hlt
   clear hc
   have HT:Hid ((q.map turnQ).take (k+1)=(q.map turnQ).take k++[turnQ q[k]]):=by
    show _=_
    rw [List.take_succ_eq_append_getElem (by rw [List.length_map];exact hlt),List.getElem_map]
   obtain ⟨x,hx⟩:∃ x,x=q[k]:=⟨_,rfl⟩
   rw [<- hx] at p0 HT
   clear hx
   generalize (q.map turnQ).take k=L at HO HTL HT
   obtain ⟨al,vr,bt⟩:=x
   cases al
   ·rw [qv_some] at p0
    rw [turn_some] at HT
    have hm:=findTSome vr bt
    go_wp2_with fail
    refine (iTSome vr bt _).mono ?_
    rintro e w1 ⟨rfl,hb1⟩
    have HB1:Hid (Below w.heap.size w w1):=HB.out.trans (hb1.mono hbs)
    have HO1:Hid (Owi w1 w.heap.size u3 L):=HO.out.kept (S:=fun _=>False) (Kept.ofBelow hb1) (fun _ _ h=>h)
    have hbs2:w.heap.size<=w1.heap.size:=HB1.out.size
    clear hb1 hm p0
    go_wp2_with (at_builtin;go_must (refine app_qv _ rfl _ _ rfl w.heap.size u3 L ⟨true,vr,bt⟩ (.iface 104 (.agg #[.int .i64 vr,.int .i64 bt])) rfl _ rfl rfl HO1.out hbs2 (by rw [HTL.out];omega) rfl ?_;intro g5 cp5 w5 ho5 hk5 hg5;have HO5:Hid (Owi w5 w.heap.size (.slice (some ⟨g5,0,none⟩) (L.length+1) cp5) (L++[⟨true,vr,bt⟩])):=ho5;have HB5:Hid (Below w.heap.size w w5):=HB1.out.trans (hk5.below (fun b hb=>(HO1.out.lt b hb).1) hbs2);clear ho5 hk5 hg5))
    go_roundw
    case rel=>exact ⟨k+1,by omega,by go_num,by rw [HT.out];exact HO5.out,HB5.out⟩
    case measure=>simp [intOf];omega
   ·rw [qv_all] at p0
    rw [turn_all] at HT
    have hm:=findTAll vr bt
    go_wp2_with fail
    refine (iTAll vr bt _).mono ?_
    rintro e w1 ⟨rfl,hb1⟩
    have HB1:Hid (Below w.heap.size w w1):=HB.out.trans (hb1.mono hbs)
    have HO1:Hid (Owi w1 w.heap.size u3 L):=HO.out.kept (S:=fun _=>False) (Kept.ofBelow hb1) (fun _ _ h=>h)
    have hbs2:w.heap.size<=w1.heap.size:=HB1.out.size
    clear hb1 hm p0
    go_wp2_with (at_builtin;go_must (refine app_qv _ rfl _ _ rfl w.heap.size u3 L ⟨false,vr,bt⟩ (.iface 105 (.agg #[.int .i64 vr,.int .i64 bt])) rfl _ rfl rfl HO1.out hbs2 (by rw [HTL.out];omega) rfl ?_;intro g5 cp5 w5 ho5 hk5 hg5;have HO5:Hid (Owi w5 w.heap.size (.slice (some ⟨g5,0,none⟩) (L.length+1) cp5) (L++[⟨false,vr,bt⟩])):=ho5;have HB5:Hid (Below w.heap.size w w5):=HB1.out.trans (hk5.below (fun b hb=>(HO1.out.lt b hb).1) hbs2);clear ho5 hk5 hg5))
    go_roundw
    case rel=>exact ⟨k+1,by omega,by go_num,by rw [HT.out];exact HO5.out,HB5.out⟩
    case measure=>simp [intOf];omega
  ·have HE:Hid ((q.map turnQ).take k=q.map turnQ):=by show _=_;rw [List.take_of_length_le (by rw [List.length_map];omega)]
   go_wp2
   go_ret
   exact ⟨⟨_,rfl,by rw [<- HE.out];exact HO.out⟩,HB.out⟩
theorem iOneBehind (w:World) (a1 a2:Option Addr) (p q L:List Qu) (hL:p++q=L) (c1 c2:Nat) (h1:Qvs w a1 p) (h2:Qvs w a2 q) (hl1:p.length<=1000) (hl2:q.length<=1000) :
 Calls Tryz.prog 43 #[.slice a1 p.length c1,.slice a2 q.length c2] w fun e w'=>(∃ g c',e=.returned (.slice (some ⟨g,0,none⟩) L.length c')/\Owi w' w.heap.size (.slice (some ⟨g,0,none⟩) L.length c') L)/\Below w.heap.size w w':=by
 have hb0:Below w.heap.size w (w.alloc (.cells #[] 51)):=(Below.refl _ _).alloc (Nat.le_refl _) _
 have HAL:Hid (Below w.heap.size w (w.alloc (.cells #[] 51))):=hb0
 have HO0:Hid (Owi (w.alloc (.cells #[] 51)) w.heap.size (.slice (some ⟨w.heap.size,0,none⟩) 0 0) []):=Owi.lit w _ (Nat.le_refl _)
 have H1:Hid (Qvs (w.alloc (.cells #[] 51)) a1 p):=h1.below hb0
 have H2:Hid (Qvs w a2 q):=h2
 have HLE:Hid (p++q=L):=hL
 clear hb0 h1 h2 hL
 go_enter Tryz.func43,Tryz.ntmps43
 go_wp2_with (at_builtin;go_must (first
  | (refine app_opt _ rfl _ _ rfl w.heap.size w.heap.size 0 [] p p rfl a1 c1 _ _ rfl rfl rfl rfl H1.out HO0.out (by simp) (by simp;omega) ?_
     intro g4 cp4 w4 ho4 hk4
     have HO4:Hid (Owi w4 w.heap.size (.slice (some ⟨g4,0,none⟩) p.length cp4) p):=ho4
     have HB4:Hid (Below w.heap.size w w4):=HAL.out.trans (hk4.below (fun k hk=>by cases hk;exact Nat.le_refl _) (by simp))
     have hs4:w.heap.size<=w4.heap.size:=HB4.out.size
     clear ho4 hk4 HAL H1 HO0)
  | (refine app_opt _ rfl _ _ rfl w.heap.size g4 cp4 p q L HLE.out a2 c2 _ _ rfl rfl rfl rfl (H2.out.below HB4.out) HO4.out hs4 (by omega) ?_
     intro g5 cp5 w5 ho5 hk5
     have HO5:Hid (Owi w5 w.heap.size (.slice (some ⟨g5,0,none⟩) L.length cp5) L):=ho5
     have HB5:Hid (Below w.heap.size w w5):=HB4.out.trans (hk5.below (fun k hk=>by cases hk;exact (HO4.out.lt g4 rfl).1) hs4)
     clear ho5 hk5)))
 go_ret
 exact ⟨⟨_,_,rfl,HO5.out⟩,HB5.out⟩
theorem results_quant {w:World} {g:Nat} {x:Qu} {tmps:Array Value} (hp:tmps.getD 2 undef=.pointer (some ⟨g,0,none⟩)) (h:QuAt w g 0 x) :
 (results Tryz.f22 tmps).run Tryz.prog w=.ok (.agg #[.bool x.all,.int .i64 x.vr,.int .i64 x.bits]) w:=by
 have hr:w.rangeAt g 0 [.bool x.all,.int .i64 x.vr,.int .i64 x.bits]:=fun j v hv=>by
  rw [Nat.zero_add]
  have hj:j < 3:=by
   have:=(List.getElem?_eq_some_iff.1 hv).1
   simpa using this
  obtain ⟨c0,c1,c2⟩:=h
  rcases (show j=0\/j=1\/j=2 by omega) with h'|h'|h'<;>subst h'
  ·rw [<- hv];exact c0
  ·rw [<- hv];exact c1
  ·rw [<- hv];exact c2
 have hl:=run_loadVar_mid (P:=Tryz.prog) w g 0 42 _ _ hr Tryz.underlying42 rfl rfl
 have hp':tmps[2]?.getD undef=.pointer (some ⟨g,0,none⟩):=by simpa using hp
 simp [results,hp',asAddr,hl]
theorem qu_set {w:World} {g:Nat} {v0 v1 v2:Value} (h0:w.cell? ⟨g,0,none⟩=some v0) (h1:w.cell? ⟨g,1,none⟩=some v1) (h2:w.cell? ⟨g,2,none⟩=some v2) (x:Qu) :
 QuAt (((w.setCell ⟨g,0,none⟩ (.bool x.all)).setCell ⟨g,1,none⟩ (.int .i64 x.vr)).setCell ⟨g,2,none⟩ (.int .i64 x.bits)) g 0 x:=by
 have n01:(⟨g,0,none⟩:Addr)≠⟨g,1,none⟩:=by simp
 have n02:(⟨g,0,none⟩:Addr)≠⟨g,2,none⟩:=by simp
 have n12:(⟨g,1,none⟩:Addr)≠⟨g,2,none⟩:=by simp
 refine ⟨?_,?_,?_⟩
 ·rw [set_other n02.symm,set_other n01.symm,set_same h0]
 ·rw [set_other n12.symm]
  exact set_same (by rw [set_other n01];exact h1)
 ·exact set_same (by rw [set_other n12,set_other n02];exact h2)
theorem keep3 {B g:Nat} {w:World} (hg:B<=g) (hs:B<=w.heap.size) (a b c:Value):Below B w (((w.setCell ⟨g,0,none⟩ a).setCell ⟨g,1,none⟩ b).setCell ⟨g,2,none⟩ c):=by
 have k1:Kept (fun k=>k=g) w (w.setCell ⟨g,0,none⟩ a):=(Kept.refl (fun k=>k=g) w).setCell (p:=⟨g,0,none⟩) rfl _
 have k2:Kept (fun k=>k=g) w ((w.setCell ⟨g,0,none⟩ a).setCell ⟨g,1,none⟩ b):=k1.setCell (p:=⟨g,1,none⟩) rfl _
 have k3:Kept (fun k=>k=g) w (((w.setCell ⟨g,0,none⟩ a).setCell ⟨g,1,none⟩ b).setCell ⟨g,2,none⟩ c):=k2.setCell (p:=⟨g,2,none⟩) rfl _
 exact k3.below (fun k hk=>by cases hk;exact hg) hs
theorem iQuantOf (x:Qu) (w:World) :
 Calls Tryz.prog 22 #[qv x] w fun e w'=>e=.returned (.agg #[.bool x.all,.int .i64 x.vr,.int .i64 x.bits])/\Below w.heap.size w w':=by
 obtain ⟨al,v,b⟩:=x
 obtain ⟨W,hW⟩:∃ W:World,W=w.alloc (.cells #[.bool false,.int .i64 0,.int .i64 0] 42):=⟨_,rfl⟩
 obtain ⟨g,hg⟩:∃ g:Nat,g=w.heap.size:=⟨_,rfl⟩
 have HBW:Hid (Below w.heap.size w W):=by rw [hW];exact (Below.refl _ _).alloc (Nat.le_refl _) _
 have HQA:Hid ((W.cell? ⟨g,0,none⟩=some (.bool false)/\W.cell? ⟨g,1,none⟩=some (.int .i64 0)/\W.cell? ⟨g,2,none⟩=some (.int .i64 0))/\(∀ j,W.frozen? ⟨g,j,none⟩=false)/\g < W.heap.size):=by
  rw [hW,hg]
  exact ⟨⟨by rw [World.cell?_alloc_new];rfl,by rw [World.cell?_alloc_new];rfl,by rw [World.cell?_alloc_new];rfl⟩,fun j=>by simp,by simp⟩
 have HGW:Hid (w.heap.size<=g):=by show _<=_;omega
 cases al
 ·have HO:Hid (∀ w,Calls Tryz.prog 45 #[.iface 105 (.agg #[.int .i64 v,.int .i64 b])] w fun e w'=>e=.returned (.int .i64 20)/\w'=w):=fun w=>iOpOf ⟨false,v,b⟩ w
  have hm:=findSome v b
  rw [qv_some]
  go_enter Tryz.func22,Tryz.ntmps22
  go_wp2_with fail
  rw [<- hW]
  refine (iVarSome v b W).mono ?_
  rintro e w1 ⟨rfl,hb1⟩
  have HB1:Hid (Below w.heap.size w w1):=HBW.out.trans (hb1.mono HBW.out.size)
  have q0:w1.cell? ⟨g,0,none⟩=some (.bool false):=by rw [hb1.cell HQA.out.2.2];exact HQA.out.1.1
  have q1:w1.cell? ⟨g,1,none⟩=some (.int .i64 0):=by rw [hb1.cell HQA.out.2.2];exact HQA.out.1.2.1
  have q2:w1.cell? ⟨g,2,none⟩=some (.int .i64 0):=by rw [hb1.cell HQA.out.2.2];exact HQA.out.1.2.2
  have f0:w1.frozen? ⟨g,0,none⟩=false:=by rw [hb1.frozen HQA.out.2.2];exact HQA.out.2.1 0
  have f1:w1.frozen? ⟨g,1,none⟩=false:=by rw [hb1.frozen HQA.out.2.2];exact HQA.out.2.1 1
  have f2:w1.frozen? ⟨g,2,none⟩=false:=by rw [hb1.frozen HQA.out.2.2];exact HQA.out.2.1 2
  rw [<- hg]
  clear hb1 hW hm hg
  go_wp2_with (go_at_call 45;refine (HO.out _).mono ?_;rintro e w' ⟨rfl,hw'⟩;have hw'':=hw'.symm;clear hw';subst hw'')
  have HQ9:=qu_set q0 q1 q2 ⟨false,v,b⟩
  have HB9:=HB1.out.trans (keep3 HGW.out HB1.out.size (.bool false) (.int .i64 v) (.int .i64 b))
  dsimp only at HQ9
  refine bodyPost_ret (v:=.agg #[.bool false,.int .i64 v,.int .i64 b]) (results_quant (x:=⟨false,v,b⟩) rfl HQ9) rfl ⟨rfl,HB9⟩
 ·have HO:Hid (∀ w,Calls Tryz.prog 45 #[.iface 104 (.agg #[.int .i64 v,.int .i64 b])] w fun e w'=>e=.returned (.int .i64 19)/\w'=w):=fun w=>iOpOf ⟨true,v,b⟩ w
  have hm:=findAll v b
  rw [qv_all]
  go_enter Tryz.func22,Tryz.ntmps22
  go_wp2_with fail
  rw [<- hW]
  refine (iVarAll v b W).mono ?_
  rintro e w1 ⟨rfl,hb1⟩
  have HB1:Hid (Below w.heap.size w w1):=HBW.out.trans (hb1.mono HBW.out.size)
  have q0:w1.cell? ⟨g,0,none⟩=some (.bool false):=by rw [hb1.cell HQA.out.2.2];exact HQA.out.1.1
  have q1:w1.cell? ⟨g,1,none⟩=some (.int .i64 0):=by rw [hb1.cell HQA.out.2.2];exact HQA.out.1.2.1
  have q2:w1.cell? ⟨g,2,none⟩=some (.int .i64 0):=by rw [hb1.cell HQA.out.2.2];exact HQA.out.1.2.2
  have f0:w1.frozen? ⟨g,0,none⟩=false:=by rw [hb1.frozen HQA.out.2.2];exact HQA.out.2.1 0
  have f1:w1.frozen? ⟨g,1,none⟩=false:=by rw [hb1.frozen HQA.out.2.2];exact HQA.out.2.1 1
  have f2:w1.frozen? ⟨g,2,none⟩=false:=by rw [hb1.frozen HQA.out.2.2];exact HQA.out.2.1 2
  rw [<- hg]
  clear hb1 hW hm hg
  go_wp2_with (go_at_call 45;refine (HO.out _).mono ?_;rintro e w' ⟨rfl,hw'⟩;have hw'':=hw'.symm;clear hw';subst hw'')
  have HQ9:=qu_set q0 q1 q2 ⟨true,v,b⟩
  have HB9:=HB1.out.trans (keep3 HGW.out HB1.out.size (.bool true) (.int .i64 v) (.int .i64 b))
  dsimp only at HQ9
  refine bodyPost_ret (v:=.agg #[.bool true,.int .i64 v,.int .i64 b]) (results_quant (x:=⟨true,v,b⟩) rfl HQ9) rfl ⟨rfl,HB9⟩
end Fq1
namespace Lx1
open Go.RowKit
open Nd0 Nd3 Tm0 Tm1 Tm2 Tm3 Tm4 Tm5 Tm6 Tm11
/-- What the program's TermOk is to do. -/
def ITermOk:Prop:=∀ (w:World) (a:Option Addr) (l:List Nd) (c:Nat),Nodes w a l->l.length<=c->l.length<=1048576 ->
 Calls Tryz.prog 25 #[.slice a l.length c] w fun e w'=>e=.returned (.bool (termOk l))/\Below w.heap.size w w'
end Lx1
namespace Lx2
open Go.RowKit
open Nd0 Nd3 Tm0 Tm1 Tm2 Tm3 Tm4 Tm5 Tm6 Tm11
/-- What the program's Reached is to do. -/
def IReached:Prop:=∀ (w:World) (a:Option Addr) (l:List Nd) (c:Nat),Nodes w a l->l.length<=c->l.length<=1048576 ->
 Calls Tryz.prog 14 #[.slice a l.length c] w fun e w'=>(∃ a' c',e=.returned (.slice a' (reachedL l).length c')/\WInts w' w.heap.size a' (reachedL l))/\Below w.heap.size w w'
end Lx2
namespace Lx3
open Go.RowKit
open Nd0 Nd3 Tm0 Tm1 Tm2 Tm3 Tm4 Tm5 Tm6 Tm11
end Lx3
namespace Lx4
open Go.RowKit
open Nd0 Nd3 Tm0 Tm1 Tm2 Tm3 Tm4 Tm5 Tm6 Tm11
/-- What the program's Prune is to do. -/
def IPrune:Prop:=∀ (w:World) (a:Option Addr) (l:List Nd) (c:Nat),Nodes w a l->l.length<=c->l.length<=1048576 ->
 Calls Tryz.prog 48 #[.slice a l.length c] w fun e w'=>(∃ a' c',e=.returned (.slice a' (pruneL l).length c')/\WNodes w' w.heap.size a' (pruneL l)/\(pruneL l).length<=c')/\Below w.heap.size w w'
end Lx4
namespace Lx6
open Go.RowKit
open Nd0 Nd3 Tm0 Tm1 Tm2 Tm3 Tm4 Tm5 Tm6 Tm11
/-- What the program's Sentence is to do. -/
def ISentence:Prop:=∀ (w:World) (a:Option Addr) (l:List Nd) (c:Nat),Nodes w a l->l.length<=c->l.length<=1048576 ->
 Calls Tryz.prog 20 #[.slice a l.length c] w fun e w'=>e=.returned (.bool (sentB l))/\Below w.heap.size w w'
/-- What the program's Bits is to do. -/
def IBits:Prop:=∀ (w:World) (a:Option Addr) (l:List Nd) (c:Nat),Nodes w a l->l.length<=c->l.length<=1048576 ->
 Calls Tryz.prog 11 #[.slice a l.length c] w fun e w'=>e=.returned (.int .i64 (bitsL l))/\Below w.heap.size w w'
end Lx6
end Go.Proofs.YtebejleeadofcaaGreat
