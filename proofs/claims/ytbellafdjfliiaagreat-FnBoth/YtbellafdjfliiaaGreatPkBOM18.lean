import Derived.Test.YtbellafdjfliiaaGreatRows
import Derived.WalkKit
import Derived.WalkSpells
import Derived.WalkLawsBesides
import Derived.Test.YtbellafdjfliiaaGreatPkBOM17
import Derived.Test.YtbellafdjfliiaaGreatPkBOM14
import Derived.Test.YtbellafdjfliiaaGreatPkBOM0
import Derived.Test.YtbellafdjfliiaaGreatPkBOM9
import Derived.Test.YtbellafdjfliiaaGreatPkBOM13
import Derived.Test.YtbellafdjfliiaaGreatPkBOM15
import Derived.Test.YtbellafdjfliiaaGreatPkBOM1
namespace Go.Proofs.YtbellafdjfliiaaGreat
set_option maxRecDepth 100000
set_option maxHeartbeats 8000000
set_option linter.unusedVariables false
namespace Jn6
open Nd0 Pl1 Tm0 Tm1 Tm3 Tm4 Tm5 Tm6 Tm8 Tm11 Tm12 Tm13 Tm14 Tr0 Vl1 Vl2 Vl3 Vl5 Aq0 Aq1 Aq4 Aq5 Aq13 Jn0 Jn2 Jn3 Jn4 Jn5
theorem deny_holds {u:List Nd} (hS:sentB u=true) (hb:behB u (denN u)=true) {n:Int} (h:holdsL (behL u (denN u))=some n):n=1 - (holdsL u).getD 0:=by
 have hT:=sent_ok hS
 have hw:=((sent_iff u).1 hS).2.1
 have e:denN u=notN u:=by unfold denN notN;rw [hw]
 have el:behL u (denN u)=u++[notN u]:=by unfold behL;rw [hb,e];rfl
 rw [el] at h
 unfold behB at hb
 rw [e,hT,Bool.true_and] at hb
 have hl:u.length < 80:=by
  have h9:=(term_len hb).2
  rw [List.length_append] at h9
  simp only [List.length_cons,List.length_nil] at h9
  omega
 obtain ⟨_,g1,_,_⟩:=holds_parts h
 rw [bits_not hS hl] at g1
 have h2:=holds_some hS g1
 have h3:valueL u (List.replicate 8 0)=some (vT (root u) (List.replicate 8 0)):=by
  have h9:=h2
  unfold holdsL at h9
  rw [hS,if_pos rfl] at h9
  exact h9
 have h4:=value_not hT hw hl h3
 unfold holdsL at h
 rw [sent_not hS hl,if_pos rfl,h4] at h
 rw [h2]
 exact (Option.some.inj h).symm
theorem numB_iff (l:List Nd) (v:Nat):numB l v=true↔∃ i,i < l.length/\nmd (nth l i)=true/\(nth l i).k=(v:Int):=by
 unfold numB
 rw [List.any_eq_true]
 constructor
 ·rintro ⟨n,hn,hk⟩
  obtain ⟨i,hi,rfl⟩:=List.getElem_of_mem hn
  simp only [Bool.and_eq_true,beq_iff_eq] at hk
  rw [nth_get hi] at hk
  exact ⟨i,hi,hk.1,hk.2⟩
 ·rintro ⟨i,hi,h1,h2⟩
  refine ⟨l[i],List.getElem_mem hi,?_⟩
  rw [nth_get hi,h1,h2];simp
theorem numB_prune {l:List Nd} (hT:termOk l=true) (v:Nat):numB (pruneL l) v=true↔∃ i,i < l.length/\flag (reachL l) i=true/\nmd (nth l i)=true/\(nth l i).k=(v:Int):=by
 rw [numB_iff]
 constructor
 ·rintro ⟨j,hj,h1,h2⟩
  obtain ⟨x,hx,hf,rfl⟩:=pl_all hT hj
  rw [prune_nth hT hx hf] at h1 h2
  exact ⟨x,hx,hf,h1,h2⟩
 ·rintro ⟨x,hx,hf,h1,h2⟩
  refine ⟨pl l x,pl_lt hT hx hf,?_,?_⟩
  ·rw [prune_nth hT hx hf];exact h1
  ·rw [prune_nth hT hx hf];exact h2
theorem count_or (p q r:Nat->Bool):∀ l:List Nat,(∀ x∈l,p x=true->q x=true\/r x=true)->(l.filter p).length<=(l.filter q).length+(l.filter r).length:=by
 intro l
 induction l with
 | nil=>intro _;exact Nat.zero_le _
 | cons x l ih =>
   intro h
   have h1:=ih (fun y hy=>h y (List.mem_cons_of_mem _ hy))
   have h2:=h x List.mem_cons_self
   rw [List.filter_cons,List.filter_cons,List.filter_cons]
   cases hp:p x<;>cases hq:q x<;>cases hr:r x
   all_goals
    simp only [Bool.false_eq_true,if_false,if_true,List.length_cons]
    first
     | omega
     | (rcases h2 hp with h3|h3
        ·rw [hq] at h3;cases h3
        ·rw [hr] at h3;cases h3)
theorem count_image (p q:Nat->Bool) (g:Nat->Nat) (h:∀ v:Nat,v < 8->q v=true->∃ t:Nat,t < 8/\p t=true/\g t=v):((List.range 8).filter q).length<=((List.range 8).filter p).length:=by
 have h1:∀ l:List Nat,(l.map fun _=>(1:Int)).sum=(l.length:Int):=by
  intro l
  induction l with
  | nil=>rfl
  | cons x l ih=>rw [List.map_cons,List.sum_cons,ih,List.length_cons];omega
 have h2:=sum_le_of_inj (fun _:Nat=>(1:Int)) ((List.range 8).filter q) (((List.range 8).filter p).map g) (List.Pairwise.filter _ List.nodup_range) (fun v hv=>by
  obtain ⟨hv1,hv2⟩:=List.mem_filter.1 hv
  obtain ⟨t,ht,hp,hg⟩:=h v (List.mem_range.1 hv1) hv2
  exact List.mem_map.2 ⟨t,List.mem_filter.2 ⟨List.mem_range.2 ht,hp⟩,hg⟩) (fun _ _=>by decide)
 rw [h1,h1,List.length_map] at h2
 omega
theorem vars_count (l:List Nd):(varsL l).length=((List.range 8).filter (numB (pruneL l))).length:=by
 unfold varsL varsTo
 rw [List.length_map]
theorem both_vars {a b:List Nd} (h:bothB a b=true):(varsL (bothR a b)).length<=(varsL a).length+(varsL b).length:=by
 have hr:bothR a b=bothAll a b:=by unfold bothR;rw [h];rfl
 unfold bothB at h
 simp only [Bool.and_eq_true] at h
 obtain ⟨⟨⟨hA,hB⟩,he⟩,hT⟩:=h
 have hTA:=sent_ok hA
 have hTB:=sent_ok hB
 have hJ:=nw_inj he
 have hTB2:=rs_term hTB hJ
 rw [hr]
 rw [both_jn] at hT ⊢
 rw [vars_count,vars_count,vars_count]
 have ha:=(term_len hTA).1
 have hb:=(term_len hTB2).1
 have c1:((List.range 8).filter (numB (pruneL (jnL a (b.map (rsN (gB a b))))))).length<=((List.range 8).filter (numB (pruneL a))).length+((List.range 8).filter (numB (pruneL (b.map (rsN (gB a b)))))).length:=by
  refine count_or _ _ _ _ fun v hv hn=>?_
  obtain ⟨i,hi,hf,h1,h2⟩:=(numB_prune hT v).1 hn
  rw [jn_len] at hi
  by_cases hlt:i < a.length
  ·left
   rw [jn_a hlt] at h1 h2
   exact (numB_prune hTA v).2 ⟨i,hlt,by rw [<- reach_a (down_of hTA) (down_of hTB2) (down_of hT) ha hb hlt];exact hf,h1,h2⟩
  ·by_cases h9:i < a.length+(b.map (rsN (gB a b))).length
   ·right
    obtain ⟨k,rfl⟩:∃ k,i=a.length+k:=⟨i - a.length,by omega⟩
    rw [jn_b (by omega)] at h1 h2
    exact (numB_prune hTB2 v).2 ⟨k,by omega,by rw [<- reach_b (down_of hTB2) (down_of hT) ha hb (a:=a) (by omega)];exact hf,h1,h2⟩
   ·have e:i=a.length+(b.map (rsN (gB a b))).length:=by omega
    subst e
    rw [jn_r] at h1
    cases h1
 have c2:((List.range 8).filter (numB (pruneL (b.map (rsN (gB a b)))))).length<=((List.range 8).filter (numB (pruneL b))).length:=by
  refine count_image _ _ (fun t=>(gB a b (t:Int)).toNat) fun v hv hn=>?_
  obtain ⟨i,hi,hf,h1,h2⟩:=(numB_prune hTB2 v).1 hn
  rw [List.length_map] at hi
  rw [rs_reach] at hf
  rw [nth_map (rsN (gB a b)) hi] at h1 h2
  have hnm:nmd (nth b i)=true:=by
   unfold nmd at h1 ⊢
   rw [rs_op] at h1
   exact h1
  rw [rs_k hnm] at h2
  have hkr:0<=(nth b i).k/\(nth b i).k<=7:=by
   unfold nmd at hnm
   cases hq:quant (nth b i).op
   ·rw [hq,Bool.or_false] at hnm
    exact var_k hTB hi (by simpa using hnm)
   ·exact quant_k hTB hi hq
  refine ⟨(nth b i).k.toNat,by omega,(numB_prune hTB _).2 ⟨i,hi,hf,hnm,by omega⟩,?_⟩
  show (gB a b (((nth b i).k.toNat:Nat):Int)).toNat=v
  rw [show (((nth b i).k.toNat:Nat):Int)=(nth b i).k by omega,h2,Int.toNat_natCast]
 omega
end Jn6
namespace Bt0
open Go.RowKit
open Pl1 Vl1 Vl2
theorem nat8 {a:Int} (h:0<=a/\a<=255):∃ m:Nat,a=(m:Int)/\m < 2 ^ 8:=⟨a.toNat,by omega,by omega⟩
theorem wrap8 {m:Nat} (h:m < 2 ^ 8):IntKind.i64.wrap (m:Int)=(m:Int):=by rw [IntKind.wrap_i64];omega
theorem mod64 {m:Nat} (h:m < 2 ^ 8):m % 2 ^ 64=m:=Nat.mod_eq_of_lt (by omega)
theorem band {a b:Int} (ha:0<=a/\a<=255) (hb:0<=b/\b<=255):bits .and .i64 a b=nAnd a b:=by
 obtain ⟨m,rfl,hm⟩:=nat8 ha
 obtain ⟨n,rfl,hn⟩:=nat8 hb
 have e:bits .and .i64 (m:Int) (n:Int)=IntKind.i64.wrap ((BitVec.ofInt 64 (m:Int) &&& BitVec.ofInt 64 (n:Int)).toNat:Int):=rfl
 rw [e,BitVec.toNat_and,BitVec.ofInt_natCast,BitVec.ofInt_natCast,BitVec.toNat_ofNat,BitVec.toNat_ofNat,mod64 hm,mod64 hn,wrap8 (Nat.and_lt_two_pow _ hn)]
 rfl
theorem bor {a b:Int} (ha:0<=a/\a<=255) (hb:0<=b/\b<=255):bits .or .i64 a b=nOr a b:=by
 obtain ⟨m,rfl,hm⟩:=nat8 ha
 obtain ⟨n,rfl,hn⟩:=nat8 hb
 have e:bits .or .i64 (m:Int) (n:Int)=IntKind.i64.wrap ((BitVec.ofInt 64 (m:Int) ||| BitVec.ofInt 64 (n:Int)).toNat:Int):=rfl
 rw [e,BitVec.toNat_or,BitVec.ofInt_natCast,BitVec.ofInt_natCast,BitVec.toNat_ofNat,BitVec.toNat_ofNat,mod64 hm,mod64 hn,wrap8 (Nat.or_lt_two_pow hm hn)]
 rfl
theorem bxor {a b:Int} (ha:0<=a/\a<=255) (hb:0<=b/\b<=255):bits .xor .i64 a b=nXor a b:=by
 obtain ⟨m,rfl,hm⟩:=nat8 ha
 obtain ⟨n,rfl,hn⟩:=nat8 hb
 have e:bits .xor .i64 (m:Int) (n:Int)=IntKind.i64.wrap ((BitVec.ofInt 64 (m:Int) ^^^ BitVec.ofInt 64 (n:Int)).toNat:Int):=rfl
 rw [e,BitVec.toNat_xor,BitVec.ofInt_natCast,BitVec.ofInt_natCast,BitVec.toNat_ofNat,BitVec.toNat_ofNat,mod64 hm,mod64 hn,wrap8 (Nat.xor_lt_two_pow hm hn)]
 rfl
theorem bor16 {m n:Nat} (hm:m < 2 ^ 9) (hn:n < 2 ^ 9):bits .or .i64 (m:Int) (n:Int)=((m ||| n:Nat):Int):=by
 have e:bits .or .i64 (m:Int) (n:Int)=IntKind.i64.wrap ((BitVec.ofInt 64 (m:Int) ||| BitVec.ofInt 64 (n:Int)).toNat:Int):=rfl
 have h:=Nat.or_lt_two_pow hm hn
 rw [e,BitVec.toNat_or,BitVec.ofInt_natCast,BitVec.ofInt_natCast,BitVec.toNat_ofNat,BitVec.toNat_ofNat,Nat.mod_eq_of_lt (by omega),Nat.mod_eq_of_lt (by omega),IntKind.wrap_i64]
 omega
end Bt0
namespace Lx1
open Go.RowKit
open Nd0 Nd3 Tm0 Tm1 Tm2 Tm3 Tm4 Tm5 Tm6 Tm11
/-- What the program's TermOk is to do. -/
def ITermOk:Prop:=∀ (w:World) (a:Option Addr) (l:List Nd) (c:Nat),Nodes w a l->l.length<=c->l.length<=1048576 ->
 Calls Tryz.prog 34 #[.slice a l.length c] w fun e w'=>e=.returned (.bool (termOk l))/\Below w.heap.size w w'
end Lx1
namespace Lx2
open Go.RowKit
open Nd0 Nd3 Tm0 Tm1 Tm2 Tm3 Tm4 Tm5 Tm6 Tm11
/-- What the program's Reached is to do. -/
def IReached:Prop:=∀ (w:World) (a:Option Addr) (l:List Nd) (c:Nat),Nodes w a l->l.length<=c->l.length<=1048576 ->
 Calls Tryz.prog 36 #[.slice a l.length c] w fun e w'=>(∃ a' c',e=.returned (.slice a' (reachedL l).length c')/\WInts w' w.heap.size a' (reachedL l))/\Below w.heap.size w w'
end Lx2
namespace Lx3
open Go.RowKit
open Nd0 Nd3 Tm0 Tm1 Tm2 Tm3 Tm4 Tm5 Tm6 Tm11
end Lx3
namespace Lx4
open Go.RowKit
open Nd0 Nd3 Tm0 Tm1 Tm2 Tm3 Tm4 Tm5 Tm6 Tm11
/-- What the program's Prune is to do. -/
def IPrune:Prop:=∀ (w:World) (a:Option Addr) (l:List Nd) (c:Nat),Nodes w a l->l.length<=c->l.length<=1048576 ->
 Calls Tryz.prog 42 #[.slice a l.length c] w fun e w'=>(∃ a' c',e=.returned (.slice a' (pruneL l).length c')/\WNodes w' w.heap.size a' (pruneL l)/\(pruneL l).length<=c')/\Below w.heap.size w w'
end Lx4
namespace Lx6
open Go.RowKit
open Nd0 Nd3 Tm0 Tm1 Tm2 Tm3 Tm4 Tm5 Tm6 Tm11
/-- What the program's Sentence is to do. -/
def ISentence:Prop:=∀ (w:World) (a:Option Addr) (l:List Nd) (c:Nat),Nodes w a l->l.length<=c->l.length<=1048576 ->
 Calls Tryz.prog 12 #[.slice a l.length c] w fun e w'=>e=.returned (.bool (sentB l))/\Below w.heap.size w w'
/-- What the program's Bits is to do. -/
def IBits:Prop:=∀ (w:World) (a:Option Addr) (l:List Nd) (c:Nat),Nodes w a l->l.length<=c->l.length<=1048576 ->
 Calls Tryz.prog 13 #[.slice a l.length c] w fun e w'=>e=.returned (.int .i64 (bitsL l))/\Below w.heap.size w w'
end Lx6
namespace Ic4
open Go.RowKit
open Nd0 Nd3 Tm0 Vl1 Vl4 Vl5
def IApply:Prop:=∀ (n:Nd) (W a b c:Int) (w:World),(Lit.int .i64 n.k).wf=true ->
 Calls Tryz.prog 94 #[.agg #[.int .i64 n.op,.int .i64 n.w,.int .i64 n.k,.int .i64 n.a,.int .i64 n.b,.int .i64 n.c],.int .i64 W,.int .i64 a,.int .i64 b,.int .i64 c] w fun e w'=>e=.returned (.int .i64 (applyL n.op n.w n.k W a b c))/\Below w.heap.size w w'
def IValue:Prop:=∀ (w:World) (a ae:Option Addr) (l:List Nd) (e:List Int) (c ce:Nat),Nodes w a l->l.length<=c->l.length<=1048576->Ints w ae e->e.length<=ce ->
 Calls Tryz.prog 33 #[.slice a l.length c,.slice ae e.length ce] w fun x w'=>x=.returned (.tuple #[.int .i64 ((valueL l e).getD 0),.bool (valueL l e).isSome])/\Below w.heap.size w w'
def IHolds:Prop:=∀ (w:World) (a:Option Addr) (l:List Nd) (c:Nat),Nodes w a l->l.length<=c->l.length<=1048576 ->
 Calls Tryz.prog 10 #[.slice a l.length c] w fun x w'=>x=.returned (.tuple #[.int .i64 ((holdsL l).getD 0),.bool (holdsL l).isSome])/\Below w.heap.size w w'
end Ic4
namespace Kp1
open Go.RowKit
open Nd0 Rw0 Rw1 Tm6
theorem Kept.past {S T:Nat->Prop} {u v w:World} (h:Kept S u v) (k:Kept T v w) (hT:∀ b,T b->S b\/u.heap.size<=b):Kept S u w :=
 ⟨k.os.trans h.os,k.tape.trans h.tape,k.output.trans h.output,Nat.le_trans h.size k.size,fun i hi hb=>(k.block i (Nat.lt_of_lt_of_le hi h.size) (fun t=>by
  rcases hT i t with e|e
  ·exact hb e
  ·omega)).trans (h.block i hi hb)⟩
def Env (w:World) (g:Nat) (e:List Int):Prop:=Row w g 8 (fun i=>.int .i64 (wd e (i:Int)))
theorem Env.kept {w w':World} {g:Nat} {e:List Int} (h:Env w g e) {S:Nat->Prop} (k:Kept S w w') (hs:¬ S g):Env w' g e:=Row.kept h k hs
theorem Env.lt {w:World} {g:Nat} {e:List Int} (h:Env w g e):g < w.heap.size:=Row.lt h (by omega)
theorem Env.set {w:World} {g:Nat} {e:List Int} (h:Env w g e) (he:e.length=8) {p:Nat} (hp:p < 8) (x:Int):Env (w.setCell ⟨g,p,none⟩ (.int .i64 x)) g (e.set p x):=row_set_int h he hp x
theorem Env.at {w:World} {g:Nat} {e:List Int} (h:Env w g e) {k:Int} (h0:0<=k) (h7:k<=7):w.cell? ⟨g,k.toNat,none⟩=some (.int .i64 (wd e k))/\w.frozen? ⟨g,k.toNat,none⟩=false:=by
 have:=h k.toNat (by omega)
 dsimp only at this
 rw [Int.toNat_of_nonneg h0] at this
 exact this
end Kp1
namespace Wd1
open Go.RowKit
open Pl1
theorem ret_int {k:IntKind} {a b:Int} (h:a=b):Ending.returned (.int k a)=.returned (.int k b):=by rw [h]
theorem ret_bool {a b:Bool} (h:a=b):Ending.returned (.bool a)=.returned (.bool b):=by rw [h]
theorem spow (m:Int) (w:World) (h0:0<=m) (h1:m<=8) :
 Calls Tryz.prog 79 #[.int .i64 m] w fun e w'=>e=.returned (.int .i64 (p2 m.toNat))/\w'=w:=by
 obtain ⟨n,rfl⟩:=Int.eq_ofNat_of_zero_le h0
 rw [Int.toNat_natCast]
 go_enter Tryz.func79,Tryz.ntmps79
 go_wp2
 go_loop [3,4] (fun x i=>∃ k:Nat,k<=n/\i=.int .i64 k/\x=.int .i64 (p2 k)) (fun _ i=>n - (intOf i).toNat)
 case atStart=>exact ⟨0,Nat.zero_le _,rfl,rfl⟩
 case round =>
  obtain ⟨k,hk,rfl,rfl⟩:=hrel
  have hp:=p2_pos k
  have hl:=p2_le k (by omega)
  by_cases hlt:k < n
  ·go_wp2
   go_round
   case rel=>exact ⟨k+1,by omega,by go_num,by rw [p2_succ]⟩
   case measure=>simp [intOf];omega
  ·go_wp2
   go_ret
   have:k=n:=by omega
   subst this
   exact ⟨rfl,rfl⟩
theorem mask (m:Int) (w:World) (h0:1<=m) (h1:m<=8) :
 Calls Tryz.prog 155 #[.int .i64 m] w fun e w'=>e=.returned (.int .u8 (p2 m.toNat - 1))/\w'=w:=by
 rcases eight h0 h1 with rfl|rfl|rfl|rfl|rfl|rfl|rfl|rfl
 all_goals
  go_enter Tryz.func155,Tryz.ntmps155
  go_wp2
  go_ret
  exact ⟨rfl,rfl⟩
theorem cut (a m:Int) (w:World) (ha:0<=a) (hb:a<=255) (h0:1<=m) (h1:m<=8) :
 Calls Tryz.prog 154 #[.int .u8 a,.int .i64 m] w fun e w'=>e=.returned (.int .u8 (a % p2 m.toNat))/\w'=w:=by
 have hm:=and_mask a m.toNat ha hb (by omega)
 go_enter Tryz.func154,Tryz.ntmps154
 go_wp2_with (go_at_call 155;refine (mask m _ h0 h1).mono ?_;rintro e w' ⟨rfl,rfl⟩)
 go_ret
 exact ⟨rfl,rfl⟩
theorem sIn (x a b:Int) (w:World) :
 Calls Tryz.prog 62 #[.int .i64 x,.int .i64 a,.int .i64 b] w fun e w'=>e=.returned (.bool (decide (a<=x/\x<=b)))/\w'=w:=by
 by_cases h1:a<=x<;>by_cases h2:x<=b
 all_goals
  go_enter Tryz.func62,Tryz.ntmps62
  go_wp2
  go_ret
  exact ⟨ret_bool (by simp<;>omega),rfl⟩
theorem sWordOk (m a:Int) (w:World) :
 Calls Tryz.prog 78 #[.int .i64 m,.int .i64 a] w fun e w'=>e=.returned (.bool (wok m a))/\w'=w:=by
 by_cases h:1<=m/\m<=8
 ·have hp:=p2_pos m.toNat
  have hl:=p2_le m.toNat (by omega)
  have hd:decide (1<=m/\m<=8)=true:=by simpa using h
  go_enter Tryz.func78,Tryz.ntmps78
  go_wp2_with (first|(go_at_call 62;refine (sIn _ _ _ _).mono ?_;rintro e w' ⟨rfl,rfl⟩)|(go_at_call 79;refine (spow m _ (by omega) (by omega)).mono ?_;rintro e w' ⟨rfl,rfl⟩))
  go_ret
  exact ⟨ret_bool (by rw [Bool.eq_iff_iff];simp [wok];omega),rfl⟩
 ·have hd:decide (1<=m/\m<=8)=false:=by simpa using h
  go_enter Tryz.func78,Tryz.ntmps78
  go_wp2_with (go_at_call 62;refine (sIn _ _ _ _).mono ?_;rintro e w' ⟨rfl,rfl⟩)
  go_ret
  exact ⟨ret_bool (by unfold wok;symm;rw [decide_eq_false_iff_not];omega),rfl⟩
theorem sTwo (m a b:Int) (w:World) :
 Calls Tryz.prog 112 #[.int .i64 m,.int .i64 a,.int .i64 b] w fun e w'=>e=.returned (.bool (wok m a&&wok m b))/\w'=w:=by
 cases hA:wok m a
 all_goals
  go_enter Tryz.func112,Tryz.ntmps112
  go_wp2_with (go_at_call 78;refine (sWordOk _ _ _).mono ?_;rintro e w' ⟨rfl,rfl⟩)
  go_ret
  exact ⟨ret_bool (by simp),rfl⟩
theorem iWidthOk (m:Int) (w:World) :
 Calls Tryz.prog 84 #[.int .i64 m] w fun e w'=>e=.returned (.bool (decide (1<=m/\m<=8)))/\w'=w:=by
 by_cases h1:1<=m<;>by_cases h2:m<=8
 all_goals
  go_enter Tryz.func84,Tryz.ntmps84
  go_wp2
  go_ret
  exact ⟨ret_bool (by simp<;>omega),rfl⟩
theorem iWordOk (m a:Int) (w:World) :
 Calls Tryz.prog 91 #[.int .i64 m,.int .i64 a] w fun e w'=>e=.returned (.bool (wok m a))/\w'=w:=by
 by_cases h:1<=m/\m<=8
 ·have hd:decide (1<=m/\m<=8)=true:=by simpa using h
  by_cases ha:0<=a
  all_goals
   go_enter Tryz.func91,Tryz.ntmps91
   go_wp2_with (go_at_call 84;refine (iWidthOk _ _).mono ?_;rintro e w' ⟨rfl,rfl⟩)
   go_ret
   exact ⟨ret_bool (by rw [Bool.eq_iff_iff];try rw [wrap_p2 _ (by omega)]
                       simp [wok];omega),rfl⟩
 ·have hd:decide (1<=m/\m<=8)=false:=by simpa using h
  go_enter Tryz.func91,Tryz.ntmps91
  go_wp2_with (go_at_call 84;refine (iWidthOk _ _).mono ?_;rintro e w' ⟨rfl,rfl⟩)
  go_ret
  exact ⟨ret_bool (by unfold wok;symm;rw [decide_eq_false_iff_not];omega),rfl⟩
theorem iTwo (m a b:Int) (w:World) :
 Calls Tryz.prog 145 #[.int .i64 m,.int .i64 a,.int .i64 b] w fun e w'=>e=.returned (.bool (wok m a&&wok m b))/\w'=w:=by
 cases hA:wok m a
 all_goals
  go_enter Tryz.func145,Tryz.ntmps145
  go_wp2_with (go_at_call 91;refine (iWordOk _ _ _).mono ?_;rintro e w' ⟨rfl,rfl⟩)
  go_ret
  exact ⟨ret_bool (by simp),rfl⟩
theorem plus (a b m:Int) (w:World) (ha:0<=a) (ha':a<=255) (hb:0<=b) (hb':b<=255) (h0:1<=m) (h1:m<=8) :
 Calls Tryz.prog 146 #[.int .u8 a,.int .i64 m,.int .u8 b] w fun e w'=>e=.returned (.int .u8 ((a+b) % p2 m.toNat))/\w'=w:=by
 go_enter Tryz.func146,Tryz.ntmps146
 go_wp2_with (go_at_call 154;refine (cut _ m _ (by omega) (by omega) h0 h1).mono ?_;rintro e w' ⟨rfl,rfl⟩)
 go_ret
 exact ⟨ret_int (mod256 _ _ (by omega)),rfl⟩
theorem minus (a b m:Int) (w:World) (ha:0<=a) (ha':a<=255) (hb:0<=b) (hb':b<=255) (h0:1<=m) (h1:m<=8) :
 Calls Tryz.prog 147 #[.int .u8 a,.int .i64 m,.int .u8 b] w fun e w'=>e=.returned (.int .u8 ((a - b) % p2 m.toNat))/\w'=w:=by
 go_enter Tryz.func147,Tryz.ntmps147
 go_wp2_with (go_at_call 154;refine (cut _ m _ (by omega) (by omega) h0 h1).mono ?_;rintro e w' ⟨rfl,rfl⟩)
 go_ret
 exact ⟨ret_int (mod256 _ _ (by omega)),rfl⟩
theorem times (a b m:Int) (w:World) (ha:0<=a) (ha':a<=255) (hb:0<=b) (hb':b<=255) (h0:1<=m) (h1:m<=8) :
 Calls Tryz.prog 148 #[.int .u8 a,.int .i64 m,.int .u8 b] w fun e w'=>e=.returned (.int .u8 (a*b % p2 m.toNat))/\w'=w:=by
 go_enter Tryz.func148,Tryz.ntmps148
 go_wp2_with (go_at_call 154;refine (cut _ m _ (by omega) (by omega) h0 h1).mono ?_;rintro e w' ⟨rfl,rfl⟩)
 go_ret
 exact ⟨ret_int (mod256 _ _ (by omega)),rfl⟩
theorem over (a b m:Int) (w:World) (ha:0<=a) (ha':a<=255) (hb:0<=b) (hb':b<=255) (h0:1<=m) (h1:m<=8) :
 Calls Tryz.prog 149 #[.int .u8 a,.int .i64 m,.int .u8 b] w fun e w'=>e=.returned (.int .u8 (if b=0 then p2 m.toNat - 1 else a / b))/\w'=w:=by
 by_cases hz:b=0
 ·subst hz
  go_enter Tryz.func149,Tryz.ntmps149
  go_wp2_with (go_at_call 155;refine (mask m _ h0 h1).mono ?_;rintro e w' ⟨rfl,rfl⟩)
  go_ret
  exact ⟨rfl,rfl⟩
 ·have hz':(b==0)=false:=by simpa using hz
  go_enter Tryz.func149,Tryz.ntmps149
  go_wp2
  go_ret
  exact ⟨rfl,rfl⟩
theorem rest (a b:Int) (w:World) (ha:0<=a) (ha':a<=255) (hb:0<=b) (hb':b<=255) :
 Calls Tryz.prog 150 #[.int .u8 a,.int .u8 b] w fun e w'=>e=.returned (.int .u8 (if b=0 then a else a % b))/\w'=w:=by
 by_cases hz:b=0
 ·subst hz
  go_enter Tryz.func150,Tryz.ntmps150
  go_wp2
  go_ret
  exact ⟨rfl,rfl⟩
 ·have hz':(b==0)=false:=by simpa using hz
  go_enter Tryz.func150,Tryz.ntmps150
  go_wp2
  go_ret
  exact ⟨rfl,rfl⟩
theorem up (a b m:Int) (w:World) (ha:0<=a) (ha':a<=255) (hb:0<=b) (hb':b<=7) (h0:1<=m) (h1:m<=8) :
 Calls Tryz.prog 151 #[.int .u8 a,.int .i64 m,.int .u8 b] w fun e w'=>e=.returned (.int .u8 (a*p2 b.toNat % p2 m.toNat))/\w'=w:=by
 go_enter Tryz.func151,Tryz.ntmps151
 go_wp2_with (go_at_call 154;refine (cut _ m _ (by omega) (by omega) h0 h1).mono ?_;rintro e w' ⟨rfl,rfl⟩)
 go_ret
 exact ⟨ret_int (mod256 _ _ (by omega)),rfl⟩
theorem upFar (a b m:Int) (w:World) (ha:0<=a) (ha':a<=255) (hb:8<=b) (h0:1<=m) (h1:m<=8) :
 Calls Tryz.prog 151 #[.int .u8 a,.int .i64 m,.int .u8 b] w fun e w'=>e=.returned (.int .u8 0)/\w'=w:=by
 have hs:=shl8 a b .u8 hb
 go_enter Tryz.func151,Tryz.ntmps151
 go_wp2_with (go_at_call 154;refine (cut _ m _ (by omega) (by omega) h0 h1).mono ?_;rintro e w' ⟨rfl,rfl⟩)
 go_ret
 exact ⟨ret_int (by simp),rfl⟩
theorem down (a b:Int) (w:World) (ha:0<=a) (ha':a<=255) (hb:0<=b) (hb':b<=7) :
 Calls Tryz.prog 152 #[.int .u8 a,.int .u8 b] w fun e w'=>e=.returned (.int .u8 (a / p2 b.toNat))/\w'=w:=by
 go_enter Tryz.func152,Tryz.ntmps152
 go_wp2
 go_ret
 exact ⟨rfl,rfl⟩
theorem downFar (a b:Int) (w:World) (ha:0<=a) (ha':a<=255) (hb:8<=b) :
 Calls Tryz.prog 152 #[.int .u8 a,.int .u8 b] w fun e w'=>e=.returned (.int .u8 0)/\w'=w:=by
 have hs:=shr8 a b .u8 hb ha ha'
 go_enter Tryz.func152,Tryz.ntmps152
 go_wp2
 go_ret
 exact ⟨rfl,rfl⟩
theorem flip (a m:Int) (w:World) (ha:0<=a) (ha':a < p2 m.toNat) (h0:1<=m) (h1:m<=8) :
 Calls Tryz.prog 144 #[.int .u8 a,.int .i64 m] w fun e w'=>e=.returned (.int .u8 (p2 m.toNat - 1 - a))/\w'=w:=by
 have hl:=p2_le m.toNat (by omega)
 have hx:=xor255 a ha (by omega)
 have HF:Hid ((255 - a) % p2 m.toNat=p2 m.toNat - 1 - a):=flip_spec a _ (by omega) ha ha'
 go_enter Tryz.func144,Tryz.ntmps144
 go_wp2_with (go_at_call 154;refine (cut _ m _ (by omega) (by omega) h0 h1).mono ?_;rintro e w' ⟨rfl,rfl⟩)
 go_ret
 exact ⟨ret_int HF.out,rfl⟩
theorem signed (a m:Int) (w:World) (ha:0<=a) (ha':a < p2 m.toNat) (h0:1<=m) (h1:m<=8) :
 Calls Tryz.prog 153 #[.int .u8 a,.int .i64 m] w fun e w'=>e=.returned (.int .i64 (sgn m a))/\w'=w:=by
 have hp:=p2_le m.toNat (by omega)
 have hq:=p2_pos m.toNat
 have HW:Hid (wrap64 (2 ^ m.toNat)=p2 m.toNat):=wrap_p2 _ (by omega)
 by_cases hs:p2 (m - 1).toNat<=a
 ·have hd:(a / 2 ^ (m.toNat - 1)==0)=false:=sgn_hi h0 hs
  have HS:Hid (sgn m a=a - p2 m.toNat):=sgn_pos hs
  clear hs
  go_enter Tryz.func153,Tryz.ntmps153
  go_wp2
  go_ret
  exact ⟨ret_int (by rw [HS.out,HW.out];unfold wrap64;omega),rfl⟩
 ·have hd:(a / 2 ^ (m.toNat - 1)==0)=true:=sgn_lo h0 ha hs
  have HS:Hid (sgn m a=a):=sgn_neg hs
  clear hs
  go_enter Tryz.func153,Tryz.ntmps153
  go_wp2
  go_ret
  exact ⟨ret_int (by rw [HS.out]),rfl⟩
end Wd1
namespace Wd2
open Go.RowKit
open Pl1 Wd1
theorem two_iff {m a b:Int} (h:(wok m a&&wok m b)=true):1<=m/\m<=8/\0<=a/\a < p2 m.toNat/\0<=b/\b < p2 m.toNat/\p2 m.toNat<=256:=by
 rw [Bool.and_eq_true] at h
 obtain ⟨h1,h2,h3,h4⟩:=wok_iff.1 h.1
 obtain ⟨_,_,h5,h6⟩:=wok_iff.1 h.2
 exact ⟨h1,h2,h3,h4,h5,h6,p2_le _ (by omega)⟩
theorem one_iff {m a:Int} (h:wok m a=true):1<=m/\m<=8/\0<=a/\a < p2 m.toNat/\p2 m.toNat<=256:=by
 obtain ⟨h1,h2,h3,h4⟩:=wok_iff.1 h
 exact ⟨h1,h2,h3,h4,p2_le _ (by omega)⟩
theorem iAdd (m a b:Int) (w:World) :
 Calls Tryz.prog 122 #[.int .i64 m,.int .i64 a,.int .i64 b] w fun e w'=>e=.returned (.int .i64 (vAdd m a b))/\w'=w:=by
 cases h:(wok m a&&wok m b)
 ·have HV:Hid (vAdd m a b=0):=by show vAdd m a b=0;simp [vAdd,h]
  go_enter Tryz.func122,Tryz.ntmps122
  go_wp2_with (go_at_call 145;refine (iTwo _ _ _ _).mono ?_;rintro e w' ⟨rfl,rfl⟩)
  go_ret
  exact ⟨ret_int HV.out.symm,rfl⟩
 ·obtain ⟨h1,h2,h3,h4,h5,h6,h7⟩:=two_iff h
  have HV:Hid (vAdd m a b=(a+b) % p2 m.toNat):=by show vAdd m a b=_;simp [vAdd,h]
  have hm:=emod_le (a:=(a+b)) m.toNat
  go_enter Tryz.func122,Tryz.ntmps122
  go_wp2_with (first|(go_at_call 145;refine (iTwo _ _ _ _).mono ?_;rintro e w' ⟨rfl,rfl⟩)|(go_at_call 146;refine (plus a b m _ h3 (by omega) h5 (by omega) h1 h2).mono ?_;rintro e w' ⟨rfl,rfl⟩))
  go_ret
  exact ⟨ret_int HV.out.symm,rfl⟩
theorem iSub (m a b:Int) (w:World) :
 Calls Tryz.prog 124 #[.int .i64 m,.int .i64 a,.int .i64 b] w fun e w'=>e=.returned (.int .i64 (vSub m a b))/\w'=w:=by
 cases h:(wok m a&&wok m b)
 ·have HV:Hid (vSub m a b=0):=by show vSub m a b=0;simp [vSub,h]
  go_enter Tryz.func124,Tryz.ntmps124
  go_wp2_with (go_at_call 145;refine (iTwo _ _ _ _).mono ?_;rintro e w' ⟨rfl,rfl⟩)
  go_ret
  exact ⟨ret_int HV.out.symm,rfl⟩
 ·obtain ⟨h1,h2,h3,h4,h5,h6,h7⟩:=two_iff h
  have HV:Hid (vSub m a b=(a - b) % p2 m.toNat):=by show vSub m a b=_;simp [vSub,h]
  have hm:=emod_le (a:=(a - b)) m.toNat
  go_enter Tryz.func124,Tryz.ntmps124
  go_wp2_with (first|(go_at_call 145;refine (iTwo _ _ _ _).mono ?_;rintro e w' ⟨rfl,rfl⟩)|(go_at_call 147;refine (minus a b m _ h3 (by omega) h5 (by omega) h1 h2).mono ?_;rintro e w' ⟨rfl,rfl⟩))
  go_ret
  exact ⟨ret_int HV.out.symm,rfl⟩
theorem iMul (m a b:Int) (w:World) :
 Calls Tryz.prog 126 #[.int .i64 m,.int .i64 a,.int .i64 b] w fun e w'=>e=.returned (.int .i64 (vMul m a b))/\w'=w:=by
 cases h:(wok m a&&wok m b)
 ·have HV:Hid (vMul m a b=0):=by show vMul m a b=0;simp [vMul,h]
  go_enter Tryz.func126,Tryz.ntmps126
  go_wp2_with (go_at_call 145;refine (iTwo _ _ _ _).mono ?_;rintro e w' ⟨rfl,rfl⟩)
  go_ret
  exact ⟨ret_int HV.out.symm,rfl⟩
 ·obtain ⟨h1,h2,h3,h4,h5,h6,h7⟩:=two_iff h
  have HV:Hid (vMul m a b=a*b % p2 m.toNat):=by show vMul m a b=_;simp [vMul,h]
  have hm:=emod_le (a:=a*b) m.toNat
  go_enter Tryz.func126,Tryz.ntmps126
  go_wp2_with (first|(go_at_call 145;refine (iTwo _ _ _ _).mono ?_;rintro e w' ⟨rfl,rfl⟩)|(go_at_call 148;refine (times a b m _ h3 (by omega) h5 (by omega) h1 h2).mono ?_;rintro e w' ⟨rfl,rfl⟩))
  go_ret
  exact ⟨ret_int HV.out.symm,rfl⟩
theorem sAdd (m a b:Int) (w:World) :
 Calls Tryz.prog 98 #[.int .i64 m,.int .i64 a,.int .i64 b] w fun e w'=>e=.returned (.int .i64 (vAdd m a b))/\w'=w:=by
 cases h:(wok m a&&wok m b)
 ·have HV:Hid (vAdd m a b=0):=by show vAdd m a b=0;simp [vAdd,h]
  go_enter Tryz.func98,Tryz.ntmps98
  go_wp2_with (go_at_call 112;refine (sTwo _ _ _ _).mono ?_;rintro e w' ⟨rfl,rfl⟩)
  go_ret
  exact ⟨ret_int HV.out.symm,rfl⟩
 ·obtain ⟨h1,h2,h3,h4,h5,h6,h7⟩:=two_iff h
  have HV:Hid (vAdd m a b=(a+b) % p2 m.toNat):=by show vAdd m a b=_;simp [vAdd,h]
  have hp:=p2_pos m.toNat
  go_enter Tryz.func98,Tryz.ntmps98
  go_wp2_with (first|(go_at_call 112;refine (sTwo _ _ _ _).mono ?_;rintro e w' ⟨rfl,rfl⟩)|(go_at_call 79;refine (spow _ _ (by omega) (by omega)).mono ?_;rintro e w' ⟨rfl,rfl⟩))
  go_ret
  exact ⟨ret_int HV.out.symm,rfl⟩
theorem sSub (m a b:Int) (w:World) :
 Calls Tryz.prog 99 #[.int .i64 m,.int .i64 a,.int .i64 b] w fun e w'=>e=.returned (.int .i64 (vSub m a b))/\w'=w:=by
 cases h:(wok m a&&wok m b)
 ·have HV:Hid (vSub m a b=0):=by show vSub m a b=0;simp [vSub,h]
  go_enter Tryz.func99,Tryz.ntmps99
  go_wp2_with (go_at_call 112;refine (sTwo _ _ _ _).mono ?_;rintro e w' ⟨rfl,rfl⟩)
  go_ret
  exact ⟨ret_int HV.out.symm,rfl⟩
 ·obtain ⟨h1,h2,h3,h4,h5,h6,h7⟩:=two_iff h
  have HV:Hid (vSub m a b=(a+p2 m.toNat - b) % p2 m.toNat):=by show vSub m a b=_;rw [sub_spec];simp [vSub,h]
  have hp:=p2_pos m.toNat
  go_enter Tryz.func99,Tryz.ntmps99
  go_wp2_with (first|(go_at_call 112;refine (sTwo _ _ _ _).mono ?_;rintro e w' ⟨rfl,rfl⟩)|(go_at_call 79;refine (spow _ _ (by omega) (by omega)).mono ?_;rintro e w' ⟨rfl,rfl⟩))
  go_ret
  exact ⟨ret_int HV.out.symm,rfl⟩
theorem sMul (m a b:Int) (w:World) :
 Calls Tryz.prog 100 #[.int .i64 m,.int .i64 a,.int .i64 b] w fun e w'=>e=.returned (.int .i64 (vMul m a b))/\w'=w:=by
 cases h:(wok m a&&wok m b)
 ·have HV:Hid (vMul m a b=0):=by show vMul m a b=0;simp [vMul,h]
  go_enter Tryz.func100,Tryz.ntmps100
  go_wp2_with (go_at_call 112;refine (sTwo _ _ _ _).mono ?_;rintro e w' ⟨rfl,rfl⟩)
  go_ret
  exact ⟨ret_int HV.out.symm,rfl⟩
 ·obtain ⟨h1,h2,h3,h4,h5,h6,h7⟩:=two_iff h
  have HV:Hid (vMul m a b=a*b % p2 m.toNat):=by show vMul m a b=_;simp [vMul,h]
  have hp:=p2_pos m.toNat
  obtain ⟨hb1,hb2⟩:=mul_bd h3 (by omega) h5 (by omega)
  go_enter Tryz.func100,Tryz.ntmps100
  go_wp2_with (first|(go_at_call 112;refine (sTwo _ _ _ _).mono ?_;rintro e w' ⟨rfl,rfl⟩)|(go_at_call 79;refine (spow _ _ (by omega) (by omega)).mono ?_;rintro e w' ⟨rfl,rfl⟩))
  go_ret
  exact ⟨ret_int HV.out.symm,rfl⟩
end Wd2
end Go.Proofs.YtbellafdjfliiaaGreat
