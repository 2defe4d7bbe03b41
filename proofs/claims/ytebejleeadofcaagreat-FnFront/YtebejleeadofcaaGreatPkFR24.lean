import Derived.Test.YtebejleeadofcaaGreatRows
import Derived.Deep.AppendLies
import Derived.OwnWalk
import Derived.Deep.Upon
import Derived.WalkKit
import Derived.WalkSpells
import Derived.WalkLawsBesides
import Derived.Test.YtebejleeadofcaaGreatPkFR17
import Derived.Test.YtebejleeadofcaaGreatPkFR2
import Derived.Test.YtebejleeadofcaaGreatPkFR3
import Derived.Test.YtebejleeadofcaaGreatPkFR0
import Derived.Test.YtebejleeadofcaaGreatPkFR1
namespace Go.Proofs.YtebejleeadofcaaGreat
set_option maxRecDepth 100000
set_option maxHeartbeats 8000000
set_option linter.unusedVariables false
namespace Qa2
open Go.RowKit
open Nd0 Qa0
theorem infoAQu:(Tryz.prog.info? 42).map (fun i=>(i.zero,i.size,i.bytes))=some (some (.agg #[.bool false,.int .i64 0,.int .i64 0]),3,24):=by kernel_rfl
def flatQu (l:List Qu):List Value:=l.flatMap Qu.cells
theorem cellsQu_length (n:Qu):n.cells.length=3:=rfl
theorem flatQu_get (l:List Qu):∀ (i:Nat) (h:i < l.length) (j:Nat),j < 3->(flatQu l)[i*3+j]? = (l[i].cells)[j]? := by
 induction l with
 | nil=>intro i h;exact absurd h (Nat.not_lt_zero _)
 | cons n l ih =>
   intro i h j hj
   show (n.cells++flatQu l)[i*3+j]? = _
   cases i with
   | zero=>rw [Nat.zero_mul,Nat.zero_add,List.getElem?_append_left (by rw [cellsQu_length];exact hj)];rfl
   | succ i =>
     rw [List.getElem?_append_right (by rw [cellsQu_length];omega),cellsQu_length,show (i+1)*3+j - 3=i*3+j by omega]
     exact ih i (by simpa using h) j hj
theorem flatQu_snoc (l:List Qu) (n:Qu):flatQu (l++[n])=flatQu l++n.cells:=by simp [flatQu]
def OwQu (w:World) (B:Nat) (v:Value) (l:List Qu):Prop:=w.ownsRow B 42 3 v l.length (flatQu l)
theorem OwQu.form {w:World} {B:Nat} {v:Value} {l:List Qu} (h:OwQu w B v l):∃ a c,v=.slice a l.length c/\WQus w B a l/\l.length<=c:=by
 obtain ⟨h1,h2⟩:=h
 rcases h2 with ⟨rfl,h0⟩|⟨g,cap,cur,rfl,hb,hg,hn,hm,hs,ht⟩
 ·have:l=[]:=List.eq_nil_of_length_eq_zero h0
  subst this
  exact ⟨none,0,rfl,⟨Nat.zero_le _,.inl rfl⟩,Nat.zero_le _⟩
 ·have hcell:∀ j,j < l.length*3->w.cell? ⟨g,j,none⟩=(flatQu l)[j]? := by
   intro j hj
   rw [cell_of_row w g j cur _ _ hg,<- ht,List.getElem?_take_of_lt hj]
   simp
  refine ⟨_,_,rfl,⟨by omega,.inr ⟨g,0,rfl,hb,fun i hi=>?_,fun j hj=>?_⟩⟩,by omega⟩
  ·have hf:=flatQu_get l i hi
   rw [Nat.zero_add]
   exact ⟨by rw [hcell _ (by omega)];exact hf 0 (by omega),by rw [hcell _ (by omega)];exact hf 1 (by omega),by rw [hcell _ (by omega)];exact hf 2 (by omega)⟩
  ·rw [Nat.zero_add]
   simp [World.frozen?,hg]
theorem OwQu.lit (w:World) (B:Nat) (hB:B<=w.heap.size):OwQu (w.alloc (.cells #[] 42)) B (.slice (some ⟨w.heap.size,0,none⟩) 0 0) [] :=
 World.ownsRow_lit w #[] 0 hB (Nat.zero_le _) rfl
theorem OwQu.lt {w:World} {B:Nat} {v:Value} {l:List Qu} (h:OwQu w B v l):∀ k,v.ownBlock=some k->B<=k/\k < w.heap.size:=World.ownsRow.lt h
theorem OwQu.kept {w w':World} {B:Nat} {v:Value} {l:List Qu} (h:OwQu w B v l) {S:Nat->Prop} (k:Kept S w w') (hs:∀ i,v.ownBlock=some i->¬ S i):OwQu w' B v l:=by
 refine ⟨h.1,?_⟩
 rcases h.2 with hn|⟨g,cap,cur,rfl,hb,hgg,rest⟩
 ·exact .inl hn
 ·refine .inr ⟨g,cap,cur,rfl,hb,?_,rest⟩
  rw [k.block g (Array.getElem?_eq_some_iff.1 hgg).1 (hs g rfl)]
  exact hgg
theorem appQu {ops:Array Oper} {rest:List Oper} {o:Oper} {a:Act} {Q:Exit->Act->World->Prop} (W:World) (hgd:o.guard=none) (s x:Operand)
 (ho:o.op=.call { callee:=.builtin .append,args := #[s,x],argTypes := #[26,26] })
 (B:Nat) (v:Value) (l:List Qu) (y:Qu) (hs:a.eval s=v) (G:Nat) (hx:a.eval x=.slice (some ⟨G,0,none⟩) 1 1) (hG:G=W.heap.size)
 (hown:OwQu W B v l) (hB:B<=W.heap.size) (hlen:l.length<=1048576)
 (h:∀ g cap w',OwQu w' B (.slice (some ⟨g,0,none⟩) (l.length+1) cap) (l++[y])->Kept (fun k=>v.ownBlock=some k) W w'->(v.ownBlock=some g\/W.heap.size<=g)->wpList Tryz.prog ops Q rest (a.put o.dst (.slice (some ⟨g,0,none⟩) (l.length+1) cap)) w') :
 wpList Tryz.prog ops Q (o :: rest) a (W.alloc (.cells #[.bool y.all,.int .i64 y.vr,.int .i64 y.bits] 42)):=by
 subst hG
 obtain ⟨i,hi,hzz⟩:=Option.map_eq_some_iff.1 infoAQu
 simp only [Prod.mk.injEq] at hzz
 obtain ⟨hz,hsz,hb⟩:=hzz
 refine wpList_append_lies (W.alloc (.cells #[.bool y.all,.int .i64 y.vr,.int .i64 y.bits] 42)) hgd s x 26 ho B 42 i _ 3 24 Tryz.underlying26 hi hz hsz hb rfl (by omega) v l.length (flatQu l) hs (World.ownsRow.alloc hown _)
  ⟨W.heap.size,0,none⟩ 1 1 y.cells hx rfl ?_ ?_ (by omega) (by unfold maxLen;omega) (by omega) (by simp;omega) _ rfl ?_
 ·intro j u hu
  exact World.news_of_block (heap_alloc_new W _) j u hu
 ·intro u hu
  simp [Qu.cells] at hu
  rcases hu with rfl|rfl|rfl<;>rfl
 ·intro g cap w' h1 h2 h3 h4
  refine h g cap w' ?_ ?_ ?_
  ·unfold OwQu
   rw [flatQu_snoc,List.length_append]
   exact h1
  ·have k1:Kept (fun k=>v.ownBlock=some k) W (W.alloc (.cells #[.bool y.all,.int .i64 y.vr,.int .i64 y.bits] 42)):=(Kept.refl _ W).alloc _
   exact k1.trans ⟨h2.os,h2.tape,h2.output,h2.size,fun k hk hn=>h2.block k hk (fun e=>hn e.symm)⟩
  ·rcases h3 with h3|h3
   ·exact .inl h3
   ·exact .inr (by rw [h3];simp)
end Qa2
namespace Pg1
open Go.RowKit
open Nd0 Tm0 Tm5 Pl1 Ap0
open Ws1 (ret_int ret_bool)
def cnt (op:Int):Nat:=if op=2\/op=17\/op=19\/op=20 then 1 else if 3<=op/\op<=16 then 2 else if op=18 then 3 else 0
theorem cnt_parts (n:Nd):(parts n).length=cnt n.op:=by
 unfold parts cnt;split
 ·rfl
 ·split
  ·rfl
  ·split<;>rfl
theorem cnt_le (op:Int):cnt op<=3:=by unfold cnt;split;omega;split;omega;split<;>omega
def numbered (op:Int):Bool:=op==0||op==1||op==17||quant op
theorem iWidthOk (m:Int) (w:World) :
 Calls Tryz.prog 50 #[.int .i64 m] w fun e w'=>e=.returned (.bool (decide (1<=m/\m<=8)))/\w'=w:=by
 by_cases h1:1<=m<;>by_cases h2:m<=8
 all_goals
  go_enter Tryz.func50,Tryz.ntmps50
  go_wp2
  go_ret
  exact ⟨ret_bool (by simp<;>omega),rfl⟩
theorem iWordOk (m a:Int) (w:World) :
 Calls Tryz.prog 83 #[.int .i64 m,.int .i64 a] w fun e w'=>e=.returned (.bool (wok m a))/\w'=w:=by
 by_cases h:1<=m/\m<=8
 ·have hd:decide (1<=m/\m<=8)=true:=by simpa using h
  by_cases ha:0<=a
  all_goals
   go_enter Tryz.func83,Tryz.ntmps83
   go_wp2_with (go_at_call 50;refine (iWidthOk _ _).mono ?_;rintro e w' ⟨rfl,rfl⟩)
   go_ret
   exact ⟨ret_bool (by rw [Bool.eq_iff_iff];try rw [wrap_p2 _ (by omega)]
                       simp [wok];omega),rfl⟩
 ·have hd:decide (1<=m/\m<=8)=false:=by simpa using h
  go_enter Tryz.func83,Tryz.ntmps83
  go_wp2_with (go_at_call 50;refine (iWidthOk _ _).mono ?_;rintro e w' ⟨rfl,rfl⟩)
  go_ret
  exact ⟨ret_bool (by unfold wok;symm;rw [decide_eq_false_iff_not];omega),rfl⟩
theorem iVarOk (m:Int) (w:World) :
 Calls Tryz.prog 49 #[.int .i64 m] w fun e w'=>e=.returned (.bool (decide (0<=m/\m<=7)))/\w'=w:=by
 by_cases h1:0<=m<;>by_cases h2:m < 8
 all_goals
  go_enter Tryz.func49,Tryz.ntmps49
  go_wp2
  go_ret
  exact ⟨ret_bool (by simp<;>omega),rfl⟩
theorem iQuant (op:Int) (w:World) :
 Calls Tryz.prog 46 #[.int .i64 op] w fun e w'=>e=.returned (.bool (quant op))/\w'=w:=by
 cases h1:(op==19)<;>cases h2:(op==20)
 all_goals
  go_enter Tryz.func46,Tryz.ntmps46
  go_wp2
  go_ret
  exact ⟨ret_bool (by unfold quant;rw [h1,h2];rfl),rfl⟩
theorem iOuter (op:Int) (w:World) :
 Calls Tryz.prog 71 #[.int .i64 op] w fun e w'=>e=.returned (.bool (outer op))/\w'=w:=by
 cases h1:(op==2)<;>cases h2:(op==3)<;>cases h3:(op==4)
 all_goals
  go_enter Tryz.func71,Tryz.ntmps71
  go_wp2_with (go_at_call 46;refine (iQuant _ _).mono ?_;rintro e w' ⟨rfl,rfl⟩)
  go_ret
  exact ⟨ret_bool (by unfold outer;rw [h1,h2,h3];rfl),rfl⟩
theorem iNumbered (op:Int) (w:World) :
 Calls Tryz.prog 87 #[.int .i64 op] w fun e w'=>e=.returned (.bool (numbered op))/\w'=w:=by
 cases h1:(op==0)<;>cases h2:(op==1)<;>cases h3:(op==17)
 all_goals
  go_enter Tryz.func87,Tryz.ntmps87
  go_wp2_with (go_at_call 46;refine (iQuant _ _).mono ?_;rintro e w' ⟨rfl,rfl⟩)
  go_ret
  exact ⟨ret_bool (by unfold numbered;rw [h1,h2,h3];rfl),rfl⟩
theorem iCount (op:Int) (w:World) :
 Calls Tryz.prog 64 #[.int .i64 op] w fun e w'=>e=.returned (.int .i64 (cnt op:Int))/\w'=w:=by
 have HC:Hid (∀ k:Nat,cnt op=k->(k:Int)=(cnt op:Int)):=fun k h=>by rw [h]
 have q1:(op==2)=false->(op==17)=false->quant op=false->¬ (op=2\/op=17\/op=19\/op=20):=by
  intro a b c;simp [quant] at a b c;omega
 have HQ:Hid ((op==2)=false->(op==17)=false->quant op=false->¬ (op=2\/op=17\/op=19\/op=20)):=q1
 have HR:Hid ((op==2)=true\/(op==17)=true\/quant op=true->(op=2\/op=17\/op=19\/op=20)):=by
  show _->_
  rintro (a|a|a)
  ·simp at a;omega
  ·simp at a;omega
  ·simp [quant] at a;omega
 clear q1
 cases h1:(op==2)
 ·cases h2:(op==17)
  ·cases h3:quant op
   ·have HN:=HQ.out h1 h2 h3
    have HN':Hid (¬ (op=2\/op=17\/op=19\/op=20)):=HN
    clear HN
    by_cases h4:3<=op
    ·by_cases h5:op<=16
     ·have HE:Hid (cnt op=2):=by
       show cnt op=2
       unfold cnt;rw [if_neg HN'.out,if_pos ⟨h4,h5⟩]
      go_enter Tryz.func64,Tryz.ntmps64
      go_wp2_with (go_at_call 46;refine (iQuant _ _).mono ?_;rintro e w' ⟨rfl,rfl⟩)
      go_ret
      exact ⟨ret_int (HC.out 2 HE.out),rfl⟩
     ·cases h6:(op==18)
      ·have HE:Hid (cnt op=0):=by
        show cnt op=0
        unfold cnt;rw [if_neg HN'.out,if_neg (by omega),if_neg (by simpa using h6)]
       go_enter Tryz.func64,Tryz.ntmps64
       go_wp2_with (go_at_call 46;refine (iQuant _ _).mono ?_;rintro e w' ⟨rfl,rfl⟩)
       go_ret
       exact ⟨ret_int (HC.out 0 HE.out),rfl⟩
      ·have HE:Hid (cnt op=3):=by
        show cnt op=3
        unfold cnt;rw [if_neg HN'.out,if_neg (by omega),if_pos (by simpa using h6)]
       go_enter Tryz.func64,Tryz.ntmps64
       go_wp2_with (go_at_call 46;refine (iQuant _ _).mono ?_;rintro e w' ⟨rfl,rfl⟩)
       go_ret
       exact ⟨ret_int (HC.out 3 HE.out),rfl⟩
    ·have h6:(op==18)=false:=by simp;omega
     have HE:Hid (cnt op=0):=by
      show cnt op=0
      unfold cnt;rw [if_neg HN'.out,if_neg (by omega),if_neg (by omega)]
     go_enter Tryz.func64,Tryz.ntmps64
     go_wp2_with (go_at_call 46;refine (iQuant _ _).mono ?_;rintro e w' ⟨rfl,rfl⟩)
     go_ret
     exact ⟨ret_int (HC.out 0 HE.out),rfl⟩
   ·have HE:Hid (cnt op=1):=by
     show cnt op=1
     unfold cnt;rw [if_pos (HR.out (.inr (.inr h3)))]
    go_enter Tryz.func64,Tryz.ntmps64
    go_wp2_with (go_at_call 46;refine (iQuant _ _).mono ?_;rintro e w' ⟨rfl,rfl⟩)
    go_ret
    exact ⟨ret_int (HC.out 1 HE.out),rfl⟩
  ·have HE:Hid (cnt op=1):=by
    show cnt op=1
    unfold cnt;rw [if_pos (HR.out (.inr (.inl h2)))]
   go_enter Tryz.func64,Tryz.ntmps64
   go_wp2_with (go_at_call 46;refine (iQuant _ _).mono ?_;rintro e w' ⟨rfl,rfl⟩)
   go_ret
   exact ⟨ret_int (HC.out 1 HE.out),rfl⟩
 ·have HE:Hid (cnt op=1):=by
   show cnt op=1
   unfold cnt;rw [if_pos (HR.out (.inl h1))]
  go_enter Tryz.func64,Tryz.ntmps64
  go_wp2_with (go_at_call 46;refine (iQuant _ _).mono ?_;rintro e w' ⟨rfl,rfl⟩)
  go_ret
  exact ⟨ret_int (HC.out 1 HE.out),rfl⟩
end Pg1
namespace Wd1
open Go.RowKit
open Pl1
theorem ret_int {k:IntKind} {a b:Int} (h:a=b):Ending.returned (.int k a)=.returned (.int k b):=by rw [h]
theorem ret_bool {a b:Bool} (h:a=b):Ending.returned (.bool a)=.returned (.bool b):=by rw [h]
theorem spow (m:Int) (w:World) (h0:0<=m) (h1:m<=8) :
 Calls Tryz.prog 78 #[.int .i64 m] w fun e w'=>e=.returned (.int .i64 (p2 m.toNat))/\w'=w:=by
 obtain ⟨n,rfl⟩:=Int.eq_ofNat_of_zero_le h0
 rw [Int.toNat_natCast]
 go_enter Tryz.func78,Tryz.ntmps78
 go_wp2
 go_loop [3,4] (fun x i=>∃ k:Nat,k<=n/\i=.int .i64 k/\x=.int .i64 (p2 k)) (fun _ i=>n - (intOf i).toNat)
 case atStart=>exact ⟨0,Nat.zero_le _,rfl,rfl⟩
 case round =>
  obtain ⟨k,hk,rfl,rfl⟩:=hrel
  have hp:=p2_pos k
  have hl:=p2_le k (by omega)
  by_cases hlt:k < n
  ·go_wp2
   go_round
   case rel=>exact ⟨k+1,by omega,by go_num,by rw [p2_succ]⟩
   case measure=>simp [intOf];omega
  ·go_wp2
   go_ret
   have:k=n:=by omega
   subst this
   exact ⟨rfl,rfl⟩
theorem mask (m:Int) (w:World) (h0:1<=m) (h1:m<=8) :
 Calls Tryz.prog 149 #[.int .i64 m] w fun e w'=>e=.returned (.int .u8 (p2 m.toNat - 1))/\w'=w:=by
 rcases eight h0 h1 with rfl|rfl|rfl|rfl|rfl|rfl|rfl|rfl
 all_goals
  go_enter Tryz.func149,Tryz.ntmps149
  go_wp2
  go_ret
  exact ⟨rfl,rfl⟩
theorem cut (a m:Int) (w:World) (ha:0<=a) (hb:a<=255) (h0:1<=m) (h1:m<=8) :
 Calls Tryz.prog 148 #[.int .u8 a,.int .i64 m] w fun e w'=>e=.returned (.int .u8 (a % p2 m.toNat))/\w'=w:=by
 have hm:=and_mask a m.toNat ha hb (by omega)
 go_enter Tryz.func148,Tryz.ntmps148
 go_wp2_with (go_at_call 149;refine (mask m _ h0 h1).mono ?_;rintro e w' ⟨rfl,rfl⟩)
 go_ret
 exact ⟨rfl,rfl⟩
theorem sIn (x a b:Int) (w:World) :
 Calls Tryz.prog 75 #[.int .i64 x,.int .i64 a,.int .i64 b] w fun e w'=>e=.returned (.bool (decide (a<=x/\x<=b)))/\w'=w:=by
 by_cases h1:a<=x<;>by_cases h2:x<=b
 all_goals
  go_enter Tryz.func75,Tryz.ntmps75
  go_wp2
  go_ret
  exact ⟨ret_bool (by simp<;>omega),rfl⟩
theorem sWordOk (m a:Int) (w:World) :
 Calls Tryz.prog 79 #[.int .i64 m,.int .i64 a] w fun e w'=>e=.returned (.bool (wok m a))/\w'=w:=by
 by_cases h:1<=m/\m<=8
 ·have hp:=p2_pos m.toNat
  have hl:=p2_le m.toNat (by omega)
  have hd:decide (1<=m/\m<=8)=true:=by simpa using h
  go_enter Tryz.func79,Tryz.ntmps79
  go_wp2_with (first|(go_at_call 75;refine (sIn _ _ _ _).mono ?_;rintro e w' ⟨rfl,rfl⟩)|(go_at_call 78;refine (spow m _ (by omega) (by omega)).mono ?_;rintro e w' ⟨rfl,rfl⟩))
  go_ret
  exact ⟨ret_bool (by rw [Bool.eq_iff_iff];simp [wok];omega),rfl⟩
 ·have hd:decide (1<=m/\m<=8)=false:=by simpa using h
  go_enter Tryz.func79,Tryz.ntmps79
  go_wp2_with (go_at_call 75;refine (sIn _ _ _ _).mono ?_;rintro e w' ⟨rfl,rfl⟩)
  go_ret
  exact ⟨ret_bool (by unfold wok;symm;rw [decide_eq_false_iff_not];omega),rfl⟩
theorem sTwo (m a b:Int) (w:World) :
 Calls Tryz.prog 107 #[.int .i64 m,.int .i64 a,.int .i64 b] w fun e w'=>e=.returned (.bool (wok m a&&wok m b))/\w'=w:=by
 cases hA:wok m a
 all_goals
  go_enter Tryz.func107,Tryz.ntmps107
  go_wp2_with (go_at_call 79;refine (sWordOk _ _ _).mono ?_;rintro e w' ⟨rfl,rfl⟩)
  go_ret
  exact ⟨ret_bool (by simp),rfl⟩
theorem iWidthOk (m:Int) (w:World) :
 Calls Tryz.prog 50 #[.int .i64 m] w fun e w'=>e=.returned (.bool (decide (1<=m/\m<=8)))/\w'=w:=by
 by_cases h1:1<=m<;>by_cases h2:m<=8
 all_goals
  go_enter Tryz.func50,Tryz.ntmps50
  go_wp2
  go_ret
  exact ⟨ret_bool (by simp<;>omega),rfl⟩
theorem iWordOk (m a:Int) (w:World) :
 Calls Tryz.prog 83 #[.int .i64 m,.int .i64 a] w fun e w'=>e=.returned (.bool (wok m a))/\w'=w:=by
 by_cases h:1<=m/\m<=8
 ·have hd:decide (1<=m/\m<=8)=true:=by simpa using h
  by_cases ha:0<=a
  all_goals
   go_enter Tryz.func83,Tryz.ntmps83
   go_wp2_with (go_at_call 50;refine (iWidthOk _ _).mono ?_;rintro e w' ⟨rfl,rfl⟩)
   go_ret
   exact ⟨ret_bool (by rw [Bool.eq_iff_iff];try rw [wrap_p2 _ (by omega)]
                       simp [wok];omega),rfl⟩
 ·have hd:decide (1<=m/\m<=8)=false:=by simpa using h
  go_enter Tryz.func83,Tryz.ntmps83
  go_wp2_with (go_at_call 50;refine (iWidthOk _ _).mono ?_;rintro e w' ⟨rfl,rfl⟩)
  go_ret
  exact ⟨ret_bool (by unfold wok;symm;rw [decide_eq_false_iff_not];omega),rfl⟩
theorem iTwo (m a b:Int) (w:World) :
 Calls Tryz.prog 139 #[.int .i64 m,.int .i64 a,.int .i64 b] w fun e w'=>e=.returned (.bool (wok m a&&wok m b))/\w'=w:=by
 cases hA:wok m a
 all_goals
  go_enter Tryz.func139,Tryz.ntmps139
  go_wp2_with (go_at_call 83;refine (iWordOk _ _ _).mono ?_;rintro e w' ⟨rfl,rfl⟩)
  go_ret
  exact ⟨ret_bool (by simp),rfl⟩
theorem plus (a b m:Int) (w:World) (ha:0<=a) (ha':a<=255) (hb:0<=b) (hb':b<=255) (h0:1<=m) (h1:m<=8) :
 Calls Tryz.prog 140 #[.int .u8 a,.int .i64 m,.int .u8 b] w fun e w'=>e=.returned (.int .u8 ((a+b) % p2 m.toNat))/\w'=w:=by
 go_enter Tryz.func140,Tryz.ntmps140
 go_wp2_with (go_at_call 148;refine (cut _ m _ (by omega) (by omega) h0 h1).mono ?_;rintro e w' ⟨rfl,rfl⟩)
 go_ret
 exact ⟨ret_int (mod256 _ _ (by omega)),rfl⟩
theorem minus (a b m:Int) (w:World) (ha:0<=a) (ha':a<=255) (hb:0<=b) (hb':b<=255) (h0:1<=m) (h1:m<=8) :
 Calls Tryz.prog 141 #[.int .u8 a,.int .i64 m,.int .u8 b] w fun e w'=>e=.returned (.int .u8 ((a - b) % p2 m.toNat))/\w'=w:=by
 go_enter Tryz.func141,Tryz.ntmps141
 go_wp2_with (go_at_call 148;refine (cut _ m _ (by omega) (by omega) h0 h1).mono ?_;rintro e w' ⟨rfl,rfl⟩)
 go_ret
 exact ⟨ret_int (mod256 _ _ (by omega)),rfl⟩
theorem times (a b m:Int) (w:World) (ha:0<=a) (ha':a<=255) (hb:0<=b) (hb':b<=255) (h0:1<=m) (h1:m<=8) :
 Calls Tryz.prog 142 #[.int .u8 a,.int .i64 m,.int .u8 b] w fun e w'=>e=.returned (.int .u8 (a*b % p2 m.toNat))/\w'=w:=by
 go_enter Tryz.func142,Tryz.ntmps142
 go_wp2_with (go_at_call 148;refine (cut _ m _ (by omega) (by omega) h0 h1).mono ?_;rintro e w' ⟨rfl,rfl⟩)
 go_ret
 exact ⟨ret_int (mod256 _ _ (by omega)),rfl⟩
theorem over (a b m:Int) (w:World) (ha:0<=a) (ha':a<=255) (hb:0<=b) (hb':b<=255) (h0:1<=m) (h1:m<=8) :
 Calls Tryz.prog 143 #[.int .u8 a,.int .i64 m,.int .u8 b] w fun e w'=>e=.returned (.int .u8 (if b=0 then p2 m.toNat - 1 else a / b))/\w'=w:=by
 by_cases hz:b=0
 ·subst hz
  go_enter Tryz.func143,Tryz.ntmps143
  go_wp2_with (go_at_call 149;refine (mask m _ h0 h1).mono ?_;rintro e w' ⟨rfl,rfl⟩)
  go_ret
  exact ⟨rfl,rfl⟩
 ·have hz':(b==0)=false:=by simpa using hz
  go_enter Tryz.func143,Tryz.ntmps143
  go_wp2
  go_ret
  exact ⟨rfl,rfl⟩
theorem rest (a b:Int) (w:World) (ha:0<=a) (ha':a<=255) (hb:0<=b) (hb':b<=255) :
 Calls Tryz.prog 144 #[.int .u8 a,.int .u8 b] w fun e w'=>e=.returned (.int .u8 (if b=0 then a else a % b))/\w'=w:=by
 by_cases hz:b=0
 ·subst hz
  go_enter Tryz.func144,Tryz.ntmps144
  go_wp2
  go_ret
  exact ⟨rfl,rfl⟩
 ·have hz':(b==0)=false:=by simpa using hz
  go_enter Tryz.func144,Tryz.ntmps144
  go_wp2
  go_ret
  exact ⟨rfl,rfl⟩
theorem up (a b m:Int) (w:World) (ha:0<=a) (ha':a<=255) (hb:0<=b) (hb':b<=7) (h0:1<=m) (h1:m<=8) :
 Calls Tryz.prog 145 #[.int .u8 a,.int .i64 m,.int .u8 b] w fun e w'=>e=.returned (.int .u8 (a*p2 b.toNat % p2 m.toNat))/\w'=w:=by
 go_enter Tryz.func145,Tryz.ntmps145
 go_wp2_with (go_at_call 148;refine (cut _ m _ (by omega) (by omega) h0 h1).mono ?_;rintro e w' ⟨rfl,rfl⟩)
 go_ret
 exact ⟨ret_int (mod256 _ _ (by omega)),rfl⟩
theorem upFar (a b m:Int) (w:World) (ha:0<=a) (ha':a<=255) (hb:8<=b) (h0:1<=m) (h1:m<=8) :
 Calls Tryz.prog 145 #[.int .u8 a,.int .i64 m,.int .u8 b] w fun e w'=>e=.returned (.int .u8 0)/\w'=w:=by
 have hs:=shl8 a b .u8 hb
 go_enter Tryz.func145,Tryz.ntmps145
 go_wp2_with (go_at_call 148;refine (cut _ m _ (by omega) (by omega) h0 h1).mono ?_;rintro e w' ⟨rfl,rfl⟩)
 go_ret
 exact ⟨ret_int (by simp),rfl⟩
theorem down (a b:Int) (w:World) (ha:0<=a) (ha':a<=255) (hb:0<=b) (hb':b<=7) :
 Calls Tryz.prog 146 #[.int .u8 a,.int .u8 b] w fun e w'=>e=.returned (.int .u8 (a / p2 b.toNat))/\w'=w:=by
 go_enter Tryz.func146,Tryz.ntmps146
 go_wp2
 go_ret
 exact ⟨rfl,rfl⟩
theorem downFar (a b:Int) (w:World) (ha:0<=a) (ha':a<=255) (hb:8<=b) :
 Calls Tryz.prog 146 #[.int .u8 a,.int .u8 b] w fun e w'=>e=.returned (.int .u8 0)/\w'=w:=by
 have hs:=shr8 a b .u8 hb ha ha'
 go_enter Tryz.func146,Tryz.ntmps146
 go_wp2
 go_ret
 exact ⟨rfl,rfl⟩
theorem flip (a m:Int) (w:World) (ha:0<=a) (ha':a < p2 m.toNat) (h0:1<=m) (h1:m<=8) :
 Calls Tryz.prog 138 #[.int .u8 a,.int .i64 m] w fun e w'=>e=.returned (.int .u8 (p2 m.toNat - 1 - a))/\w'=w:=by
 have hl:=p2_le m.toNat (by omega)
 have hx:=xor255 a ha (by omega)
 have HF:Hid ((255 - a) % p2 m.toNat=p2 m.toNat - 1 - a):=flip_spec a _ (by omega) ha ha'
 go_enter Tryz.func138,Tryz.ntmps138
 go_wp2_with (go_at_call 148;refine (cut _ m _ (by omega) (by omega) h0 h1).mono ?_;rintro e w' ⟨rfl,rfl⟩)
 go_ret
 exact ⟨ret_int HF.out,rfl⟩
theorem signed (a m:Int) (w:World) (ha:0<=a) (ha':a < p2 m.toNat) (h0:1<=m) (h1:m<=8) :
 Calls Tryz.prog 147 #[.int .u8 a,.int .i64 m] w fun e w'=>e=.returned (.int .i64 (sgn m a))/\w'=w:=by
 have hp:=p2_le m.toNat (by omega)
 have hq:=p2_pos m.toNat
 have HW:Hid (wrap64 (2 ^ m.toNat)=p2 m.toNat):=wrap_p2 _ (by omega)
 by_cases hs:p2 (m - 1).toNat<=a
 ·have hd:(a / 2 ^ (m.toNat - 1)==0)=false:=sgn_hi h0 hs
  have HS:Hid (sgn m a=a - p2 m.toNat):=sgn_pos hs
  clear hs
  go_enter Tryz.func147,Tryz.ntmps147
  go_wp2
  go_ret
  exact ⟨ret_int (by rw [HS.out,HW.out];unfold wrap64;omega),rfl⟩
 ·have hd:(a / 2 ^ (m.toNat - 1)==0)=true:=sgn_lo h0 ha hs
  have HS:Hid (sgn m a=a):=sgn_neg hs
  clear hs
  go_enter Tryz.func147,Tryz.ntmps147
  go_wp2
  go_ret
  exact ⟨ret_int (by rw [HS.out]),rfl⟩
end Wd1
namespace Wd2
open Go.RowKit
open Pl1 Wd1
theorem two_iff {m a b:Int} (h:(wok m a&&wok m b)=true):1<=m/\m<=8/\0<=a/\a < p2 m.toNat/\0<=b/\b < p2 m.toNat/\p2 m.toNat<=256:=by
 rw [Bool.and_eq_true] at h
 obtain ⟨h1,h2,h3,h4⟩:=wok_iff.1 h.1
 obtain ⟨_,_,h5,h6⟩:=wok_iff.1 h.2
 exact ⟨h1,h2,h3,h4,h5,h6,p2_le _ (by omega)⟩
theorem one_iff {m a:Int} (h:wok m a=true):1<=m/\m<=8/\0<=a/\a < p2 m.toNat/\p2 m.toNat<=256:=by
 obtain ⟨h1,h2,h3,h4⟩:=wok_iff.1 h
 exact ⟨h1,h2,h3,h4,p2_le _ (by omega)⟩
theorem iAdd (m a b:Int) (w:World) :
 Calls Tryz.prog 116 #[.int .i64 m,.int .i64 a,.int .i64 b] w fun e w'=>e=.returned (.int .i64 (vAdd m a b))/\w'=w:=by
 cases h:(wok m a&&wok m b)
 ·have HV:Hid (vAdd m a b=0):=by show vAdd m a b=0;simp [vAdd,h]
  go_enter Tryz.func116,Tryz.ntmps116
  go_wp2_with (go_at_call 139;refine (iTwo _ _ _ _).mono ?_;rintro e w' ⟨rfl,rfl⟩)
  go_ret
  exact ⟨ret_int HV.out.symm,rfl⟩
 ·obtain ⟨h1,h2,h3,h4,h5,h6,h7⟩:=two_iff h
  have HV:Hid (vAdd m a b=(a+b) % p2 m.toNat):=by show vAdd m a b=_;simp [vAdd,h]
  have hm:=emod_le (a:=(a+b)) m.toNat
  go_enter Tryz.func116,Tryz.ntmps116
  go_wp2_with (first|(go_at_call 139;refine (iTwo _ _ _ _).mono ?_;rintro e w' ⟨rfl,rfl⟩)|(go_at_call 140;refine (plus a b m _ h3 (by omega) h5 (by omega) h1 h2).mono ?_;rintro e w' ⟨rfl,rfl⟩))
  go_ret
  exact ⟨ret_int HV.out.symm,rfl⟩
theorem iSub (m a b:Int) (w:World) :
 Calls Tryz.prog 118 #[.int .i64 m,.int .i64 a,.int .i64 b] w fun e w'=>e=.returned (.int .i64 (vSub m a b))/\w'=w:=by
 cases h:(wok m a&&wok m b)
 ·have HV:Hid (vSub m a b=0):=by show vSub m a b=0;simp [vSub,h]
  go_enter Tryz.func118,Tryz.ntmps118
  go_wp2_with (go_at_call 139;refine (iTwo _ _ _ _).mono ?_;rintro e w' ⟨rfl,rfl⟩)
  go_ret
  exact ⟨ret_int HV.out.symm,rfl⟩
 ·obtain ⟨h1,h2,h3,h4,h5,h6,h7⟩:=two_iff h
  have HV:Hid (vSub m a b=(a - b) % p2 m.toNat):=by show vSub m a b=_;simp [vSub,h]
  have hm:=emod_le (a:=(a - b)) m.toNat
  go_enter Tryz.func118,Tryz.ntmps118
  go_wp2_with (first|(go_at_call 139;refine (iTwo _ _ _ _).mono ?_;rintro e w' ⟨rfl,rfl⟩)|(go_at_call 141;refine (minus a b m _ h3 (by omega) h5 (by omega) h1 h2).mono ?_;rintro e w' ⟨rfl,rfl⟩))
  go_ret
  exact ⟨ret_int HV.out.symm,rfl⟩
theorem iMul (m a b:Int) (w:World) :
 Calls Tryz.prog 120 #[.int .i64 m,.int .i64 a,.int .i64 b] w fun e w'=>e=.returned (.int .i64 (vMul m a b))/\w'=w:=by
 cases h:(wok m a&&wok m b)
 ·have HV:Hid (vMul m a b=0):=by show vMul m a b=0;simp [vMul,h]
  go_enter Tryz.func120,Tryz.ntmps120
  go_wp2_with (go_at_call 139;refine (iTwo _ _ _ _).mono ?_;rintro e w' ⟨rfl,rfl⟩)
  go_ret
  exact ⟨ret_int HV.out.symm,rfl⟩
 ·obtain ⟨h1,h2,h3,h4,h5,h6,h7⟩:=two_iff h
  have HV:Hid (vMul m a b=a*b % p2 m.toNat):=by show vMul m a b=_;simp [vMul,h]
  have hm:=emod_le (a:=a*b) m.toNat
  go_enter Tryz.func120,Tryz.ntmps120
  go_wp2_with (first|(go_at_call 139;refine (iTwo _ _ _ _).mono ?_;rintro e w' ⟨rfl,rfl⟩)|(go_at_call 142;refine (times a b m _ h3 (by omega) h5 (by omega) h1 h2).mono ?_;rintro e w' ⟨rfl,rfl⟩))
  go_ret
  exact ⟨ret_int HV.out.symm,rfl⟩
theorem sAdd (m a b:Int) (w:World) :
 Calls Tryz.prog 94 #[.int .i64 m,.int .i64 a,.int .i64 b] w fun e w'=>e=.returned (.int .i64 (vAdd m a b))/\w'=w:=by
 cases h:(wok m a&&wok m b)
 ·have HV:Hid (vAdd m a b=0):=by show vAdd m a b=0;simp [vAdd,h]
  go_enter Tryz.func94,Tryz.ntmps94
  go_wp2_with (go_at_call 107;refine (sTwo _ _ _ _).mono ?_;rintro e w' ⟨rfl,rfl⟩)
  go_ret
  exact ⟨ret_int HV.out.symm,rfl⟩
 ·obtain ⟨h1,h2,h3,h4,h5,h6,h7⟩:=two_iff h
  have HV:Hid (vAdd m a b=(a+b) % p2 m.toNat):=by show vAdd m a b=_;simp [vAdd,h]
  have hp:=p2_pos m.toNat
  go_enter Tryz.func94,Tryz.ntmps94
  go_wp2_with (first|(go_at_call 107;refine (sTwo _ _ _ _).mono ?_;rintro e w' ⟨rfl,rfl⟩)|(go_at_call 78;refine (spow _ _ (by omega) (by omega)).mono ?_;rintro e w' ⟨rfl,rfl⟩))
  go_ret
  exact ⟨ret_int HV.out.symm,rfl⟩
theorem sSub (m a b:Int) (w:World) :
 Calls Tryz.prog 95 #[.int .i64 m,.int .i64 a,.int .i64 b] w fun e w'=>e=.returned (.int .i64 (vSub m a b))/\w'=w:=by
 cases h:(wok m a&&wok m b)
 ·have HV:Hid (vSub m a b=0):=by show vSub m a b=0;simp [vSub,h]
  go_enter Tryz.func95,Tryz.ntmps95
  go_wp2_with (go_at_call 107;refine (sTwo _ _ _ _).mono ?_;rintro e w' ⟨rfl,rfl⟩)
  go_ret
  exact ⟨ret_int HV.out.symm,rfl⟩
 ·obtain ⟨h1,h2,h3,h4,h5,h6,h7⟩:=two_iff h
  have HV:Hid (vSub m a b=(a+p2 m.toNat - b) % p2 m.toNat):=by show vSub m a b=_;rw [sub_spec];simp [vSub,h]
  have hp:=p2_pos m.toNat
  go_enter Tryz.func95,Tryz.ntmps95
  go_wp2_with (first|(go_at_call 107;refine (sTwo _ _ _ _).mono ?_;rintro e w' ⟨rfl,rfl⟩)|(go_at_call 78;refine (spow _ _ (by omega) (by omega)).mono ?_;rintro e w' ⟨rfl,rfl⟩))
  go_ret
  exact ⟨ret_int HV.out.symm,rfl⟩
theorem sMul (m a b:Int) (w:World) :
 Calls Tryz.prog 96 #[.int .i64 m,.int .i64 a,.int .i64 b] w fun e w'=>e=.returned (.int .i64 (vMul m a b))/\w'=w:=by
 cases h:(wok m a&&wok m b)
 ·have HV:Hid (vMul m a b=0):=by show vMul m a b=0;simp [vMul,h]
  go_enter Tryz.func96,Tryz.ntmps96
  go_wp2_with (go_at_call 107;refine (sTwo _ _ _ _).mono ?_;rintro e w' ⟨rfl,rfl⟩)
  go_ret
  exact ⟨ret_int HV.out.symm,rfl⟩
 ·obtain ⟨h1,h2,h3,h4,h5,h6,h7⟩:=two_iff h
  have HV:Hid (vMul m a b=a*b % p2 m.toNat):=by show vMul m a b=_;simp [vMul,h]
  have hp:=p2_pos m.toNat
  obtain ⟨hb1,hb2⟩:=mul_bd h3 (by omega) h5 (by omega)
  go_enter Tryz.func96,Tryz.ntmps96
  go_wp2_with (first|(go_at_call 107;refine (sTwo _ _ _ _).mono ?_;rintro e w' ⟨rfl,rfl⟩)|(go_at_call 78;refine (spow _ _ (by omega) (by omega)).mono ?_;rintro e w' ⟨rfl,rfl⟩))
  go_ret
  exact ⟨ret_int HV.out.symm,rfl⟩
end Wd2
end Go.Proofs.YtebejleeadofcaaGreat
