import Derived.Deep.AppendLies
import Derived.OwnWalk
import Derived.Test.YtfhdbcfhhbdiiaaTa1
import Derived.Test.YtfhdbcfhhbdiiaaPkXW8
namespace Go.Proofs.Ytfhdbcfhhbdiiaa
set_option maxRecDepth 100000
set_option maxHeartbeats 8000000
set_option linter.unusedVariables false
namespace Ta2
open Go.RowKit
open Ta0 Ta1
open Ss0 (bs bs_size ret_str bs_ext)
theorem half_cut (n b:Nat) (F:Nat->Bool) (hb:b<=1):((tab (n+1) F).take (b*2 ^ n+2 ^ n)).drop (b*2 ^ n)=tab n fun p=>F (b*2 ^ n+p):=by
 have hp:2 ^ (n+1)=2*2 ^ n:=by rw [Nat.pow_succ];omega
 have hle:b*2 ^ n+2 ^ n<=2 ^ (n+1):=by rcases (by omega:b=0\/b=1) with rfl|rfl<;>omega
 refine list_tab ?_ fun i hi=>?_
 ·rw [List.length_drop,List.length_take,tab_length];omega
 ·rw [List.getElem_drop,List.getElem_take,tab_get]
theorem half_text (n b:Nat) (F:Nat->Bool) (hb:b<=1):(bs (tab (n+1) F)).extract (b*2 ^ n) (b*2 ^ n+2 ^ n)=bs (tab n fun p=>F (b*2 ^ n+p)):=by
 rw [bs_ext,half_cut n b F hb]
theorem xor_add {i s:Nat} (h:i / 2 ^ s % 2=0):i ^^^ 2 ^ s=i+2 ^ s:=by
 obtain ⟨q,r,hi,hr⟩:∃ q r,i=2 ^ (s+1)*q+r/\r < 2 ^ s:=by
  refine ⟨i / 2 ^ s / 2,i % 2 ^ s,?_,Nat.mod_lt _ (Nat.two_pow_pos _)⟩
  have h1:=Nat.div_add_mod i (2 ^ s)
  have h2:2 ^ (s+1)*(i / 2 ^ s / 2)=2 ^ s*(i / 2 ^ s):=by
   rw [Nat.pow_succ,Nat.mul_assoc];congr 1;omega
  omega
 have hp:2 ^ (s+1)=2*2 ^ s:=by rw [Nat.pow_succ];omega
 have hr1:r < 2 ^ (s+1):=by omega
 have hr2:2 ^ s+r < 2 ^ (s+1):=by omega
 refine Nat.eq_of_testBit_eq fun j=>?_
 rw [Nat.testBit_xor,Nat.testBit_two_pow,hi,Nat.add_assoc,Nat.add_comm r,Nat.testBit_two_pow_mul_add q hr1,Nat.testBit_two_pow_mul_add q hr2]
 by_cases hj:j < s+1
 ·rw [if_pos hj,if_pos hj]
  by_cases e:s=j
  ·subst e
   rw [Nat.testBit_two_pow_add_eq];simp
  ·rw [Nat.testBit_two_pow_add_gt (by omega)];simp [e]
 ·rw [if_neg hj,if_neg hj]
  have:¬ s=j:=by omega
  simp [this]
theorem xor_sub {i s:Nat} (h:i / 2 ^ s % 2=1):2 ^ s<=i/\(i - 2 ^ s) / 2 ^ s % 2=0/\i ^^^ 2 ^ s=i - 2 ^ s:=by
 have hp:=Nat.two_pow_pos s
 have h1:2 ^ s<=i:=by
  rcases Nat.lt_or_ge i (2 ^ s) with h2|h2
  ·rw [Nat.div_eq_of_lt h2] at h;omega
  ·exact h2
 have h2:(i - 2 ^ s) / 2 ^ s=i / 2 ^ s - 1:=by
  have:i=(i - 2 ^ s)+2 ^ s:=by omega
  have h3:=Nat.add_div_right (i - 2 ^ s) hp
  rw [<- this] at h3
  rw [h3];simp
 have h3:(i - 2 ^ s) / 2 ^ s % 2=0:=by rw [h2];omega
 refine ⟨h1,h3,?_⟩
 have h4:=xor_add h3
 rw [show i - 2 ^ s+2 ^ s=i by omega] at h4
 rw [<- h4,Nat.xor_assoc,Nat.xor_self,Nat.xor_zero,h4]
/-- Does the table need its bit b? -/
def ndB (n:Nat) (F:Nat->Bool) (b:Nat):Bool:=(List.range (2 ^ n)).any fun p=>F p != F (p ^^^ 2 ^ (n - 1 - b))
theorem nd_yes {n b i:Nat} {F:Nat->Bool} (hi:i < 2 ^ n) (h0:i / 2 ^ (n - 1 - b) % 2=0) (h:F i≠F (i+2 ^ (n - 1 - b))):ndB n F b=true:=by
 unfold ndB
 rw [List.any_eq_true]
 refine ⟨i,List.mem_range.2 hi,?_⟩
 rw [xor_add h0]
 simpa using h
theorem nd_no {n b:Nat} {F:Nat->Bool} (hb:b < n) (h:∀ i,i < 2 ^ n->i / 2 ^ (n - 1 - b) % 2=0->F i=F (i+2 ^ (n - 1 - b))):ndB n F b=false:=by
 unfold ndB
 rw [List.any_eq_false]
 intro p hp
 have hp:=List.mem_range.1 hp
 rcases Nat.mod_two_eq_zero_or_one (p / 2 ^ (n - 1 - b)) with h0|h1
 ·rw [xor_add h0,<- h p hp h0];simp
 ·obtain ⟨h2,h3,h4⟩:=xor_sub h1
  rw [h4,h (p - 2 ^ (n - 1 - b)) (Nat.lt_of_le_of_lt (Nat.sub_le _ _) hp) h3,show p - 2 ^ (n - 1 - b)+2 ^ (n - 1 - b)=p by omega];simp
theorem nd_in {n b i:Nat} (hb:b < n) (hi:i < 2 ^ n) (h0:i / 2 ^ (n - 1 - b) % 2=0):i+2 ^ (n - 1 - b) < 2 ^ n:=by
 rw [<- xor_add h0]
 exact Nat.xor_lt_two_pow hi (Nat.pow_lt_pow_right (by omega) (by omega))
/-- The bits that it needs, of the first k. -/
def ndTo (n:Nat) (F:Nat->Bool) (k:Nat):List Int:=((List.range k).filter (ndB n F)).map fun (b:Nat)=>(b:Int)
theorem ndTo_yes {n k:Nat} {F:Nat->Bool} (h:ndB n F k=true):ndTo n F (k+1)=ndTo n F k++[(k:Int)]:=by
 unfold ndTo;rw [List.range_succ,List.filter_append];simp [h]
theorem ndTo_no {n k:Nat} {F:Nat->Bool} (h:ndB n F k=false):ndTo n F (k+1)=ndTo n F k:=by
 unfold ndTo;rw [List.range_succ,List.filter_append];simp [h]
theorem ndTo_le (n k:Nat) (F:Nat->Bool):(ndTo n F k).length<=k:=by
 unfold ndTo;rw [List.length_map];exact Nat.le_trans (List.length_filter_le _ _) (by simp)
/-- Values of bits. -/
def bitB (x:Int):Bool:=decide (x=0\/x=1)
/-- The place that the first k of them name. -/
def plc (l:List Int):Nat->Nat
 | 0=>0
 | k+1=>2*plc l k+(l.getD k 0).toNat
theorem plc_lt {l:List Int} {k:Nat} (h:∀ i,i < k->bitB (l.getD i 0)=true):plc l k < 2 ^ k:=by
 induction k with
 | zero=>exact Nat.one_pos
 | succ k ih =>
   have h1:=ih fun i hi=>h i (by omega)
   have h2:=of_decide_eq_true (h k (by omega))
   show 2*plc l k+_ < _
   rw [Nat.pow_succ]
   rcases h2 with h2|h2<;>rw [h2]<;>simp<;>omega
/-- What TableAt tells. -/
def atB (n:Nat) (F:Nat->Bool) (l:List Int):Int:=if l.length=n/\∀ i,i < l.length->bitB (l.getD i 0)=true then ((F (plc l l.length)).toNat:Int) else -1
theorem at_len {n:Nat} {F:Nat->Bool} {l:List Int} (h:l.length≠n):atB n F l = -1:=by unfold atB;rw [if_neg fun k=>h k.1]
theorem at_bad {n:Nat} {F:Nat->Bool} {l:List Int} {i:Nat} (hi:i < l.length) (h:bitB (l.getD i 0)=false):atB n F l = -1:=by
 unfold atB;rw [if_neg fun k=>by have:=k.2 i hi;rw [h] at this;cases this]
theorem at_good {n:Nat} {F:Nat->Bool} {l:List Int} (h:l.length=n) (h2:∀ i,i < l.length->bitB (l.getD i 0)=true):atB n F l=((F (plc l l.length)).toNat:Int):=by
 unfold atB;rw [if_pos ⟨h,h2⟩]
end Ta2
namespace Ap9
open Go.RowKit
open Nd0
/-- A slice of the bytes l, in a block from B on, that may be written. -/
def WBys (w:World) (B:Nat) (a:Option Addr) (l:List UInt8):Prop :=
 l.length<=maxLen/\(l.length=0\/∃ b o,a=some ⟨b,o,none⟩/\B<=b/\∀ i (h:i < l.length),w.cell? ⟨b,o+i,none⟩=some (.int .u8 (l[i].toNat:Int))/\w.frozen? ⟨b,o+i,none⟩=false)
theorem infoByte:(Try.prog.info? 5).map (fun i=>(i.zero,i.size,i.bytes))=some (some (.int .u8 0),1,1):=by kernel_rfl
/-- The slice v, in a block from B on, is the bytes l and may be appended to. -/
def Owu (w:World) (B:Nat) (v:Value) (l:List UInt8):Prop:=w.ownsRow B 5 1 v l.length (l.map fun x=>.int .u8 (x.toNat:Int))
theorem Owu.form {w:World} {B:Nat} {v:Value} {l:List UInt8} (h:Owu w B v l):∃ a c,v=.slice a l.length c/\WBys w B a l:=by
 obtain ⟨h1,h2⟩:=h
 rcases h2 with ⟨rfl,h0⟩|⟨g,cap,cur,rfl,hb,hg,hn,hm,hs,ht⟩
 ·have:l=[]:=List.eq_nil_of_length_eq_zero h0
  subst this
  exact ⟨none,0,rfl,Nat.zero_le _,.inl rfl⟩
 ·refine ⟨_,_,rfl,by omega,.inr ⟨g,0,rfl,hb,fun i hi=>⟨?_,?_⟩⟩⟩
  ·rw [Nat.zero_add,cell_of_row w g i cur _ _ hg]
   have e:(cur.toList.take (l.length*1))[i]? = some (.int .u8 (l[i].toNat:Int)):=by rw [ht];simp [hi]
   rw [List.getElem?_take_of_lt (by omega)] at e
   simpa using e
  ·rw [Nat.zero_add]
   simp [World.frozen?,hg]
theorem Owu.lit (w:World) (B:Nat) (hB:B<=w.heap.size):Owu (w.alloc (.cells #[] 5)) B (.slice (some ⟨w.heap.size,0,none⟩) 0 0) [] :=
 World.ownsRow_lit w #[] 0 hB (Nat.zero_le _) rfl
theorem Owu.lt {w:World} {B:Nat} {v:Value} {l:List UInt8} (h:Owu w B v l):∀ k,v.ownBlock=some k->B<=k/\k < w.heap.size:=World.ownsRow.lt h
theorem Owu.kept {w w':World} {B:Nat} {v:Value} {l:List UInt8} (h:Owu w B v l) {S:Nat->Prop} (k:Kept S w w') (hs:∀ i,v.ownBlock=some i->¬ S i):Owu w' B v l:=by
 refine ⟨h.1,?_⟩
 rcases h.2 with hn|⟨g,cap,cur,rfl,hb,hgg,rest⟩
 ·exact .inl hn
 ·refine .inr ⟨g,cap,cur,rfl,hb,?_,rest⟩
  rw [k.block g (Array.getElem?_eq_some_iff.1 hgg).1 (hs g rfl)]
  exact hgg
/-- A byte written over. -/
theorem Owu.set {w:World} {B g cap:Nat} {l:List UInt8} (h:Owu w B (.slice (some ⟨g,0,none⟩) l.length cap) l) (j:Nat) (x:UInt8):Owu (w.setCell ⟨g,j,none⟩ (.int .u8 (x.toNat:Int))) B (.slice (some ⟨g,0,none⟩) l.length cap) (l.set j x):=by
 have h1:=(World.ownsRow.stored h j (.int .u8 (x.toNat:Int))).1
 unfold Owu
 rw [List.map_set,List.length_set]
 exact h1
theorem Owu.cell {w:World} {B g cap:Nat} {l:List UInt8} (h:Owu w B (.slice (some ⟨g,0,none⟩) l.length cap) l) (j:Nat) (hj:j < l.length):w.cell? ⟨g,j,none⟩=some (.int .u8 (l[j].toNat:Int))/\w.frozen? ⟨g,j,none⟩=false:=by
 obtain ⟨a,c,hv,hw⟩:=h.form
 cases hv
 rcases hw.2 with h0|⟨b,o,hb,_,hc⟩
 ·omega
 ·cases hb
  have:=hc j hj
  rw [Nat.zero_add] at this
  exact this
theorem Owu.set' {w:World} {B g cap n:Nat} {l:List UInt8} (h:Owu w B (.slice (some ⟨g,0,none⟩) n cap) l) (hn:l.length=n) (j:Nat) (x:UInt8):Owu (w.setCell ⟨g,j,none⟩ (.int .u8 (x.toNat:Int))) B (.slice (some ⟨g,0,none⟩) n cap) (l.set j x):=by
 subst hn;exact h.set j x
theorem Owu.cell' {w:World} {B g cap n:Nat} {l:List UInt8} (h:Owu w B (.slice (some ⟨g,0,none⟩) n cap) l) (hn:l.length=n) (j:Nat) (hj:j < n):w.cell? ⟨g,j,none⟩=some (.int .u8 ((l[j]'(by omega)).toNat:Int))/\w.frozen? ⟨g,j,none⟩=false:=by
 subst hn;exact h.cell j hj
theorem Owu.at {w:World} {B:Nat} {v:Value} {l:List UInt8} (h:Owu w B v l) (hl:1<=l.length):∃ g c,v=.slice (some ⟨g,0,none⟩) l.length c/\B<=g/\g < w.heap.size:=by
 rcases h.2 with ⟨rfl,h0⟩|⟨g,cap,cur,rfl,hb,hg,_⟩
 ·omega
 ·exact ⟨g,cap,rfl,hb,(Array.getElem?_eq_some_iff.1 hg).1⟩
/-- One byte more. -/
theorem app_byte {ops:Array Oper} {rest:List Oper} {o:Oper} {a:Act} {Q:Exit->Act->World->Prop} (W:World) (hgd:o.guard=none) (s x:Operand)
 (ho:o.op=.call { callee:=.builtin .append,args := #[s,x],argTypes := #[22,22] })
 (B:Nat) (v:Value) (l:List UInt8) (y:UInt8) (z:Int) (hz0:z=(y.toNat:Int)) (hs:a.eval s=v) (hx:a.eval x=.slice (some ⟨W.heap.size,0,none⟩) 1 1)
 (hown:Owu W B v l) (hB:B<=W.heap.size) (hlen:l.length<=1048576)
 (h:∀ g cap w',Owu w' B (.slice (some ⟨g,0,none⟩) (l.length+1) cap) (l++[y])->Kept (fun k=>v.ownBlock=some k) W w'->(v.ownBlock=some g\/W.heap.size<=g)->wpList Try.prog ops Q rest (a.put o.dst (.slice (some ⟨g,0,none⟩) (l.length+1) cap)) w') :
 wpList Try.prog ops Q (o :: rest) a (W.alloc (.cells #[.int .u8 z] 5)):=by
 subst hz0
 obtain ⟨i,hi,hzz⟩:=Option.map_eq_some_iff.1 infoByte
 simp only [Prod.mk.injEq] at hzz
 obtain ⟨hz,hsz,hb⟩:=hzz
 refine wpList_append_lies (W.alloc (.cells #[.int .u8 (y.toNat:Int)] 5)) hgd s x 22 ho B 5 i (.int .u8 0) 1 1 Try.underlying22 hi hz hsz hb rfl (by omega) v l.length (l.map fun x=>.int .u8 (x.toNat:Int)) hs (World.ownsRow.alloc hown _)
  ⟨W.heap.size,0,none⟩ 1 1 [.int .u8 (y.toNat:Int)] hx rfl ?_ ?_ (by omega) (by unfold maxLen;omega) (by omega) (by simp;omega) _ rfl ?_
 ·intro j u hu
  exact World.news_of_block (heap_alloc_new W _) j u hu
 ·intro u hu
  simp at hu
  subst hu
  rfl
 ·intro g cap w' h1 h2 h3 h4
  refine h g cap w' ?_ ?_ ?_
  ·unfold Owu
   simpa using h1
  ·have k1:Kept (fun k=>v.ownBlock=some k) W (W.alloc (.cells #[.int .u8 (y.toNat:Int)] 5)):=(Kept.refl _ W).alloc _
   exact k1.trans ⟨h2.os,h2.tape,h2.output,h2.size,fun k hk hn=>h2.block k hk (fun e=>hn e.symm)⟩
  ·rcases h3 with h3|h3
   ·exact .inl h3
   ·exact .inr (by rw [h3];simp)
end Ap9
end Go.Proofs.Ytfhdbcfhhbdiiaa
