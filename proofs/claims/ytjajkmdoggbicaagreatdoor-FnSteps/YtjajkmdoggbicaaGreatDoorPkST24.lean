import Derived.Lib.Split
import Derived.Test.YtjajkmdoggbicaaGreatDoorPkST23
namespace Go.Proofs.YtjajkmdoggbicaaGreatDoor
set_option maxRecDepth 100000
set_option maxHeartbeats 8000000
set_option linter.unusedVariables false
namespace Zl0
open Go.RowKit
open Tx0 Ta1 Za0 Za1 Zk0 Zs0
open Mm0 (Mc Mok)
open Mm2 (mokB)
open Qc0 (Sn)
open Ta2 (bitB)
open Wp1 (vt dgt)
open Wp3 (rvB rvL un un_dgt)
open Ss0 (bs bs_size)
open Ss1 (tl tl_bs bs_tl tl_length)
open Tk0 (keyL itoa_dec)
/-- The zero machine. -/
def mc0:Mc:=⟨[],0,⟨#[]⟩,0,[],0,false,0,0,0,[]⟩
/-- The words of a text, and the numbers that they are. -/
def wds (s:List UInt8):List (List UInt8):=Lib.split s [32]
def numsP (s:List UInt8):Option (List Int):=if (wds s).all (fun x=>(rnP x).2)=true then some ((wds s).map fun x=>(rnP x).1) else none
/-- What line i makes of a machine. -/
def rd (m:Mc) (b:List UInt8):Nat->Option Mc
 | 0=>if rrB b=true then some { m with row:=rrL b } else none
 | 1=>if rkB b=true then some { m with N:=rkN b,S:=bs (cutS 58 b) } else none
 | 2=>if (rnP b).2=true then some { m with room:=(rnP b).1 } else none
 | 3=>if rvB b=true then some { m with vals:=rvL b } else none
 | 4=>if (rnP b).2=true then some { m with ret:=(rnP b).1 } else none
 | 5=>if (rnP b).2=true then some { m with over:=decide ((rnP b).1=1) } else none
 | 6=>match numsP b with
   | some [x,y,z]=>some { m with steps:=x,looks:=y,hits:=z }
   | _=>none
 | _+7=>if (rnP (cutS 32 b)).2=true then some { m with memo:=m.memo++[⟨bs (cutF 32 b),(rnP (cutS 32 b)).1⟩] } else none
def tkL (i:Nat) (m:Mc) (t:List UInt8):Option Mc:=if cutF 32 t=wd i then rd m (cutS 32 t) i else none
def rdAll:Nat->Nat->Mc->List UInt8->Option Mc
 | 0,_,m,_=>some m
 | f+1,i,m,r=>if r=[] then some m else match tkL i m (cutF 10 r) with
   | none=>none
   | some m'=>rdAll f (i+1) m' (cutS 10 r)
def rdS (s:List UInt8):Option Mc:=rdAll s.length 0 mc0 s
/-- A line without its end. -/
def lin0 (m:Mc) (i:Nat):List UInt8:=wd i++(32 :: bod m i)
theorem lin_lin0 (m:Mc) (i:Nat):lin m i=lin0 m i++[10]:=by unfold lin lin0;simp
theorem wd_no32 (i:Nat):∀ c∈wd i,c≠32/\c≠10:=by
 unfold wd
 split<;>decide
theorem itoa_no {n:Int} (h0 : -1<=n):∀ c∈Lib.itoa n,c≠32/\c≠10:=by
 intro c hc
 by_cases h:n = -1
 ·subst h
  rw [itoa_neg] at hc
  simp at hc
  rcases hc with rfl|rfl<;>decide
 ·obtain ⟨k,rfl⟩:=Int.eq_ofNat_of_zero_le (by omega:0<=n)
  rw [itoa_dec] at hc
  have:=dec_all k c hc
  exact ⟨dig_not this (by decide),dig_not this (by decide)⟩
theorem rn_itoa {n:Int} (h0 : -1<=n) (h1:n<=1000000000):rnP (Lib.itoa n)=(n,true):=by
 by_cases h:n = -1
 ·subst h;rw [itoa_neg];exact rn_minus
 ·obtain ⟨k,rfl⟩:=Int.eq_ofNat_of_zero_le (by omega:0<=n)
  rw [itoa_dec]
  exact rn_dec (by omega)
theorem row_no (l:List Bool):∀ c∈rowT l,c≠32/\c≠10:=by
 intro c hc
 unfold rowT at hc
 split at hc
 ·simp at hc;subst hc;decide
 ·obtain ⟨b,_,rfl⟩:=List.mem_map.1 hc
  cases b<;>decide
theorem vt_no {l:List Int} (h:∀ b∈l,bitB b=true):∀ c∈vt l,c≠32/\c≠10:=by
 intro c hc
 unfold vt at hc
 split at hc
 ·simp at hc;subst hc;decide
 ·obtain ⟨b,hb,rfl⟩:=List.mem_map.1 hc
  unfold dgt
  split<;>decide
theorem key_no (n:Nat) (F:Nat->Bool):∀ c∈keyL n (tab n F),c≠32/\c≠10:=by
 intro c hc
 unfold keyL at hc
 rcases List.mem_append.1 hc with h|h
 ·have:=dec_all n c h
  exact ⟨dig_not this (by decide),dig_not this (by decide)⟩
 ·rcases List.mem_cons.1 h with rfl|h
  ·decide
  ·unfold tab at h
   obtain ⟨i,_,rfl⟩:=List.mem_map.1 h
   unfold sgn
   split<;>decide
theorem pl_no32 {s:List UInt8} (h:plB s=true):∀ c∈s,c≠32/\c≠10:=by
 intro c hc
 rcases (of_decide_eq_true h).2 c hc with e|e
 ·exact ⟨dig_not e (by decide),dig_not e (by decide)⟩
 ·subst e;decide
theorem bit_in {x:Int} (h:0<=x/\x<=1):bitB x=true:=by
 unfold bitB
 have:x=0\/x=1:=by omega
 rcases this with rfl|rfl<;>rfl
theorem bod_no {m:Mc} (h:Mok m) (hk:∀ x∈m.memo,plB (tl x.k)=true) (i:Nat):∀ c∈bod m i,c≠10:=by
 match i with
 | 0=>exact fun c hc=>(row_no _ c hc).2
 | 1 =>
   obtain ⟨n,F,hn,hN,hS⟩:=tok_tab h.tab
   intro c hc
   have hc:c∈keyL m.N.toNat (tl m.S):=hc
   rw [hN,hS,Int.toNat_natCast] at hc
   exact (key_no n F c hc).2
 | 2=>exact fun c hc=>(itoa_no (n:=m.room) (by have:=h.room;omega) c hc).2
 | 3=>exact fun c hc=>(vt_no (fun b hb=>bit_in (h.bits b hb)) c hc).2
 | 4=>exact fun c hc=>(itoa_no (n:=m.ret) h.ret.1 c hc).2
 | 5=>exact fun c hc=>(itoa_no (n:=bI m.over) (by rcases bI_two m.over with e|e<;>omega) c hc).2
 | 6 =>
   intro c hc
   have hc:c∈Lib.itoa m.steps++(32 :: (Lib.itoa m.looks++(32 :: Lib.itoa m.hits))):=hc
   have n1:=itoa_no (n:=m.steps) (by have:=h.steps;omega)
   have n2:=itoa_no (n:=m.looks) (by have:=h.looks;omega)
   have n3:=itoa_no (n:=m.hits) (by have:=h.hits;omega)
   simp only [List.mem_append,List.mem_cons] at hc
   rcases hc with e|e|e|e|e
   ·exact (n1 c e).2
   ·subst e;decide
   ·exact (n2 c e).2
   ·subst e;decide
   ·exact (n3 c e).2
 | k+7 =>
   intro c hc
   have hc:c∈(match m.memo[k]? with
    | some x=>tl x.k++(32 :: Lib.itoa x.r)
    | none=>[]):=hc
   cases hx:m.memo[k]? with
   | none=>rw [hx] at hc;cases hc
   | some x =>
     rw [hx] at hc
     have hm:=List.mem_of_getElem? hx
     have hc:c∈tl x.k++(32 :: Lib.itoa x.r):=hc
     simp only [List.mem_append,List.mem_cons] at hc
     rcases hc with e|e|e
     ·exact (pl_no32 (hk x hm) c e).2
     ·subst e;decide
     ·exact (itoa_no (n:=x.r) (by have:=h.seen x hm;omega) c e).2
theorem cut_line {m:Mc} (h:Mok m) (hk:∀ x∈m.memo,plB (tl x.k)=true) (i:Nat) (r:List UInt8):cutF 10 (lin m i++r)=lin0 m i/\cutS 10 (lin m i++r)=r:=by
 have e:lin m i++r=lin0 m i++(10 :: r):=by rw [lin_lin0];simp
 rw [e]
 refine cut_app 10 _ _ (fun c hc=>?_)
 unfold lin0 at hc
 rcases List.mem_append.1 hc with e|e
 ·exact (wd_no32 i c e).2
 ·rcases List.mem_cons.1 e with rfl|e
  ·decide
  ·exact bod_no h hk i c e
theorem cut_word (m:Mc) (i:Nat):cutF 32 (lin0 m i)=wd i/\cutS 32 (lin0 m i)=bod m i:=cut_app 32 _ _ (fun c hc=>(wd_no32 i c hc).1)
theorem idx_hit (d:UInt8) (a r:List UInt8) (h:∀ c∈a,c≠d):Lib.index (a++d :: r) [d]=(a.length:Int):=by
 induction a with
 | nil=>simp [Lib.index,List.isPrefixOf]
 | cons c l ih =>
   have h1:=ih (fun x hx=>h x (by simp [hx]))
   have hc:c≠d:=h c (by simp)
   have e:Lib.index (c :: (l++d :: r)) [d]=if Lib.index (l++d :: r) [d] == -1 then -1 else Lib.index (l++d :: r) [d]+1:=by
    conv=>lhs;unfold Lib.index
    rw [if_neg (by simp [List.isPrefixOf];exact fun z=>hc z.symm)]
   rw [List.cons_append,e,h1,if_neg (by simp<;>omega)]
   simp
theorem idx_miss (d:UInt8) (s:List UInt8) (h:∀ c∈s,c≠d):Lib.index s [d] = -1:=by
 induction s with
 | nil=>simp [Lib.index]
 | cons c l ih =>
   have h1:=ih (fun x hx=>h x (by simp [hx]))
   have hc:c≠d:=h c (by simp)
   have e:Lib.index (c :: l) [d]=if Lib.index l [d] == -1 then -1 else Lib.index l [d]+1:=by
    conv=>lhs;unfold Lib.index
    rw [if_neg (by simp [List.isPrefixOf];exact fun z=>hc z.symm)]
   rw [e,h1]
   rfl
theorem wds_one {s:List UInt8} (h:∀ c∈s,c≠32):wds s=[s]:=by
 unfold wds Lib.split
 rw [Lib.count_miss (idx_miss 32 s h)]
 rfl
theorem wds_more {a r:List UInt8} (h:∀ c∈a,c≠32):wds (a++32 :: r)=a :: wds r:=by
 have hi:=idx_hit 32 a r h
 have hd:(a++32 :: r).drop (a.length+1)=r:=by
  rw [List.drop_append]
  simp
 unfold wds Lib.split
 have hc:Lib.count (a++32 :: r) [32]=1+Lib.count r [32]:=by
  have:=Lib.count_hit (s:=a++32 :: r) (sub:=[32]) (by simp) hi
  simpa [hd] using this
 rw [hc,Nat.add_comm]
 show (if Lib.index (a++32 :: r) [32] == -1 then _ else _)=_
 rw [hi,if_neg (by simp<;>omega)]
 simp [hd]
theorem nums_three {x y z:Int} (hx : -1<=x/\x<=1000000000) (hy : -1<=y/\y<=1000000000) (hz : -1<=z/\z<=1000000000):numsP (Lib.itoa x++(32 :: (Lib.itoa y++(32 :: Lib.itoa z))))=some [x,y,z]:=by
 unfold numsP
 rw [wds_more (fun c hc=>(itoa_no hx.1 c hc).1),wds_more (fun c hc=>(itoa_no hy.1 c hc).1),wds_one (fun c hc=>(itoa_no hz.1 c hc).1)]
 simp [rn_itoa hx.1 hx.2,rn_itoa hy.1 hy.2,rn_itoa hz.1 hz.2]
/-- What has been read of M when the first i lines are read. -/
def part (M:Mc):Nat->Mc
 | 0=>mc0
 | 1=>{ mc0 with row:=M.row }
 | 2=>{ mc0 with row:=M.row,N:=M.N,S:=M.S }
 | 3=>{ mc0 with row:=M.row,N:=M.N,S:=M.S,room:=M.room }
 | 4=>{ mc0 with row:=M.row,N:=M.N,S:=M.S,room:=M.room,vals:=M.vals }
 | 5=>{ mc0 with row:=M.row,N:=M.N,S:=M.S,room:=M.room,vals:=M.vals,ret:=M.ret }
 | 6=>{ mc0 with row:=M.row,N:=M.N,S:=M.S,room:=M.room,vals:=M.vals,ret:=M.ret,over:=M.over }
 | k+7=>{ M with memo:=M.memo.take k }
theorem rv_vt {l:List Int} (h:∀ b∈l,bitB b=true) (hl:l.length<=12):rvB (vt l)=true/\rvL (vt l)=l:=by
 by_cases h0:l=[]
 ·subst h0;exact ⟨rfl,rfl⟩
 ·have e:vt l=l.map dgt:=if_neg h0
  have hne:l.map dgt≠[45]:=by
   intro e
   obtain ⟨b,r,rfl⟩:=List.exists_cons_of_ne_nil h0
   rw [List.map_cons] at e
   have:=(List.cons.inj e).1
   unfold dgt at this
   split at this<;>cases this
  have hun:(l.map dgt).map un=l:=by
   rw [List.map_map]
   have:∀ x∈l,(un∘dgt) x=x:=fun x hx=>un_dgt (h x hx)
   rw [List.map_congr_left this]
   simp
  rw [e]
  unfold rvB rvL
  rw [if_neg hne,if_neg hne,hun]
  refine ⟨?_,rfl⟩
  rw [decide_eq_true (by simpa using h0)]
  unfold Vo0.valB Vo0.allB
  simp only [Bool.true_and]
  rw [Bool.and_eq_true_iff]
  exact ⟨List.all_eq_true.2 h,by simp;omega⟩
theorem rd_step {M:Mc} (h:Mok M) (hk:∀ x∈M.memo,plB (tl x.k)=true) (i:Nat) (hi:i < 7+M.memo.length):rd (part M i) (bod M i) i=some (part M (i+1)):=by
 match i with
 | 0 =>
   obtain ⟨n,F,hn,hN,hS⟩:=tok_tab h.tab
   have hr:=rr_row M.row (by have:=h.row;omega)
   show (if rrB (rowT M.row)=true then some { part M 0 with row:=rrL (rowT M.row) } else none)=_
   rw [hr.1,if_pos rfl,hr.2]
   rfl
 | 1 =>
   obtain ⟨n,F,hn,hN,hS⟩:=tok_tab h.tab
   have e:bod M 1=keyL n (tab n F):=by show keyL M.N.toNat (tl M.S)=_;rw [hN,hS,Int.toNat_natCast]
   obtain ⟨k1,k2,k3⟩:=rk_key F hn
   rw [e]
   show (if rkB (keyL n (tab n F))=true then some { part M 1 with N:=rkN (keyL n (tab n F)),S:=bs (cutS 58 (keyL n (tab n F))) } else none)=_
   rw [k1,if_pos rfl,k2,k3,<- hS,bs_tl,<- hN]
   rfl
 | 2 =>
   show (if (rnP (Lib.itoa M.room)).2=true then some { part M 2 with room:=(rnP (Lib.itoa M.room)).1 } else none)=_
   rw [rn_itoa (by have:=h.room;omega) (by have:=h.room;omega),if_pos rfl]
   rfl
 | 3 =>
   obtain ⟨n,F,hn,hN,hS⟩:=tok_tab h.tab
   have hv:=rv_vt (l:=M.vals) (fun b hb=>bit_in (h.bits b hb)) (by have:=h.vals;omega)
   show (if rvB (vt M.vals)=true then some { part M 3 with vals:=rvL (vt M.vals) } else none)=_
   rw [hv.1,if_pos rfl,hv.2]
   rfl
 | 4 =>
   show (if (rnP (Lib.itoa M.ret)).2=true then some { part M 4 with ret:=(rnP (Lib.itoa M.ret)).1 } else none)=_
   rw [rn_itoa h.ret.1 (by have:=h.ret;omega),if_pos rfl]
   rfl
 | 5 =>
   show (if (rnP (Lib.itoa (bI M.over))).2=true then some { part M 5 with over:=decide ((rnP (Lib.itoa (bI M.over))).1=1) } else none)=_
   rw [rn_itoa (by rcases bI_two M.over with e|e<;>omega) (by rcases bI_two M.over with e|e<;>omega),if_pos rfl]
   have:decide (bI M.over=1)=M.over:=by cases M.over<;>rfl
   show some { part M 5 with over:=decide (bI M.over=1) }=_
   rw [this]
   rfl
 | 6 =>
   show (match numsP (Lib.itoa M.steps++(32 :: (Lib.itoa M.looks++(32 :: Lib.itoa M.hits)))) with
    | some [x,y,z]=>some { part M 6 with steps:=x,looks:=y,hits:=z }
    | _=>none)=_
   rw [nums_three (by have:=h.steps;omega) (by have:=h.looks;omega) (by have:=h.hits;omega)]
   show some _=some { M with memo:=M.memo.take 0 }
   rw [List.take_zero]
   rfl
 | k+7 =>
   have hkl:k < M.memo.length:=by omega
   have hm:=List.getElem_mem hkl
   have e:bod M (k+7)=tl M.memo[k].k++(32 :: Lib.itoa M.memo[k].r):=by
    show (match M.memo[k]? with
     | some x=>tl x.k++(32 :: Lib.itoa x.r)
     | none=>[])=_
    rw [List.getElem?_eq_getElem hkl]
   obtain ⟨c1,c2⟩:=cut_app 32 (tl M.memo[k].k) (Lib.itoa M.memo[k].r) (fun c hc=>(pl_no32 (hk _ hm) c hc).1)
   have hs:=h.seen _ hm
   rw [e]
   show (if (rnP (cutS 32 (tl M.memo[k].k++(32 :: Lib.itoa M.memo[k].r)))).2=true then some { part M (k+7) with memo:=(part M (k+7)).memo++[(⟨bs (cutF 32 (tl M.memo[k].k++(32 :: Lib.itoa M.memo[k].r))),(rnP (cutS 32 (tl M.memo[k].k++(32 :: Lib.itoa M.memo[k].r)))).1⟩:Sn)] } else none)=_
   rw [c1,c2,rn_itoa (by omega) (by omega),if_pos rfl,bs_tl]
   show some { M with memo:=M.memo.take k++[M.memo[k]] }=some { M with memo:=M.memo.take (k+1) }
   rw [List.take_succ_eq_append_getElem hkl]
theorem rd_from {M:Mc} (h:Mok M) (hk:∀ x∈M.memo,plB (tl x.k)=true):∀ (j:Nat) (i f:Nat),i+j=7+M.memo.length->j<=f->rdAll f i (part M i) (((List.range' i j).map (lin M)).flatten)=some M:=by
 intro j
 induction j with
 | zero =>
   intro i f hi _
   have e:part M i=M:=by
    obtain rfl:i=M.memo.length+7:=by omega
    show { M with memo:=M.memo.take M.memo.length }=M
    rw [List.take_length]
   rw [e]
   cases f with
   | zero=>rfl
   | succ f=>rfl
 | succ j ih =>
   intro i f hi hf
   obtain ⟨f',rfl⟩:∃ f',f=f'+1:=⟨f - 1,by omega⟩
   rw [List.range'_succ,List.map_cons,List.flatten_cons]
   obtain ⟨c1,c2⟩:=cut_line h hk i (((List.range' (i+1) j).map (lin M)).flatten)
   obtain ⟨d1,d2⟩:=cut_word M i
   show (if lin M i++_=[] then _ else match tkL i (part M i) (cutF 10 (lin M i++_)) with
    | none=>none
    | some m'=>rdAll f' (i+1) m' (cutS 10 (lin M i++_)))=_
   rw [if_neg (by rw [lin_lin0];simp),c1,c2]
   have ht:tkL i (part M i) (lin0 M i)=some (part M (i+1)):=by
    unfold tkL
    rw [d1,if_pos rfl,d2]
    exact rd_step h hk i (by omega)
   rw [ht]
   exact ih (i+1) f' (by omega) (by omega)
theorem lin_pos (m:Mc) (i:Nat):1<=(lin m i).length:=by rw [lin_lin0];simp
theorem rd_sav {M:Mc} (h:Mok M) (hk:∀ x∈M.memo,plB (tl x.k)=true):rdS (savT M)=some M:=by
 have e:savT M=((List.range' 0 (7+M.memo.length)).map (lin M)).flatten:=by
  unfold savT linTo
  rw [List.range_eq_range']
 have hl:∀ (k i:Nat),k<=(((List.range' i k).map (lin M)).flatten).length:=by
  intro k
  induction k with
  | zero=>intro i;exact Nat.zero_le _
  | succ k ih =>
    intro i
    rw [List.range'_succ,List.map_cons,List.flatten_cons,List.length_append]
    have:=ih (i+1)
    have:=lin_pos M i
    omega
 unfold rdS
 rw [e]
 exact rd_from h hk (7+M.memo.length) 0 _ (by omega) (hl _ 0)
end Zl0
namespace Zl2
open Go.RowKit
open Tx0 Ta1 Za0 Za1 Zk0 Zs0 Zl0
open Mm0 (Mc Mok)
open Qc0 (Sn)
open Ta2 (bitB)
open Wp1 (vt dgt)
open Wp3 (rvB rvL un un_dgt)
open Ss0 (bs bs_size)
open Ss1 (tl tl_bs bs_tl tl_length numI)
open Tk0 (keyL itoa_dec)
/-- The lines of a text that end. -/
def lns (s:List UInt8):List (List UInt8):=(Lib.split s [10]).dropLast
/-- A number of a word. -/
def int2 (s:List UInt8):Int:=if s=[45,49] then -1 else if s=[49,48,48,48,48,48,48,48,48,48] then 1000000000 else if numI s < 0 then -2 else numI s
def wat (W:List (List (List UInt8))) (i j:Nat):List UInt8:=(W.getD i []).getD j []
def fitW (W:List (List (List UInt8))):Bool:=decide (7<=W.length/\W.length<=47/\∀ i,i < W.length->2<=(W.getD i []).length/\(i=6->(W.getD i []).length=4)/\(6 < i->(W.getD i []).length=3))
/-- The machine that the words make. -/
def madeW (W:List (List (List UInt8))):Mc :=
 ⟨rrL (wat W 0 1),rkN (wat W 1 1),bs (cutS 58 (wat W 1 1)),int2 (wat W 2 1),rvL (wat W 3 1),int2 (wat W 4 1),decide (wat W 5 1=[49]),int2 (wat W 6 1),int2 (wat W 6 2),int2 (wat W 6 3),(List.range' 7 (W.length - 7)).map fun i=>⟨bs (wat W i 1),int2 (wat W i 2)⟩⟩
def mdS (s:List UInt8):Option Mc:=if fitW ((lns s).map wds)=true then if (rrB (wat ((lns s).map wds) 0 1)&&rkB (wat ((lns s).map wds) 1 1))=true then some (madeW ((lns s).map wds)) else none else none
theorem split_one {d:UInt8} {s:List UInt8} (h:∀ c∈s,c≠d):Lib.split s [d]=[s]:=by
 unfold Lib.split
 rw [Lib.count_miss (idx_miss d s h)]
 rfl
theorem split_more {d:UInt8} {a r:List UInt8} (h:∀ c∈a,c≠d):Lib.split (a++d :: r) [d]=a :: Lib.split r [d]:=by
 have hi:=idx_hit d a r h
 have hd:(a++d :: r).drop (a.length+1)=r:=by
  rw [List.drop_append]
  simp
 unfold Lib.split
 have hc:Lib.count (a++d :: r) [d]=1+Lib.count r [d]:=by
  have:=Lib.count_hit (s:=a++d :: r) (sub:=[d]) (by simp) hi
  simpa [hd] using this
 rw [hc,Nat.add_comm]
 show (if Lib.index (a++d :: r) [d] == -1 then _ else _)=_
 rw [hi,if_neg (by simp<;>omega)]
 simp [hd]
theorem lin0_no {m:Mc} (h:Mok m) (hk:∀ x∈m.memo,plB (tl x.k)=true) (i:Nat):∀ c∈lin0 m i,c≠10:=by
 intro c hc
 unfold lin0 at hc
 rcases List.mem_append.1 hc with e|e
 ·exact (wd_no32 i c e).2
 ·rcases List.mem_cons.1 e with rfl|e
  ·decide
  ·exact bod_no h hk i c e
theorem lns_sav {M:Mc} (h:Mok M) (hk:∀ x∈M.memo,plB (tl x.k)=true):lns (savT M)=(List.range (7+M.memo.length)).map (lin0 M):=by
 have key:∀ (j i:Nat),Lib.split (((List.range' i j).map (lin M)).flatten) [10]=(List.range' i j).map (lin0 M)++[[]]:=by
  intro j
  induction j with
  | zero=>intro i;exact split_one (fun c hc=>by cases hc)
  | succ j ih =>
    intro i
    rw [List.range'_succ,List.map_cons,List.flatten_cons,List.map_cons]
    have e:lin M i++((List.range' (i+1) j).map (lin M)).flatten=lin0 M i++(10 :: ((List.range' (i+1) j).map (lin M)).flatten):=by rw [lin_lin0];simp
    rw [e,split_more (lin0_no h hk i),ih (i+1)]
    rfl
 unfold lns savT linTo
 rw [List.range_eq_range',key]
 simp
theorem int2_itoa {n:Int} (h0 : -1<=n) (h1:n<=1000000000):int2 (Lib.itoa n)=n:=by
 by_cases e:n = -1
 ·subst e;rw [itoa_neg];rfl
 obtain ⟨k,rfl⟩:=Int.eq_ofNat_of_zero_le (by omega:0<=n)
 rw [itoa_dec]
 have hne:dec k≠[45,49]:=by
  intro e
  have:=dec_all k 45 (by rw [e];simp)
  exact absurd this (by decide)
 by_cases e2:k=1000000000
 ·subst e2
  have:dec 1000000000=[49,48,48,48,48,48,48,48,48,48]:=by decide +kernel
  rw [this]
  rfl
 have hne2:dec k≠[49,48,48,48,48,48,48,48,48,48]:=by
  intro e
  have h3:=(dec_len' (n:=k) (k:=9) (by omega) (by omega)).2
  rw [e] at h3
  simp at h3
 unfold int2
 rw [if_neg hne,if_neg hne2,numI_dec (by omega),if_neg (by omega)]
/-- The words of a line. -/
def wrd (M:Mc):Nat->List (List UInt8)
 | 6=>[wd 6,Lib.itoa M.steps,Lib.itoa M.looks,Lib.itoa M.hits]
 | 0=>[wd 0,rowT M.row]
 | 1=>[wd 1,keyL M.N.toNat (tl M.S)]
 | 2=>[wd 2,Lib.itoa M.room]
 | 3=>[wd 3,vt M.vals]
 | 4=>[wd 4,Lib.itoa M.ret]
 | 5=>[wd 5,Lib.itoa (bI M.over)]
 | k+7=>match M.memo[k]? with
   | some x=>[wd (k+7),tl x.k,Lib.itoa x.r]
   | none=>[wd (k+7),[]]
theorem wds_line {M:Mc} (h:Mok M) (hk:∀ x∈M.memo,plB (tl x.k)=true) (i:Nat):wds (lin0 M i)=wrd M i:=by
 have hw:=fun c hc=>(wd_no32 i c hc).1
 unfold lin0
 rw [wds_more hw]
 match i with
 | 0=>rw [show bod M 0=rowT M.row from rfl,wds_one (fun c hc=>(row_no _ c hc).1)];rfl
 | 1 =>
   obtain ⟨n,F,hn,hN,hS⟩:=tok_tab h.tab
   rw [show bod M 1=keyL M.N.toNat (tl M.S) from rfl,wds_one (fun c hc=>by
    rw [hN,hS,Int.toNat_natCast] at hc
    exact (key_no n F c hc).1)]
   rfl
 | 2=>rw [show bod M 2=Lib.itoa M.room from rfl,wds_one (fun c hc=>(itoa_no (by have:=h.room;omega) c hc).1)];rfl
 | 3=>rw [show bod M 3=vt M.vals from rfl,wds_one (fun c hc=>(vt_no (fun b hb=>bit_in (h.bits b hb)) c hc).1)];rfl
 | 4=>rw [show bod M 4=Lib.itoa M.ret from rfl,wds_one (fun c hc=>(itoa_no h.ret.1 c hc).1)];rfl
 | 5=>rw [show bod M 5=Lib.itoa (bI M.over) from rfl,wds_one (fun c hc=>(itoa_no (by rcases bI_two M.over with e|e<;>omega) c hc).1)];rfl
 | 6 =>
   rw [show bod M 6=Lib.itoa M.steps++(32 :: (Lib.itoa M.looks++(32 :: Lib.itoa M.hits))) from rfl,wds_more (fun c hc=>(itoa_no (by have:=h.steps;omega) c hc).1),wds_more (fun c hc=>(itoa_no (by have:=h.looks;omega) c hc).1),wds_one (fun c hc=>(itoa_no (by have:=h.hits;omega) c hc).1)]
   rfl
 | k+7 =>
   have e:bod M (k+7)=(match M.memo[k]? with
    | some x=>tl x.k++(32 :: Lib.itoa x.r)
    | none=>[]):=rfl
   have e2:wrd M (k+7)=(match M.memo[k]? with
    | some x=>[wd (k+7),tl x.k,Lib.itoa x.r]
    | none=>[wd (k+7),[]]):=rfl
   rw [e,e2]
   cases hx:M.memo[k]? with
   | none=>show wd (k+7) :: wds []=_;rw [wds_one (fun c hc=>by cases hc)]
   | some x =>
     have hm:=List.mem_of_getElem? hx
     show wd (k+7) :: wds (tl x.k++(32 :: Lib.itoa x.r))=_
     rw [wds_more (fun c hc=>(pl_no32 (hk x hm) c hc).1),wds_one (fun c hc=>(itoa_no (by have:=h.seen x hm;omega) c hc).1)]
theorem md_sav {M:Mc} (h:Mok M) (hk:∀ x∈M.memo,plB (tl x.k)=true):mdS (savT M)=some M:=by
 have hW:(lns (savT M)).map wds=(List.range (7+M.memo.length)).map (wrd M):=by
  rw [lns_sav h hk,List.map_map]
  exact List.map_congr_left (fun i _=>wds_line h hk i)
 have hat:∀ i,i < 7+M.memo.length->((List.range (7+M.memo.length)).map (wrd M)).getD i []=wrd M i:=by
  intro i hi
  rw [List.getD_eq_getElem?_getD,List.getElem?_map,List.getElem?_range hi]
  rfl
 have hml:M.memo.length<=40:=by have h1:=h.room;have h2:=h.memo;omega
 obtain ⟨n,F,hn,hN,hS⟩:=tok_tab h.tab
 have hfit:fitW ((List.range (7+M.memo.length)).map (wrd M))=true:=by
  unfold fitW
  refine decide_eq_true ⟨by simp,by simp;omega,fun i hi=>?_⟩
  have hi2:i < 7+M.memo.length:=by simpa using hi
  rw [hat i hi2]
  match i,hi2 with
  | 0,_=>exact ⟨by show 2<=[_,_].length;simp,fun e=>by omega,fun e=>by omega⟩
  | 1,_=>exact ⟨by show 2<=[_,_].length;simp,fun e=>by omega,fun e=>by omega⟩
  | 2,_=>exact ⟨by show 2<=[_,_].length;simp,fun e=>by omega,fun e=>by omega⟩
  | 3,_=>exact ⟨by show 2<=[_,_].length;simp,fun e=>by omega,fun e=>by omega⟩
  | 4,_=>exact ⟨by show 2<=[_,_].length;simp,fun e=>by omega,fun e=>by omega⟩
  | 5,_=>exact ⟨by show 2<=[_,_].length;simp,fun e=>by omega,fun e=>by omega⟩
  | 6,_=>exact ⟨by show 2<=[_,_,_,_].length;simp,fun e=>rfl,fun e=>by omega⟩
  | k+7,hi2 =>
    have hkl:k < M.memo.length:=by omega
    have e2:wrd M (k+7)=[wd (k+7),tl M.memo[k].k,Lib.itoa M.memo[k].r]:=by
     show (match M.memo[k]? with
      | some x=>[wd (k+7),tl x.k,Lib.itoa x.r]
      | none=>[wd (k+7),[]])=_
     rw [List.getElem?_eq_getElem hkl]
    rw [e2]
    exact ⟨by simp,fun e=>by omega,fun _=>rfl⟩
 have hw:∀ i j,i < 7+M.memo.length->wat ((List.range (7+M.memo.length)).map (wrd M)) i j=(wrd M i).getD j []:=fun i j hi=>by unfold wat;rw [hat i hi]
 have hr:=rr_row M.row (by have:=h.row;omega)
 have hv:=rv_vt (l:=M.vals) (fun b hb=>bit_in (h.bits b hb)) (by have:=h.vals;omega)
 obtain ⟨k1,k2,k3⟩:=rk_key F hn
 have hkey:keyL M.N.toNat (tl M.S)=keyL n (tab n F):=by rw [hN,hS,Int.toNat_natCast]
 unfold mdS
 rw [hW,hfit,if_pos rfl,hw 0 1 (by omega),hw 1 1 (by omega)]
 show (if (rrB (rowT M.row)&&rkB (keyL M.N.toNat (tl M.S)))=true then _ else none)=_
 rw [hr.1,hkey,k1,if_pos (by rfl)]
 congr 1
 unfold madeW
 rw [hw 0 1 (by omega),hw 1 1 (by omega),hw 2 1 (by omega),hw 3 1 (by omega),hw 4 1 (by omega),hw 5 1 (by omega),hw 6 1 (by omega),hw 6 2 (by omega),hw 6 3 (by omega)]
 have hm:((List.range' 7 (((List.range (7+M.memo.length)).map (wrd M)).length - 7)).map fun i=>(⟨bs (wat ((List.range (7+M.memo.length)).map (wrd M)) i 1),int2 (wat ((List.range (7+M.memo.length)).map (wrd M)) i 2)⟩:Sn))=M.memo:=by
  apply List.ext_getElem
  ·simp
  ·intro k hk1 hk2
   rw [List.getElem_map,List.getElem_range']
   have e2:wrd M (7+1*k)=[wd (k+7),tl M.memo[k].k,Lib.itoa M.memo[k].r]:=by
    rw [show 7+1*k=k+7 by omega]
    show (match M.memo[k]? with
     | some x=>[wd (k+7),tl x.k,Lib.itoa x.r]
     | none=>[wd (k+7),[]])=_
    rw [List.getElem?_eq_getElem hk2]
   rw [hw _ _ (by omega),hw _ _ (by omega),e2]
   have hs:=h.seen _ (List.getElem_mem hk2)
   show (⟨bs (tl M.memo[k].k),int2 (Lib.itoa M.memo[k].r)⟩:Sn)=M.memo[k]
   rw [bs_tl,int2_itoa (by omega) (by omega)]
 rw [hm]
 show (⟨rrL (rowT M.row),rkN (keyL M.N.toNat (tl M.S)),bs (cutS 58 (keyL M.N.toNat (tl M.S))),int2 (Lib.itoa M.room),rvL (vt M.vals),int2 (Lib.itoa M.ret),decide (Lib.itoa (bI M.over)=[49]),int2 (Lib.itoa M.steps),int2 (Lib.itoa M.looks),int2 (Lib.itoa M.hits),M.memo⟩:Mc)=M
 have ho:decide (Lib.itoa (bI M.over)=[49])=M.over:=by cases M.over<;>decide +kernel
 rw [hr.2,hkey,k2,k3,hv.2,ho,int2_itoa (by have:=h.room;omega) (by have:=h.room;omega),int2_itoa h.ret.1 (by have:=h.ret;omega),int2_itoa (by have:=h.steps;omega) h.steps.2,int2_itoa (by have:=h.looks;omega) h.looks.2,int2_itoa (by have:=h.hits;omega) h.hits.2,<- hS,bs_tl,<- hN]
/-- A machine stands for its text. -/
noncomputable def okL (s:List UInt8) (m:Mc):Bool:=svB m&&decide (savT m=s)
noncomputable def ldP (s:List UInt8):Option Mc:=match rdS s with
 | some m=>if okL s m=true then some m else none
 | none=>none
noncomputable def ldM (s:List UInt8):Option Mc:=match mdS s with
 | some m=>if okL s m=true then some m else none
 | none=>none
theorem sv_mok {m:Mc} (h:svB m=true):Mok m/\(∀ x∈m.memo,plB (tl x.k)=true)/\(savT m).length<=400000:=by
 unfold svB at h
 obtain ⟨h1,h2⟩:=Bool.and_eq_true_iff.1 h
 obtain ⟨h3,h4⟩:=Bool.and_eq_true_iff.1 h2
 refine ⟨by unfold Mm2.mokB at h1;simpa using h1,fun x hx=>List.all_eq_true.1 h3 x hx,of_decide_eq_true h4⟩
theorem ok_both {s:List UInt8} {m:Mc} (h:okL s m=true):ldP s=some m/\ldM s=some m:=by
 have h0:=h
 unfold okL at h
 obtain ⟨h1,h2⟩:=Bool.and_eq_true_iff.1 h
 obtain ⟨h3,h4,_⟩:=sv_mok h1
 have e:=of_decide_eq_true h2
 constructor
 ·unfold ldP
  have:rdS s=some m:=by rw [<- e];exact rd_sav h3 h4
  rw [this]
  show (if okL s m=true then some m else none)=_
  rw [h0,if_pos rfl]
 ·unfold ldM
  have:mdS s=some m:=by rw [<- e];exact md_sav h3 h4
  rw [this]
  show (if okL s m=true then some m else none)=_
  rw [h0,if_pos rfl]
theorem ldP_ok {s:List UInt8} {m:Mc} (h:ldP s=some m):okL s m=true:=by
 unfold ldP at h
 cases hr:rdS s with
 | none=>rw [hr] at h;cases h
 | some m' =>
   rw [hr] at h
   have h:(if okL s m'=true then some m' else none)=some m:=h
   split at h
   ·rename_i ho
    cases h
    exact ho
   ·cases h
theorem ldM_ok {s:List UInt8} {m:Mc} (h:ldM s=some m):okL s m=true:=by
 unfold ldM at h
 cases hr:mdS s with
 | none=>rw [hr] at h;cases h
 | some m' =>
   rw [hr] at h
   have h:(if okL s m'=true then some m' else none)=some m:=h
   split at h
   ·rename_i ho
    cases h
    exact ho
   ·cases h
/-- Both read alike. -/
theorem ld_same (s:List UInt8):ldP s=ldM s:=by
 cases hp:ldP s with
 | some m=>exact ((ok_both (ldP_ok hp)).2).symm
 | none =>
   cases hm:ldM s with
   | none=>rfl
   | some m =>
     have:=(ok_both (ldM_ok hm)).1
     rw [hp] at this
     cases this
end Zl2
end Go.Proofs.YtjajkmdoggbicaaGreatDoor
