import Derived.Deep.RegionHeld3
import Derived.Deep.CutBlock
import Derived.Deep.RegionWith
import Derived.Lib.Join
import Derived.Test.YtjajkmdoggbicaaGreatDoorPkST17
import Derived.Test.YtjajkmdoggbicaaGreatDoorPkST7
import Derived.Test.YtjajkmdoggbicaaGreatDoorPkST1
import Derived.Test.YtjajkmdoggbicaaGreatDoorPkST9
import Derived.Test.YtjajkmdoggbicaaGreatDoorPkST22
import Derived.Test.YtjajkmdoggbicaaGreatDoorMm2
namespace Go.Proofs.YtjajkmdoggbicaaGreatDoor
set_option maxRecDepth 100000
set_option maxHeartbeats 8000000
set_option linter.unusedVariables false
namespace Vo0
open Go.RowKit
open Ta0 Ta1 Ta2 Tc2 Te1
open Nd0 (Kept Ints set_other set_same lt_of_cell)
/-- Whether all are bits. -/
def allB (l:List Int):Bool:=l.all bitB
theorem allB_no {l:List Int} {k:Nat} (h:k < l.length) (hb:bitB l[k]=false):allB l=false:=by
 unfold allB
 rw [List.all_eq_false]
 exact ⟨_,List.getElem_mem h,by rw [hb];simp⟩
theorem iPlaceAny (a:Option Addr) (l:List Int) (c:Nat) (w:World) (hI:Ints w a l) :
 Calls Tryz.prog 79 #[.slice a l.length c] w fun e w'=>(∃ p:Int,e=.returned (.tuple #[.int .i64 p,.bool (allB l)]))/\w'=w:=by
 have HI1:Hid (Ints w a l):=hI
 have hm:=hI.1
 unfold maxLen at hm
 clear hI
 go_enter Tryz.func79,Tryz.ntmps79
 go_wp2
 go_loop [4,9] (fun p i=>∃ (k:Nat) (y:Int),k<=l.length/\i=.int .i64 k/\p=.int .i64 y/\∀ j (hj:j < l.length),j < k->bitB l[j]=true) (fun _ i=>l.length - (intOf i).toNat)
 case atStart=>exact ⟨0,0,Nat.zero_le _,rfl,rfl,fun j _ hj=>by omega⟩
 case round =>
  obtain ⟨k,y,hk,rfl,rfl,hbt⟩:=hrel
  have HBT:Hid (∀ j (hj:j < l.length),j < k->bitB l[j]=true):=hbt
  clear hbt
  by_cases hlt:k < l.length
  ·have hkz:(k:Int) < (l.length:Int):=by omega
   rcases HI1.out.2 with h0|⟨xb,xo,rfl,hc⟩
   ·omega
   have p0:=hc k hlt
   clear hc
   have HN:Hid (bitB l[k]=false->allB l=false):=allB_no hlt
   have HY:Hid (bitB l[k]=true->∀ j (hj:j < l.length),j < k+1->bitB l[j]=true):=fun h j hj h2=>by
    by_cases e:j=k
    ·subst e;exact h
    ·exact HBT.out j hj (by omega)
   generalize l[k]=x at *
   have HIC:Hid (∀ W,Calls Tryz.prog 78 #[.int .i64 x] W fun e w'=>e=.returned (.bool (bitB x))/\w'=W):=fun W=>iBitOk x W
   cases hB:bitB x
   ·have HBd:Hid (allB l=false):=HN.out hB
    rw [hB] at HIC
    clear hB
    go_wp2_with (go_at_call 78;refine (HIC.out _).mono ?_;rintro e w' ⟨rfl,rfl⟩)
    go_ret2
    exact ⟨⟨0,by rw [HBd.out];rfl⟩,rfl⟩
   ·have HT:=HY.out hB
    have HT2:Hid (∀ j (hj:j < l.length),j < k+1->bitB l[j]=true):=HT
    rw [hB] at HIC
    clear hB HT
    go_wp2_with (go_at_call 78;refine (HIC.out _).mono ?_;rintro e w' ⟨rfl,rfl⟩)
    go_round
    case rel=>exact ⟨k+1,_,by omega,by go_num,rfl,HT2.out⟩
    case measure=>simp [intOf];omega
  ·have HT:Hid (allB l=true):=by
    show _=_
    unfold allB
    rw [List.all_eq_true]
    intro x hx
    obtain ⟨t,ht,rfl⟩:=List.getElem_of_mem hx
    exact HBT.out t ht (by omega)
   go_wp2
   go_ret2
   exact ⟨⟨y,by rw [HT.out];rfl⟩,rfl⟩
/-- At most n bits. -/
def valB (l:List Int) (n:Int):Bool:=allB l&&decide ((l.length:Int)<=n)
theorem iVals (a:Option Addr) (l:List Int) (c:Nat) (n:Int) (w:World) (hI:Ints w a l) :
 Calls Tryz.prog 41 #[.slice a l.length c,.int .i64 n] w fun e w'=>e=.returned (.bool (valB l n))/\w'=w:=by
 have HI1:Hid (Ints w a l):=hI
 clear hI
 cases hA:allB l
 ·have HF:Hid (valB l n=false):=by show _=_;unfold valB;rw [hA];rfl
  go_enter Tryz.func41,Tryz.ntmps41
  go_wp2_with fail
  refine (iPlaceAny a l c _ HI1.out).mono ?_
  rw [hA]
  rintro e w2 ⟨⟨p,rfl⟩,rfl⟩
  clear hA
  go_wp2
  go_ret
  exact ⟨ret_bool HF.out.symm,rfl⟩
 ·by_cases hn:(l.length:Int)<=n
  ·have HF:Hid (valB l n=true):=by show _=_;unfold valB;rw [hA,decide_eq_true hn];rfl
   have hnb:decide ((l.length:Int)<=n)=true:=decide_eq_true hn
   go_enter Tryz.func41,Tryz.ntmps41
   go_wp2_with fail
   refine (iPlaceAny a l c _ HI1.out).mono ?_
   rw [hA]
   rintro e w2 ⟨⟨p,rfl⟩,rfl⟩
   clear hA
   go_wp2
   go_ret
   exact ⟨ret_bool HF.out.symm,rfl⟩
  ·have HF:Hid (valB l n=false):=by show _=_;unfold valB;rw [decide_eq_false hn];simp
   have hnb:decide ((l.length:Int)<=n)=false:=decide_eq_false hn
   go_enter Tryz.func41,Tryz.ntmps41
   go_wp2_with fail
   refine (iPlaceAny a l c _ HI1.out).mono ?_
   rw [hA]
   rintro e w2 ⟨⟨p,rfl⟩,rfl⟩
   clear hA
   go_wp2
   go_ret
   exact ⟨ret_bool HF.out.symm,rfl⟩
end Vo0
namespace Wp0
open Go.RowKit
open Nd0 (Kept Ints WInts IntsIn Ats marks marks_length lt_of_cell)
open Tc5 (Lay)
/-- A pick's value. -/
abbrev pv (a:Option Addr) (n c:Nat) (v:Int):Value:=.agg #[.slice a n c,.int .i64 v]
/-- It lies in a block. -/
structure Pb (W:World) (b:Nat) (a:Option Addr) (n c:Nat) (v:Int):Prop where
 c0:W.cell? ⟨b,0,none⟩=some (.slice a n c)
 c1:W.cell? ⟨b,1,none⟩=some (.int .i64 v)
theorem Pb.lt {W:World} {b:Nat} {a:Option Addr} {n c:Nat} {v:Int} (h:Pb W b a n c v):b < W.heap.size:=lt_of_cell h.c0
theorem Pb.kept {W W':World} {b:Nat} {a:Option Addr} {n c:Nat} {v:Int} (h:Pb W b a n c v) {S:Nat->Prop} (k:Kept S W W') (hs:¬ S b):Pb W' b a n c v :=
 ⟨by rw [k.cell (p:=⟨b,0,none⟩) h.lt hs];exact h.c0,by rw [k.cell (p:=⟨b,1,none⟩) h.lt hs];exact h.c1⟩
theorem Pb.below {W W':World} {b:Nat} {a:Option Addr} {n c:Nat} {v:Int} (h:Pb W b a n c v) (k:Below W.heap.size W W'):Pb W' b a n c v:=h.kept (S:=fun _=>False) (Kept.ofBelow k) (fun h=>h)
theorem Pb.made (W:World) (a:Option Addr) (n c:Nat) (v:Int) (T:Nat):Pb (W.alloc (.cells #[.slice a n c,.int .i64 v] T)) W.heap.size a n c v:=⟨by simp,by simp⟩
end Wp0
namespace Wp1
open Go.RowKit
open Ta2 (bitB)
open Vo0 (allB valB iVals)
open Ap9
open Nd0 (Kept Ints lt_of_cell)
open Ss0 (bs bs_size bs_app ret_str)
def dgt (b:Int):UInt8:=if b=1 then 49 else 48
def vt (l:List Int):List UInt8:=if l=[] then [45] else l.map dgt
def pkB (l:List Int) (v:Int):Bool:=valB l 12&&bitB v
def pkT (l:List Int) (v:Int):ByteArray:=if pkB l v=true then bs (vt l++[32]++[dgt v]) else ⟨#[]⟩
theorem bit_two {b:Int} (h:bitB b=true):b=0\/b=1:=by unfold bitB at h;simpa using h
theorem dgt_bit {b:Int} (h:bitB b=true):((dgt b).toNat:Int)=48+b:=by
 rcases bit_two h with rfl|rfl<;>rfl
theorem vt_len (l:List Int):1<=(vt l).length/\(vt l).length<=l.length+1:=by
 unfold vt
 split
 ·exact ⟨Nat.le_refl _,by simp⟩
 ·rename_i h
  rw [List.length_map]
  have:=List.length_pos_iff.2 h
  omega
theorem iValsText (w:World) (a:Option Addr) (l:List Int) (c:Nat) (h:Ints w a l) (hl:l.length<=12) (hb:∀ b∈l,bitB b=true) :
 Calls Tryz.prog 135 #[.slice a l.length c] w fun e w'=>e=.returned (.string (bs (vt l)))/\Below w.heap.size w w':=by
 have H:Hid (Ints w a l):=h
 have HBT:Hid (∀ b∈l,bitB b=true):=hb
 clear h hb
 by_cases h0:l=[]
 ·subst h0
  go_enter Tryz.func135,Tryz.ntmps135
  go_wp2
  go_ret
  exact ⟨rfl,Below.refl _ _⟩
 have hlp:=List.length_pos_iff.2 h0
 have HV:Hid (vt l=l.map dgt):=by show _=_;unfold vt;exact if_neg h0
 obtain ⟨n,hn⟩:∃ n,n=l.length:=⟨_,rfl⟩
 rw [<- hn]
 have hn0:((n:Int)==0)=false:=beq_eq_false_iff_ne.2 (by omega)
 have hn1:¬ n=0:=by omega
 have hn2:n<=12:=by omega
 have HN:Hid (n=l.length):=hn
 obtain ⟨TK,hTK⟩:∃ TK:Nat->List UInt8,TK=fun k=>(l.take k).map dgt:=⟨_,rfl⟩
 have HTK:Hid (TK=fun k=>(l.take k).map dgt):=hTK
 have HTL:Hid (∀ k,k<=n->(TK k).length=k):=by intro k hk;rw [hTK];simp;omega
 have HT0:Hid (TK 0=[]):=by show _=_;rw [hTK];rfl
 clear hn h0 hl hlp hTK
 go_enter Tryz.func135,Tryz.ntmps135
 go_wp2
 go_loopw [3,12] (fun v i wr=>∃ k:Nat,k<=n/\i=.int .i64 k/\Owu wr w.heap.size v (TK k)/\Below w.heap.size w wr) (fun _ i _=>n - (intOf i).toNat)
 case atStart=>exact ⟨0,Nat.zero_le _,rfl,by rw [HT0.out];exact Owu.lit _ _ (Nat.le_refl _),(Below.refl _ _).alloc (Nat.le_refl _) _⟩
 case round =>
  obtain ⟨k,hk,rfl,ho,hbr⟩:=hrel
  have HO:Hid (Owu wr w.heap.size u3 (TK k)):=ho
  have HB:Hid (Below w.heap.size w wr):=hbr
  clear ho hbr
  by_cases hlt:k < n
  ·have hlz:(k:Int) < (n:Int):=by omega
   have hkl:k < l.length:=by have:=HN.out;omega
   obtain ⟨b,o,ha,hc⟩:∃ b o,a=some ⟨b,o,none⟩/\wr.cell? ⟨b,o+k,none⟩=some (.int .i64 l[k]):=by
    rcases (H.out.below HB.out).2 with e|⟨b,o,e,hc⟩
    ·omega
    ·exact ⟨b,o,e,hc k hkl⟩
   subst ha
   have hbl:=lt_of_cell hc
   have HBK:Hid (bitB l[k]=true):=HBT.out _ (List.getElem_mem hkl)
   have HNX:Hid (TK (k+1)=TK k++[dgt l[k]]):=by
    show _=_
    rw [HTK.out]
    show (l.take (k+1)).map dgt=(l.take k).map dgt++[dgt l[k]]
    rw [List.take_succ_eq_append_getElem hkl,List.map_append]
    rfl
   generalize l[k]=x at *
   have hx:0<=x/\x<=1:=by rcases bit_two HBK.out with e|e<;>omega
   have HD:Hid (((dgt x).toNat:Int)=48+x):=dgt_bit HBK.out
   have hw8:IntKind.u8.wrap x=x:=by rcases bit_two HBK.out with e|e<;>subst e<;>rfl
   have hw9:IntKind.u8.wrap (48+x)=48+x:=by rcases bit_two HBK.out with e|e<;>subst e<;>rfl
   go_wp2_with (at_builtin;go_must (refine app_byte _ rfl _ _ rfl w.heap.size u3 (TK k) (dgt x) _ (by exact HD.out.symm) rfl rfl HO.out HB.out.size (by rw [HTL.out k (by omega)];omega) ?_;intro g5 cp5 w5 ho5 hk5 hg5;have HO5:Hid (Owu w5 w.heap.size (.slice (some ⟨g5,0,none⟩) ((TK k).length+1) cp5) (TK k++[dgt x])):=ho5;have HK5:Hid (Kept (fun i=>u3.ownBlock=some i) wr w5):=hk5;clear ho5 hk5 hg5))
   go_roundw
   case rel=>exact ⟨k+1,by omega,by go_num,by rw [HNX.out];exact HO5.out,HB.out.trans (HK5.out.below (fun i hi=>(HO.out.lt i hi).1) HB.out.size)⟩
   case measure=>simp [intOf];omega
  ·have hlz:¬ (k:Int) < (n:Int):=by omega
   have e:k=n:=by omega
   subst e
   have hT:TK k=vt l:=by
    rw [HV.out,HTK.out,HN.out]
    show (l.take l.length).map dgt=_
    rw [List.take_length]
   have ho:=HO.out
   rw [hT] at ho
   have hcv:=ho.text (vt_len l).1
   clear hT ho
   obtain ⟨R,hR⟩:∃ R,R=bs (vt l):=⟨_,rfl⟩
   rw [<- hR] at hcv
   have HR:Hid (R=bs (vt l)):=hR
   clear hR
   go_wp2
   go_ret
   exact ⟨ret_str HR.out,HB.out⟩
theorem made1 (W:World) (v:Int) (T:Nat):(W.alloc (.cells #[.int .i64 v] T)).cell? ⟨W.heap.size,0,none⟩=some (.int .i64 v):=by rw [World.cell?_alloc_new];rfl
end Wp1
namespace Zs0
open Go.RowKit
open Tx0 Ta1 Za0
open Mm0 (Mc Mok)
open Mm2 (mokB)
open Qc0 (Sn)
open Wp1 (vt vt_len)
open Ss0 (bs bs_size)
open Ss1 (tl tl_length)
open Tk0 (keyL itoa_dec)
/-- The words of the lines. -/
def wd:Nat->List UInt8
 | 0=>[114,111,119]
 | 1=>[116,97,98,108,101]
 | 2=>[114,111,111,109]
 | 3=>[118,97,108,115]
 | 4=>[114,101,116]
 | 5=>[111,118,101,114]
 | 6=>[99,111,117,110,116,115]
 | _=>[115,101,101,110]
def bI (b:Bool):Int:=if b=true then 1 else 0
/-- What stands behind the word of line i. -/
def bod (m:Mc):Nat->List UInt8
 | 0=>rowT m.row
 | 1=>keyL m.N.toNat (tl m.S)
 | 2=>Lib.itoa m.room
 | 3=>vt m.vals
 | 4=>Lib.itoa m.ret
 | 5=>Lib.itoa (bI m.over)
 | 6=>Lib.itoa m.steps++(32 :: (Lib.itoa m.looks++(32 :: Lib.itoa m.hits)))
 | k+7=>match m.memo[k]? with
   | some x=>tl x.k++(32 :: Lib.itoa x.r)
   | none=>[]
def lin (m:Mc) (i:Nat):List UInt8:=wd i++(32 :: (bod m i++[10]))
def linTo (m:Mc) (k:Nat):List (List UInt8):=(List.range k).map (lin m)
def savT (m:Mc):List UInt8:=(linTo m (7+m.memo.length)).flatten
theorem linTo_length (m:Mc) (k:Nat):(linTo m k).length=k:=by unfold linTo;simp
theorem linTo_next (m:Mc) (k:Nat):linTo m (k+1)=linTo m k++[lin m k]:=by unfold linTo;rw [List.range_succ,List.map_append];rfl
/-- Whether a key can be written. -/
def plB (s:List UInt8):Bool:=decide (s≠[]/\∀ c∈s,isDig c=true\/c=58)
def keysB (m:Mc):Bool:=m.memo.all fun x=>plB (tl x.k)
/-- Whether a machine has a text. -/
noncomputable def svB (m:Mc):Bool:=mokB m&&(keysB m&&decide ((savT m).length<=400000))
noncomputable def svS (m:Mc):ByteArray:=if svB m=true then bs (savT m) else ⟨#[]⟩
theorem wd_len (i:Nat):(wd i).length<=6:=by
 unfold wd
 split<;>decide
theorem itoa_neg:Lib.itoa (-1)=[45,49]:=by decide +kernel
theorem itoa_len {n:Int} (h0 : -1<=n) (h1:n<=1000000000):(Lib.itoa n).length<=10:=by
 by_cases h:n = -1
 ·subst h;rw [itoa_neg];decide
 ·obtain ⟨k,rfl⟩:=Int.eq_ofNat_of_zero_le (by omega:0<=n)
  rw [itoa_dec]
  exact (Zk0.dec_len' (k:=10) (by omega) (by omega)).2
theorem bI_two (b:Bool):bI b=0\/bI b=1:=by cases b;exact .inl rfl;exact .inr rfl
theorem bod_or {m:Mc} {K:Nat} (h:Mok m) (hk:∀ x∈m.memo,x.k.size<=K) (i:Nat):(bod m i).length<=4200\/(bod m i).length<=K+11:=by
 obtain ⟨n,F,hn,hN,hS⟩:=tok_tab h.tab
 have hrow:=h.row
 have hv:=h.vals
 match i with
 | 0=>left;show (rowT m.row).length<=_;have:=rowT_le m.row;omega
 | 1 =>
   left
   show (keyL m.N.toNat (tl m.S)).length<=_
   rw [hN,hS,Int.toNat_natCast]
   unfold keyL
   rw [List.length_append,List.length_cons,tab_length]
   have:=Zk0.dec_two hn
   have:=(p12 hn).2
   omega
 | 2=>left;show (Lib.itoa m.room).length<=_;have:=itoa_len (n:=m.room) (by have:=h.room;omega) (by have:=h.room;omega);omega
 | 3=>left;show (vt m.vals).length<=_;have:=vt_len m.vals;omega
 | 4=>left;show (Lib.itoa m.ret).length<=_;have:=itoa_len (n:=m.ret) h.ret.1 (by have:=h.ret;omega);omega
 | 5=>left;show (Lib.itoa (bI m.over)).length<=_;have:=itoa_len (n:=bI m.over) (by rcases bI_two m.over with e|e<;>omega) (by rcases bI_two m.over with e|e<;>omega);omega
 | 6 =>
   left
   show (Lib.itoa m.steps++(32 :: (Lib.itoa m.looks++(32 :: Lib.itoa m.hits)))).length<=_
   rw [List.length_append,List.length_cons,List.length_append,List.length_cons]
   have:=itoa_len (n:=m.steps) (by have:=h.steps;omega) h.steps.2
   have:=itoa_len (n:=m.looks) (by have:=h.looks;omega) h.looks.2
   have:=itoa_len (n:=m.hits) (by have:=h.hits;omega) h.hits.2
   omega
 | k+7 =>
   right
   show (match m.memo[k]? with
    | some x=>tl x.k++(32 :: Lib.itoa x.r)
    | none=>[]).length<=_
   cases hx:m.memo[k]? with
   | none=>simp
   | some x =>
     have hm:=List.mem_of_getElem? hx
     show (tl x.k++(32 :: Lib.itoa x.r)).length<=_
     rw [List.length_append,List.length_cons,tl_length]
     have:=hk x hm
     have:=itoa_len (n:=x.r) (by have:=h.seen x hm;omega) (by have:=h.seen x hm;omega)
     omega
theorem bod_len {m:Mc} (h:Mok m) (hk:∀ x∈m.memo,x.k.size<=1048576) (i:Nat):(bod m i).length<=1048600:=by
 rcases bod_or h hk i with e|e<;>omega
theorem lin_len {m:Mc} (h:Mok m) (hk:∀ x∈m.memo,x.k.size<=1048576) (i:Nat):(lin m i).length<=1048700:=by
 unfold lin
 rw [List.length_append,List.length_cons,List.length_append]
 have:=wd_len i
 have:=bod_len h hk i
 simp
 omega
theorem linTo_flat {m:Mc} (h:Mok m) (hk:∀ x∈m.memo,x.k.size<=1048576) (k:Nat):(linTo m k).flatten.length<=k*1048700:=by
 induction k with
 | zero=>simp [linTo]
 | succ k ih =>
   rw [linTo_next,List.flatten_append,List.length_append]
   have:=lin_len h hk k
   rw [List.flatten_cons,List.flatten_nil,List.append_nil]
   omega
theorem join_none (L:List (List UInt8)):Lib.join L []=L.flatten:=by
 cases L with
 | nil=>rfl
 | cons x r =>
   rw [Lib.join_cons]
   unfold Lib.joinTail
   rw [show (fun y:List UInt8=>([]:List UInt8)++y)=id from rfl,List.map_id]
   rfl
end Zs0
namespace Wp3
open Go.RowKit
open Ta2 (bitB)
open Vo0 (allB valB)
open Ss0 (bs bs_size bs_app bs_inj)
open Wp1
def un (c:UInt8):Int:=(c.toNat:Int) - 48
/-- t is the text of the pick (l, v). -/
def okT (t:List UInt8) (l:List Int) (v:Int):Prop:=pkB l v=true/\t=vt l++[32,dgt v]
theorem un_dgt {b:Int} (h:bitB b=true):un (dgt b)=b:=by
 rcases bit_two h with rfl|rfl<;>rfl
theorem dgt_un {c:UInt8} (h:bitB (un c)=true):dgt (un c)=c:=by
 have hb:=bit_two h
 unfold un at hb ⊢
 apply UInt8.toNat_inj.1
 rcases hb with e|e
 ·rw [e];show 48=_;omega
 ·rw [e];show 49=_;omega
theorem dgt_two (b:Int):dgt b=48\/dgt b=49:=by unfold dgt;split<;>simp
theorem val_mem {l:List Int} (h:valB l 12=true):(∀ b∈l,bitB b=true)/\l.length<=12:=by
 unfold valB allB at h
 simp at h
 exact ⟨h.1,by omega⟩
theorem map_back {l:List Int} (h:∀ b∈l,bitB b=true):(l.map dgt).map un=l:=by
 rw [List.map_map]
 conv=>rhs;rw [<- List.map_id l]
 exact List.map_congr_left fun b hb=>un_dgt (h b hb)
theorem map_fore {x:List UInt8} (h:∀ b∈x.map un,bitB b=true):(x.map un).map dgt=x:=by
 rw [List.map_map]
 conv=>rhs;rw [<- List.map_id x]
 exact List.map_congr_left fun c hc=>dgt_un (h _ (List.mem_map_of_mem hc))
theorem vt_no (l:List Int):∀ c∈vt l,(c != 32)=true:=by
 intro c hc
 unfold vt at hc
 split at hc
 ·rw [List.mem_singleton.1 hc];rfl
 ·obtain ⟨b,_,rfl⟩:=List.mem_map.1 hc
  rcases dgt_two b with e|e<;>rw [e]<;>rfl
/-- Values read from a text. -/
def rvL (x:List UInt8):List Int:=if x=[45] then [] else x.map un
def rvB (x:List UInt8):Bool:=if x=[45] then true else decide (x≠[])&&valB (x.map un) 12
theorem rv_ok {x:List UInt8} (h:rvB x=true):x=vt (rvL x)/\valB (rvL x) 12=true:=by
 unfold rvB at h
 unfold rvL
 by_cases e:x=[45]
 ·rw [if_pos e]
  exact ⟨e,rfl⟩
 ·rw [if_neg e] at h ⊢
  obtain ⟨h1,h2⟩:=Bool.and_eq_true_iff.1 h
  have h1':x≠[]:=of_decide_eq_true h1
  refine ⟨?_,h2⟩
  unfold vt
  rw [if_neg (by intro c;exact h1' (List.map_eq_nil_iff.1 c)),map_fore (val_mem h2).1]
theorem vt_not {l:List Int} (h:l≠[]):vt l≠[45]:=by
 unfold vt
 rw [if_neg h]
 intro e
 cases l with
 | nil=>exact h rfl
 | cons b r =>
   have:=(List.cons.inj e).1
   rcases dgt_two b with e|e<;>rw [e] at this<;>exact absurd this (by decide)
theorem rv_of {l:List Int} (h:valB l 12=true):rvL (vt l)=l/\rvB (vt l)=true:=by
 unfold rvL rvB
 by_cases e:l=[]
 ·subst e
  exact ⟨rfl,rfl⟩
 ·have e2:vt l=l.map dgt:=by unfold vt;exact if_neg e
  rw [if_neg (vt_not e),if_neg (vt_not e),e2,map_back (val_mem h).1]
  refine ⟨rfl,?_⟩
  rw [h,Bool.and_true]
  exact decide_eq_true (by intro c;exact e (List.map_eq_nil_iff.1 c))
/-- The part ahead of the first blank, and what stands behind it. -/
def fstT (t:List UInt8):List UInt8:=t.takeWhile (fun c=>c != 32)
def sndT (t:List UInt8):List UInt8:=(t.dropWhile (fun c=>c != 32)).drop 1
theorem cut_split {x:List UInt8} (h:∀ c∈x,(c != 32)=true) (y:List UInt8):fstT (x++32 :: y)=x/\sndT (x++32 :: y)=y:=by
 unfold fstT sndT
 induction x with
 | nil=>exact ⟨by simp,by simp⟩
 | cons c r ih =>
   have hc:=h c List.mem_cons_self
   obtain ⟨i1,i2⟩:=ih fun d hd=>h d (List.mem_cons_of_mem _ hd)
   refine ⟨?_,?_⟩
   ·rw [List.cons_append,List.takeWhile_cons_of_pos (p:=fun c=>c != 32) hc,i1]
   ·rw [List.cons_append,List.dropWhile_cons_of_pos (p:=fun c=>c != 32) hc,i2]
theorem cut_join {t:List UInt8} (h:sndT t≠[]):t=fstT t++32 :: sndT t:=by
 unfold fstT sndT at *
 induction t with
 | nil=>exact absurd rfl h
 | cons c r ih =>
   by_cases hc:(c != 32)=true
   ·rw [List.dropWhile_cons_of_pos (p:=fun c=>c != 32) hc] at h ⊢
    rw [List.takeWhile_cons_of_pos (p:=fun c=>c != 32) hc,List.cons_append,<- ih h]
   ·have hc':c=32:=by simpa using hc
    rw [List.dropWhile_cons_of_neg (p:=fun c=>c != 32) hc,List.takeWhile_cons_of_neg (p:=fun c=>c != 32) hc,hc']
    rfl
/-- What the program reads. -/
def okP (t:List UInt8):Bool:=rvB (fstT t)&&rvB (sndT t)&&decide ((rvL (sndT t)).length=1)
theorem one_of {l:List Int} (h:l.length=1):l=[l.getD 0 0]:=by
 match l,h with
 | [x],_=>rfl
theorem readP_ok {t:List UInt8} (h:okP t=true):okT t (rvL (fstT t)) ((rvL (sndT t)).getD 0 0):=by
 unfold okP at h
 obtain ⟨h12,h3⟩:=Bool.and_eq_true_iff.1 h
 obtain ⟨h1,h2⟩:=Bool.and_eq_true_iff.1 h12
 have h3':(rvL (sndT t)).length=1:=of_decide_eq_true h3
 obtain ⟨a1,a2⟩:=rv_ok h1
 obtain ⟨b1,b2⟩:=rv_ok h2
 have hone:=one_of h3'
 have hv:bitB ((rvL (sndT t)).getD 0 0)=true:=(val_mem b2).1 _ (by rw [hone];simp)
 have hs:sndT t=[dgt ((rvL (sndT t)).getD 0 0)]:=by
  conv=>lhs;rw [b1,hone]
  rfl
 refine ⟨?_,?_⟩
 ·unfold pkB
  rw [a2,hv]
  rfl
 ·have hj:=cut_join (t:=t) (by rw [hs];simp)
  conv=>lhs;rw [hj,hs]
  conv=>lhs;rw [a1]
theorem okT_read {t:List UInt8} {l:List Int} {v:Int} (h:okT t l v):fstT t=vt l/\sndT t=[dgt v]:=by
 rw [h.2]
 exact cut_split (vt_no l) [dgt v]
theorem okT_P {t:List UInt8} {l:List Int} {v:Int} (h:okT t l v):okP t=true/\rvL (fstT t)=l/\(rvL (sndT t)).getD 0 0=v:=by
 obtain ⟨h1,h2⟩:=okT_read h
 have hp:=h.1
 unfold pkB at hp
 obtain ⟨p1,p2⟩:=Bool.and_eq_true_iff.1 hp
 obtain ⟨a1,a2⟩:=rv_of p1
 have hv1:valB [v] 12=true:=by unfold valB allB;simp [p2]
 obtain ⟨b1,b2⟩:=rv_of hv1
 have e:vt [v]=[dgt v]:=by unfold vt;simp
 rw [e] at b1 b2
 unfold okP
 rw [h1,h2,a1,a2,b1,b2]
 exact ⟨rfl,rfl,rfl⟩
/-- What the model reads. -/
def mL (t:List UInt8):List Int:=if t.getD 0 0=45 then [] else (t.take (t.length - 2)).map un
def mV (t:List UInt8):Int:=un (t.getD (t.length - 1) 0)
theorem okT_len {t:List UInt8} {l:List Int} {v:Int} (h:okT t l v):3<=t.length/\t.length<=15:=by
 have hp:=h.1
 unfold pkB at hp
 have hl:=(val_mem (Bool.and_eq_true_iff.1 hp).1).2
 have h1:=vt_len l
 rw [h.2,List.length_append]
 simp
 omega
theorem okT_M {t:List UInt8} {l:List Int} {v:Int} (h:okT t l v):mL t=l/\mV t=v:=by
 have hp:=h.1
 unfold pkB at hp
 obtain ⟨p1,p2⟩:=Bool.and_eq_true_iff.1 hp
 have hb:=(val_mem p1).1
 have ht:=h.2
 have hlen:t.length=(vt l).length+2:=by rw [ht,List.length_append];rfl
 constructor
 ·unfold mL
  by_cases e:l=[]
  ·subst e
   rw [if_pos (by rw [ht];rfl)]
  ·have e2:vt l=l.map dgt:=by unfold vt;exact if_neg e
   have h0:t.getD 0 0≠45:=by
    cases l with
    | nil=>exact absurd rfl e
    | cons b r =>
      rw [ht,e2]
      show dgt b≠45
      rcases dgt_two b with e|e<;>rw [e]<;>decide
   rw [if_neg h0,hlen,Nat.add_sub_cancel,ht,List.take_left',e2,map_back hb]
   rfl
 ·unfold mV
  rw [hlen,ht]
  have:(vt l++[32,dgt v]).getD ((vt l).length+2 - 1) 0=dgt v:=by
   simp [List.getD]
  rw [this,un_dgt p2]
theorem pk_ok {t:List UInt8} {l:List Int} {v:Int} (ht:1<=t.length) (h:pkT l v=bs t):okT t l v:=by
 unfold pkT at h
 by_cases e:pkB l v=true
 ·rw [if_pos e] at h
  have:=bs_inj h
  exact ⟨e,by rw [<- this,List.append_assoc];rfl⟩
 ·rw [if_neg e] at h
  have:=congrArg ByteArray.size h
  rw [bs_size] at this
  have e0:(⟨#[]⟩:ByteArray).size=0:=rfl
  omega
theorem ok_pk {t:List UInt8} {l:List Int} {v:Int} (h:okT t l v):pkT l v=bs t:=by
 unfold pkT
 rw [if_pos h.1,h.2,List.append_assoc]
 rfl
end Wp3
end Go.Proofs.YtjajkmdoggbicaaGreatDoor
