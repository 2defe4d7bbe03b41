import Derived.Lib.SplitLaws
import Derived.Test.YtjajkmdoggbicaaGreatDoorPkSV24
import Derived.Test.YtjajkmdoggbicaaGreatDoorPkSV47
import Derived.Test.YtjajkmdoggbicaaGreatDoorPkSV0
import Derived.Test.YtjajkmdoggbicaaGreatDoorPkSV26
namespace Go.Proofs.YtjajkmdoggbicaaGreatDoor
set_option maxRecDepth 100000
set_option maxHeartbeats 8000000
set_option linter.unusedVariables false
namespace Zl3
open Go.RowKit
open Zl2 (split_one split_more)
def spl (d:UInt8):List UInt8->List (List UInt8)
 | []=>[[]]
 | c :: r=>if c=d then [] :: spl d r else match spl d r with
   | x :: t=>(c :: x) :: t
   | []=>[[c]]
theorem spl_cons_ne {d c:UInt8} (h:c≠d) (r:List UInt8):spl d (c :: r)=match spl d r with
 | x :: t=>(c :: x) :: t
 | []=>[[c]]:=by
 show (if c=d then _ else _)=_
 rw [if_neg h]
theorem spl_cons_eq (d:UInt8) (r:List UInt8):spl d (d :: r)=[] :: spl d r:=by
 show (if d=d then _ else _)=_
 rw [if_pos rfl]
theorem spl_ne (d:UInt8) (s:List UInt8):spl d s≠[]:=by
 cases s with
 | nil=>simp [spl]
 | cons c r =>
   unfold spl
   split
   ·simp
   ·split<;>simp
theorem spl_none {d:UInt8} {s:List UInt8} (h:∀ c∈s,c≠d):spl d s=[s]:=by
 induction s with
 | nil=>rfl
 | cons c r ih =>
   unfold spl
   rw [if_neg (h c (by simp)),ih (fun x hx=>h x (by simp [hx]))]
theorem spl_app {d:UInt8} {a r:List UInt8} (h:∀ c∈a,c≠d):spl d (a++d :: r)=a :: spl d r:=by
 induction a with
 | nil=>show (if d=d then [] :: spl d r else _)=_;rw [if_pos rfl]
 | cons c l ih =>
   rw [List.cons_append,spl_cons_ne (h c (by simp)),ih (fun x hx=>h x (by simp [hx]))]
theorem first_or (d:UInt8) (s:List UInt8):(∀ c∈s,c≠d)\/∃ a r,s=a++d :: r/\∀ c∈a,c≠d:=by
 induction s with
 | nil=>exact .inl (fun c hc=>by cases hc)
 | cons c l ih =>
   by_cases e:c=d
   ·subst e;exact .inr ⟨[],l,rfl,fun c hc=>by cases hc⟩
   ·rcases ih with h|⟨a,r,rfl,h⟩
    ·exact .inl (fun x hx=>by rcases List.mem_cons.1 hx with rfl|hx;exact e;exact h x hx)
    ·exact .inr ⟨c :: a,r,rfl,fun x hx=>by rcases List.mem_cons.1 hx with rfl|hx;exact e;exact h x hx⟩
theorem split_spl (d:UInt8):∀ (n:Nat) (s:List UInt8),s.length<=n->Lib.split s [d]=spl d s:=by
 intro n
 induction n with
 | zero =>
   intro s hs
   have:s=[]:=List.eq_nil_of_length_eq_zero (by omega)
   subst this
   exact split_one (fun c hc=>by cases hc)
 | succ n ih =>
   intro s hs
   rcases first_or d s with h|⟨a,r,rfl,h⟩
   ·rw [split_one h,spl_none h]
   ·rw [split_more h,spl_app h,ih r (by simp at hs;omega)]
theorem split_eq (d:UInt8) (s:List UInt8):Lib.split s [d]=spl d s:=split_spl d s.length s (Nat.le_refl _)
/-- The last piece. -/
def lastP (d:UInt8) (s:List UInt8):List UInt8:=(spl d s).getLast (spl_ne d s)
theorem spl_last (d:UInt8) (s:List UInt8):(spl d s).dropLast++[lastP d s]=spl d s:=List.dropLast_concat_getLast (spl_ne d s)
theorem spl_snoc_d (d:UInt8) (s:List UInt8):spl d (s++[d])=spl d s++[[]]:=by
 induction s with
 | nil=>show (if d=d then [] :: spl d [] else _)=_;rw [if_pos rfl];rfl
 | cons c r ih =>
   rw [List.cons_append]
   by_cases e:c=d
   ·subst e
    rw [spl_cons_eq,spl_cons_eq,ih]
    rfl
   ·rw [spl_cons_ne e,spl_cons_ne e,ih]
    cases hx:spl d r with
    | nil=>exact absurd hx (spl_ne d r)
    | cons x t=>rfl
theorem spl_snoc (d:UInt8) {c:UInt8} (h:c≠d) (s:List UInt8):spl d (s++[c])=(spl d s).dropLast++[lastP d s++[c]]:=by
 rcases first_or d s with hn|⟨a,r,rfl,hn⟩
 ·rw [spl_none (s:=s++[c]) (fun x hx=>by
   rcases List.mem_append.1 hx with e|e
   ·exact hn x e
   ·rw [List.mem_singleton.1 e];exact h)]
  have e:=spl_none hn
  have:lastP d s=s:=by unfold lastP;simp [e]
  rw [this,e]
  rfl
 ·have key:∀ (n:Nat) (s:List UInt8),s.length<=n->spl d (s++[c])=(spl d s).dropLast++[lastP d s++[c]]:=by
   intro n
   induction n with
   | zero =>
     intro s hs
     have:s=[]:=List.eq_nil_of_length_eq_zero (by omega)
     subst this
     show (if c=d then _ else _)=_
     rw [if_neg h]
     rfl
   | succ n ih =>
     intro s hs
     rcases first_or d s with hn|⟨a,r,rfl,hn⟩
     ·rw [spl_none (s:=s++[c]) (fun x hx=>by
       rcases List.mem_append.1 hx with e|e
       ·exact hn x e
       ·rw [List.mem_singleton.1 e];exact h)]
      have e:=spl_none hn
      have:lastP d s=s:=by unfold lastP;simp [e]
      rw [this,e]
      rfl
     ·have e1:a++d :: r++[c]=a++d :: (r++[c]):=by simp
      have hl:lastP d (a++d :: r)=lastP d r:=by
       unfold lastP
       simp [spl_app hn,List.getLast_cons (spl_ne d r)]
      rw [e1,spl_app hn,spl_app hn,ih r (by simp at hs;omega),hl,List.dropLast_cons_of_ne_nil (spl_ne d r)]
      rfl
  exact key _ _ (Nat.le_refl _)
end Zl3
namespace Zl5
open Go.RowKit
open Nd0 (Kept Ints WInts IntsIn At lt_of_cell)
open Ap0
open Mm0 (Mc Mb Mr Mok mval)
open Mx0 (Mf Mz)
open Qc0 (Sn)
open Mw9 (OwSo run_so)
open Ss0 (bs bs_size bs_of)
open Ss1 (tl tl_bs bs_tl tl_length)
open Ss2 (Strs)
open Zk0 (rnP cutF cutS cutF_le cutS_le)
open Zt0 (TabZ iReadNumber iCut)
open Zl0 Zl1
theorem iSplit (b:List UInt8) (w:World) (hT:TabZ w) (hb:b.length<=1048576) :
 Calls Tryz.prog 164 #[.string (bs b),.string ⟨#[32]⟩] w fun e w'=>(∃ g,e=.returned (.slice (some ⟨g,0,none⟩) (wds b).length (wds b).length)/\w.heap.size<=g/\Strs w' (some ⟨g,0,none⟩) (wds b))/\Below w.heap.size w w':=by
 obtain ⟨m,hm⟩:=hT.max
 have hlen:(Lib.splitB ⟨#[32]⟩ 0 (Lib.countB (bs b) ⟨#[32]⟩) (bs b)).length=Lib.countB (bs b) ⟨#[32]⟩+1:=Lib.splitB_all _ (by decide) 0 _ _ rfl
 have hdat:(Lib.splitB ⟨#[32]⟩ 0 (Lib.countB (bs b) ⟨#[32]⟩) (bs b)).map (·.data.toList)=wds b:=Lib.splitB_data _ 0 _ _
 have hwl:(wds b).length=Lib.countB (bs b) ⟨#[32]⟩+1:=by rw [<- hdat,List.length_map,hlen]
 have hcnt:=Lib.countB_le ⟨#[32]⟩ (by decide) _ (bs b) (Nat.le_refl _)
 rw [bs_size] at hcnt
 refine (Tryz.strings_Split (bs b) ⟨#[32]⟩ m w (by rw [bs_size];omega) hm (by decide)).mono ?_
 rintro e w' ⟨rfl,rfl⟩
 refine ⟨⟨w.heap.size,by rw [hwl],Nat.le_refl _,by rw [hwl];unfold maxLen;omega,.inr ⟨w.heap.size,0,rfl,fun i hi=>?_⟩⟩,(Below.refl _ _).alloc (Nat.le_refl _) _⟩
 rw [Nat.zero_add,World.cell?_alloc_new]
 have hi2:i < (Lib.splitB ⟨#[32]⟩ 0 (Lib.countB (bs b) ⟨#[32]⟩) (bs b)).length:=by rw [hlen,<- hwl];exact hi
 have e:(wds b)[i]=((Lib.splitB ⟨#[32]⟩ 0 (Lib.countB (bs b) ⟨#[32]⟩) (bs b))[i]).data.toList:=by
  simp only [<- hdat]
  rw [List.getElem_map]
 rw [e,bs_of]
 simp [hi2]
theorem strs_kept {W W':World} {g:Nat} {L:List (List UInt8)} (h:Strs W (some ⟨g,0,none⟩) L) {S:Nat->Prop} (k:Kept S W W') (hs:¬ S g):Strs W' (some ⟨g,0,none⟩) L:=by
 refine ⟨h.1,?_⟩
 rcases h.2 with e|⟨b,o,ha,hc⟩
 ·exact .inl e
 ·cases ha
  exact .inr ⟨g,0,rfl,fun i hi=>by rw [k.cell (p:=⟨g,0+i,none⟩) (lt_of_cell (hc i hi)) hs];exact hc i hi⟩
/-- What reading numbers comes to. -/
def RnO (W:World) (o:Option (List Int)) (e:Ending) (w':World):Prop :=
 (∀ l,o=some l->∃ a c,e=.returned (.tuple #[.slice a l.length c,.bool true])/\WInts w' W.heap.size a l)/\(o=none->∃ a n c,e=.returned (.tuple #[.slice a n c,.bool false]))/\Below W.heap.size W w'
theorem nums_no {b:List UInt8} {x:List UInt8} (hx:x∈wds b) (h:(rnP x).2=false):numsP b=none:=by
 unfold numsP
 rw [if_neg]
 intro e
 have:=List.all_eq_true.1 e x hx
 rw [h] at this
 cases this
theorem iNums (b:List UInt8) (w:World) (hT:TabZ w) (hb:b.length<=400000) :
 Calls Tryz.prog 144 #[.string (bs b)] w (RnO w (numsP b)):=by
 have HT:Hid (TabZ w):=hT
 have hA:Below w.heap.size w (w.alloc (.cells #[] 3)):=(Below.refl _ _).alloc (Nat.le_refl _) _
 have HSP:Hid _:=iSplit b (w.alloc (.cells #[] 3)) (hT.below hA) (by omega)
 have HA:Hid (Below w.heap.size w (w.alloc (.cells #[] 3))):=hA
 have HO0:Hid (Ows (w.alloc (.cells #[] 3)) w.heap.size (.slice (some ⟨w.heap.size,0,none⟩) 0 0) []):=Ows.lit _ _ (Nat.le_refl _)
 have hwl:(wds b).length<=400001:=by
  have:=Zl3.split_eq 32 b
  unfold wds
  rw [this]
  have h2:∀ s:List UInt8,(Zl3.spl 32 s).length<=s.length+1:=by
   intro s
   induction s with
   | nil=>exact Nat.le_refl _
   | cons c r ih =>
     by_cases e:c=32
     ·subst e;rw [Zl3.spl_cons_eq];simp;omega
     ·rw [Zl3.spl_cons_ne e]
      cases hx:Zl3.spl 32 r with
      | nil=>exact absurd hx (Zl3.spl_ne 32 r)
      | cons x t=>rw [hx] at ih;simp at ih ⊢;omega
  have:=h2 b
  omega
 have HNO:Hid (∀ x∈wds b,(rnP x).2=false->numsP b=none):=fun x hx h=>nums_no hx h
 have HYE:Hid ((∀ x∈wds b,(rnP x).2=true)->numsP b=some ((wds b).map fun x=>(rnP x).1)):=fun h=>by unfold numsP;rw [if_pos (List.all_eq_true.2 h)]
 have HSZ:Hid (∀ x∈wds b,x.length<=1048576):=fun x hx=>by
  unfold wds at hx
  rw [Zl3.split_eq] at hx
  have h2:∀ (s:List UInt8),∀ x∈Zl3.spl 32 s,x.length<=s.length:=by
   intro s
   induction s with
   | nil=>intro x hx;simp [Zl3.spl] at hx;subst hx;exact Nat.le_refl _
   | cons c r ih =>
     intro x hx
     by_cases e:c=32
     ·subst e
      rw [Zl3.spl_cons_eq] at hx
      rcases List.mem_cons.1 hx with rfl|hx
      ·simp
      ·have:=ih x hx;simp;omega
     ·rw [Zl3.spl_cons_ne e] at hx
      cases hy:Zl3.spl 32 r with
      | nil=>exact absurd hy (Zl3.spl_ne 32 r)
      | cons y t =>
        rw [hy] at hx ih
        rcases List.mem_cons.1 hx with rfl|hx
        ·have:=ih y (by simp);simp;omega
        ·have:=ih x (by simp [hx]);simp;omega
  have:=h2 b x hx
  omega
 obtain ⟨L,hL⟩:∃ L,L=wds b:=⟨_,rfl⟩
 rw [<- hL] at HSP HNO HYE HSZ hwl
 clear hA hL hT hb
 obtain ⟨n,hn⟩:∃ n,n=L.length:=⟨_,rfl⟩
 rw [<- hn] at HSP hwl
 have HN:Hid (n=L.length):=hn
 clear hn
 go_enter Tryz.func144,Tryz.ntmps144
 go_wp2_with fail
 refine Calls.mono HSP.out ?_
 rintro e w1 ⟨⟨gs,rfl,hgs,hst⟩,hb1⟩
 have hgs2:w.heap.size < gs:=by have h9:=hgs;simp at h9;omega
 clear hgs
 have HB1:Hid (Below w.heap.size w w1):=HA.out.trans (hb1.mono HA.out.size)
 have HO1:Hid (Ows w1 w.heap.size (.slice (some ⟨w.heap.size,0,none⟩) 0 0) []):=HO0.out.kept (S:=fun _=>False) (Kept.ofBelow hb1) (fun _ _ e=>e)
 have HS1:Hid (Strs w1 (some ⟨gs,0,none⟩) L):=hst
 clear hb1 hst HA HO0 HSP
 go_wp2
 go_loopw [4,13] (fun v i wr=>∃ k g cp:Nat,k<=n/\i=.int .i64 k/\v=.slice (some ⟨g,0,none⟩) k cp/\g≠gs/\Ows wr w.heap.size v ((L.take k).map fun x=>(rnP x).1)/\Below w.heap.size w wr/\Strs wr (some ⟨gs,0,none⟩) L/\∀ j (hj:j < L.length),j < k->(rnP L[j]).2=true) (fun _ i _=>n - (intOf i).toNat)
 case atStart=>exact ⟨0,w.heap.size,0,Nat.zero_le _,rfl,rfl,by omega,HO1.out,HB1.out,HS1.out,fun j _ h=>by omega⟩
 case round =>
  clear HO1 HB1 HS1
  obtain ⟨k,g,cp,hk,rfl,rfl,hgg,ho,hbr,hst,hok⟩:=hrel
  have HGG:Hid (g≠gs):=hgg
  clear hgg
  obtain ⟨TK,hTK⟩:∃ t,t=(L.take k).map fun x=>(rnP x).1:=⟨_,rfl⟩
  rw [<- hTK] at ho
  have HTL:Hid (TK.length=k):=by show _=_;rw [hTK,List.length_map,List.length_take];have:=HN.out;omega
  have HTK:Hid (TK=(L.take k).map fun x=>(rnP x).1):=hTK
  have HO:Hid (Ows wr w.heap.size (.slice (some ⟨g,0,none⟩) k cp) TK):=ho
  have HB:Hid (Below w.heap.size w wr):=hbr
  have HS:Hid (Strs wr (some ⟨gs,0,none⟩) L):=hst
  have HOK:Hid (∀ j (hj:j < L.length),j < k->(rnP L[j]).2=true):=hok
  clear ho hbr hst hok hTK
  by_cases hlt:k < n
  ·have hlz:(k:Int) < (n:Int):=by omega
   have hkl:k < L.length:=by have:=HN.out;omega
   have hc:wr.cell? ⟨gs,k,none⟩=some (.string (bs L[k])):=by
    rcases HS.out.2 with e|⟨b',o',e,hc⟩
    ·omega
    ·cases e
     have:=hc k hkl
     rwa [Nat.zero_add] at this
   have hgl:=lt_of_cell hc
   have HRN:Hid (∀ W,TabZ W->Calls Tryz.prog 45 #[.string (bs L[k])] W fun e w'=>e=.returned (.tuple #[.int .i64 (rnP L[k]).1,.bool (rnP L[k]).2])/\Below W.heap.size W w'):=fun W h=>by
    have:=iReadNumber (bs L[k]) W h (by rw [bs_size];exact HSZ.out _ (List.getElem_mem hkl))
    rwa [tl_bs] at this
   have HNK:Hid ((rnP L[k]).2=false->numsP b=none):=HNO.out _ (List.getElem_mem hkl)
   have HNX:Hid ((L.take (k+1)).map (fun x=>(rnP x).1)=TK++[(rnP L[k]).1]):=by
    show _=_
    rw [List.take_succ_eq_append_getElem hkl,List.map_append,<- HTK.out]
    rfl
   have HOX:Hid ((rnP L[k]).2=true->∀ j (hj:j < L.length),j < k+1->(rnP L[j]).2=true):=fun h j hj h2=>by
    by_cases e:j=k
    ·subst e;exact h
    ·exact HOK.out j hj (by omega)
   obtain ⟨x,hx⟩:∃ x,x=(rnP L[k]).1:=⟨_,rfl⟩
   obtain ⟨y,hy⟩:∃ y,y=(rnP L[k]).2:=⟨_,rfl⟩
   rw [<- hx] at HRN HNX
   rw [<- hy] at HRN HNK HOX
   generalize L[k]=lk at *
   clear hx hy
   cases y
   ·have HF:Hid (numsP b=none):=HNK.out rfl
    go_wp2_with (go_at_call 45;refine (HRN.out _ (HT.out.below HB.out)).mono ?_;rintro e w4 ⟨rfl,hb4⟩;have HB4:Hid (Below w.heap.size w w4):=HB.out.trans (hb4.mono HB.out.size);clear hb4)
    go_ret2
    exact ⟨fun l hl=>(by rw [HF.out] at hl;cases hl),fun _=>⟨_,_,_,rfl⟩,HB4.out.alloc HB4.out.size _⟩
   ·have HY2:Hid _:=HOX.out rfl
    go_wp2_with (first|(go_at_call 45;refine (HRN.out _ (HT.out.below HB.out)).mono ?_;rintro e w4 ⟨rfl,hb4⟩;have HB4:Hid (Below w.heap.size w w4):=HB.out.trans (hb4.mono HB.out.size);have HO4:Hid (Ows w4 w.heap.size (.slice (some ⟨g,0,none⟩) k cp) TK):=HO.out.kept (S:=fun _=>False) (Kept.ofBelow hb4) (fun _ _ e=>e);have HS4:Hid (Strs w4 (some ⟨gs,0,none⟩) L):=HS.out.below hb4;have HGL:Hid (gs < w4.heap.size):=Nat.lt_of_lt_of_le hgl hb4.size;clear hb4)|(at_builtin;go_must (refine app_int _ rfl _ _ rfl w.heap.size (.slice (some ⟨g,0,none⟩) k cp) TK x rfl rfl HO4.out HB4.out.size (by rw [HTL.out];omega) ?_;rw [HTL.out];intro g5 cp5 w5 ho5 hk5 hg5;have HO5:Hid (Ows w5 w.heap.size (.slice (some ⟨g5,0,none⟩) (k+1) cp5) (TK++[x])):=ho5;have HK5:Hid (Kept (fun i=>(Value.slice (some ⟨g,0,none⟩) k cp).ownBlock=some i) w4 w5):=hk5;have HG5:Hid (g5≠gs):=(by show g5≠gs;have h1:=HGG.out;have h2:=HGL.out;rcases hg5 with e|e;(cases e;exact h1);omega);clear ho5 hk5 hg5)))
    go_roundw
    case rel=>exact ⟨k+1,g5,cp5,by omega,by go_num,rfl,HG5.out,by rw [HNX.out];exact HO5.out,HB4.out.trans (HK5.out.below (fun i hi=>(HO4.out.lt i hi).1) HB4.out.size),strs_kept HS4.out HK5.out (fun e=>HGG.out (by cases e;rfl)),HY2.out⟩
    case measure=>simp [intOf];omega
  ·have hlz:¬ (k:Int) < (n:Int):=by omega
   have HF:Hid (numsP b=some TK):=by
    show _=_
    rw [HTK.out,List.take_of_length_le (by have:=HN.out;omega)]
    exact HYE.out (fun x hx=>by
     obtain ⟨j,hj,rfl⟩:=List.getElem_of_mem hx
     exact HOK.out j hj (by have:=HN.out;omega))
   obtain ⟨a',c',e',hw'⟩:=HO.out.form
   have HI:Hid (WInts wr w.heap.size (some ⟨g,0,none⟩) TK):=by cases e';exact hw'
   clear e' hw'
   go_wp2
   go_ret2
   exact ⟨fun l hl=>(by rw [HF.out] at hl;cases hl;exact ⟨_,_,by rw [HTL.out];rfl,HI.out⟩),fun h=>(by rw [HF.out] at h;cases h),HB.out⟩
end Zl5
namespace Zl6
open Go.RowKit
open Nd0 (Kept Ints WInts IntsIn At lt_of_cell)
open Mm0 (Mc Mb Mr Mok mval)
open Mx0 (Mf Mz)
open Qc0 (Sn)
open Mw9 (OwSo run_so)
open Ss0 (bs bs_size)
open Ss1 (tl tl_bs bs_tl tl_length)
open Zk0 (rnP cutF cutS cutF_le cutS_le)
open Zt0 (TabZ iReadNumber iCut)
open Zl0 Zl1
theorem list_so {ops:Array Oper} {rest:List Oper} {o:Oper} {a:Act} {Q:Exit->Act->World->Prop} (W:World) (hgd:o.guard=none) (s x:Operand)
 (ho:o.op=.call { callee:=.builtin .append,args := #[s,x],argTypes := #[28,28] })
 (B:Nat) (ao:Option Addr) (c:Nat) (l:List Sn) (y:Sn) (hs:a.eval s=.slice ao l.length c) (G:Nat) (hx:a.eval x=.slice (some ⟨G,0,none⟩) 1 1)
 (hy0:W.cell? ⟨G,0,none⟩=some (.string y.k)) (hy1:W.cell? ⟨G,1,none⟩=some (.int .i64 y.r))
 (hown:OwSo W B (.slice ao l.length c) l) (hB:B<=W.heap.size) (hlen:l.length<=1048576)
 (h:∀ g q cap w',OwSo w' B (.slice (some ⟨g,q,none⟩) (l.length+1) cap) (l++[y])->Kept (At ao) W w'->(At ao g\/W.heap.size<=g)->wpList Tryz.prog ops Q rest (a.put o.dst (.slice (some ⟨g,q,none⟩) (l.length+1) cap)) w') :
 wpList Tryz.prog ops Q (o :: rest) a W:=by
 have hw:Region.wanted o (yielded ops a.tmps)=true:=by simp [Region.wanted,hgd]
 show if Region.wanted o (yielded ops a.tmps)=true then _ else _
 rw [if_pos hw]
 left
 obtain ⟨g,q,cap,w',hrun,q1,q2,q3⟩:=run_so W o.type B ao c l y G hy0 hy1 hown hB hlen
 unfold Oper.wp
 simp [execOp,ho,resolve,invoke,builtin,hs,hx,hrun,Result.andThen]
 exact h g q cap w' q1 q2 q3
theorem r7 (W:World) (q:Nat) (m:Mc) (ra va ma:Option Addr) (rc vc mc u1 u2:Nat) (h:Ld W q m ra va ma rc vc mc u1 u2) (b:List UInt8) (hb:b.length<=400000) (hT:TabZ W) (k:Nat) (hml:m.memo.length<=400000) :
 Calls Tryz.prog 146 #[.pointer (some ⟨q,0,none⟩),.string (bs b)] W (RdO W q ma (rd m b (k+7))):=by
 have HL:Hid (Ld W q m ra va ma rc vc mc u1 u2):=h
 have HT:Hid (TabZ W):=hT
 have HC:Hid _:=iCut 32 (bs b) W hT (by rw [bs_size];omega)
 rw [tl_bs] at HC
 have hl2:(cutS 32 b).length<=1048576:=by have:=cutS_le 32 b;omega
 have HN:Hid (∀ w,TabZ w->Calls Tryz.prog 45 #[.string (bs (cutS 32 b))] w fun e w'=>e=.returned (.tuple #[.int .i64 (rnP (cutS 32 b)).1,.bool (rnP (cutS 32 b)).2])/\Below w.heap.size w w'):=fun w hw=>by
  have:=iReadNumber (bs (cutS 32 b)) w hw (by rw [bs_size];exact hl2)
  rwa [tl_bs] at this
 obtain ⟨x,hx⟩:∃ x,x=(rnP (cutS 32 b)).1:=⟨_,rfl⟩
 obtain ⟨y,hy⟩:∃ y,y=(rnP (cutS 32 b)).2:=⟨_,rfl⟩
 obtain ⟨X,hX⟩:∃ X,X=bs (cutF 32 b):=⟨_,rfl⟩
 obtain ⟨Y,hY⟩:∃ Y,Y=bs (cutS 32 b):=⟨_,rfl⟩
 have HR:Hid (rd m b (k+7)=if y=true then some { m with memo:=m.memo++[⟨X,x⟩] } else none):=by show _=_;rw [hx,hy,hX];rfl
 rw [<- hx,<- hy,<- hY] at HN
 rw [<- hX,<- hY] at HC
 clear h hT hb hx hy hX hY hl2
 go_enter Tryz.func146,Tryz.ntmps146
 go_wp2_with fail
 refine Calls.mono HC.out ?_
 rintro e w1 ⟨⟨cb,rfl⟩,hb1⟩
 have HB1:Hid (Below W.heap.size W w1):=hb1
 clear hb1
 go_wp2_with fail
 refine (HN.out _ (HT.out.below HB1.out)).mono ?_
 rintro e w2 ⟨rfl,hb2⟩
 have HB2:Hid (Below W.heap.size W w2):=HB1.out.trans (hb2.mono HB1.out.size)
 have HL2:Hid (Ld w2 q m ra va ma rc vc mc u1 u2):=HL.out.below HB2.out
 clear hb2
 obtain ⟨c0,c1,c2,c3,c4,c5,c6,c7,c8,c9,c10,z0,z1,z2,z3,z4,z5,z6,z7,z8,z9,z10⟩:=HL2.out.mf.all
 have hq:=HL2.out.lt
 have HAq:Hid (∀ j,At ma j->m.memo.length≠0\/True->u2<=j\/m.memo=[]):=fun j hj _=>by
  rcases HL2.out.memo with ⟨_,e⟩|⟨g,o,cap,e,hB,_⟩
  ·exact .inr e
  ·obtain ⟨a,ha,rfl⟩:=hj
   rw [ha] at e
   cases e
   exact .inl hB
 have HAn:Hid (¬ At ma q):=by
  intro hj
  rcases HL2.out.memo with ⟨e,_⟩|⟨g,o,cap,e,hB,_⟩
  ·obtain ⟨a,ha,_⟩:=hj
   rw [ha] at e
   cases e
  ·obtain ⟨a,ha,hqa⟩:=hj
   rw [ha] at e
   cases e
   have:=HL2.out.h1
   have:=HL2.out.h2
   simp at hqa
   omega
 have HA3:Hid (Ld (w2.alloc (.cells #[.string X,.int .i64 x] 40)) q m ra va ma rc vc mc u1 u2):=HL2.out.below ((Below.refl _ _).alloc (Nat.le_refl _) _)
 have HK3:Hid (Kept (fun b=>b=q\/At ma b) W (w2.alloc (.cells #[.string X,.int .i64 x] 40))):=(Kept.ofBelow HB2.out).trans ((Kept.refl _ _).alloc _)
 go_wp2_with (at_builtin;go_must (refine list_so _ rfl _ _ rfl u2 ma mc m.memo ⟨X,x⟩ rfl w2.heap.size rfl (by simp) (by simp) HA3.out.memo HA3.out.h3 (by omega) ?_;intro g9 o9 cap9 w9 ho9 hk9 hg9;have HO9:Hid (OwSo w9 u2 (.slice (some ⟨g9,o9,none⟩) (m.memo.length+1) cap9) (m.memo++[⟨X,x⟩])):=ho9;have HK9:Hid (Kept (At ma) (w2.alloc (.cells #[.string X,.int .i64 x] 40)) w9):=hk9;have hm9:=HA3.out.mf.kept hk9 HAn.out;have hq9:=hm9.lt (by simp);have y10:=(hm9 10 (by simp)).1;have x10:=(hm9 10 (by simp)).2;have HM9:Hid (Mf w9 q [.slice ra m.row.length rc,.int .i64 m.N,.string m.S,.int .i64 m.room,.slice va m.vals.length vc,.int .i64 m.ret,.bool m.over,.int .i64 m.steps,.int .i64 m.looks,.int .i64 m.hits,.slice ma m.memo.length mc]):=hm9;simp at y10;clear ho9 hk9 hm9))
 go_ret
 have K:Kept (fun b=>b=q) w9 (w9.setCell ⟨q,10,none⟩ (.slice (some ⟨g9,o9,none⟩) (m.memo.length+1) cap9)):=(Kept.refl (fun b=>b=q) w9).setCell (p:=⟨q,10,none⟩) rfl _
 refine ⟨?_,fun m' hm'=>?_,(HK3.out.trans (HK9.out.mono (fun b hb=>.inr hb))).trans (K.mono (fun b hb=>.inl hb))⟩
 ·rw [HR.out];cases y<;>rfl
 ·rw [HR.out] at hm'
  cases y
  ·cases hm'
  ·cases hm'
   have L:=HA3.out
   have hsz:=HK9.out.size
   refine ⟨ra,va,some ⟨g9,o9,none⟩,rc,vc,cap9,u1,u2,?_,L.h1,L.h2,?_,?_,?_,?_,fun e=>by simp at e⟩
   ·have:=HM9.out.set 10 (.slice (some ⟨g9,o9,none⟩) (m.memo.length+1) cap9)
    simpa using this
   ·have:=K.size;have:=L.h3;omega
   ·refine (L.row.kept HK9.out (fun b h1 h2 h3=>?_)).kept K (fun b h1 h2=>by omega)
    rcases HAq.out b h3 (.inr trivial) with e|e
    ·have:=L.h2;omega
    ·obtain ⟨a,ha,hba⟩:=h3
     rcases L.memo with ⟨e2,_⟩|⟨g,o,cap,e2,hB,_⟩
     ·rw [ha] at e2;cases e2
     ·rw [ha] at e2;cases e2;simp at hba;have:=L.h2;omega
   ·refine (L.vals.kept HK9.out (fun b h1 h2 h3=>?_)).kept K (fun b h1 h2=>by have:=L.h1;omega)
    obtain ⟨a,ha,hba⟩:=h3
    rcases L.memo with ⟨e2,_⟩|⟨g,o,cap,e2,hB,_⟩
    ·rw [ha] at e2;cases e2
    ·rw [ha] at e2;cases e2;simp at hba;omega
   ·have h9:=HO9.out.kept K (fun g o n c e=>by have:=(HO9.out.lt g o n c e).1;have:=L.h1;have:=L.h2;omega)
    simpa using h9
end Zl6
end Go.Proofs.YtjajkmdoggbicaaGreatDoor
