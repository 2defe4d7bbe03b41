import Derived.Deep.RegionHeld3
import Derived.Deep.CutBlock
import Derived.Deep.CutRange
import Derived.Shelf.Strings.Builder1
import Derived.Shelf.Strings.Builder2
import Derived.Shelf.Strings.OnBuilder
import Derived.Shelf.Strconv.Atoi
import Derived.Shelf.Strconv.Itoa0
import Derived.Shelf.Strconv.Itoa1
import Derived.Shelf.LaysM
import Derived.Shelf.Strconv.Itoa2
import Derived.Shelf.Strconv.Itoa3
import Derived.Shelf.Strconv.AtoiErrFast
import Derived.Shelf.Strconv.ParseIntEmpty
import Derived.Shelf.Strconv.AtoiFail
import Derived.Shelf.Strconv.Clone
import Derived.Shelf.Strconv.SyntaxError
import Derived.Shelf.LaysC
import Derived.Shelf.Strconv.ToError
import Derived.Shelf.Strconv.Lower
import Derived.Shelf.Strconv.ParseUint10
import Derived.Shelf.Strconv.ParseUint10Empty
import Derived.Shelf.Strconv.ParseUint10Any
import Derived.Shelf.Strconv.ParseInt10
import Derived.Shelf.Strconv.AtoiLong
import Derived.Shelf.Strconv.AtoiInnerAll
import Derived.Shelf.Strconv.RangeError
import Derived.Shelf.Strconv.ToErrorRange
import Derived.Shelf.Strconv.AtoiAll
import Derived.Shelf.Strings.Search1
import Derived.Shelf.Strings.Search2
import Derived.Shelf.Strings.Search3
import Derived.Shelf.Strings.Cut
import Derived.Shelf.Strings.Count
import Derived.Shelf.Strings.Shaped
import Derived.Shelf.Strings.Split
import Derived.Shelf.Strings.SplitShaped
import Derived.Shelf.Unicode.DecodeSlow
import Derived.Test.YtjajkmdoggbicaaGreatDoorProg
import Derived.Test.YtjajkmdoggbicaaGreatDoorRows
import Derived.WalkKit
import Derived.Test.YtjajkmdoggbicaaGreatDoorPkSV4
import Derived.Test.YtjajkmdoggbicaaGreatDoorPkSV9
import Derived.Test.YtjajkmdoggbicaaGreatDoorPkSV2
namespace Go.Proofs.YtjajkmdoggbicaaGreatDoor
set_option maxRecDepth 100000
set_option maxHeartbeats 8000000
set_option linter.unusedVariables false
namespace Mm1
open Go.RowKit
open Ta0 Ta1 Ta2 Ta3 Tc2 Tc5 Td1 Td2 Td4 Mc0 Mm0
open Nd0 (Kept Ints set_other set_same lt_of_cell)
open Ss0 (bs bs_size)
def bi (b:Bool):Int:=(b.toNat:Int)
theorem lft_snoc {n:Nat} (F:Nat->Bool) (vs:List Bool) (b:Bool) (h:vs.length < n) (q:Nat):hb (n - vs.length - 1) b.toNat (lft n F vs) q=lft n F (vs++[b]) q:=by
 unfold hb lft
 rw [pl_snoc,List.length_append,List.length_singleton]
 congr 1
 have e:n - vs.length=(n - (vs.length+1))+1:=by omega
 have e2:n - vs.length - 1=n - (vs.length+1):=by omega
 rw [e2,e,Nat.pow_succ,Nat.add_mul,Nat.mul_comm 2 (pl vs),Nat.mul_assoc (pl vs) 2,Nat.mul_comm 2,Nat.add_assoc]
/-- What stands while halves are taken. -/
structure LS (w:World) (m:Mc) (ra va ma:Option Addr) (rc vc mc q1 q2 q3:Nat) (e:Int) (S:ByteArray) (W:World):Prop where
 mb:Mb W q1 m ra va ma rc vc mc
 rs:Lay W q2 (.int .i64 0) (.string ByteArray.empty)
 t:Lay W q3 (.int .i64 e) (.string S)
 bel:Below w.heap.size w W
theorem LS.below {w W W':World} {m:Mc} {ra va ma:Option Addr} {rc vc mc q1 q2 q3:Nat} {e:Int} {S:ByteArray} (h:LS w m ra va ma rc vc mc q1 q2 q3 e S W) (k:Below W.heap.size W W'):LS w m ra va ma rc vc mc q1 q2 q3 e S W' :=
 ⟨h.mb.below k,h.rs.below k,h.t.below k,h.bel.trans (k.mono h.bel.size)⟩
theorem LS.alloc {w W:World} {m:Mc} {ra va ma:Option Addr} {rc vc mc q1 q2 q3:Nat} {e:Int} {S:ByteArray} (h:LS w m ra va ma rc vc mc q1 q2 q3 e S W) (o:Obj):LS w m ra va ma rc vc mc q1 q2 q3 e S (W.alloc o):=h.below ((Below.refl _ _).alloc (Nat.le_refl _) _)
theorem LS.drew {w W:World} {m:Mc} {ra va ma:Option Addr} {rc vc mc q1 q2 q3:Nat} {e:Int} {S:ByteArray} (h:LS w m ra va ma rc vc mc q1 q2 q3 e S W):LS w m ra va ma rc vc mc q1 q2 q3 e S W.drew:=h.below (Below.refl _ _).drew
theorem LS.put {w W:World} {m:Mc} {ra va ma:Option Addr} {rc vc mc q1 q2 q3:Nat} {e:Int} {S:ByteArray} (h:LS w m ra va ma rc vc mc q1 q2 q3 e S W) (h1:q1≠q3) (h2:q2≠q3) (h3:w.heap.size<=q3) (e':Int) (S':ByteArray):LS w m ra va ma rc vc mc q1 q2 q3 e' S' ((W.setCell ⟨q3,0,none⟩ (.int .i64 e')).setCell ⟨q3,1,none⟩ (.string S')):=by
 have K:Kept (fun b=>b=q3) W ((W.setCell ⟨q3,0,none⟩ (.int .i64 e')).setCell ⟨q3,1,none⟩ (.string S')):=kset (S:=fun b=>b=q3) (kset (S:=fun b=>b=q3) (Kept.refl (fun b=>b=q3) W) rfl _) rfl _
 exact ⟨h.mb.kept K h1,h.rs.kept K h2,h.t.put _ _,h.bel.trans (K.below (fun b hb=>by omega) h.bel.size)⟩
theorem LS.put2 {w W:World} {m:Mc} {ra va ma:Option Addr} {rc vc mc q1 q2 q3 z:Nat} {e:Int} {S:ByteArray} {x y:Value} (h:LS w m ra va ma rc vc mc q1 q2 q3 e S W) (hL:Lay W z x y) (h1:q1≠z) (h2:q2≠z) (h4:q3≠z) (h3:w.heap.size<=z) (u v:Value):LS w m ra va ma rc vc mc q1 q2 q3 e S ((W.setCell ⟨z,0,none⟩ u).setCell ⟨z,1,none⟩ v):=by
 have K:Kept (fun b=>b=z) W ((W.setCell ⟨z,0,none⟩ u).setCell ⟨z,1,none⟩ v):=kset (S:=fun b=>b=z) (kset (S:=fun b=>b=z) (Kept.refl (fun b=>b=z) W) rfl _) rfl _
 exact ⟨h.mb.kept K h1,h.rs.kept K h2,h.t.kept K h4,h.bel.trans (K.below (fun b hb=>by omega) h.bel.size)⟩
theorem LayE (W:World) (x y:Value) (T:Nat):Lay (W.alloc (.cells #[x,y] T)).drew W.heap.size x y:=(Lay.made W x y T).kept (S:=fun _=>False) (Kept.refl _ _).drew (fun h=>h)
theorem take_bit {vb:List Bool} {j:Nat} (h:j < vb.length):vb.take (j+1)=vb.take j++[vb[j]]:=List.take_succ_eq_append_getElem h
theorem sLeft (n:Nat) (F:Nat->Bool) (vb:List Bool) (m:Mc) (ra va ma:Option Addr) (rc vc mc:Nat) (w:World) (hn:n<=12) (hN:m.N=(n:Int)) (hS:m.S=bs (tab n F)) (hv:m.vals=vb.map bi) (hk:vb.length<=n) (hI:Ints w va m.vals) :
 Calls Tryz.prog 95 #[mval m ra va ma rc vc mc] w fun e w'=>e=.returned (tv ((n - vb.length:Nat):Int) (bs (tab (n - vb.length) (lft n F vb))))/\Below w.heap.size w w':=by
 have HI:Hid (Ints w va m.vals):=hI
 have HVL:Hid (m.vals.length=vb.length):=by show _=_;rw [hv,List.length_map]
 have HN:Hid (m.N=(n:Int)):=hN
 have hvm:m.vals.length<=12:=by have:=HVL.out;omega
 have HVB:Hid (∀ j (h:j < vb.length) (h2:j < m.vals.length),m.vals[j]=bi vb[j]):=fun j h h2=>by simp [hv]
 have HH:Hid (∀ (W:World) (j:Nat) (h:j < vb.length),Calls Tryz.prog 126 #[tv ((n - j:Nat):Int) (bs (tab (n - j) (lft n F (vb.take j)))),.int .i64 (bi vb[j])] W fun e w'=>e=.returned (.tuple #[tv ((n - (j+1):Nat):Int) (bs (tab (n - (j+1)) (lft n F (vb.take (j+1))))),.bool true])/\Below W.heap.size W w'):=fun W j h=>by
  have h1:=sHalf (n - (j+1)) (vb[j].toNat) (lft n F (vb.take j)) W (by omega) vb[j].toNat_le
  rw [show n - (j+1)+1=n - j by omega] at h1
  have e:tab (n - (j+1)) (fun p=>lft n F (vb.take j) (vb[j].toNat*2 ^ (n - (j+1))+p))=tab (n - (j+1)) (lft n F (vb.take (j+1))):=tab_ext fun q hq=>by
   have hl:(vb.take j).length=j:=by rw [List.length_take];omega
   have h2:=lft_snoc (n:=n) F (vb.take j) vb[j] (by rw [hl];omega) q
   rw [hl,show n - j - 1=n - (j+1) by omega] at h2
   rw [take_bit h]
   exact h2
  rw [e] at h1
  exact h1
 obtain ⟨TB,hTB⟩:∃ TB:Nat->ByteArray,TB=fun j=>bs (tab (n - j) (lft n F (vb.take j))):=⟨_,rfl⟩
 have HT0:Hid (TB 0=m.S):=by
  show _=_
  rw [hTB,hS]
  show bs (tab (n - 0) (lft n F (vb.take 0)))=_
  congr 1
  refine tab_ext fun q hq=>?_
  unfold lft
  rw [List.take_zero,pl_nil,Nat.zero_mul,Nat.zero_add]
 have HTE:Hid (TB vb.length=bs (tab (n - vb.length) (lft n F vb))):=by
  show _=_
  rw [hTB]
  show bs (tab (n - vb.length) (lft n F (vb.take vb.length)))=_
  rw [List.take_length]
 have HHT:Hid (∀ (W:World) (j:Nat) (h:j < vb.length),Calls Tryz.prog 126 #[tv ((n - j:Nat):Int) (TB j),.int .i64 (bi vb[j])] W fun e w'=>e=.returned (.tuple #[tv ((n - (j+1):Nat):Int) (TB (j+1)),.bool true])/\Below W.heap.size W w'):=fun W j h=>by rw [hTB];exact HH.out W j h
 rw [<- HTE.out]
 clear HH hTB HTE hS hv hI hN
 obtain ⟨W0,hW0⟩:∃ W0,W0=((w.alloc (.cells #[.slice ra m.row.length rc,.int .i64 m.N,.string m.S,.int .i64 m.room,.slice va m.vals.length vc,.int .i64 m.ret,.bool m.over,.int .i64 m.steps,.int .i64 m.looks,.int .i64 m.hits,.slice ma m.memo.length mc] 30)).alloc (.cells #[.int .i64 0,.string ⟨#[]⟩] 26)).alloc (.cells #[.int .i64 m.N,.string m.S] 26):=⟨_,rfl⟩
 have HL0:Hid (LS w m ra va ma rc vc mc w.heap.size (w.heap.size+1) (w.heap.size+1+1) ((n - 0:Nat):Int) (TB 0) W0):=by
  rw [hW0,HT0.out]
  refine ⟨((Mb.made _ _ _ _ _ _ _ _ _).alloc _).alloc _,?_,?_,(((Below.refl _ _).alloc (Nat.le_refl _) _).alloc (by simp) _).alloc (by simp<;>omega) _⟩
  ·have:=(Lay.made (w.alloc (.cells #[.slice ra m.row.length rc,.int .i64 m.N,.string m.S,.int .i64 m.room,.slice va m.vals.length vc,.int .i64 m.ret,.bool m.over,.int .i64 m.steps,.int .i64 m.looks,.int .i64 m.hits,.slice ma m.memo.length mc] 30)) (.int .i64 0) (.string ⟨#[]⟩) 26).alloc (.cells #[.int .i64 m.N,.string m.S] 26)
   exact (by simpa using this:Lay _ (w.heap.size+1) (.int .i64 0) (.string ⟨#[]⟩))
  ·have:=Lay.made ((w.alloc (.cells #[.slice ra m.row.length rc,.int .i64 m.N,.string m.S,.int .i64 m.room,.slice va m.vals.length vc,.int .i64 m.ret,.bool m.over,.int .i64 m.steps,.int .i64 m.looks,.int .i64 m.hits,.slice ma m.memo.length mc] 30)).alloc (.cells #[.int .i64 0,.string ⟨#[]⟩] 26)) (.int .i64 m.N) (.string m.S) 26
   rw [Nat.sub_zero,<- HN.out]
   simpa using this
 have HE0:Hid (((w.alloc (.cells #[.slice ra m.row.length rc,.int .i64 m.N,.string m.S,.int .i64 m.room,.slice va m.vals.length vc,.int .i64 m.ret,.bool m.over,.int .i64 m.steps,.int .i64 m.looks,.int .i64 m.hits,.slice ma m.memo.length mc] 30)).alloc (.cells #[.int .i64 0,.string ⟨#[]⟩] 26)).alloc (.cells #[.int .i64 m.N,.string m.S] 26)=W0):=hW0.symm
 clear hW0 HT0
 go_enter Tryz.func95,Tryz.ntmps95
 go_upto_region 2 with fail
 rw [HE0.out]
 clear HE0
 obtain ⟨q1,hq1⟩:∃ q1,q1=w.heap.size:=⟨_,rfl⟩
 rw [<- hq1] at HL0 ⊢
 have hq12:q1 < q1+1+1:=by omega
 have HQ1:Hid (q1=w.heap.size):=hq1
 clear hq1
 go_wp2_with fail
 go_loopw [4] (fun i wr=>∃ j:Nat,j<=vb.length/\i=.int .i64 j/\LS w m ra va ma rc vc mc q1 (q1+1) (q1+1+1) ((n - j:Nat):Int) (TB j) wr) (fun i _=>vb.length - (intOf i).toNat)
 case atStart=>exact ⟨0,Nat.zero_le _,rfl,HL0.out⟩
 case round =>
  obtain ⟨j,hj,rfl,hs⟩:=hrel
  have HS:Hid (LS w m ra va ma rc vc mc q1 (q1+1) (q1+1+1) ((n - j:Nat):Int) (TB j) wr):=hs
  clear hs
  have hq3:w.heap.size<=q1+1+1:=by have:=HQ1.out;omega
  have hqw:w.heap.size<=q1:=by have:=HQ1.out;omega
  by_cases hlt:j < vb.length
  ·have hjl:j < m.vals.length:=by rw [HVL.out];exact hlt
   have hjz:(j:Int) < (m.vals.length:Int):=by omega
   rcases HI.out.2 with h0|⟨vx,vo,rfl,hc⟩
   ·omega
   obtain ⟨bj,hbj⟩:∃ bj,bj=bi vb[j]:=⟨_,rfl⟩
   have HPV:Hid (∀ W,Below w.heap.size w W->W.cell? ⟨vx,vo+j,none⟩=some (.int .i64 bj)):=fun W h=>by
    have h2:=hc j hjl
    rw [h.cell (lt_of_cell h2),h2,HVB.out j hlt hjl,hbj]
   have HHj:Hid (∀ W,Calls Tryz.prog 126 #[tv ((n - j:Nat):Int) (TB j),.int .i64 bj] W fun e w'=>e=.returned (.tuple #[tv ((n - (j+1):Nat):Int) (TB (j+1)),.bool true])/\Below W.heap.size W w'):=fun W=>by rw [hbj];exact HHT.out W j hlt
   clear hc hbj
   have hvx:=lt_of_cell (HPV.out _ HS.out.bel)
   have hN0:=HS.out.t.lt
   have m4:=HS.out.mb.c4
   go_upto_region 5 with fail
   clear m4
   generalize ((n - j:Nat):Int)=ej at *
   generalize hj1:((n - (j+1):Nat):Int)=ej1 at *
   have HJ1:Hid (((n - (j+1):Nat):Int)=ej1):=hj1
   clear hj1
   go_cut [5,6] from 16 to 25 (fun s5 s6 wc=>∃ q:Nat,s5=.pointer (some ⟨q,0,none⟩)/\s6=.bool true/\LS w m ra (some ⟨vx,vo,none⟩) ma rc vc mc q1 (q1+1) (q1+1+1) ej (TB j) wc/\Lay wc q (.int .i64 ej1) (.string (TB (j+1))))
   case first =>
    obtain ⟨y0,y1,_,_⟩:=HS.out.t
    have m4:=HS.out.mb.c4
    have pv:=HPV.out _ HS.out.bel
    go_wp2_with fail
    go_region_held3 (fun w'=>w'.cell? ⟨q1,4,none⟩=some (.slice (some ⟨vx,vo,none⟩) m.vals.length vc)/\w'.cell? ⟨q1+1+1,0,none⟩=some (.int .i64 ej)/\w'.cell? ⟨q1+1+1,1,none⟩=some (.string (TB j))/\w'.cell? ⟨vx,vo+j,none⟩=some (.int .i64 bj)) ((first|exact ⟨HS.out.mb.c4,HS.out.t.c0,HS.out.t.c1,HPV.out _ HS.out.bel⟩|exact ⟨hS3.mb.c4,hS3.t.c0,hS3.t.c1,HPV.out _ hS3.bel⟩|exact ⟨(hS3.alloc _).mb.c4,(hS3.alloc _).t.c0,(hS3.alloc _).t.c1,HPV.out _ (hS3.alloc _).bel⟩|exact ⟨(HS.out.alloc _).mb.c4,(HS.out.alloc _).t.c0,(HS.out.alloc _).t.c1,HPV.out _ (HS.out.alloc _).bel⟩|exact ⟨HS.out.drew.mb.c4,HS.out.drew.t.c0,HS.out.drew.t.c1,HPV.out _ HS.out.drew.bel⟩|exact ⟨(HS.out.drew.alloc _).mb.c4,(HS.out.drew.alloc _).t.c0,(HS.out.drew.alloc _).t.c1,HPV.out _ (HS.out.drew.alloc _).bel⟩|exact ⟨(HS.out.alloc _).drew.mb.c4,(HS.out.alloc _).drew.t.c0,(HS.out.alloc _).drew.t.c1,HPV.out _ (HS.out.alloc _).drew.bel⟩|exact ⟨(hS3.put2 hL (by omega) (by omega) (by omega) (by omega) _ _).mb.c4,(hS3.put2 hL (by omega) (by omega) (by omega) (by omega) _ _).t.c0,(hS3.put2 hL (by omega) (by omega) (by omega) (by omega) _ _).t.c1,HPV.out _ (hS3.put2 hL (by omega) (by omega) (by omega) (by omega) _ _).bel⟩)) ((go_at_call 126;(with_reducible refine (HHj.out _).mono ?_);rintro e xa ⟨rfl,hb⟩;(first|have hS3:=hS3.below hb|have hS3:=(hS3.alloc _).below hb|have hS3:=HS.out.drew.below hb|have hS3:=(HS.out.drew.alloc _).below hb|have hS3:=(HS.out.alloc _).drew.below hb);(have hN3:=hS3.t.lt);(first|have hL:=hL.below hb|have hL:=(LayE _ _ _ _).below hb|have hL:=(Lay.made _ _ _ _).below hb|skip);(first|(have hLc:=hL;obtain ⟨l0c,l1c,l2c,l3c⟩:=hLc)|skip);clear hb))
    all_goals
     go_wp2_with fail
     go_meet
     case rel=>first|exact ⟨_,rfl,rfl,hS3.alloc _,Lay.made _ _ _ _⟩|exact ⟨_,rfl,rfl,hS3.put2 hL (by omega) (by omega) (by omega) (by omega) _ _,hL.put _ _⟩
   case rest =>
    obtain ⟨q,rfl,rfl,hc1,hc2⟩:=hcut
    have HC:Hid (LS w m ra (some ⟨vx,vo,none⟩) ma rc vc mc q1 (q1+1) (q1+1+1) ej (TB j) wc):=hc1
    obtain ⟨z0,z1,_,_⟩:=hc2
    obtain ⟨y0,y1,y2,y3⟩:=hc1.t
    have hqz:=lt_of_cell z0
    have HP:Hid (LS w m ra (some ⟨vx,vo,none⟩) ma rc vc mc q1 (q1+1) (q1+1+1) ej1 (TB (j+1)) ((wc.setCell ⟨q1+1+1,0,none⟩ (.int .i64 ej1)).setCell ⟨q1+1+1,1,none⟩ (.string (TB (j+1))))):=HC.out.put (by omega) (by omega) hq3 _ _
    clear hc1
    go_wp2
    go_roundw
    case rel=>exact ⟨j+1,by omega,by go_num,by rw [HJ1.out];exact HP.out⟩
    case measure=>simp [intOf];omega
  ·have hje:j=vb.length:=by omega
   have hjz:¬ (j:Int) < (m.vals.length:Int):=by have:=HVL.out;omega
   have HSE:Hid (LS w m ra va ma rc vc mc q1 (q1+1) (q1+1+1) ((n - vb.length:Nat):Int) (TB vb.length) wr):=by rw [<- hje];exact HS.out
   clear hje HS
   obtain ⟨y0,y1,_,_⟩:=HSE.out.t
   obtain ⟨r0,r1,r2,r3⟩:=HSE.out.rs
   have m4:=HSE.out.mb.c4
   have HFN:Hid _:=finT HSE.out.rs HSE.out.bel (by omega) (.int .i64 ((n - vb.length:Nat):Int)) (.string (TB vb.length))
   generalize hen:((n - vb.length:Nat):Int)=en at *
   have HEN:Hid (((n - vb.length:Nat):Int)=en):=hen
   clear hen
   go_wp2
   obtain ⟨W,hW,hz,hbz⟩:=HFN.out
   rw [<- hW]
   obtain ⟨z0,z1,_,_⟩:=hz
   exact bodyPost_ret (v:=tv en (TB vb.length)) (by simp [results,Tryz.results95,go_sem,z0,z1]) rfl ⟨by rw [HEN.out],hbz⟩
end Mm1
end Go.Proofs.YtjajkmdoggbicaaGreatDoor
namespace Go.Proofs
open Go.Shelf
def Tryz.lays156_ren:Go.Shelf.Ren:=⟨fun|156=>75|165=>107|166=>108|169=>109|240=>147|241=>148|276=>165|277=>166|n=>n,fun|31=>108|9=>9|3=>3|4=>4|0=>0|20=>20|72=>141|76=>119|70=>139|37=>22|75=>63|127=>163|164=>144|5=>5|80=>143|n=>n,fun|n=>n⟩
theorem Tryz.lays156:Go.Proofs.Lays.n156 Tryz.prog Tryz.lays156_ren:={
 mixed:=by kernel_rfl
 f156:=Tryz.func75.trans (congrArg some (by kernel_rfl))
 f165:=Tryz.func107.trans (congrArg some (by kernel_rfl))
 f166:=Tryz.func108.trans (congrArg some (by kernel_rfl))
 f169:=Tryz.func109.trans (congrArg some (by kernel_rfl))
 f240:=Tryz.func147.trans (congrArg some (by kernel_rfl))
 f241:=Tryz.func148.trans (congrArg some (by kernel_rfl))
 f276:=Tryz.func165.trans (congrArg some (by kernel_rfl))
 f277:=Tryz.func166.trans (congrArg some (by kernel_rfl))
 t0:=Tryz.underlying0
 a0:=Tryz.isAgg0
 z0:=Tryz.sizeOf0
 v0:=Tryz.zeroValue0
 t3:=Tryz.underlying3
 a3:=Tryz.isAgg3
 z3:=Tryz.sizeOf3
 v3:=Tryz.zeroValue3
 t4:=Tryz.underlying4
 a4:=Tryz.isAgg4
 z4:=Tryz.sizeOf4
 v4:=Tryz.zeroValue4
 t9:=Tryz.underlying9
 a9:=Tryz.isAgg9
 z9:=Tryz.sizeOf9
 v9:=Tryz.zeroValue9
 t20:=Tryz.underlying20
 a20:=Tryz.isAgg20
 z20:=Tryz.sizeOf20
 v20:=Tryz.zeroValue20
 t31:=Tryz.underlying108
 a31:=Tryz.isAgg108
 z31:=Tryz.sizeOf108
 v31:=Tryz.zeroValue108
 t37:=Tryz.underlying22
 a37:=Tryz.isAgg22
 z37:=Tryz.sizeOf22
 v37:=Tryz.zeroValue22
 t70:=Tryz.underlying139
 a70:=Tryz.isAgg139
 z70:=Tryz.sizeOf139
 v70:=Tryz.zeroValue139
 t72:=Tryz.underlying141
 a72:=Tryz.isAgg141
 z72:=Tryz.sizeOf141
 v72:=Tryz.zeroValue141
 t75:=Tryz.underlying63
 a75:=Tryz.isAgg63
 z75:=Tryz.sizeOf63
 v75:=Tryz.zeroValue63
 t76:=Tryz.underlying119
 a76:=Tryz.isAgg119
 z76:=Tryz.sizeOf119
 v76:=Tryz.zeroValue119
 t127:=Tryz.underlying163
 a127:=Tryz.isAgg163
 z127:=Tryz.sizeOf163
 v127:=Tryz.zeroValue163
 t164:=Tryz.underlying144
 a164:=Tryz.isAgg144
 z164:=Tryz.sizeOf144
 v164:=Tryz.zeroValue144 }
theorem Tryz.Builder_Extra_156:Builder.Extra Tryz.prog Tryz.lays156_ren:={
 sizeBuilder:=by kernel_rfl
 liesBuilder:=by kernel_rfl
 t5:=Tryz.underlying5
 a5:=Tryz.isAgg5
 z5:=Tryz.sizeOf5
 v5:=Tryz.zeroValue5
 infoByte:=by kernel_rfl
 cellsByte:=by kernel_rfl
 sizeByte:=by kernel_rfl
 neB5:=by decide }
open Go.RowKit in
theorem Tryz.strings_Join_none (a:Option Addr) (c:Nat) (sep:ByteArray) (w:World) :
 Calls Tryz.prog 75 #[.slice a 0 c,.string sep] w fun e w'=>e=.returned (.string ⟨#[]⟩)/\w'=w:=Any.strings_Join_none Tryz.lays156 Tryz.Builder_Extra_156 a c sep w
open Go.RowKit in
theorem Tryz.strings_Join (bk o c:Nat) (xs:List ByteArray) (sep:ByteArray) (w:World) (hcells:∀ (j:Nat) x,xs[j]? = some x->w.cell? ⟨bk,o+j,none⟩=some (.string x)) (hbk:bk < w.heap.size) (hN:xs.length<=140737488355328) (hcap:xs.length<=c) (hlen:(Lib.join (xs.map (·.data.toList)) sep.data.toList).length<=140737488355328) :
 Calls Tryz.prog 75 #[.slice (some ⟨bk,o,none⟩) xs.length c,.string sep] w fun e w'=>e=.returned (.string ⟨(Lib.join (xs.map (·.data.toList)) sep.data.toList).toArray⟩)/\Below w.heap.size w w':=Any.strings_Join Tryz.lays156 Tryz.Builder_Extra_156 bk o c xs sep w hcells hbk hN hcap hlen
def Tryz.laysM171_ren:Go.Shelf.Ren:=⟨fun|171=>82|243=>117|246=>161|283=>172|284=>173|285=>174|286=>175|129=>180|317=>179|318=>181|319=>182|320=>183|337=>187|338=>188|n=>n,fun|3=>3|9=>9|2=>2|4=>4|171=>199|0=>0|53=>123|37=>22|5=>5|173=>201|212=>208|51=>190|20=>20|213=>209|46=>131|232=>216|233=>217|n=>n,fun|17=>4|18=>5|19=>6|n=>n⟩
theorem Tryz.laysM171:Go.Proofs.LaysM.n171 Tryz.prog Tryz.laysM171_ren:={
 mixed:=by kernel_rfl
 f129:=Tryz.func180.trans (congrArg some (by kernel_rfl))
 f171:=Tryz.func82.trans (congrArg some (by kernel_rfl))
 f243:=Tryz.func117.trans (congrArg some (by kernel_rfl))
 f246:=Tryz.func161.trans (congrArg some (by kernel_rfl))
 f283:=Tryz.func172.trans (congrArg some (by kernel_rfl))
 f284:=Tryz.func173.trans (congrArg some (by kernel_rfl))
 f285:=Tryz.func174.trans (congrArg some (by kernel_rfl))
 f286:=Tryz.func175.trans (congrArg some (by kernel_rfl))
 f317:=Tryz.func179.trans (congrArg some (by kernel_rfl))
 f318:=Tryz.func181.trans (congrArg some (by kernel_rfl))
 f319:=Tryz.func182.trans (congrArg some (by kernel_rfl))
 f320:=Tryz.func183.trans (congrArg some (by kernel_rfl))
 f337:=Tryz.func187.trans (congrArg some (by kernel_rfl))
 f338:=Tryz.func188.trans (congrArg some (by kernel_rfl))
 t0:=Tryz.underlying0
 a0:=Tryz.isAgg0
 z0:=Tryz.sizeOf0
 v0:=Tryz.zeroValue0
 t2:=Tryz.underlying2
 a2:=Tryz.isAgg2
 z2:=Tryz.sizeOf2
 v2:=Tryz.zeroValue2
 t3:=Tryz.underlying3
 a3:=Tryz.isAgg3
 z3:=Tryz.sizeOf3
 v3:=Tryz.zeroValue3
 t4:=Tryz.underlying4
 a4:=Tryz.isAgg4
 z4:=Tryz.sizeOf4
 v4:=Tryz.zeroValue4
 t5:=Tryz.underlying5
 a5:=Tryz.isAgg5
 z5:=Tryz.sizeOf5
 v5:=Tryz.zeroValue5
 t9:=Tryz.underlying9
 a9:=Tryz.isAgg9
 z9:=Tryz.sizeOf9
 v9:=Tryz.zeroValue9
 t20:=Tryz.underlying20
 a20:=Tryz.isAgg20
 z20:=Tryz.sizeOf20
 v20:=Tryz.zeroValue20
 t37:=Tryz.underlying22
 a37:=Tryz.isAgg22
 z37:=Tryz.sizeOf22
 v37:=Tryz.zeroValue22
 t46:=Tryz.underlying131
 a46:=Tryz.isAgg131
 z46:=Tryz.sizeOf131
 v46:=Tryz.zeroValue131
 t51:=Tryz.underlying190
 a51:=Tryz.isAgg190
 z51:=Tryz.sizeOf190
 v51:=Tryz.zeroValue190
 t53:=Tryz.underlying123
 a53:=Tryz.isAgg123
 z53:=Tryz.sizeOf123
 v53:=Tryz.zeroValue123
 t171:=Tryz.underlying199
 a171:=Tryz.isAgg199
 z171:=Tryz.sizeOf199
 v171:=Tryz.zeroValue199
 t173:=Tryz.underlying201
 a173:=Tryz.isAgg201
 z173:=Tryz.sizeOf201
 v173:=Tryz.zeroValue201
 t212:=Tryz.underlying208
 a212:=Tryz.isAgg208
 z212:=Tryz.sizeOf208
 v212:=Tryz.zeroValue208
 t213:=Tryz.underlying209
 a213:=Tryz.isAgg209
 z213:=Tryz.sizeOf209
 t232:=Tryz.underlying216
 a232:=Tryz.isAgg216
 z232:=Tryz.sizeOf216
 v232:=Tryz.zeroValue216
 t233:=Tryz.underlying217
 a233:=Tryz.isAgg217
 z233:=Tryz.sizeOf217
 v233:=Tryz.zeroValue217
 g17:=by kernel_rfl
 g18:=by kernel_rfl
 g19:=by kernel_rfl
 i0:=by kernel_rfl
 i2:=by kernel_rfl
 i3:=by kernel_rfl
 i4:=by kernel_rfl
 i5:=by kernel_rfl
 i9:=by kernel_rfl
 i20:=by kernel_rfl
 i37:=by kernel_rfl
 i46:=by kernel_rfl
 i51:=by kernel_rfl
 i53:=by kernel_rfl
 i171:=by kernel_rfl
 i173:=by kernel_rfl
 i212:=by kernel_rfl
 i232:=by kernel_rfl
 i233:=by kernel_rfl
 m17:=by kernel_rfl
 m18:=by kernel_rfl
 m19:=by kernel_rfl }
open Go.RowKit Go.Sort Go.Lib in
theorem Tryz.strconv_Itoa (n:Int) (h0 : -9223372036854775808<=n) (h1:n<=9223372036854775807) (w:World) (htab:Lib.TabIs Tryz.prog w "internal/strconv.uint64pow10" .u64 Lib.pow10Tab) :
 Calls Tryz.prog 82 #[.int .i64 n] w fun e w'=>e=.returned (.string ⟨(Lib.itoa n).toArray⟩)/\∃ k os,w'=grow (w.drewN k) os:=Any.strconv_Itoa Tryz.laysM171 n h0 h1 w htab
end Go.Proofs
namespace Go.Proofs.YtjajkmdoggbicaaGreatDoor
set_option maxRecDepth 100000
set_option maxHeartbeats 8000000
set_option linter.unusedVariables false
namespace Tc1
open Go.RowKit
open Ta0 Ta1
theorem ret_int {k:IntKind} {a b:Int} (h:a=b):Ending.returned (.int k a)=.returned (.int k b):=by rw [h]
theorem msk85:msk 85 8=6148914691236517205:=by decide
theorem msk51:msk 51 8=3689348814741910323:=by decide
theorem msk15:msk 15 8=1085102592571150095:=by decide
theorem and_le_sum (x m:Nat):x &&& m<=m:=Nat.and_le_right
theorem ones (x:Nat) (hx:x < 18446744073709551616) (w:World) :
 Calls Tryz.prog 163 #[.int .u64 (x:Int)] w fun e w'=>e=.returned (.int .i64 (cnt x.testBit 64:Nat))/\w'=w:=by
 obtain ⟨y,hy⟩:∃ y,y=(x / 2 &&& msk 85 8)+(x &&& msk 85 8):=⟨_,rfl⟩
 obtain ⟨z,hz⟩:∃ z,z=(y / 4 &&& msk 51 8)+(y &&& msk 51 8):=⟨_,rfl⟩
 obtain ⟨t,ht⟩:∃ t,t=(z / 16+z) &&& msk 15 8:=⟨_,rfl⟩
 obtain ⟨u,hu⟩:∃ u,u=t+t / 256:=⟨_,rfl⟩
 obtain ⟨v,hv⟩:∃ v,v=u+u / 65536:=⟨_,rfl⟩
 obtain ⟨r,hr⟩:∃ r,r=v+v / 4294967296:=⟨_,rfl⟩
 obtain ⟨hr1,hr2⟩:=pop64 x y z t u v r hx hy hz ht hu hv hr
 have HR:Hid (r % 128=cnt x.testBit 64):=hr2
 rw [msk85] at hy
 rw [msk51] at hz
 rw [msk15] at ht
 have y1:y < 18446744073709551616:=by
  have h1:=and_le_sum (x / 2) 6148914691236517205
  have h2:=and_le_sum x 6148914691236517205
  omega
 have z1:z < 9223372036854775807:=by
  have h1:=and_le_sum (y / 4) 3689348814741910323
  have h2:=and_le_sum y 3689348814741910323
  omega
 have t1:t<=1085102592571150095:=by rw [ht];exact and_le_sum _ _
 have e1:IntKind.u64.wrap (bits .and .u64 ((x:Int) / 2) 6148914691236517205+bits .and .u64 (x:Int) 6148914691236517205)=(y:Int):=by
  have h1:=bits_and_u64_nat (x / 2) 6148914691236517205 (by omega) (by omega)
  have h2:=bits_and_u64_nat x 6148914691236517205 hx (by omega)
  have e:(x:Int) / 2=((x / 2:Nat):Int):=by omega
  rw [e,show (6148914691236517205:Int)=((6148914691236517205:Nat):Int) from rfl,h1,h2,<- Int.natCast_add,<- hy,wrapu y1]
 have e2:IntKind.u64.wrap (bits .and .u64 ((y:Int) / 4) 3689348814741910323+bits .and .u64 (y:Int) 3689348814741910323)=(z:Int):=by
  have h1:=bits_and_u64_nat (y / 4) 3689348814741910323 (by omega) (by omega)
  have h2:=bits_and_u64_nat y 3689348814741910323 y1 (by omega)
  have e:(y:Int) / 4=((y / 4:Nat):Int):=by omega
  rw [e,show (3689348814741910323:Int)=((3689348814741910323:Nat):Int) from rfl,h1,h2,<- Int.natCast_add,<- hz,wrapu (by omega)]
 have e3:bits .and .u64 (IntKind.u64.wrap ((z:Int) / 16+(z:Int))) 1085102592571150095=(t:Int):=by
  have h1:=bits_and_u64_nat (z / 16+z) 1085102592571150095 (by omega) (by omega)
  have e:(z:Int) / 16+(z:Int)=((z / 16+z:Nat):Int):=by omega
  rw [e,wrapu (by omega),show (1085102592571150095:Int)=((1085102592571150095:Nat):Int) from rfl,h1,<- ht]
 have e3':bits .and .u64 ((z:Int) / 16+(z:Int)) 1085102592571150095=(t:Int):=by
  rw [<- e3,show (z:Int) / 16+(z:Int)=((z / 16+z:Nat):Int) by omega,wrapu (by omega)]
 have e4':(t:Int)+(t:Int) / 256=(u:Int):=by omega
 have e5':(u:Int)+(u:Int) / 65536=(v:Int):=by omega
 have e6':(v:Int)+(v:Int) / 4294967296=(r:Int):=by omega
 have e4:IntKind.u64.wrap ((t:Int)+(t:Int) / 256)=(u:Int):=by
  rw [show (t:Int)+(t:Int) / 256=(u:Int) by omega,wrapu (by omega)]
 have e5:IntKind.u64.wrap ((u:Int)+(u:Int) / 65536)=(v:Int):=by
  rw [show (u:Int)+(u:Int) / 65536=(v:Int) by omega,wrapu (by omega)]
 have e6:IntKind.u64.wrap ((v:Int)+(v:Int) / 4294967296)=(r:Int):=by
  rw [show (v:Int)+(v:Int) / 4294967296=(r:Int) by omega,wrapu (by omega)]
 have r1:r < 2 ^ 62:=by omega
 have HE:Hid (bits .and .i64 (r:Int) 127=((cnt x.testBit 64:Nat):Int)):=by
  show _=_
  rw [show (127:Int)=((127:Nat):Int) from rfl,band62 r1 (by omega),<- HR.out,show (127:Nat)=2 ^ 7 - 1 from rfl,Nat.and_two_pow_sub_one_eq_mod]
 have e7:wrap64 (r:Int)=(r:Int):=by unfold wrap64;omega
 have e8:IntKind.u64.wrap (r:Int)=(r:Int):=wrapu (by omega)
 have hy0:Hid (y=(x / 2 &&& 6148914691236517205)+(x &&& 6148914691236517205)):=hy
 clear hy hz ht hu hv hr HR hy0 hr2
 generalize cnt x.testBit 64=c at HE ⊢
 go_enter Tryz.func163,Tryz.ntmps163
 go_wp2
 go_ret
 exact ⟨ret_int HE.out,rfl⟩
end Tc1
end Go.Proofs.YtjajkmdoggbicaaGreatDoor
