import Derived.Deep.CutBlock
import Derived.Deep.CutRange
import Derived.Test.YtladjpombohpaaaGreatDoorPkJE12
namespace Go.Proofs.YtladjpombohpaaaGreatDoor
set_option maxRecDepth 100000
set_option maxHeartbeats 8000000
set_option linter.unusedVariables false
namespace Td4
open Go.RowKit
open Ta0 Ta1 Ta2 Tc2 Tc5 Ap9 Td1 Td2
open Nd0 (Kept Ints set_other set_same lt_of_cell)
open Ss0 (bs bs_size ret_str bs_ext)
open Ss1 (tl tl_length tl_get tl_take bs_tl tl_bs tl_inj eqb)
theorem sHalf0 {N b:Int} {S:ByteArray} (w:World) (hS:S.size<=1048576) (h:¬ (tokB N (tl S)=true/\N≠0/\bitB b=true)) :
 Calls Tryz.prog 173 #[tv N S,.int .i64 b] w fun e w'=>e=.returned (.tuple #[tv 0 ByteArray.empty,.bool false])/\Below w.heap.size w w':=by
 have HA:Hid (Below w.heap.size w ((w.alloc (.cells #[.int .i64 N,.string S] 32)).alloc (.cells #[.int .i64 0,.string ByteArray.empty] 32))):=((Below.refl _ _).alloc (Nat.le_refl _) _).alloc (by simp) _
 have HX:Hid (Lay ((w.alloc (.cells #[.int .i64 N,.string S] 32)).alloc (.cells #[.int .i64 0,.string ByteArray.empty] 32)) w.heap.size (.int .i64 N) (.string S)):=(Lay.made _ _ _ _).alloc _
 have HR:Hid (Lay ((w.alloc (.cells #[.int .i64 N,.string S] 32)).alloc (.cells #[.int .i64 0,.string ByteArray.empty] 32)) (w.heap.size+1) (.int .i64 0) (.string ByteArray.empty)):=by
  have:=Lay.made (w.alloc (.cells #[.int .i64 N,.string S] 32)) (.int .i64 0) (.string ByteArray.empty) 32
  show Lay _ _ _ _
  simpa using this
 cases h1:tokB N (tl S)
 ·have HO:Hid (∀ W,Calls Tryz.prog 122 #[tv N S] W fun e w'=>e=.returned (.bool false)/\Below W.heap.size W w'):=fun W=>sOk0 W hS h1
  clear h h1
  go_enter Tryz.func173,Tryz.ntmps173
  go_wp2_with fail
  refine (HO.out _).mono ?_
  rintro e w1 ⟨rfl,hb⟩
  have HA1:Hid (Below w.heap.size w w1):=HA.out.trans (hb.mono HA.out.size)
  have HR1:Hid (Lay w1 (w.heap.size+1) (.int .i64 0) (.string ByteArray.empty)):=HR.out.below hb
  clear hb
  obtain ⟨r0,r1,r2,r3⟩:=HR1.out
  have HFN:Hid _:=finT HR1.out HA1.out (by omega) (.int .i64 0) (.string ⟨#[]⟩)
  go_wp2
  obtain ⟨W,hW,hz,hbz⟩:=HFN.out
  rw [<- hW]
  obtain ⟨z0,z1,_,_⟩:=hz
  exact bodyPost_ret (v:=.tuple #[tv 0 ⟨#[]⟩,.bool false]) (by simp [results,Tryz.results173,go_sem,z0,z1]) rfl ⟨rfl,hbz⟩
 have HO:Hid (∀ W,Calls Tryz.prog 122 #[tv N S] W fun e w'=>e=.returned (.bool true)/\Below W.heap.size W w'):=fun W=>by
  have:=sTableOk N S W hS
  rwa [h1] at this
 by_cases hN:N=0
 ·have hNb:(N==0)=true:=by rw [hN];rfl
  clear h h1 hN
  go_enter Tryz.func173,Tryz.ntmps173
  go_wp2_with fail
  refine (HO.out _).mono ?_
  rintro e w1 ⟨rfl,hb⟩
  have HA1:Hid (Below w.heap.size w w1):=HA.out.trans (hb.mono HA.out.size)
  have HR1:Hid (Lay w1 (w.heap.size+1) (.int .i64 0) (.string ByteArray.empty)):=HR.out.below hb
  obtain ⟨x0,x1,_,_⟩:=HX.out.below hb
  clear hb
  obtain ⟨r0,r1,r2,r3⟩:=HR1.out
  have HFN:Hid _:=finT HR1.out HA1.out (by omega) (.int .i64 0) (.string ⟨#[]⟩)
  go_wp2
  obtain ⟨W,hW,hz,hbz⟩:=HFN.out
  rw [<- hW]
  obtain ⟨z0,z1,_,_⟩:=hz
  exact bodyPost_ret (v:=.tuple #[tv 0 ⟨#[]⟩,.bool false]) (by simp [results,Tryz.results173,go_sem,z0,z1]) rfl ⟨rfl,hbz⟩
 ·have hNb:(N==0)=false:=beq_eq_false_iff_ne.2 hN
  have HI:Hid (∀ W,Calls Tryz.prog 25 #[.int .i64 b,.int .i64 0,.int .i64 1] W fun e w'=>e=.returned (.bool false)/\w'=W):=fun W=>sInF W (fun k=>h ⟨h1,hN,decide_eq_true (by omega)⟩)
  clear h h1 hN
  go_enter Tryz.func173,Tryz.ntmps173
  go_wp2_with fail
  refine (HO.out _).mono ?_
  rintro e w1 ⟨rfl,hb⟩
  have HA1:Hid (Below w.heap.size w w1):=HA.out.trans (hb.mono HA.out.size)
  have HR1:Hid (Lay w1 (w.heap.size+1) (.int .i64 0) (.string ByteArray.empty)):=HR.out.below hb
  obtain ⟨x0,x1,_,_⟩:=HX.out.below hb
  clear hb
  obtain ⟨r0,r1,r2,r3⟩:=HR1.out
  have HFN:Hid _:=finT HR1.out HA1.out (by omega) (.int .i64 0) (.string ⟨#[]⟩)
  go_wp2_with (go_at_call 25;refine (HI.out _).mono ?_;rintro e w' ⟨rfl,rfl⟩)
  obtain ⟨W,hW,hz,hbz⟩:=HFN.out
  rw [<- hW]
  obtain ⟨z0,z1,_,_⟩:=hz
  exact bodyPost_ret (v:=.tuple #[tv 0 ⟨#[]⟩,.bool false]) (by simp [results,Tryz.results173,go_sem,z0,z1]) rfl ⟨rfl,hbz⟩
theorem sHalf (n b:Nat) (F:Nat->Bool) (w:World) (hn:n<=11) (hb:b<=1) :
 Calls Tryz.prog 173 #[tv ((n+1:Nat):Int) (bs (tab (n+1) F)),.int .i64 (b:Int)] w fun e w'=>e=.returned (.tuple #[tv (n:Int) (bs (tab n fun p=>F (b*2 ^ n+p))),.bool true])/\Below w.heap.size w w':=by
 have HO:Hid (∀ W,Calls Tryz.prog 122 #[tv ((n+1:Nat):Int) (bs (tab (n+1) F))] W fun e w'=>e=.returned (.bool true)/\Below W.heap.size W w'):=fun W=>sOk1 (n+1) F W (by omega)
 have HI:Hid (∀ W,Calls Tryz.prog 25 #[.int .i64 (b:Int),.int .i64 0,.int .i64 1] W fun e w'=>e=.returned (.bool true)/\w'=W):=fun W=>sInT W ⟨by omega,by omega⟩
 obtain ⟨hp,hl⟩:=p12 (n:=n) (by omega)
 have hp1:2 ^ (n+1)=2*2 ^ n:=by rw [Nat.pow_succ];omega
 have hSz:(bs (tab (n+1) F)).size=2*2 ^ n:=by rw [bs_size,tab_length,hp1]
 have HT:Hid ((bs (tab (n+1) F)).extract (b*2 ^ n) (b*2 ^ n+2 ^ n)=bs (tab n fun p=>F (b*2 ^ n+p))):=half_text n b F hb
 have e1:((n+1:Nat):Int) - 1=(n:Int):=by omega
 have hNb:(((n+1:Nat):Int)==0)=false:=beq_eq_false_iff_ne.2 (by omega)
 clear hp1
 generalize bs (tab n fun p=>F (b*2 ^ n+p))=RS at *
 generalize bs (tab (n+1) F)=S at *
 generalize 2 ^ n=P at *
 have hSP:(S.size:Int) / 2=(P:Int):=by omega
 have HSz:Hid (S.size=2*P):=hSz
 have hSl:S.size<=8192:=by omega
 clear hSz
 generalize n+1=N at *
 have HA:Hid (Below w.heap.size w ((w.alloc (.cells #[.int .i64 (N:Int),.string S] 32)).alloc (.cells #[.int .i64 0,.string ByteArray.empty] 32))):=((Below.refl _ _).alloc (Nat.le_refl _) _).alloc (by simp) _
 have HX:Hid (Lay ((w.alloc (.cells #[.int .i64 (N:Int),.string S] 32)).alloc (.cells #[.int .i64 0,.string ByteArray.empty] 32)) w.heap.size (.int .i64 (N:Int)) (.string S)):=(Lay.made _ _ _ _).alloc _
 have HR:Hid (Lay ((w.alloc (.cells #[.int .i64 (N:Int),.string S] 32)).alloc (.cells #[.int .i64 0,.string ByteArray.empty] 32)) (w.heap.size+1) (.int .i64 0) (.string ByteArray.empty)):=by
  have:=Lay.made (w.alloc (.cells #[.int .i64 (N:Int),.string S] 32)) (.int .i64 0) (.string ByteArray.empty) 32
  show Lay _ _ _ _
  simpa using this
 rcases (by omega:b=0\/b=1) with rfl|rfl
 all_goals
  go_enter Tryz.func173,Tryz.ntmps173
  go_wp2_with fail
  refine (HO.out _).mono ?_
  rintro e w1 ⟨rfl,hb⟩
  have HA1:Hid (Below w.heap.size w w1):=HA.out.trans (hb.mono HA.out.size)
  have HR1:Hid (Lay w1 (w.heap.size+1) (.int .i64 0) (.string ByteArray.empty)):=HR.out.below hb
  obtain ⟨x0,x1,_,_⟩:=HX.out.below hb
  clear hb
  obtain ⟨r0,r1,r2,r3⟩:=HR1.out
  have hext:=HT.out
  go_wp2_with (go_at_call 25;refine (HI.out _).mono ?_;rintro e w' ⟨rfl,rfl⟩)
 ·simp only [Nat.zero_mul,Nat.zero_add] at hext
  have hPS:(P:Int)<=(S.size:Int):=by have:=HSz.out;omega
  go_region
  go_wp2
  obtain ⟨W,hW,hz,hbz⟩:=finT HR1.out HA1.out (by omega) (.int .i64 (n:Int)) (.string RS)
  rw [<- hW]
  obtain ⟨z0,z1,_,_⟩:=hz
  exact bodyPost_ret (v:=.tuple #[tv (n:Int) RS,.bool true]) (by simp [results,Tryz.results173,go_sem,z0,z1]) rfl ⟨rfl,below_drewN hbz 1⟩
 ·simp only [Nat.one_mul] at hext
  have hPS:(P:Int)+(P:Int)<=(S.size:Int):=by have:=HSz.out;omega
  go_region
  go_wp2
  obtain ⟨W,hW,hz,hbz⟩:=finT HR1.out HA1.out (by omega) (.int .i64 (n:Int)) (.string RS)
  rw [<- hW]
  obtain ⟨z0,z1,_,_⟩:=hz
  exact bodyPost_ret (v:=.tuple #[tv (n:Int) RS,.bool true]) (by simp [results,Tryz.results173,go_sem,z0,z1]) rfl ⟨rfl,below_drewN hbz 1⟩
end Td4
namespace Mm1
open Go.RowKit
open Ta0 Ta1 Ta2 Ta3 Tc2 Tc5 Td1 Td2 Td4 Mc0 Mm0
open Nd0 (Kept Ints set_other set_same lt_of_cell)
open Ss0 (bs bs_size)
def bi (b:Bool):Int:=(b.toNat:Int)
theorem lft_snoc {n:Nat} (F:Nat->Bool) (vs:List Bool) (b:Bool) (h:vs.length < n) (q:Nat):hb (n - vs.length - 1) b.toNat (lft n F vs) q=lft n F (vs++[b]) q:=by
 unfold hb lft
 rw [pl_snoc,List.length_append,List.length_singleton]
 congr 1
 have e:n - vs.length=(n - (vs.length+1))+1:=by omega
 have e2:n - vs.length - 1=n - (vs.length+1):=by omega
 rw [e2,e,Nat.pow_succ,Nat.add_mul,Nat.mul_comm 2 (pl vs),Nat.mul_assoc (pl vs) 2,Nat.mul_comm 2,Nat.add_assoc]
/-- What stands while halves are taken. -/
structure LS (w:World) (m:Mc) (ra va ma:Option Addr) (rc vc mc q1 q2 q3:Nat) (e:Int) (S:ByteArray) (W:World):Prop where
 mb:Mb W q1 m ra va ma rc vc mc
 rs:Lay W q2 (.int .i64 0) (.string ByteArray.empty)
 t:Lay W q3 (.int .i64 e) (.string S)
 bel:Below w.heap.size w W
theorem LS.below {w W W':World} {m:Mc} {ra va ma:Option Addr} {rc vc mc q1 q2 q3:Nat} {e:Int} {S:ByteArray} (h:LS w m ra va ma rc vc mc q1 q2 q3 e S W) (k:Below W.heap.size W W'):LS w m ra va ma rc vc mc q1 q2 q3 e S W' :=
 ⟨h.mb.below k,h.rs.below k,h.t.below k,h.bel.trans (k.mono h.bel.size)⟩
theorem LS.alloc {w W:World} {m:Mc} {ra va ma:Option Addr} {rc vc mc q1 q2 q3:Nat} {e:Int} {S:ByteArray} (h:LS w m ra va ma rc vc mc q1 q2 q3 e S W) (o:Obj):LS w m ra va ma rc vc mc q1 q2 q3 e S (W.alloc o):=h.below ((Below.refl _ _).alloc (Nat.le_refl _) _)
theorem LS.drew {w W:World} {m:Mc} {ra va ma:Option Addr} {rc vc mc q1 q2 q3:Nat} {e:Int} {S:ByteArray} (h:LS w m ra va ma rc vc mc q1 q2 q3 e S W):LS w m ra va ma rc vc mc q1 q2 q3 e S W.drew:=h.below (Below.refl _ _).drew
theorem LS.put {w W:World} {m:Mc} {ra va ma:Option Addr} {rc vc mc q1 q2 q3:Nat} {e:Int} {S:ByteArray} (h:LS w m ra va ma rc vc mc q1 q2 q3 e S W) (h1:q1≠q3) (h2:q2≠q3) (h3:w.heap.size<=q3) (e':Int) (S':ByteArray):LS w m ra va ma rc vc mc q1 q2 q3 e' S' ((W.setCell ⟨q3,0,none⟩ (.int .i64 e')).setCell ⟨q3,1,none⟩ (.string S')):=by
 have K:Kept (fun b=>b=q3) W ((W.setCell ⟨q3,0,none⟩ (.int .i64 e')).setCell ⟨q3,1,none⟩ (.string S')):=kset (S:=fun b=>b=q3) (kset (S:=fun b=>b=q3) (Kept.refl (fun b=>b=q3) W) rfl _) rfl _
 exact ⟨h.mb.kept K h1,h.rs.kept K h2,h.t.put _ _,h.bel.trans (K.below (fun b hb=>by omega) h.bel.size)⟩
theorem LS.put2 {w W:World} {m:Mc} {ra va ma:Option Addr} {rc vc mc q1 q2 q3 z:Nat} {e:Int} {S:ByteArray} {x y:Value} (h:LS w m ra va ma rc vc mc q1 q2 q3 e S W) (hL:Lay W z x y) (h1:q1≠z) (h2:q2≠z) (h4:q3≠z) (h3:w.heap.size<=z) (u v:Value):LS w m ra va ma rc vc mc q1 q2 q3 e S ((W.setCell ⟨z,0,none⟩ u).setCell ⟨z,1,none⟩ v):=by
 have K:Kept (fun b=>b=z) W ((W.setCell ⟨z,0,none⟩ u).setCell ⟨z,1,none⟩ v):=kset (S:=fun b=>b=z) (kset (S:=fun b=>b=z) (Kept.refl (fun b=>b=z) W) rfl _) rfl _
 exact ⟨h.mb.kept K h1,h.rs.kept K h2,h.t.kept K h4,h.bel.trans (K.below (fun b hb=>by omega) h.bel.size)⟩
theorem LayE (W:World) (x y:Value) (T:Nat):Lay (W.alloc (.cells #[x,y] T)).drew W.heap.size x y:=(Lay.made W x y T).kept (S:=fun _=>False) (Kept.refl _ _).drew (fun h=>h)
theorem take_bit {vb:List Bool} {j:Nat} (h:j < vb.length):vb.take (j+1)=vb.take j++[vb[j]]:=List.take_succ_eq_append_getElem h
theorem sLeft (n:Nat) (F:Nat->Bool) (vb:List Bool) (m:Mc) (ra va ma:Option Addr) (rc vc mc:Nat) (w:World) (hn:n<=12) (hN:m.N=(n:Int)) (hS:m.S=bs (tab n F)) (hv:m.vals=vb.map bi) (hk:vb.length<=n) (hI:Ints w va m.vals) :
 Calls Tryz.prog 133 #[mval m ra va ma rc vc mc] w fun e w'=>e=.returned (tv ((n - vb.length:Nat):Int) (bs (tab (n - vb.length) (lft n F vb))))/\Below w.heap.size w w':=by
 have HI:Hid (Ints w va m.vals):=hI
 have HVL:Hid (m.vals.length=vb.length):=by show _=_;rw [hv,List.length_map]
 have HN:Hid (m.N=(n:Int)):=hN
 have hvm:m.vals.length<=12:=by have:=HVL.out;omega
 have HVB:Hid (∀ j (h:j < vb.length) (h2:j < m.vals.length),m.vals[j]=bi vb[j]):=fun j h h2=>by simp [hv]
 have HH:Hid (∀ (W:World) (j:Nat) (h:j < vb.length),Calls Tryz.prog 173 #[tv ((n - j:Nat):Int) (bs (tab (n - j) (lft n F (vb.take j)))),.int .i64 (bi vb[j])] W fun e w'=>e=.returned (.tuple #[tv ((n - (j+1):Nat):Int) (bs (tab (n - (j+1)) (lft n F (vb.take (j+1))))),.bool true])/\Below W.heap.size W w'):=fun W j h=>by
  have h1:=sHalf (n - (j+1)) (vb[j].toNat) (lft n F (vb.take j)) W (by omega) vb[j].toNat_le
  rw [show n - (j+1)+1=n - j by omega] at h1
  have e:tab (n - (j+1)) (fun p=>lft n F (vb.take j) (vb[j].toNat*2 ^ (n - (j+1))+p))=tab (n - (j+1)) (lft n F (vb.take (j+1))):=tab_ext fun q hq=>by
   have hl:(vb.take j).length=j:=by rw [List.length_take];omega
   have h2:=lft_snoc (n:=n) F (vb.take j) vb[j] (by rw [hl];omega) q
   rw [hl,show n - j - 1=n - (j+1) by omega] at h2
   rw [take_bit h]
   exact h2
  rw [e] at h1
  exact h1
 obtain ⟨TB,hTB⟩:∃ TB:Nat->ByteArray,TB=fun j=>bs (tab (n - j) (lft n F (vb.take j))):=⟨_,rfl⟩
 have HT0:Hid (TB 0=m.S):=by
  show _=_
  rw [hTB,hS]
  show bs (tab (n - 0) (lft n F (vb.take 0)))=_
  congr 1
  refine tab_ext fun q hq=>?_
  unfold lft
  rw [List.take_zero,pl_nil,Nat.zero_mul,Nat.zero_add]
 have HTE:Hid (TB vb.length=bs (tab (n - vb.length) (lft n F vb))):=by
  show _=_
  rw [hTB]
  show bs (tab (n - vb.length) (lft n F (vb.take vb.length)))=_
  rw [List.take_length]
 have HHT:Hid (∀ (W:World) (j:Nat) (h:j < vb.length),Calls Tryz.prog 173 #[tv ((n - j:Nat):Int) (TB j),.int .i64 (bi vb[j])] W fun e w'=>e=.returned (.tuple #[tv ((n - (j+1):Nat):Int) (TB (j+1)),.bool true])/\Below W.heap.size W w'):=fun W j h=>by rw [hTB];exact HH.out W j h
 rw [<- HTE.out]
 clear HH hTB HTE hS hv hI hN
 obtain ⟨W0,hW0⟩:∃ W0,W0=((w.alloc (.cells #[.slice ra m.row.length rc,.int .i64 m.N,.string m.S,.int .i64 m.room,.slice va m.vals.length vc,.int .i64 m.ret,.bool m.over,.int .i64 m.steps,.int .i64 m.looks,.int .i64 m.hits,.slice ma m.memo.length mc] 35)).alloc (.cells #[.int .i64 0,.string ⟨#[]⟩] 32)).alloc (.cells #[.int .i64 m.N,.string m.S] 32):=⟨_,rfl⟩
 have HL0:Hid (LS w m ra va ma rc vc mc w.heap.size (w.heap.size+1) (w.heap.size+1+1) ((n - 0:Nat):Int) (TB 0) W0):=by
  rw [hW0,HT0.out]
  refine ⟨((Mb.made _ _ _ _ _ _ _ _ _).alloc _).alloc _,?_,?_,(((Below.refl _ _).alloc (Nat.le_refl _) _).alloc (by simp) _).alloc (by simp<;>omega) _⟩
  ·have:=(Lay.made (w.alloc (.cells #[.slice ra m.row.length rc,.int .i64 m.N,.string m.S,.int .i64 m.room,.slice va m.vals.length vc,.int .i64 m.ret,.bool m.over,.int .i64 m.steps,.int .i64 m.looks,.int .i64 m.hits,.slice ma m.memo.length mc] 35)) (.int .i64 0) (.string ⟨#[]⟩) 32).alloc (.cells #[.int .i64 m.N,.string m.S] 32)
   exact (by simpa using this:Lay _ (w.heap.size+1) (.int .i64 0) (.string ⟨#[]⟩))
  ·have:=Lay.made ((w.alloc (.cells #[.slice ra m.row.length rc,.int .i64 m.N,.string m.S,.int .i64 m.room,.slice va m.vals.length vc,.int .i64 m.ret,.bool m.over,.int .i64 m.steps,.int .i64 m.looks,.int .i64 m.hits,.slice ma m.memo.length mc] 35)).alloc (.cells #[.int .i64 0,.string ⟨#[]⟩] 32)) (.int .i64 m.N) (.string m.S) 32
   rw [Nat.sub_zero,<- HN.out]
   simpa using this
 have HE0:Hid (((w.alloc (.cells #[.slice ra m.row.length rc,.int .i64 m.N,.string m.S,.int .i64 m.room,.slice va m.vals.length vc,.int .i64 m.ret,.bool m.over,.int .i64 m.steps,.int .i64 m.looks,.int .i64 m.hits,.slice ma m.memo.length mc] 35)).alloc (.cells #[.int .i64 0,.string ⟨#[]⟩] 32)).alloc (.cells #[.int .i64 m.N,.string m.S] 32)=W0):=hW0.symm
 clear hW0 HT0
 go_enter Tryz.func133,Tryz.ntmps133
 go_upto_region 2 with fail
 rw [HE0.out]
 clear HE0
 obtain ⟨q1,hq1⟩:∃ q1,q1=w.heap.size:=⟨_,rfl⟩
 rw [<- hq1] at HL0 ⊢
 have hq12:q1 < q1+1+1:=by omega
 have HQ1:Hid (q1=w.heap.size):=hq1
 clear hq1
 go_wp2_with fail
 go_loopw [4] (fun i wr=>∃ j:Nat,j<=vb.length/\i=.int .i64 j/\LS w m ra va ma rc vc mc q1 (q1+1) (q1+1+1) ((n - j:Nat):Int) (TB j) wr) (fun i _=>vb.length - (intOf i).toNat)
 case atStart=>exact ⟨0,Nat.zero_le _,rfl,HL0.out⟩
 case round =>
  obtain ⟨j,hj,rfl,hs⟩:=hrel
  have HS:Hid (LS w m ra va ma rc vc mc q1 (q1+1) (q1+1+1) ((n - j:Nat):Int) (TB j) wr):=hs
  clear hs
  have hq3:w.heap.size<=q1+1+1:=by have:=HQ1.out;omega
  have hqw:w.heap.size<=q1:=by have:=HQ1.out;omega
  by_cases hlt:j < vb.length
  ·have hjl:j < m.vals.length:=by rw [HVL.out];exact hlt
   have hjz:(j:Int) < (m.vals.length:Int):=by omega
   rcases HI.out.2 with h0|⟨vx,vo,rfl,hc⟩
   ·omega
   obtain ⟨bj,hbj⟩:∃ bj,bj=bi vb[j]:=⟨_,rfl⟩
   have HPV:Hid (∀ W,Below w.heap.size w W->W.cell? ⟨vx,vo+j,none⟩=some (.int .i64 bj)):=fun W h=>by
    have h2:=hc j hjl
    rw [h.cell (lt_of_cell h2),h2,HVB.out j hlt hjl,hbj]
   have HHj:Hid (∀ W,Calls Tryz.prog 173 #[tv ((n - j:Nat):Int) (TB j),.int .i64 bj] W fun e w'=>e=.returned (.tuple #[tv ((n - (j+1):Nat):Int) (TB (j+1)),.bool true])/\Below W.heap.size W w'):=fun W=>by rw [hbj];exact HHT.out W j hlt
   clear hc hbj
   have hvx:=lt_of_cell (HPV.out _ HS.out.bel)
   have hN0:=HS.out.t.lt
   have m4:=HS.out.mb.c4
   go_upto_region 5 with fail
   clear m4
   generalize ((n - j:Nat):Int)=ej at *
   generalize hj1:((n - (j+1):Nat):Int)=ej1 at *
   have HJ1:Hid (((n - (j+1):Nat):Int)=ej1):=hj1
   clear hj1
   go_cut [5,6] from 16 to 25 (fun s5 s6 wc=>∃ q:Nat,s5=.pointer (some ⟨q,0,none⟩)/\s6=.bool true/\LS w m ra (some ⟨vx,vo,none⟩) ma rc vc mc q1 (q1+1) (q1+1+1) ej (TB j) wc/\Lay wc q (.int .i64 ej1) (.string (TB (j+1))))
   case first =>
    obtain ⟨y0,y1,_,_⟩:=HS.out.t
    have m4:=HS.out.mb.c4
    have pv:=HPV.out _ HS.out.bel
    go_wp2_with fail
    go_region_held3 (fun w'=>w'.cell? ⟨q1,4,none⟩=some (.slice (some ⟨vx,vo,none⟩) m.vals.length vc)/\w'.cell? ⟨q1+1+1,0,none⟩=some (.int .i64 ej)/\w'.cell? ⟨q1+1+1,1,none⟩=some (.string (TB j))/\w'.cell? ⟨vx,vo+j,none⟩=some (.int .i64 bj)) ((first|exact ⟨HS.out.mb.c4,HS.out.t.c0,HS.out.t.c1,HPV.out _ HS.out.bel⟩|exact ⟨hS3.mb.c4,hS3.t.c0,hS3.t.c1,HPV.out _ hS3.bel⟩|exact ⟨(hS3.alloc _).mb.c4,(hS3.alloc _).t.c0,(hS3.alloc _).t.c1,HPV.out _ (hS3.alloc _).bel⟩|exact ⟨(HS.out.alloc _).mb.c4,(HS.out.alloc _).t.c0,(HS.out.alloc _).t.c1,HPV.out _ (HS.out.alloc _).bel⟩|exact ⟨HS.out.drew.mb.c4,HS.out.drew.t.c0,HS.out.drew.t.c1,HPV.out _ HS.out.drew.bel⟩|exact ⟨(HS.out.drew.alloc _).mb.c4,(HS.out.drew.alloc _).t.c0,(HS.out.drew.alloc _).t.c1,HPV.out _ (HS.out.drew.alloc _).bel⟩|exact ⟨(HS.out.alloc _).drew.mb.c4,(HS.out.alloc _).drew.t.c0,(HS.out.alloc _).drew.t.c1,HPV.out _ (HS.out.alloc _).drew.bel⟩|exact ⟨(hS3.put2 hL (by omega) (by omega) (by omega) (by omega) _ _).mb.c4,(hS3.put2 hL (by omega) (by omega) (by omega) (by omega) _ _).t.c0,(hS3.put2 hL (by omega) (by omega) (by omega) (by omega) _ _).t.c1,HPV.out _ (hS3.put2 hL (by omega) (by omega) (by omega) (by omega) _ _).bel⟩)) ((go_at_call 173;(with_reducible refine (HHj.out _).mono ?_);rintro e xa ⟨rfl,hb⟩;(first|have hS3:=hS3.below hb|have hS3:=(hS3.alloc _).below hb|have hS3:=HS.out.drew.below hb|have hS3:=(HS.out.drew.alloc _).below hb|have hS3:=(HS.out.alloc _).drew.below hb);(have hN3:=hS3.t.lt);(first|have hL:=hL.below hb|have hL:=(LayE _ _ _ _).below hb|have hL:=(Lay.made _ _ _ _).below hb|skip);(first|(have hLc:=hL;obtain ⟨l0c,l1c,l2c,l3c⟩:=hLc)|skip);clear hb))
    all_goals
     go_wp2_with fail
     go_meet
     case rel=>first|exact ⟨_,rfl,rfl,hS3.alloc _,Lay.made _ _ _ _⟩|exact ⟨_,rfl,rfl,hS3.put2 hL (by omega) (by omega) (by omega) (by omega) _ _,hL.put _ _⟩
   case rest =>
    obtain ⟨q,rfl,rfl,hc1,hc2⟩:=hcut
    have HC:Hid (LS w m ra (some ⟨vx,vo,none⟩) ma rc vc mc q1 (q1+1) (q1+1+1) ej (TB j) wc):=hc1
    obtain ⟨z0,z1,_,_⟩:=hc2
    obtain ⟨y0,y1,y2,y3⟩:=hc1.t
    have hqz:=lt_of_cell z0
    have HP:Hid (LS w m ra (some ⟨vx,vo,none⟩) ma rc vc mc q1 (q1+1) (q1+1+1) ej1 (TB (j+1)) ((wc.setCell ⟨q1+1+1,0,none⟩ (.int .i64 ej1)).setCell ⟨q1+1+1,1,none⟩ (.string (TB (j+1))))):=HC.out.put (by omega) (by omega) hq3 _ _
    clear hc1
    go_wp2
    go_roundw
    case rel=>exact ⟨j+1,by omega,by go_num,by rw [HJ1.out];exact HP.out⟩
    case measure=>simp [intOf];omega
  ·have hje:j=vb.length:=by omega
   have hjz:¬ (j:Int) < (m.vals.length:Int):=by have:=HVL.out;omega
   have HSE:Hid (LS w m ra va ma rc vc mc q1 (q1+1) (q1+1+1) ((n - vb.length:Nat):Int) (TB vb.length) wr):=by rw [<- hje];exact HS.out
   clear hje HS
   obtain ⟨y0,y1,_,_⟩:=HSE.out.t
   obtain ⟨r0,r1,r2,r3⟩:=HSE.out.rs
   have m4:=HSE.out.mb.c4
   have HFN:Hid _:=finT HSE.out.rs HSE.out.bel (by omega) (.int .i64 ((n - vb.length:Nat):Int)) (.string (TB vb.length))
   generalize hen:((n - vb.length:Nat):Int)=en at *
   have HEN:Hid (((n - vb.length:Nat):Int)=en):=hen
   clear hen
   go_wp2
   obtain ⟨W,hW,hz,hbz⟩:=HFN.out
   rw [<- hW]
   obtain ⟨z0,z1,_,_⟩:=hz
   exact bodyPost_ret (v:=tv en (TB vb.length)) (by simp [results,Tryz.results133,go_sem,z0,z1]) rfl ⟨by rw [HEN.out],hbz⟩
end Mm1
namespace Dm1
open Go.RowKit
open Ta0 Ta1 Ta2 Ta3 Tc2 Tc5 Td1 Td2 Td4 De0 Dv0
open Nd0 (Kept set_other set_same lt_of_cell)
open Nd6 (Bools)
open Ss0 (bs bs_size)
open Ss1 (tl)
theorem sOkR0 {N:Int} {S:ByteArray} (ra:Option Addr) (L c:Nat) (w:World) (hS:S.size<=1048576) (h:¬ (tokB N (tl S)=true/\(L:Int)=N)) :
 Calls Tryz.prog 78 #[.slice ra L c,tv N S] w fun e w'=>e=.returned (.bool false)/\Below w.heap.size w w':=by
 have HA:Hid (Below w.heap.size w (w.alloc (.cells #[.int .i64 N,.string S] 32))):=(Below.refl _ _).alloc (Nat.le_refl _) _
 have HX:Hid (Lay (w.alloc (.cells #[.int .i64 N,.string S] 32)) w.heap.size (.int .i64 N) (.string S)):=Lay.made _ _ _ _
 cases h1:tokB N (tl S)
 ·have HO:Hid (∀ W,Calls Tryz.prog 122 #[tv N S] W fun e w'=>e=.returned (.bool false)/\Below W.heap.size W w'):=fun W=>sOk0 W hS h1
  clear h h1
  go_enter Tryz.func78,Tryz.ntmps78
  go_wp2_with fail
  refine (HO.out _).mono ?_
  rintro e w1 ⟨rfl,hb⟩
  have HA1:Hid (Below w.heap.size w w1):=HA.out.trans (hb.mono HA.out.size)
  clear hb
  go_wp2
  go_ret
  exact ⟨rfl,HA1.out⟩
 ·have HO:Hid (∀ W,Calls Tryz.prog 122 #[tv N S] W fun e w'=>e=.returned (.bool true)/\Below W.heap.size W w'):=fun W=>by
   have:=sTableOk N S W hS
   rwa [h1] at this
  have hne:((L:Int)==N)=false:=beq_eq_false_iff_ne.2 fun e=>h ⟨h1,e⟩
  clear h h1
  go_enter Tryz.func78,Tryz.ntmps78
  go_wp2_with fail
  refine (HO.out _).mono ?_
  rintro e w1 ⟨rfl,hb⟩
  have HA1:Hid (Below w.heap.size w w1):=HA.out.trans (hb.mono HA.out.size)
  obtain ⟨x0,x1,_,_⟩:=HX.out.below hb
  clear hb
  go_wp2
  go_ret
  exact ⟨rfl,HA1.out⟩
theorem sOkR (n:Nat) (F:Nat->Bool) (ra:Option Addr) (c:Nat) (w:World) (hn:n<=12) :
 Calls Tryz.prog 78 #[.slice ra n c,tv (n:Int) (bs (tab n F))] w fun e w'=>e=.returned (.bool true)/\Below w.heap.size w w':=by
 have HO:Hid (∀ W,Calls Tryz.prog 122 #[tv (n:Int) (bs (tab n F))] W fun e w'=>e=.returned (.bool true)/\Below W.heap.size W w'):=fun W=>sOk1 n F W hn
 generalize bs (tab n F)=S at *
 have HA:Hid (Below w.heap.size w (w.alloc (.cells #[.int .i64 (n:Int),.string S] 32))):=(Below.refl _ _).alloc (Nat.le_refl _) _
 have HX:Hid (Lay (w.alloc (.cells #[.int .i64 (n:Int),.string S] 32)) w.heap.size (.int .i64 (n:Int)) (.string S)):=Lay.made _ _ _ _
 go_enter Tryz.func78,Tryz.ntmps78
 go_wp2_with fail
 refine (HO.out _).mono ?_
 rintro e w1 ⟨rfl,hb⟩
 have HA1:Hid (Below w.heap.size w w1):=HA.out.trans (hb.mono HA.out.size)
 obtain ⟨x0,x1,_,_⟩:=HX.out.below hb
 clear hb
 go_wp2
 go_ret
 exact ⟨rfl,HA1.out⟩
/-- The flags behind the first. -/
theorem bools_tail {W:World} {a:Option Addr} {q:Bool} {r:List Bool} {c:Nat} (h:Bools W a (q :: r)) (hc:r.length+1<=c):∃ b o,a=some ⟨b,o,none⟩/\W.cell? ⟨b,o,none⟩=some (.bool q)/\∃ t,t=(if c=1 then o else o+1)/\Bools W (some ⟨b,t,none⟩) r:=by
 rcases h.2 with h0|⟨b,o,ha,hx⟩
 ·simp at h0
 ·refine ⟨b,o,ha,hx 0 (by simp),_,rfl,?_⟩
  refine ⟨by have:=h.1;simp at this;omega,?_⟩
  by_cases e:r.length=0
  ·exact .inl e
  ·rw [if_neg (by omega)]
   refine .inr ⟨b,o+1,rfl,fun i hi=>?_⟩
   have:=hx (i+1) (by simpa using hi)
   rw [show o+1+i=o+(i+1) by omega]
   simpa using this
end Dm1
end Go.Proofs.YtladjpombohpaaaGreatDoor
