import Derived.Deep.CutRange
import Derived.Test.YtfhdbcfhhbdiiaaWr5
import Derived.Test.YtfhdbcfhhbdiiaaDm3
namespace Go.Proofs.Ytfhdbcfhhbdiiaa
set_option maxRecDepth 100000
set_option maxHeartbeats 8000000
set_option linter.unusedVariables false
namespace Wr6
open Go.RowKit
open Nd0 (Kept Ints WInts At Ats lt_of_cell set_same)
open Nd6 (Bools)
open Op6 (Pk PkAt Pks)
open Ta1 (tab)
open Ta2 (bitB)
open Ta3 (hb)
open Tc2 (tv ret_bool)
open Tc5 (Lay)
open Td1 (knw sKnown knw_same)
open Td4 (sHalf)
open Dm3 (sChoose)
open Dp5 (chV)
open De0 (dc)
open Ss0 (bs)
open Ap0 Wq0 Wr0 Wr1 Wr3 Wr5
set_option linter.unusedSimpArgs false
theorem lower {W:World} {B B' g cap:Nat} {qs:List Pq} (h:Lq W B g cap qs) (hB:B'<=B):Lq W B' g cap qs:=by
 refine ⟨⟨h.row.1,?_⟩,fun q hq=>?_,h.two,h.out⟩
 ·rcases h.row.2 with e|⟨g',cap',cur,e,hb,rest⟩
  ·exact .inl e
  ·exact .inr ⟨g',cap',cur,e,Nat.le_trans hB hb,rest⟩
 ·have h1:=h.ins q hq
  exact ⟨h1.1,h1.2.imp id fun ⟨x,y,e1,e2,e3⟩=>⟨x,y,e1,Nat.le_trans hB e2,e3⟩⟩
/-- A list of these picks, one's own, is given back. -/
def PL (ps:List Pk) (W:World) (e:Ending) (w':World):Prop:=∃ g cap qs,e=.returned (.slice (some ⟨g,0,none⟩) qs.length cap)/\qs.map Pq.pk=ps/\Lq w' W.heap.size g cap qs/\Below W.heap.size W w'
/-- What is known. -/
theorem ml_known (v:Int) (n:Nat) (F:Nat->Bool) (hn:n<=12) (W:World) (ra va:Option Addr) (k c vc m:Nat) (hk:0<=knw n F) :
 Calls Try.prog 46 #[.slice ra k c,tv (n:Int) (bs (tab n F)),.int .i64 v,.slice va m vc] W (PL [] W):=by
 obtain ⟨X0,hX0⟩:∃ X,X=W.alloc (.cells #[.int .i64 (n:Int),.string (bs (tab n F))] 26):=⟨_,rfl⟩
 have HB0:Hid (Below W.heap.size W X0):=by rw [hX0];exact (Below.refl _ _).alloc (Nat.le_refl _) _
 have HL0:Hid (Lay X0 W.heap.size (.int .i64 (n:Int)) (.string (bs (tab n F)))):=by rw [hX0];exact Lay.made _ _ _ _
 have hE:W.alloc (.cells #[.int .i64 (n:Int),.string (bs (tab n F))] 26)=X0:=hX0.symm
 have HKN:Hid (∀ W,Calls Try.prog 73 #[tv (n:Int) (bs (tab n F))] W fun e w'=>e=.returned (.int .i64 (knw n F))/\Below W.heap.size W w'):=fun W=>sKnown n F W hn
 clear hX0 hn
 generalize knw n F=kn at *
 generalize bs (tab n F)=S at *
 go_enter Try.func46,Try.ntmps46
 go_upto_region 1 with fail
 clear hE
 obtain ⟨d0,d1,_,_⟩:=HL0.out
 have hd:=HL0.out.lt
 go_wp2_with fail
 clear d0 d1 hd
 refine (HKN.out _).mono ?_
 rintro e w1 ⟨rfl,hb1⟩
 have HB1:Hid (Below W.heap.size W w1):=HB0.out.trans (hb1.mono HB0.out.size)
 clear hb1
 go_wp2
 go_ret
 exact ⟨_,0,[],rfl,rfl,(Lq.lit w1 W.heap.size HB1.out.size),HB1.out.alloc HB1.out.size _⟩
/-- A bit that is owned. -/
theorem ml_own (v:Int) (n:Nat) (F:Nat->Bool) (hn:n<=11) (q:Bool) (W:World) (b o t:Nat) (va:Option Addr) (c c1 vc:Nat) (vs:List Int) (x:Nat) (hx1:x<=1) (PS:List Pk) (hk:¬ 0<=knw (n+1) F) (ht:(q==(v==0))=true)
 (p0:W.cell? ⟨b,o,none⟩=some (.bool q)) (hsl:∀ w:World,(Instr.slice 24 (.slice (some ⟨b,o,none⟩) (n+1) c) (some (.int .i64 1)) none none).run Try.prog w=.ok (.slice (some ⟨b,t,none⟩) n c1) w)
 (hI:Ints W va vs) (hlen:vs.length<=100) (hps:PS.length<=5000)
 (hch:∀ W',Below W.heap.size W W'->Calls Try.prog 75 #[.slice (some ⟨b,o,none⟩) (n+1) c,tv ((n:Int)+1) (bs (tab (n+1) F))] W' fun e w'=>e=.returned (.tuple #[.int .i64 (x:Int),.bool true])/\Below W'.heap.size W' w')
 (h:∀ (W':World) a c,Below W.heap.size W W'->Ints W' a (vs++[(x:Int)])->Calls Try.prog 46 #[.slice (some ⟨b,t,none⟩) n c1,tv (n:Int) (bs (tab n (hb n x F))),.int .i64 v,.slice a (vs.length+1) c] W' (PL PS W')) :
 Calls Try.prog 46 #[.slice (some ⟨b,o,none⟩) (n+1) c,tv ((n:Int)+1) (bs (tab (n+1) F)),.int .i64 v,.slice va vs.length vc] W (PL (⟨vs,(x:Int)⟩ :: PS) W):=by
 obtain ⟨X0,hX0⟩:∃ X,X=W.alloc (.cells #[.int .i64 ((n:Int)+1),.string (bs (tab (n+1) F))] 26):=⟨_,rfl⟩
 have HB0:Hid (Below W.heap.size W X0):=by rw [hX0];exact (Below.refl _ _).alloc (Nat.le_refl _) _
 have HL0:Hid (Lay X0 W.heap.size (.int .i64 ((n:Int)+1)) (.string (bs (tab (n+1) F)))):=by rw [hX0];exact Lay.made _ _ _ _
 have hE:W.alloc (.cells #[.int .i64 ((n:Int)+1),.string (bs (tab (n+1) F))] 26)=X0:=hX0.symm
 have HKN:Hid (∀ W,Calls Try.prog 73 #[tv ((n:Int)+1) (bs (tab (n+1) F))] W fun e w'=>e=.returned (.int .i64 (knw (n+1) F))/\Below W.heap.size W w'):=fun W=>sKnown (n+1) F W (by omega)
 have HH0:Hid (∀ W,Calls Try.prog 63 #[tv ((n:Int)+1) (bs (tab (n+1) F)),.int .i64 0] W fun e w'=>e=.returned (.tuple #[tv (n:Int) (bs (tab n (hb n 0 F))),.bool true])/\Below W.heap.size W w'):=fun W=>sHalf n 0 F W (by omega) (by omega)
 have HH1:Hid (∀ W,Calls Try.prog 63 #[tv ((n:Int)+1) (bs (tab (n+1) F)),.int .i64 1] W fun e w'=>e=.returned (.tuple #[tv (n:Int) (bs (tab n (hb n 1 F))),.bool true])/\Below W.heap.size W w'):=fun W=>sHalf n 1 F W (by omega) (by omega)
 have HCH:Hid _:=hch
 have HREC:Hid (∀ (W':World) a c,Below W.heap.size W W'->Ints W' a (vs++[(x:Int)])->Calls Try.prog 46 #[.slice (some ⟨b,t,none⟩) n c1,tv (n:Int) (bs (tab n (hb n x F))),.int .i64 v,.slice a (vs.length+1) c] W' (PL PS W')):=h
 have HV:Hid (Ints W va vs):=hI
 have HLV:Hid (vs.length<=1048576):=by show _<=_;omega
 have P0:Hid (W.cell? ⟨b,o,none⟩=some (.bool q)):=p0
 have HYL:Hid (∀ ys:List Pq,ys.map Pq.pk=PS->ys.length<=5000):=fun ys hy=>by rw [<- List.length_map,hy];exact hps
 have HX01:Hid ((x=0/\bs (tab n (hb n x F))=bs (tab n (hb n 0 F)))\/(x=1/\bs (tab n (hb n x F))=bs (tab n (hb n 1 F)))):=by
  have:x=0\/x=1:=by omega
  rcases this with e|e
  ·exact .inl ⟨e,by rw [e]⟩
  ·exact .inr ⟨e,by rw [e]⟩
 clear hX0 h hch hI p0 hn hlen hps
 generalize knw (n+1) F=kn at *
 generalize bs (tab (n+1) F)=S at *
 generalize bs (tab n (hb n x F))=SX at *
 generalize bs (tab n (hb n 0 F))=S0 at *
 generalize bs (tab n (hb n 1 F))=S1 at *
 go_enter Try.func46,Try.ntmps46
 go_upto_region 1 with fail
 clear hE
 obtain ⟨d0,d1,_,_⟩:=HL0.out
 have hd:=HL0.out.lt
 go_wp2_with fail
 clear d0 d1 hd
 refine (HKN.out _).mono ?_
 rintro e w1 ⟨rfl,hb1⟩
 have HB1:Hid (Below W.heap.size W w1):=HB0.out.trans (hb1.mono HB0.out.size)
 have HL1:Hid (Lay w1 W.heap.size (.int .i64 ((n:Int)+1)) (.string S)):=HL0.out.below hb1
 clear hb1 HB0 HL0
 obtain ⟨d0,d1,_,_⟩:=HL1.out
 have hd:=HL1.out.lt
 go_wp2_with fail
 clear d0 d1 hd
 refine (HH0.out _).mono ?_
 rintro e w2 ⟨rfl,hb2⟩
 go_upto_region 4 with fail
 obtain ⟨W2,hW2⟩:∃ X,X=w2.alloc (.cells #[.int .i64 (n:Int),.string S0] 26):=⟨_,rfl⟩
 obtain ⟨ql,hql⟩:∃ q,q=w2.heap.size:=⟨_,rfl⟩
 have hb3:Below w1.heap.size w1 W2:=by rw [hW2];exact hb2.alloc hb2.size _
 have HB2:Hid (Below W.heap.size W W2):=HB1.out.trans (hb3.mono HB1.out.size)
 have HL2:Hid (Lay W2 W.heap.size (.int .i64 ((n:Int)+1)) (.string S)):=HL1.out.below hb3
 have HA2:Hid (Lay W2 ql (.int .i64 (n:Int)) (.string S0)):=by rw [hW2,hql];exact Lay.made _ _ _ _
 rw [<- hW2,<- hql]
 clear hW2 hql hb2 hb3 HB1 HL1
 obtain ⟨d0,d1,_,_⟩:=HL2.out
 have hd:=HL2.out.lt
 go_wp2_with fail
 clear d0 d1 hd
 refine (HH1.out _).mono ?_
 rintro e w3 ⟨rfl,hb3⟩
 go_upto_region 5 with fail
 obtain ⟨W3,hW3⟩:∃ X,X=w3.alloc (.cells #[.int .i64 (n:Int),.string S1] 26):=⟨_,rfl⟩
 obtain ⟨qh,hqh⟩:∃ q,q=w3.heap.size:=⟨_,rfl⟩
 have hb4:Below W2.heap.size W2 W3:=by rw [hW3];exact hb3.alloc hb3.size _
 have HB3:Hid (Below W.heap.size W W3):=HB2.out.trans (hb4.mono HB2.out.size)
 have HL3:Hid (Lay W3 W.heap.size (.int .i64 ((n:Int)+1)) (.string S)):=HL2.out.below hb4
 have HA3:Hid (Lay W3 ql (.int .i64 (n:Int)) (.string S0)):=HA2.out.below hb4
 have HC3:Hid (Lay W3 qh (.int .i64 (n:Int)) (.string S1)):=by rw [hW3,hqh];exact Lay.made _ _ _ _
 rw [<- hW3,<- hqh]
 clear hW3 hqh hb3 hb4 HB2 HL2 HA2
 have p0:W3.cell? ⟨b,o,none⟩=some (.bool q):=by rw [HB3.out.cell (p:=⟨b,o,none⟩) (lt_of_cell P0.out)];exact P0.out
 have hpl:=lt_of_cell p0
 obtain ⟨d0,d1,_,_⟩:=HL3.out
 have hd:=HL3.out.lt
 go_wp2_with fail
 clear d0 d1 hd p0 hpl
 refine (HCH.out _ HB3.out).mono ?_
 rintro e w8 ⟨rfl,hb8⟩
 have HB8:Hid (Below W.heap.size W w8):=HB3.out.trans (hb8.mono HB3.out.size)
 have HA8:Hid (Lay w8 ql (.int .i64 (n:Int)) (.string S0)):=HA3.out.below hb8
 have HC8:Hid (Lay w8 qh (.int .i64 (n:Int)) (.string S1)):=HC3.out.below hb8
 clear hb8 HB3 HL3 HA3 HC3
 have a0:=HA8.out.c0
 have a1:=HA8.out.c1
 have al:=lt_of_cell a0
 go_upto_if 46 with fail
 clear a0 a1 al
 obtain ⟨W9,hW9⟩:∃ X,X=w8.alloc (.cells #[.int .i64 (n:Int),.string S0] 26):=⟨_,rfl⟩
 obtain ⟨qx,hqx⟩:∃ q,q=w8.heap.size:=⟨_,rfl⟩
 have hb9:Below w8.heap.size w8 W9:=by rw [hW9];exact (Below.refl _ _).alloc (Nat.le_refl _) _
 have HB9:Hid (Below W.heap.size W W9):=HB8.out.trans (hb9.mono HB8.out.size)
 have HX9:Hid (Lay W9 qx (.int .i64 (n:Int)) (.string S0)):=by rw [hW9,hqx];exact Lay.made _ _ _ _
 have HC9:Hid (Lay W9 qh (.int .i64 (n:Int)) (.string S1)):=HC8.out.below hb9
 have HQX:Hid (W.heap.size<=qx):=by rw [hqx];exact HB8.out.size
 rw [<- hW9,<- hqx]
 clear hW9 hqx hb9 HB8 HA8 HC8 ht hk
 go_cut [13] from 45 to 47 (fun s13 wc=>s13=.int .i64 (x:Int)/\Lay wc qx (.int .i64 (n:Int)) (.string SX)/\Below W.heap.size W wc)
 case first =>
  rcases HX01.out with ⟨e0,e1⟩|⟨e0,e1⟩
  ·subst e0 e1
   go_wp2_with fail
   go_meet
   case rel=>exact ⟨rfl,HX9.out,HB9.out⟩
  ·subst e0 e1
   obtain ⟨x0,x1,x2,x3⟩:=HX9.out
   have xl:=lt_of_cell x0
   have h0:=HC9.out.c0
   have h1:=HC9.out.c1
   have hl:=lt_of_cell h0
   go_wp2_with fail
   go_meet
   case rel=>exact ⟨rfl,HX9.out.put _ _,HB9.out.trans (Kept.below (S:=fun b=>b=qx) (((Kept.refl (fun b=>b=qx) _).setCell (p:=⟨qx,0,none⟩) rfl _).setCell (p:=⟨qx,1,none⟩) rfl _) (fun b hb=>by have:=HQX.out;omega) HB9.out.size)⟩
 case rest =>
  obtain ⟨hs13,hx9,hb9⟩:=hcut
  subst hs13
  have HB10:Hid (Below W.heap.size W wc):=hb9
  have HX10:Hid (Lay wc qx (.int .i64 (n:Int)) (.string SX)):=hx9
  clear hx9 hb9 HB9 HX9 HC9 HX01
  go_upto_region 11 with (at_builtin;go_must (refine allIs _ rfl _ _ rfl vs va vc _ rfl rfl rfl (HV.out.below HB10.out) HLV.out ?_;intro v4 w4 ho4 hb4;obtain ⟨a4,c4,hv4,hi4⟩:=ho4.form;subst hv4;have HI4:Hid (WInts w4 wc.heap.size a4 vs):=hi4;have HB4:Hid (Below wc.heap.size wc w4):=hb4;clear ho4 hi4 hb4))
  obtain ⟨w5,hw5⟩:∃ z,z=w4.alloc (.cells #[.slice a4 vs.length c4,.int .i64 (x:Int)] 61):=⟨_,rfl⟩
  have hb5:Below w4.heap.size w4 w5:=by rw [hw5];exact (Below.refl _ _).alloc (Nat.le_refl _) _
  have hp5:w5.cell? ⟨w4.heap.size,0,none⟩=some (.slice a4 vs.length c4)/\w5.cell? ⟨w4.heap.size,1,none⟩=some (.int .i64 (x:Int)):=by rw [hw5];exact ⟨by simp,by simp⟩
  have HB14:Hid (Below W.heap.size W w4):=HB10.out.trans (HB4.out.mono HB10.out.size)
  have HBW:Hid (Below W.heap.size W w5):=HB14.out.trans (hb5.mono HB14.out.size)
  have HBB:Hid (W.heap.size<=w5.heap.size):=HBW.out.size
  have HX5:Hid (Lay w5 qx (.int .i64 (n:Int)) (.string SX)):=(HX10.out.below HB4.out).below hb5
  have HP5:Hid (w5.cell? ⟨w4.heap.size,0,none⟩=some (.slice a4 vs.length c4)/\w5.cell? ⟨w4.heap.size,1,none⟩=some (.int .i64 (x:Int))):=hp5
  have HI5:Hid (WInts w5 wc.heap.size a4 vs):=wi_kept (q:=⟨a4,c4,vs,(x:Int)⟩) HI4.out (S:=fun _=>False) (Kept.ofBelow hb5) (fun _ _ h=>h)
  have HP0:Hid (WInts w5 W.heap.size a4 vs):=⟨HI5.out.1,HI5.out.2.imp id fun ⟨y,z,e1,e2,e3⟩=>⟨y,z,e1,Nat.le_trans HB10.out.size e2,e3⟩⟩
  have HPO:Hid (∀ q∈[(⟨a4,c4,vs,(x:Int)⟩:Pq)],∀ b,q.own b->b < w5.heap.size):=fun q hq b hb=>by
   rw [List.mem_singleton.1 hq] at hb
   exact (wi_own (q:=⟨a4,c4,vs,(x:Int)⟩) HP0.out hb).2
  have HI0:Hid (Ints w5 va vs):=HV.out.below HBW.out
  have HS:Hid (∀ W',Below w5.heap.size w5 W'->W'.cell? ⟨w4.heap.size,0,none⟩=some (.slice a4 vs.length c4)/\W'.cell? ⟨w4.heap.size,1,none⟩=some (.int .i64 (x:Int))/\W'.cell? ⟨qx,0,none⟩=some (.int .i64 (n:Int))/\W'.cell? ⟨qx,1,none⟩=some (.string SX)):=fun W' hb=>⟨by rw [hb.cell (p:=⟨w4.heap.size,0,none⟩) (lt_of_cell HP5.out.1)];exact HP5.out.1,by rw [hb.cell (p:=⟨w4.heap.size,1,none⟩) (lt_of_cell HP5.out.2)];exact HP5.out.2,(HX5.out.below hb).c0,(HX5.out.below hb).c1⟩
  rw [<- hw5]
  clear hw5 hb5 hp5 HB4 HI4 HB10 HX10 HB14 HI5 HP5 HX5
  refine wp_region_held_drew (S:=fun W=>W.cell? ⟨w4.heap.size,0,none⟩=some (.slice a4 vs.length c4)/\W.cell? ⟨w4.heap.size,1,none⟩=some (.int .i64 (x:Int))/\W.cell? ⟨qx,0,none⟩=some (.int .i64 (n:Int))/\W.cell? ⟨qx,1,none⟩=some (.string SX)) (by kernel_rfl) (HS.out _ (Below.refl _ _).drew) (fun hHeld=>?_)
  refine wpAnyH_take (i:=0) (v:=?_) rfl (by kernel_rfl) (by kernel_rfl) (by kernel_rfl) (fun _ _ _ h=>h) (Or.inl ⟨by rfl,?_⟩) hHeld ?_
  rotate_left
  ·intro v9 hS9
   try dsimp only at hS9
   obtain ⟨s0,s1,s2,s3⟩:=hS9
   go_simp
   try with_reducible rfl
  try simp only [Act.put,List.setIfInBounds_toArray,List.set_cons_zero,List.set_cons_succ,List.getElem_toArray,List.getElem_cons_zero,List.getElem_cons_succ]
  refine wpAnyH_take (i:=2) (v:=?_) rfl (by kernel_rfl) (by kernel_rfl) (by kernel_rfl) (fun _ _ _ h=>h) (Or.inl ⟨by rfl,?_⟩) hHeld ?_
  rotate_left
  ·intro v9 hS9
   try dsimp only at hS9
   skip
   go_simp
   try with_reducible rfl
  try simp only [Act.put,List.setIfInBounds_toArray,List.set_cons_zero,List.set_cons_succ,List.getElem_toArray,List.getElem_cons_zero,List.getElem_cons_succ]
  refine wpAnyH_take (i:=3) (v:=?_) rfl (by kernel_rfl) (by kernel_rfl) (by kernel_rfl) (fun _ _ _ h=>h) (Or.inl ⟨by rfl,?_⟩) hHeld ?_
  rotate_left
  ·intro v9 hS9
   try dsimp only at hS9
   skip
   go_simp
   try with_reducible rfl
  try simp only [Act.put,List.setIfInBounds_toArray,List.set_cons_zero,List.set_cons_succ,List.getElem_toArray,List.getElem_cons_zero,List.getElem_cons_succ]
  refine wpAnyH_take (i:=4) (v:=?_) rfl (by kernel_rfl) (by kernel_rfl) (by kernel_rfl) (fun _ _ _ h=>h) (Or.inl ⟨by rfl,?_⟩) hHeld ?_
  rotate_left
  ·intro v9 hS9
   try dsimp only at hS9
   obtain ⟨s0,s1,s2,s3⟩:=hS9
   go_simp
   try with_reducible rfl
  try simp only [Act.put,List.setIfInBounds_toArray,List.set_cons_zero,List.set_cons_succ,List.getElem_toArray,List.getElem_cons_zero,List.getElem_cons_succ]
  refine wpAnyH_take (i:=5) (v:=?_) rfl (by kernel_rfl) (by kernel_rfl) (by kernel_rfl) (fun _ _ _ h=>h) (Or.inl ⟨by rfl,?_⟩) hHeld ?_
  rotate_left
  ·intro v9 hS9
   try dsimp only at hS9
   skip
   go_simp
   try with_reducible rfl
  try simp only [Act.put,List.setIfInBounds_toArray,List.set_cons_zero,List.set_cons_succ,List.getElem_toArray,List.getElem_cons_zero,List.getElem_cons_succ]
  refine wpAnyH_take (i:=7) (v:=?_) rfl (by kernel_rfl) (by kernel_rfl) (by kernel_rfl) (fun _ _ _ h=>h) (Or.inl ⟨by rfl,?_⟩) hHeld ?_
  rotate_left
  ·intro v9 hS9
   try dsimp only at hS9
   skip
   go_simp
   try with_reducible rfl
  try simp only [Act.put,List.setIfInBounds_toArray,List.set_cons_zero,List.set_cons_succ,List.getElem_toArray,List.getElem_cons_zero,List.getElem_cons_succ]
  refine wpAnyH_take (i:=9) (v:=?_) rfl (by kernel_rfl) (by kernel_rfl) (by kernel_rfl) (fun _ _ _ h=>h) (Or.inl ⟨by rfl,?_⟩) hHeld ?_
  rotate_left
  ·intro v9 hS9
   try dsimp only at hS9
   skip
   go_simp
   try with_reducible rfl
  try simp only [Act.put,List.setIfInBounds_toArray,List.set_cons_zero,List.set_cons_succ,List.getElem_toArray,List.getElem_cons_zero,List.getElem_cons_succ]
  have HW0:Hid (Below w5.heap.size w5 w5.drew):=(Below.refl _ _).drew
  have HZ0:Hid (w5.heap.size<=w5.drew.heap.size):=(Below.refl w5.heap.size w5).drew.size
  obtain ⟨x0,hx⟩:∃ z,z=w5.drew:=⟨_,rfl⟩
  rw [<- hx] at hHeld HW0 HZ0 ⊢
  clear hx
  refine wpAnyH_ready (rs:=[1,6,10]) (by kernel_rfl) (by simp) ?_
  refine (AllReadyH.cons rfl (fun K hK=>?_) (AllReadyH.cons rfl (fun K hK=>?_) (AllReadyH.cons rfl (fun K hK=>?_) AllReadyH.nil)))
  ·go_simp
   have hal:Below x0.heap.size x0 (x0.alloc (.cells #[.slice a4 vs.length c4,.int .i64 (x:Int)] 61)):=(Below.refl _ _).alloc (Nat.le_refl _) _
   have HW1:Hid (Below w5.heap.size w5 (x0.alloc (.cells #[.slice a4 vs.length c4,.int .i64 (x:Int)] 61))):=HW0.out.trans (hal.mono HW0.out.size)
   refine hK.out _ _ (HS.out _ HW1.out) (fun hNext=>?_)
   clear hK K hHeld
   have hHeld:=hNext
   clear hNext
   have hA:Lq (x0.alloc (.cells #[.slice a4 vs.length c4,.int .i64 (x:Int)] 61)) W.heap.size x0.heap.size 1 [⟨a4,c4,vs,(x:Int)⟩]:=Lq.one x0 W.heap.size ⟨a4,c4,vs,(x:Int)⟩ (Nat.le_trans HBB.out HW0.out.size) (wi_kept (q:=⟨a4,c4,vs,(x:Int)⟩) HP0.out (S:=fun _=>False) (Kept.ofBelow HW0.out) (fun _ _ h=>h))
   obtain ⟨x1,hx⟩:∃ z,z=x0.alloc (.cells #[.slice a4 vs.length c4,.int .i64 (x:Int)] 61):=⟨_,rfl⟩
   have HZ1:Hid (x0.heap.size < x1.heap.size):=by show _ < _;rw [hx];simp
   rw [<- hx] at hHeld HW1 hal hA ⊢
   clear hx
   have HA1:Hid (Lq x1 W.heap.size x0.heap.size 1 [⟨a4,c4,vs,(x:Int)⟩]):=hA
   clear hA
   clear hal
   try simp only [Act.put,List.setIfInBounds_toArray,List.set_cons_zero,List.set_cons_succ,List.getElem_toArray,List.getElem_cons_zero,List.getElem_cons_succ]
   refine wpAnyH_ready (rs:=[6,10]) (by kernel_rfl) (by simp) ?_
   refine (AllReadyH.cons rfl (fun K hK=>?_) (AllReadyH.cons rfl (fun K hK=>?_) AllReadyH.nil))
   ·go_simp
    have hal:Below x1.heap.size x1 (x1.alloc (.cells #[] 3)):=(Below.refl _ _).alloc (Nat.le_refl _) _
    have HW2:Hid (Below w5.heap.size w5 (x1.alloc (.cells #[] 3))):=HW1.out.trans (hal.mono HW1.out.size)
    refine hK.out _ _ (HS.out _ HW2.out) (fun hNext=>?_)
    clear hK K hHeld
    have hHeld:=hNext
    clear hNext
    have hG:Ows (x1.alloc (.cells #[] 3)) w5.heap.size (.slice (some ⟨x1.heap.size,0,none⟩) 0 0) []:=Ows.lit x1 _ HW1.out.size
    obtain ⟨x2,hx⟩:∃ z,z=x1.alloc (.cells #[] 3):=⟨_,rfl⟩
    have HZ2:Hid (x1.heap.size < x2.heap.size):=by show _ < _;rw [hx];simp
    rw [<- hx] at hHeld HW2 hal hG ⊢
    clear hx
    have HG2:Hid (Ows x2 w5.heap.size (.slice (some ⟨x1.heap.size,0,none⟩) 0 0) []):=hG
    clear hG
    have HA2:Hid _:=HA1.out.below hal
    clear HA1
    clear hal
    try simp only [Act.put,List.setIfInBounds_toArray,List.set_cons_zero,List.set_cons_succ,List.getElem_toArray,List.getElem_cons_zero,List.getElem_cons_succ]
    refine wpAnyH_ready (rs:=[8,10]) (by kernel_rfl) (by simp) ?_
    refine (AllReadyH.cons rfl (fun K hK=>?_) (AllReadyH.cons rfl (fun K hK=>?_) AllReadyH.nil))
    ·refine step_ints x2 rfl _ _ rfl w5.heap.size x1.heap.size vs va vc rfl rfl HG2.out HW2.out.size (HI0.out.below HW2.out) HLV.out ?_
     intro v5 x3 ho hk hv5
     have hb:Below w5.heap.size x2 x3:=hk.below (fun b (hb:b=x1.heap.size)=>(by have:=HZ0.out;have:=HZ1.out;have:=HZ2.out;omega)) HW2.out.size
     have HW3:Hid (Below w5.heap.size w5 x3):=HW2.out.trans hb
     have HZ3:Hid (x2.heap.size<=x3.heap.size):=hk.size
     have HV3:Hid (Ows x3 w5.heap.size v5 vs):=ho
     have HA3:Hid _:=HA2.out.kept hk (fun (h:x0.heap.size=x1.heap.size)=>(by have:=HZ0.out;have:=HZ1.out;have:=HZ2.out;omega)) (fun q hq b hb (h:b=x1.heap.size)=>by have:=HPO.out q hq b hb;have:=HZ0.out;have:=HZ1.out;have:=HZ2.out;omega)
     have HAV:Hid (∀ b,v5.ownBlock=some b->b≠x0.heap.size):=fun b hb=>by have:=hv5 b hb;have:=HZ0.out;have:=HZ1.out;have:=HZ2.out;omega
     clear HA2
     clear hb ho hk hv5 HG2
     refine hK.out _ _ (HS.out _ HW3.out) (fun hNext=>?_)
     clear hK K hHeld
     have hHeld:=hNext
     clear hNext
     try simp only [Act.put,List.setIfInBounds_toArray,List.set_cons_zero,List.set_cons_succ,List.getElem_toArray,List.getElem_cons_zero,List.getElem_cons_succ]
     refine wpAnyH_ready (rs:=[10]) (by kernel_rfl) (by simp) ?_
     refine (AllReadyH.cons rfl (fun K hK=>?_) AllReadyH.nil)
     go_simp
     have hal:Below x3.heap.size x3 (x3.alloc (.cells #[.int .i64 (x:Int)] 3)):=(Below.refl _ _).alloc (Nat.le_refl _) _
     have HW4:Hid (Below w5.heap.size w5 (x3.alloc (.cells #[.int .i64 (x:Int)] 3))):=HW3.out.trans (hal.mono HW3.out.size)
     refine hK.out _ _ (HS.out _ HW4.out) (fun hNext=>?_)
     clear hK K hHeld
     have hHeld:=hNext
     clear hNext
     have hD:(x3.alloc (.cells #[.int .i64 (x:Int)] 3)).cell? ⟨x3.heap.size,0,none⟩=some (.int .i64 (x:Int)):=by simp
     obtain ⟨x4,hx⟩:∃ z,z=x3.alloc (.cells #[.int .i64 (x:Int)] 3):=⟨_,rfl⟩
     have HZ4:Hid (x3.heap.size < x4.heap.size):=by show _ < _;rw [hx];simp
     rw [<- hx] at hHeld HW4 hal hD ⊢
     clear hx
     have HD4:Hid (x4.cell? ⟨x3.heap.size,0,none⟩=some (.int .i64 (x:Int))):=hD
     clear hD
     have HA4:Hid _:=HA3.out.below hal
     clear HA3
     have HV4:Hid (Ows x4 w5.heap.size v5 vs):=HV3.out.kept (S:=fun _=>False) (Kept.ofBelow hal) (fun _ _ h=>h)
     clear HV3
     clear hal
     try simp only [Act.put,List.setIfInBounds_toArray,List.set_cons_zero,List.set_cons_succ,List.getElem_toArray,List.getElem_cons_zero,List.getElem_cons_succ]
     refine wpAnyH_ready (rs:=[11]) (by kernel_rfl) (by simp) ?_
     refine (AllReadyH.cons rfl (fun K hK=>?_) AllReadyH.nil)
     refine step_int x4 rfl _ _ rfl w5.heap.size v5 vs (x:Int) rfl x3.heap.size rfl HD4.out HV4.out HW4.out.size HLV.out ?_
     intro g6 c6 x5 ho hk
     have HW5:Hid (Below w5.heap.size w5 x5):=HW4.out.trans (hk.below (fun b hb=>(HV4.out.lt b hb).1) HW4.out.size)
     have HZ5:Hid (x4.heap.size<=x5.heap.size):=hk.size
     have HN5:Hid (Ints x5 (some ⟨g6,0,none⟩) (vs++[(x:Int)])):=by
      obtain ⟨a9,c9,e9,f9⟩:=ho.form
      injection e9 with ea eb ec
      rw [<- ea] at f9
      exact f9.ints
     have HA5:Hid _:=HA4.out.kept hk (fun h=>HAV.out _ h rfl) (fun q hq b hb h=>by have:=HPO.out q hq b hb;have:=(HV4.out.lt b h).1;have:=HZ0.out;have:=HZ1.out;have:=HZ2.out;have:=HZ3.out;have:=HZ4.out;omega)
     clear HA4
     clear ho hk HD4 HV4
     refine hK.out _ _ (HS.out _ HW5.out) (fun hNext=>?_)
     clear hK K hHeld
     have hHeld:=hNext
     clear hNext
     try simp only [Act.put,List.setIfInBounds_toArray,List.set_cons_zero,List.set_cons_succ,List.getElem_toArray,List.getElem_cons_zero,List.getElem_cons_succ]
     refine wpAnyH_ready (rs:=[12]) (by kernel_rfl) (by simp) ?_
     refine (AllReadyH.cons rfl (fun K hK=>?_) AllReadyH.nil)
     refine step_call (f:=46) (args := #[.slice (some ⟨b,t,none⟩) n c1,tv (n:Int) SX,.int .i64 v,.slice (some ⟨g6,0,none⟩) (vs.length+1) c6]) rfl (by go_simp) ?_
     refine Calls.mono (HREC.out x5 _ _ (HBW.out.trans (HW5.out.mono HBW.out.size)) HN5.out) ?_
     rintro e x6 ⟨g2,cap2,ys,rfl,hy1,hy2,hb2⟩
     have HW6:Hid (Below w5.heap.size w5 x6):=HW5.out.trans (hb2.mono HW5.out.size)
     have HZ6:Hid (x5.heap.size<=x6.heap.size):=hb2.size
     have HY6:Hid (Lq x6 x5.heap.size g2 cap2 ys):=hy2
     have HYP:Hid (ys.map Pq.pk=_):=hy1
     have HA6:Hid _:=HA5.out.below hb2
     have HYG:Hid (∀ q∈ys,¬ q.own x0.heap.size):=fun q hq hb=>by have:=(wi_own (hy2.ins q hq) hb).1;have:=HZ0.out;have:=HZ1.out;have:=HZ2.out;have:=HZ3.out;have:=HZ4.out;have:=HZ5.out;omega
     clear HA5
     clear hy1 hy2 hb2 HN5
     refine ⟨_,rfl,?_⟩
     refine hK.out _ _ (HS.out _ HW6.out) (fun hNext=>?_)
     clear hK K hHeld
     have hHeld:=hNext
     clear hNext
     try simp only [Act.put,List.setIfInBounds_toArray,List.set_cons_zero,List.set_cons_succ,List.getElem_toArray,List.getElem_cons_zero,List.getElem_cons_succ]
     refine wpAnyH_ready (rs:=[13]) (by kernel_rfl) (by simp) ?_
     refine (AllReadyH.cons rfl (fun K hK=>?_) AllReadyH.nil)
     refine step_join x6 rfl _ _ rfl W.heap.size x0.heap.size 1 x5.heap.size g2 cap2 1 [⟨a4,c4,vs,(x:Int)⟩] ys rfl rfl rfl HA6.out HY6.out (Nat.le_trans HBB.out (by have:=HZ0.out;have:=HZ1.out;have:=HZ2.out;have:=HZ3.out;have:=HZ4.out;have:=HZ5.out;have:=HZ6.out;omega)) HYG.out (fun p hp b hb=>by have:=HPO.out p hp b hb;have:=HZ0.out;have:=HZ1.out;have:=HZ2.out;have:=HZ3.out;have:=HZ4.out;have:=HZ5.out;have:=HZ6.out;omega) (Nat.le_trans HBB.out HW6.out.size) (by have:=HYL.out ys HYP.out;simp;omega) ?_
     intro g7 c7 x7 ho hk
     have HW7:Hid (Below w5.heap.size w5 x7):=HW6.out.trans (hk.below (fun b (hb:b=x0.heap.size)=>(by have:=HZ0.out;have:=HZ1.out;have:=HZ2.out;have:=HZ3.out;have:=HZ4.out;have:=HZ5.out;have:=HZ6.out;omega)) HW6.out.size)
     have HR:Hid (Lq x7 W.heap.size g7 c7 ([⟨a4,c4,vs,(x:Int)⟩]++ys)):=ho
     clear ho hk HA6 HY6
     refine hK.out _ _ (HS.out _ HW7.out) (fun hNext=>?_)
     clear hK K hHeld
     have hHeld:=hNext
     clear hNext
     try simp only [Act.put,List.setIfInBounds_toArray,List.set_cons_zero,List.set_cons_succ,List.getElem_toArray,List.getElem_cons_zero,List.getElem_cons_succ]
     refine wpAnyH_take (i:=14) (v:=?_) rfl (by kernel_rfl) (by kernel_rfl) (by kernel_rfl) (fun _ _ _ h=>h) (Or.inl ⟨by rfl,?_⟩) hHeld ?_
     rotate_left
     ·intro v9 hS9
      try dsimp only at hS9
      skip
      go_simp
      try with_reducible rfl
     try simp only [Act.put,List.setIfInBounds_toArray,List.set_cons_zero,List.set_cons_succ,List.getElem_toArray,List.getElem_cons_zero,List.getElem_cons_succ]
     refine wpAnyH_done (by kernel_rfl) ?_ _
     clear hHeld
     go_wp2
     go_ret
     exact ⟨g7,c7,_,by rw [List.length_append];rfl,by rw [List.map_append,HYP.out];rfl,HR.out,HBW.out.trans (HW7.out.mono HBW.out.size)⟩
    ·go_simp
     have hal:Below x2.heap.size x2 (x2.alloc (.cells #[.int .i64 (x:Int)] 3)):=(Below.refl _ _).alloc (Nat.le_refl _) _
     have HW3:Hid (Below w5.heap.size w5 (x2.alloc (.cells #[.int .i64 (x:Int)] 3))):=HW2.out.trans (hal.mono HW2.out.size)
     refine hK.out _ _ (HS.out _ HW3.out) (fun hNext=>?_)
     clear hK K hHeld
     have hHeld:=hNext
     clear hNext
     have hD:(x2.alloc (.cells #[.int .i64 (x:Int)] 3)).cell? ⟨x2.heap.size,0,none⟩=some (.int .i64 (x:Int)):=by simp
     obtain ⟨x3,hx⟩:∃ z,z=x2.alloc (.cells #[.int .i64 (x:Int)] 3):=⟨_,rfl⟩
     have HZ3:Hid (x2.heap.size < x3.heap.size):=by show _ < _;rw [hx];simp
     rw [<- hx] at hHeld HW3 hal hD ⊢
     clear hx
     have HD3:Hid (x3.cell? ⟨x2.heap.size,0,none⟩=some (.int .i64 (x:Int))):=hD
     clear hD
     have HA3:Hid _:=HA2.out.below hal
     clear HA2
     have HG3:Hid (Ows x3 w5.heap.size (.slice (some ⟨x1.heap.size,0,none⟩) 0 0) []):=HG2.out.kept (S:=fun _=>False) (Kept.ofBelow hal) (fun _ _ h=>h)
     clear HG2
     clear hal
     try simp only [Act.put,List.setIfInBounds_toArray,List.set_cons_zero,List.set_cons_succ,List.getElem_toArray,List.getElem_cons_zero,List.getElem_cons_succ]
     refine wpAnyH_ready (rs:=[8]) (by kernel_rfl) (by simp) ?_
     refine (AllReadyH.cons rfl (fun K hK=>?_) AllReadyH.nil)
     refine step_ints x3 rfl _ _ rfl w5.heap.size x1.heap.size vs va vc rfl rfl HG3.out HW3.out.size (HI0.out.below HW3.out) HLV.out ?_
     intro v5 x4 ho hk hv5
     have hb:Below w5.heap.size x3 x4:=hk.below (fun b (hb:b=x1.heap.size)=>(by have:=HZ0.out;have:=HZ1.out;have:=HZ2.out;have:=HZ3.out;omega)) HW3.out.size
     have HW4:Hid (Below w5.heap.size w5 x4):=HW3.out.trans hb
     have HZ4:Hid (x3.heap.size<=x4.heap.size):=hk.size
     have HV4:Hid (Ows x4 w5.heap.size v5 vs):=ho
     have HA4:Hid _:=HA3.out.kept hk (fun (h:x0.heap.size=x1.heap.size)=>(by have:=HZ0.out;have:=HZ1.out;have:=HZ2.out;have:=HZ3.out;omega)) (fun q hq b hb (h:b=x1.heap.size)=>by have:=HPO.out q hq b hb;have:=HZ0.out;have:=HZ1.out;have:=HZ2.out;have:=HZ3.out;omega)
     have HAV:Hid (∀ b,v5.ownBlock=some b->b≠x0.heap.size):=fun b hb=>by have:=hv5 b hb;have:=HZ0.out;have:=HZ1.out;have:=HZ2.out;have:=HZ3.out;omega
     clear HA3
     have HD4:Hid (x4.cell? ⟨x2.heap.size,0,none⟩=some (.int .i64 (x:Int))):=(by show _=_;rw [hk.cell (p:=⟨x2.heap.size,0,none⟩) (lt_of_cell HD3.out) (fun (h:x2.heap.size=x1.heap.size)=>(by have:=HZ0.out;have:=HZ1.out;have:=HZ2.out;have:=HZ3.out;omega))];exact HD3.out)
     clear HD3
     clear hb ho hk hv5 HG3
     refine hK.out _ _ (HS.out _ HW4.out) (fun hNext=>?_)
     clear hK K hHeld
     have hHeld:=hNext
     clear hNext
     try simp only [Act.put,List.setIfInBounds_toArray,List.set_cons_zero,List.set_cons_succ,List.getElem_toArray,List.getElem_cons_zero,List.getElem_cons_succ]
     refine wpAnyH_ready (rs:=[11]) (by kernel_rfl) (by simp) ?_
     refine (AllReadyH.cons rfl (fun K hK=>?_) AllReadyH.nil)
     refine step_int x4 rfl _ _ rfl w5.heap.size v5 vs (x:Int) rfl x2.heap.size rfl HD4.out HV4.out HW4.out.size HLV.out ?_
     intro g6 c6 x5 ho hk
     have HW5:Hid (Below w5.heap.size w5 x5):=HW4.out.trans (hk.below (fun b hb=>(HV4.out.lt b hb).1) HW4.out.size)
     have HZ5:Hid (x4.heap.size<=x5.heap.size):=hk.size
     have HN5:Hid (Ints x5 (some ⟨g6,0,none⟩) (vs++[(x:Int)])):=by
      obtain ⟨a9,c9,e9,f9⟩:=ho.form
      injection e9 with ea eb ec
      rw [<- ea] at f9
      exact f9.ints
     have HA5:Hid _:=HA4.out.kept hk (fun h=>HAV.out _ h rfl) (fun q hq b hb h=>by have:=HPO.out q hq b hb;have:=(HV4.out.lt b h).1;have:=HZ0.out;have:=HZ1.out;have:=HZ2.out;have:=HZ3.out;have:=HZ4.out;omega)
     clear HA4
     clear ho hk HD4 HV4
     refine hK.out _ _ (HS.out _ HW5.out) (fun hNext=>?_)
     clear hK K hHeld
     have hHeld:=hNext
     clear hNext
     try simp only [Act.put,List.setIfInBounds_toArray,List.set_cons_zero,List.set_cons_succ,List.getElem_toArray,List.getElem_cons_zero,List.getElem_cons_succ]
     refine wpAnyH_ready (rs:=[12]) (by kernel_rfl) (by simp) ?_
     refine (AllReadyH.cons rfl (fun K hK=>?_) AllReadyH.nil)
     refine step_call (f:=46) (args := #[.slice (some ⟨b,t,none⟩) n c1,tv (n:Int) SX,.int .i64 v,.slice (some ⟨g6,0,none⟩) (vs.length+1) c6]) rfl (by go_simp) ?_
     refine Calls.mono (HREC.out x5 _ _ (HBW.out.trans (HW5.out.mono HBW.out.size)) HN5.out) ?_
     rintro e x6 ⟨g2,cap2,ys,rfl,hy1,hy2,hb2⟩
     have HW6:Hid (Below w5.heap.size w5 x6):=HW5.out.trans (hb2.mono HW5.out.size)
     have HZ6:Hid (x5.heap.size<=x6.heap.size):=hb2.size
     have HY6:Hid (Lq x6 x5.heap.size g2 cap2 ys):=hy2
     have HYP:Hid (ys.map Pq.pk=_):=hy1
     have HA6:Hid _:=HA5.out.below hb2
     have HYG:Hid (∀ q∈ys,¬ q.own x0.heap.size):=fun q hq hb=>by have:=(wi_own (hy2.ins q hq) hb).1;have:=HZ0.out;have:=HZ1.out;have:=HZ2.out;have:=HZ3.out;have:=HZ4.out;have:=HZ5.out;omega
     clear HA5
     clear hy1 hy2 hb2 HN5
     refine ⟨_,rfl,?_⟩
     refine hK.out _ _ (HS.out _ HW6.out) (fun hNext=>?_)
     clear hK K hHeld
     have hHeld:=hNext
     clear hNext
     try simp only [Act.put,List.setIfInBounds_toArray,List.set_cons_zero,List.set_cons_succ,List.getElem_toArray,List.getElem_cons_zero,List.getElem_cons_succ]
     refine wpAnyH_ready (rs:=[13]) (by kernel_rfl) (by simp) ?_
     refine (AllReadyH.cons rfl (fun K hK=>?_) AllReadyH.nil)
     refine step_join x6 rfl _ _ rfl W.heap.size x0.heap.size 1 x5.heap.size g2 cap2 1 [⟨a4,c4,vs,(x:Int)⟩] ys rfl rfl rfl HA6.out HY6.out (Nat.le_trans HBB.out (by have:=HZ0.out;have:=HZ1.out;have:=HZ2.out;have:=HZ3.out;have:=HZ4.out;have:=HZ5.out;have:=HZ6.out;omega)) HYG.out (fun p hp b hb=>by have:=HPO.out p hp b hb;have:=HZ0.out;have:=HZ1.out;have:=HZ2.out;have:=HZ3.out;have:=HZ4.out;have:=HZ5.out;have:=HZ6.out;omega) (Nat.le_trans HBB.out HW6.out.size) (by have:=HYL.out ys HYP.out;simp;omega) ?_
     intro g7 c7 x7 ho hk
     have HW7:Hid (Below w5.heap.size w5 x7):=HW6.out.trans (hk.below (fun b (hb:b=x0.heap.size)=>(by have:=HZ0.out;have:=HZ1.out;have:=HZ2.out;have:=HZ3.out;have:=HZ4.out;have:=HZ5.out;have:=HZ6.out;omega)) HW6.out.size)
     have HR:Hid (Lq x7 W.heap.size g7 c7 ([⟨a4,c4,vs,(x:Int)⟩]++ys)):=ho
     clear ho hk HA6 HY6
     refine hK.out _ _ (HS.out _ HW7.out) (fun hNext=>?_)
     clear hK K hHeld
     have hHeld:=hNext
     clear hNext
     try simp only [Act.put,List.setIfInBounds_toArray,List.set_cons_zero,List.set_cons_succ,List.getElem_toArray,List.getElem_cons_zero,List.getElem_cons_succ]
     refine wpAnyH_take (i:=14) (v:=?_) rfl (by kernel_rfl) (by kernel_rfl) (by kernel_rfl) (fun _ _ _ h=>h) (Or.inl ⟨by rfl,?_⟩) hHeld ?_
     rotate_left
     ·intro v9 hS9
      try dsimp only at hS9
      skip
      go_simp
      try with_reducible rfl
     try simp only [Act.put,List.setIfInBounds_toArray,List.set_cons_zero,List.set_cons_succ,List.getElem_toArray,List.getElem_cons_zero,List.getElem_cons_succ]
     refine wpAnyH_done (by kernel_rfl) ?_ _
     clear hHeld
     go_wp2
     go_ret
     exact ⟨g7,c7,_,by rw [List.length_append];rfl,by rw [List.map_append,HYP.out];rfl,HR.out,HBW.out.trans (HW7.out.mono HBW.out.size)⟩
   ·go_simp
    have hal:Below x1.heap.size x1 (x1.alloc (.cells #[.int .i64 (x:Int)] 3)):=(Below.refl _ _).alloc (Nat.le_refl _) _
    have HW2:Hid (Below w5.heap.size w5 (x1.alloc (.cells #[.int .i64 (x:Int)] 3))):=HW1.out.trans (hal.mono HW1.out.size)
    refine hK.out _ _ (HS.out _ HW2.out) (fun hNext=>?_)
    clear hK K hHeld
    have hHeld:=hNext
    clear hNext
    have hD:(x1.alloc (.cells #[.int .i64 (x:Int)] 3)).cell? ⟨x1.heap.size,0,none⟩=some (.int .i64 (x:Int)):=by simp
    obtain ⟨x2,hx⟩:∃ z,z=x1.alloc (.cells #[.int .i64 (x:Int)] 3):=⟨_,rfl⟩
    have HZ2:Hid (x1.heap.size < x2.heap.size):=by show _ < _;rw [hx];simp
    rw [<- hx] at hHeld HW2 hal hD ⊢
    clear hx
    have HD2:Hid (x2.cell? ⟨x1.heap.size,0,none⟩=some (.int .i64 (x:Int))):=hD
    clear hD
    have HA2:Hid _:=HA1.out.below hal
    clear HA1
    clear hal
    try simp only [Act.put,List.setIfInBounds_toArray,List.set_cons_zero,List.set_cons_succ,List.getElem_toArray,List.getElem_cons_zero,List.getElem_cons_succ]
    refine wpAnyH_ready (rs:=[6]) (by kernel_rfl) (by simp) ?_
    refine (AllReadyH.cons rfl (fun K hK=>?_) AllReadyH.nil)
    go_simp
    have hal:Below x2.heap.size x2 (x2.alloc (.cells #[] 3)):=(Below.refl _ _).alloc (Nat.le_refl _) _
    have HW3:Hid (Below w5.heap.size w5 (x2.alloc (.cells #[] 3))):=HW2.out.trans (hal.mono HW2.out.size)
    refine hK.out _ _ (HS.out _ HW3.out) (fun hNext=>?_)
    clear hK K hHeld
    have hHeld:=hNext
    clear hNext
    have hG:Ows (x2.alloc (.cells #[] 3)) w5.heap.size (.slice (some ⟨x2.heap.size,0,none⟩) 0 0) []:=Ows.lit x2 _ HW2.out.size
    obtain ⟨x3,hx⟩:∃ z,z=x2.alloc (.cells #[] 3):=⟨_,rfl⟩
    have HZ3:Hid (x2.heap.size < x3.heap.size):=by show _ < _;rw [hx];simp
    rw [<- hx] at hHeld HW3 hal hG ⊢
    clear hx
    have HG3:Hid (Ows x3 w5.heap.size (.slice (some ⟨x2.heap.size,0,none⟩) 0 0) []):=hG
    clear hG
    have HA3:Hid _:=HA2.out.below hal
    clear HA2
    have HD3:Hid (x3.cell? ⟨x1.heap.size,0,none⟩=some (.int .i64 (x:Int))):=(by show _=_;rw [hal.cell (lt_of_cell HD2.out)];exact HD2.out)
    clear HD2
    clear hal
    try simp only [Act.put,List.setIfInBounds_toArray,List.set_cons_zero,List.set_cons_succ,List.getElem_toArray,List.getElem_cons_zero,List.getElem_cons_succ]
    refine wpAnyH_ready (rs:=[8]) (by kernel_rfl) (by simp) ?_
    refine (AllReadyH.cons rfl (fun K hK=>?_) AllReadyH.nil)
    refine step_ints x3 rfl _ _ rfl w5.heap.size x2.heap.size vs va vc rfl rfl HG3.out HW3.out.size (HI0.out.below HW3.out) HLV.out ?_
    intro v5 x4 ho hk hv5
    have hb:Below w5.heap.size x3 x4:=hk.below (fun b (hb:b=x2.heap.size)=>(by have:=HZ0.out;have:=HZ1.out;have:=HZ2.out;have:=HZ3.out;omega)) HW3.out.size
    have HW4:Hid (Below w5.heap.size w5 x4):=HW3.out.trans hb
    have HZ4:Hid (x3.heap.size<=x4.heap.size):=hk.size
    have HV4:Hid (Ows x4 w5.heap.size v5 vs):=ho
    have HA4:Hid _:=HA3.out.kept hk (fun (h:x0.heap.size=x2.heap.size)=>(by have:=HZ0.out;have:=HZ1.out;have:=HZ2.out;have:=HZ3.out;omega)) (fun q hq b hb (h:b=x2.heap.size)=>by have:=HPO.out q hq b hb;have:=HZ0.out;have:=HZ1.out;have:=HZ2.out;have:=HZ3.out;omega)
    have HAV:Hid (∀ b,v5.ownBlock=some b->b≠x0.heap.size):=fun b hb=>by have:=hv5 b hb;have:=HZ0.out;have:=HZ1.out;have:=HZ2.out;have:=HZ3.out;omega
    clear HA3
    have HD4:Hid (x4.cell? ⟨x1.heap.size,0,none⟩=some (.int .i64 (x:Int))):=(by show _=_;rw [hk.cell (p:=⟨x1.heap.size,0,none⟩) (lt_of_cell HD3.out) (fun (h:x1.heap.size=x2.heap.size)=>(by have:=HZ0.out;have:=HZ1.out;have:=HZ2.out;have:=HZ3.out;omega))];exact HD3.out)
    clear HD3
    clear hb ho hk hv5 HG3
    refine hK.out _ _ (HS.out _ HW4.out) (fun hNext=>?_)
    clear hK K hHeld
    have hHeld:=hNext
    clear hNext
    try simp only [Act.put,List.setIfInBounds_toArray,List.set_cons_zero,List.set_cons_succ,List.getElem_toArray,List.getElem_cons_zero,List.getElem_cons_succ]
    refine wpAnyH_ready (rs:=[11]) (by kernel_rfl) (by simp) ?_
    refine (AllReadyH.cons rfl (fun K hK=>?_) AllReadyH.nil)
    refine step_int x4 rfl _ _ rfl w5.heap.size v5 vs (x:Int) rfl x1.heap.size rfl HD4.out HV4.out HW4.out.size HLV.out ?_
    intro g6 c6 x5 ho hk
    have HW5:Hid (Below w5.heap.size w5 x5):=HW4.out.trans (hk.below (fun b hb=>(HV4.out.lt b hb).1) HW4.out.size)
    have HZ5:Hid (x4.heap.size<=x5.heap.size):=hk.size
    have HN5:Hid (Ints x5 (some ⟨g6,0,none⟩) (vs++[(x:Int)])):=by
     obtain ⟨a9,c9,e9,f9⟩:=ho.form
     injection e9 with ea eb ec
     rw [<- ea] at f9
     exact f9.ints
    have HA5:Hid _:=HA4.out.kept hk (fun h=>HAV.out _ h rfl) (fun q hq b hb h=>by have:=HPO.out q hq b hb;have:=(HV4.out.lt b h).1;have:=HZ0.out;have:=HZ1.out;have:=HZ2.out;have:=HZ3.out;have:=HZ4.out;omega)
    clear HA4
    clear ho hk HD4 HV4
    refine hK.out _ _ (HS.out _ HW5.out) (fun hNext=>?_)
    clear hK K hHeld
    have hHeld:=hNext
    clear hNext
    try simp only [Act.put,List.setIfInBounds_toArray,List.set_cons_zero,List.set_cons_succ,List.getElem_toArray,List.getElem_cons_zero,List.getElem_cons_succ]
    refine wpAnyH_ready (rs:=[12]) (by kernel_rfl) (by simp) ?_
    refine (AllReadyH.cons rfl (fun K hK=>?_) AllReadyH.nil)
    refine step_call (f:=46) (args := #[.slice (some ⟨b,t,none⟩) n c1,tv (n:Int) SX,.int .i64 v,.slice (some ⟨g6,0,none⟩) (vs.length+1) c6]) rfl (by go_simp) ?_
    refine Calls.mono (HREC.out x5 _ _ (HBW.out.trans (HW5.out.mono HBW.out.size)) HN5.out) ?_
    rintro e x6 ⟨g2,cap2,ys,rfl,hy1,hy2,hb2⟩
    have HW6:Hid (Below w5.heap.size w5 x6):=HW5.out.trans (hb2.mono HW5.out.size)
    have HZ6:Hid (x5.heap.size<=x6.heap.size):=hb2.size
    have HY6:Hid (Lq x6 x5.heap.size g2 cap2 ys):=hy2
    have HYP:Hid (ys.map Pq.pk=_):=hy1
    have HA6:Hid _:=HA5.out.below hb2
    have HYG:Hid (∀ q∈ys,¬ q.own x0.heap.size):=fun q hq hb=>by have:=(wi_own (hy2.ins q hq) hb).1;have:=HZ0.out;have:=HZ1.out;have:=HZ2.out;have:=HZ3.out;have:=HZ4.out;have:=HZ5.out;omega
    clear HA5
    clear hy1 hy2 hb2 HN5
    refine ⟨_,rfl,?_⟩
    refine hK.out _ _ (HS.out _ HW6.out) (fun hNext=>?_)
    clear hK K hHeld
    have hHeld:=hNext
    clear hNext
    try simp only [Act.put,List.setIfInBounds_toArray,List.set_cons_zero,List.set_cons_succ,List.getElem_toArray,List.getElem_cons_zero,List.getElem_cons_succ]
    refine wpAnyH_ready (rs:=[13]) (by kernel_rfl) (by simp) ?_
    refine (AllReadyH.cons rfl (fun K hK=>?_) AllReadyH.nil)
    refine step_join x6 rfl _ _ rfl W.heap.size x0.heap.size 1 x5.heap.size g2 cap2 1 [⟨a4,c4,vs,(x:Int)⟩] ys rfl rfl rfl HA6.out HY6.out (Nat.le_trans HBB.out (by have:=HZ0.out;have:=HZ1.out;have:=HZ2.out;have:=HZ3.out;have:=HZ4.out;have:=HZ5.out;have:=HZ6.out;omega)) HYG.out (fun p hp b hb=>by have:=HPO.out p hp b hb;have:=HZ0.out;have:=HZ1.out;have:=HZ2.out;have:=HZ3.out;have:=HZ4.out;have:=HZ5.out;have:=HZ6.out;omega) (Nat.le_trans HBB.out HW6.out.size) (by have:=HYL.out ys HYP.out;simp;omega) ?_
    intro g7 c7 x7 ho hk
    have HW7:Hid (Below w5.heap.size w5 x7):=HW6.out.trans (hk.below (fun b (hb:b=x0.heap.size)=>(by have:=HZ0.out;have:=HZ1.out;have:=HZ2.out;have:=HZ3.out;have:=HZ4.out;have:=HZ5.out;have:=HZ6.out;omega)) HW6.out.size)
    have HR:Hid (Lq x7 W.heap.size g7 c7 ([⟨a4,c4,vs,(x:Int)⟩]++ys)):=ho
    clear ho hk HA6 HY6
    refine hK.out _ _ (HS.out _ HW7.out) (fun hNext=>?_)
    clear hK K hHeld
    have hHeld:=hNext
    clear hNext
    try simp only [Act.put,List.setIfInBounds_toArray,List.set_cons_zero,List.set_cons_succ,List.getElem_toArray,List.getElem_cons_zero,List.getElem_cons_succ]
    refine wpAnyH_take (i:=14) (v:=?_) rfl (by kernel_rfl) (by kernel_rfl) (by kernel_rfl) (fun _ _ _ h=>h) (Or.inl ⟨by rfl,?_⟩) hHeld ?_
    rotate_left
    ·intro v9 hS9
     try dsimp only at hS9
     skip
     go_simp
     try with_reducible rfl
    try simp only [Act.put,List.setIfInBounds_toArray,List.set_cons_zero,List.set_cons_succ,List.getElem_toArray,List.getElem_cons_zero,List.getElem_cons_succ]
    refine wpAnyH_done (by kernel_rfl) ?_ _
    clear hHeld
    go_wp2
    go_ret
    exact ⟨g7,c7,_,by rw [List.length_append];rfl,by rw [List.map_append,HYP.out];rfl,HR.out,HBW.out.trans (HW7.out.mono HBW.out.size)⟩
  ·go_simp
   have hal:Below x0.heap.size x0 (x0.alloc (.cells #[] 3)):=(Below.refl _ _).alloc (Nat.le_refl _) _
   have HW1:Hid (Below w5.heap.size w5 (x0.alloc (.cells #[] 3))):=HW0.out.trans (hal.mono HW0.out.size)
   refine hK.out _ _ (HS.out _ HW1.out) (fun hNext=>?_)
   clear hK K hHeld
   have hHeld:=hNext
   clear hNext
   have hG:Ows (x0.alloc (.cells #[] 3)) w5.heap.size (.slice (some ⟨x0.heap.size,0,none⟩) 0 0) []:=Ows.lit x0 _ HW0.out.size
   obtain ⟨x1,hx⟩:∃ z,z=x0.alloc (.cells #[] 3):=⟨_,rfl⟩
   have HZ1:Hid (x0.heap.size < x1.heap.size):=by show _ < _;rw [hx];simp
   rw [<- hx] at hHeld HW1 hal hG ⊢
   clear hx
   have HG1:Hid (Ows x1 w5.heap.size (.slice (some ⟨x0.heap.size,0,none⟩) 0 0) []):=hG
   clear hG
   clear hal
   try simp only [Act.put,List.setIfInBounds_toArray,List.set_cons_zero,List.set_cons_succ,List.getElem_toArray,List.getElem_cons_zero,List.getElem_cons_succ]
   refine wpAnyH_ready (rs:=[1,8,10]) (by kernel_rfl) (by simp) ?_
   refine (AllReadyH.cons rfl (fun K hK=>?_) (AllReadyH.cons rfl (fun K hK=>?_) (AllReadyH.cons rfl (fun K hK=>?_) AllReadyH.nil)))
   ·go_simp
    have hal:Below x1.heap.size x1 (x1.alloc (.cells #[.slice a4 vs.length c4,.int .i64 (x:Int)] 61)):=(Below.refl _ _).alloc (Nat.le_refl _) _
    have HW2:Hid (Below w5.heap.size w5 (x1.alloc (.cells #[.slice a4 vs.length c4,.int .i64 (x:Int)] 61))):=HW1.out.trans (hal.mono HW1.out.size)
    refine hK.out _ _ (HS.out _ HW2.out) (fun hNext=>?_)
    clear hK K hHeld
    have hHeld:=hNext
    clear hNext
    have hA:Lq (x1.alloc (.cells #[.slice a4 vs.length c4,.int .i64 (x:Int)] 61)) W.heap.size x1.heap.size 1 [⟨a4,c4,vs,(x:Int)⟩]:=Lq.one x1 W.heap.size ⟨a4,c4,vs,(x:Int)⟩ (Nat.le_trans HBB.out HW1.out.size) (wi_kept (q:=⟨a4,c4,vs,(x:Int)⟩) HP0.out (S:=fun _=>False) (Kept.ofBelow HW1.out) (fun _ _ h=>h))
    obtain ⟨x2,hx⟩:∃ z,z=x1.alloc (.cells #[.slice a4 vs.length c4,.int .i64 (x:Int)] 61):=⟨_,rfl⟩
    have HZ2:Hid (x1.heap.size < x2.heap.size):=by show _ < _;rw [hx];simp
    rw [<- hx] at hHeld HW2 hal hA ⊢
    clear hx
    have HA2:Hid (Lq x2 W.heap.size x1.heap.size 1 [⟨a4,c4,vs,(x:Int)⟩]):=hA
    clear hA
    have HG2:Hid (Ows x2 w5.heap.size (.slice (some ⟨x0.heap.size,0,none⟩) 0 0) []):=HG1.out.kept (S:=fun _=>False) (Kept.ofBelow hal) (fun _ _ h=>h)
    clear HG1
    clear hal
    try simp only [Act.put,List.setIfInBounds_toArray,List.set_cons_zero,List.set_cons_succ,List.getElem_toArray,List.getElem_cons_zero,List.getElem_cons_succ]
    refine wpAnyH_ready (rs:=[8,10]) (by kernel_rfl) (by simp) ?_
    refine (AllReadyH.cons rfl (fun K hK=>?_) (AllReadyH.cons rfl (fun K hK=>?_) AllReadyH.nil))
    ·refine step_ints x2 rfl _ _ rfl w5.heap.size x0.heap.size vs va vc rfl rfl HG2.out HW2.out.size (HI0.out.below HW2.out) HLV.out ?_
     intro v5 x3 ho hk hv5
     have hb:Below w5.heap.size x2 x3:=hk.below (fun b (hb:b=x0.heap.size)=>(by have:=HZ0.out;have:=HZ1.out;have:=HZ2.out;omega)) HW2.out.size
     have HW3:Hid (Below w5.heap.size w5 x3):=HW2.out.trans hb
     have HZ3:Hid (x2.heap.size<=x3.heap.size):=hk.size
     have HV3:Hid (Ows x3 w5.heap.size v5 vs):=ho
     have HA3:Hid _:=HA2.out.kept hk (fun (h:x1.heap.size=x0.heap.size)=>(by have:=HZ0.out;have:=HZ1.out;have:=HZ2.out;omega)) (fun q hq b hb (h:b=x0.heap.size)=>by have:=HPO.out q hq b hb;have:=HZ0.out;have:=HZ1.out;have:=HZ2.out;omega)
     have HAV:Hid (∀ b,v5.ownBlock=some b->b≠x1.heap.size):=fun b hb=>by have:=hv5 b hb;have:=HZ0.out;have:=HZ1.out;have:=HZ2.out;omega
     clear HA2
     clear hb ho hk hv5 HG2
     refine hK.out _ _ (HS.out _ HW3.out) (fun hNext=>?_)
     clear hK K hHeld
     have hHeld:=hNext
     clear hNext
     try simp only [Act.put,List.setIfInBounds_toArray,List.set_cons_zero,List.set_cons_succ,List.getElem_toArray,List.getElem_cons_zero,List.getElem_cons_succ]
     refine wpAnyH_ready (rs:=[10]) (by kernel_rfl) (by simp) ?_
     refine (AllReadyH.cons rfl (fun K hK=>?_) AllReadyH.nil)
     go_simp
     have hal:Below x3.heap.size x3 (x3.alloc (.cells #[.int .i64 (x:Int)] 3)):=(Below.refl _ _).alloc (Nat.le_refl _) _
     have HW4:Hid (Below w5.heap.size w5 (x3.alloc (.cells #[.int .i64 (x:Int)] 3))):=HW3.out.trans (hal.mono HW3.out.size)
     refine hK.out _ _ (HS.out _ HW4.out) (fun hNext=>?_)
     clear hK K hHeld
     have hHeld:=hNext
     clear hNext
     have hD:(x3.alloc (.cells #[.int .i64 (x:Int)] 3)).cell? ⟨x3.heap.size,0,none⟩=some (.int .i64 (x:Int)):=by simp
     obtain ⟨x4,hx⟩:∃ z,z=x3.alloc (.cells #[.int .i64 (x:Int)] 3):=⟨_,rfl⟩
     have HZ4:Hid (x3.heap.size < x4.heap.size):=by show _ < _;rw [hx];simp
     rw [<- hx] at hHeld HW4 hal hD ⊢
     clear hx
     have HD4:Hid (x4.cell? ⟨x3.heap.size,0,none⟩=some (.int .i64 (x:Int))):=hD
     clear hD
     have HA4:Hid _:=HA3.out.below hal
     clear HA3
     have HV4:Hid (Ows x4 w5.heap.size v5 vs):=HV3.out.kept (S:=fun _=>False) (Kept.ofBelow hal) (fun _ _ h=>h)
     clear HV3
     clear hal
     try simp only [Act.put,List.setIfInBounds_toArray,List.set_cons_zero,List.set_cons_succ,List.getElem_toArray,List.getElem_cons_zero,List.getElem_cons_succ]
     refine wpAnyH_ready (rs:=[11]) (by kernel_rfl) (by simp) ?_
     refine (AllReadyH.cons rfl (fun K hK=>?_) AllReadyH.nil)
     refine step_int x4 rfl _ _ rfl w5.heap.size v5 vs (x:Int) rfl x3.heap.size rfl HD4.out HV4.out HW4.out.size HLV.out ?_
     intro g6 c6 x5 ho hk
     have HW5:Hid (Below w5.heap.size w5 x5):=HW4.out.trans (hk.below (fun b hb=>(HV4.out.lt b hb).1) HW4.out.size)
     have HZ5:Hid (x4.heap.size<=x5.heap.size):=hk.size
     have HN5:Hid (Ints x5 (some ⟨g6,0,none⟩) (vs++[(x:Int)])):=by
      obtain ⟨a9,c9,e9,f9⟩:=ho.form
      injection e9 with ea eb ec
      rw [<- ea] at f9
      exact f9.ints
     have HA5:Hid _:=HA4.out.kept hk (fun h=>HAV.out _ h rfl) (fun q hq b hb h=>by have:=HPO.out q hq b hb;have:=(HV4.out.lt b h).1;have:=HZ0.out;have:=HZ1.out;have:=HZ2.out;have:=HZ3.out;have:=HZ4.out;omega)
     clear HA4
     clear ho hk HD4 HV4
     refine hK.out _ _ (HS.out _ HW5.out) (fun hNext=>?_)
     clear hK K hHeld
     have hHeld:=hNext
     clear hNext
     try simp only [Act.put,List.setIfInBounds_toArray,List.set_cons_zero,List.set_cons_succ,List.getElem_toArray,List.getElem_cons_zero,List.getElem_cons_succ]
     refine wpAnyH_ready (rs:=[12]) (by kernel_rfl) (by simp) ?_
     refine (AllReadyH.cons rfl (fun K hK=>?_) AllReadyH.nil)
     refine step_call (f:=46) (args := #[.slice (some ⟨b,t,none⟩) n c1,tv (n:Int) SX,.int .i64 v,.slice (some ⟨g6,0,none⟩) (vs.length+1) c6]) rfl (by go_simp) ?_
     refine Calls.mono (HREC.out x5 _ _ (HBW.out.trans (HW5.out.mono HBW.out.size)) HN5.out) ?_
     rintro e x6 ⟨g2,cap2,ys,rfl,hy1,hy2,hb2⟩
     have HW6:Hid (Below w5.heap.size w5 x6):=HW5.out.trans (hb2.mono HW5.out.size)
     have HZ6:Hid (x5.heap.size<=x6.heap.size):=hb2.size
     have HY6:Hid (Lq x6 x5.heap.size g2 cap2 ys):=hy2
     have HYP:Hid (ys.map Pq.pk=_):=hy1
     have HA6:Hid _:=HA5.out.below hb2
     have HYG:Hid (∀ q∈ys,¬ q.own x1.heap.size):=fun q hq hb=>by have:=(wi_own (hy2.ins q hq) hb).1;have:=HZ0.out;have:=HZ1.out;have:=HZ2.out;have:=HZ3.out;have:=HZ4.out;have:=HZ5.out;omega
     clear HA5
     clear hy1 hy2 hb2 HN5
     refine ⟨_,rfl,?_⟩
     refine hK.out _ _ (HS.out _ HW6.out) (fun hNext=>?_)
     clear hK K hHeld
     have hHeld:=hNext
     clear hNext
     try simp only [Act.put,List.setIfInBounds_toArray,List.set_cons_zero,List.set_cons_succ,List.getElem_toArray,List.getElem_cons_zero,List.getElem_cons_succ]
     refine wpAnyH_ready (rs:=[13]) (by kernel_rfl) (by simp) ?_
     refine (AllReadyH.cons rfl (fun K hK=>?_) AllReadyH.nil)
     refine step_join x6 rfl _ _ rfl W.heap.size x1.heap.size 1 x5.heap.size g2 cap2 1 [⟨a4,c4,vs,(x:Int)⟩] ys rfl rfl rfl HA6.out HY6.out (Nat.le_trans HBB.out (by have:=HZ0.out;have:=HZ1.out;have:=HZ2.out;have:=HZ3.out;have:=HZ4.out;have:=HZ5.out;have:=HZ6.out;omega)) HYG.out (fun p hp b hb=>by have:=HPO.out p hp b hb;have:=HZ0.out;have:=HZ1.out;have:=HZ2.out;have:=HZ3.out;have:=HZ4.out;have:=HZ5.out;have:=HZ6.out;omega) (Nat.le_trans HBB.out HW6.out.size) (by have:=HYL.out ys HYP.out;simp;omega) ?_
     intro g7 c7 x7 ho hk
     have HW7:Hid (Below w5.heap.size w5 x7):=HW6.out.trans (hk.below (fun b (hb:b=x1.heap.size)=>(by have:=HZ0.out;have:=HZ1.out;have:=HZ2.out;have:=HZ3.out;have:=HZ4.out;have:=HZ5.out;have:=HZ6.out;omega)) HW6.out.size)
     have HR:Hid (Lq x7 W.heap.size g7 c7 ([⟨a4,c4,vs,(x:Int)⟩]++ys)):=ho
     clear ho hk HA6 HY6
     refine hK.out _ _ (HS.out _ HW7.out) (fun hNext=>?_)
     clear hK K hHeld
     have hHeld:=hNext
     clear hNext
     try simp only [Act.put,List.setIfInBounds_toArray,List.set_cons_zero,List.set_cons_succ,List.getElem_toArray,List.getElem_cons_zero,List.getElem_cons_succ]
     refine wpAnyH_take (i:=14) (v:=?_) rfl (by kernel_rfl) (by kernel_rfl) (by kernel_rfl) (fun _ _ _ h=>h) (Or.inl ⟨by rfl,?_⟩) hHeld ?_
     rotate_left
     ·intro v9 hS9
      try dsimp only at hS9
      skip
      go_simp
      try with_reducible rfl
     try simp only [Act.put,List.setIfInBounds_toArray,List.set_cons_zero,List.set_cons_succ,List.getElem_toArray,List.getElem_cons_zero,List.getElem_cons_succ]
     refine wpAnyH_done (by kernel_rfl) ?_ _
     clear hHeld
     go_wp2
     go_ret
     exact ⟨g7,c7,_,by rw [List.length_append];rfl,by rw [List.map_append,HYP.out];rfl,HR.out,HBW.out.trans (HW7.out.mono HBW.out.size)⟩
    ·go_simp
     have hal:Below x2.heap.size x2 (x2.alloc (.cells #[.int .i64 (x:Int)] 3)):=(Below.refl _ _).alloc (Nat.le_refl _) _
     have HW3:Hid (Below w5.heap.size w5 (x2.alloc (.cells #[.int .i64 (x:Int)] 3))):=HW2.out.trans (hal.mono HW2.out.size)
     refine hK.out _ _ (HS.out _ HW3.out) (fun hNext=>?_)
     clear hK K hHeld
     have hHeld:=hNext
     clear hNext
     have hD:(x2.alloc (.cells #[.int .i64 (x:Int)] 3)).cell? ⟨x2.heap.size,0,none⟩=some (.int .i64 (x:Int)):=by simp
     obtain ⟨x3,hx⟩:∃ z,z=x2.alloc (.cells #[.int .i64 (x:Int)] 3):=⟨_,rfl⟩
     have HZ3:Hid (x2.heap.size < x3.heap.size):=by show _ < _;rw [hx];simp
     rw [<- hx] at hHeld HW3 hal hD ⊢
     clear hx
     have HD3:Hid (x3.cell? ⟨x2.heap.size,0,none⟩=some (.int .i64 (x:Int))):=hD
     clear hD
     have HA3:Hid _:=HA2.out.below hal
     clear HA2
     have HG3:Hid (Ows x3 w5.heap.size (.slice (some ⟨x0.heap.size,0,none⟩) 0 0) []):=HG2.out.kept (S:=fun _=>False) (Kept.ofBelow hal) (fun _ _ h=>h)
     clear HG2
     clear hal
     try simp only [Act.put,List.setIfInBounds_toArray,List.set_cons_zero,List.set_cons_succ,List.getElem_toArray,List.getElem_cons_zero,List.getElem_cons_succ]
     refine wpAnyH_ready (rs:=[8]) (by kernel_rfl) (by simp) ?_
     refine (AllReadyH.cons rfl (fun K hK=>?_) AllReadyH.nil)
     refine step_ints x3 rfl _ _ rfl w5.heap.size x0.heap.size vs va vc rfl rfl HG3.out HW3.out.size (HI0.out.below HW3.out) HLV.out ?_
     intro v5 x4 ho hk hv5
     have hb:Below w5.heap.size x3 x4:=hk.below (fun b (hb:b=x0.heap.size)=>(by have:=HZ0.out;have:=HZ1.out;have:=HZ2.out;have:=HZ3.out;omega)) HW3.out.size
     have HW4:Hid (Below w5.heap.size w5 x4):=HW3.out.trans hb
     have HZ4:Hid (x3.heap.size<=x4.heap.size):=hk.size
     have HV4:Hid (Ows x4 w5.heap.size v5 vs):=ho
     have HA4:Hid _:=HA3.out.kept hk (fun (h:x1.heap.size=x0.heap.size)=>(by have:=HZ0.out;have:=HZ1.out;have:=HZ2.out;have:=HZ3.out;omega)) (fun q hq b hb (h:b=x0.heap.size)=>by have:=HPO.out q hq b hb;have:=HZ0.out;have:=HZ1.out;have:=HZ2.out;have:=HZ3.out;omega)
     have HAV:Hid (∀ b,v5.ownBlock=some b->b≠x1.heap.size):=fun b hb=>by have:=hv5 b hb;have:=HZ0.out;have:=HZ1.out;have:=HZ2.out;have:=HZ3.out;omega
     clear HA3
     have HD4:Hid (x4.cell? ⟨x2.heap.size,0,none⟩=some (.int .i64 (x:Int))):=(by show _=_;rw [hk.cell (p:=⟨x2.heap.size,0,none⟩) (lt_of_cell HD3.out) (fun (h:x2.heap.size=x0.heap.size)=>(by have:=HZ0.out;have:=HZ1.out;have:=HZ2.out;have:=HZ3.out;omega))];exact HD3.out)
     clear HD3
     clear hb ho hk hv5 HG3
     refine hK.out _ _ (HS.out _ HW4.out) (fun hNext=>?_)
     clear hK K hHeld
     have hHeld:=hNext
     clear hNext
     try simp only [Act.put,List.setIfInBounds_toArray,List.set_cons_zero,List.set_cons_succ,List.getElem_toArray,List.getElem_cons_zero,List.getElem_cons_succ]
     refine wpAnyH_ready (rs:=[11]) (by kernel_rfl) (by simp) ?_
     refine (AllReadyH.cons rfl (fun K hK=>?_) AllReadyH.nil)
     refine step_int x4 rfl _ _ rfl w5.heap.size v5 vs (x:Int) rfl x2.heap.size rfl HD4.out HV4.out HW4.out.size HLV.out ?_
     intro g6 c6 x5 ho hk
     have HW5:Hid (Below w5.heap.size w5 x5):=HW4.out.trans (hk.below (fun b hb=>(HV4.out.lt b hb).1) HW4.out.size)
     have HZ5:Hid (x4.heap.size<=x5.heap.size):=hk.size
     have HN5:Hid (Ints x5 (some ⟨g6,0,none⟩) (vs++[(x:Int)])):=by
      obtain ⟨a9,c9,e9,f9⟩:=ho.form
      injection e9 with ea eb ec
      rw [<- ea] at f9
      exact f9.ints
     have HA5:Hid _:=HA4.out.kept hk (fun h=>HAV.out _ h rfl) (fun q hq b hb h=>by have:=HPO.out q hq b hb;have:=(HV4.out.lt b h).1;have:=HZ0.out;have:=HZ1.out;have:=HZ2.out;have:=HZ3.out;have:=HZ4.out;omega)
     clear HA4
     clear ho hk HD4 HV4
     refine hK.out _ _ (HS.out _ HW5.out) (fun hNext=>?_)
     clear hK K hHeld
     have hHeld:=hNext
     clear hNext
     try simp only [Act.put,List.setIfInBounds_toArray,List.set_cons_zero,List.set_cons_succ,List.getElem_toArray,List.getElem_cons_zero,List.getElem_cons_succ]
     refine wpAnyH_ready (rs:=[12]) (by kernel_rfl) (by simp) ?_
     refine (AllReadyH.cons rfl (fun K hK=>?_) AllReadyH.nil)
     refine step_call (f:=46) (args := #[.slice (some ⟨b,t,none⟩) n c1,tv (n:Int) SX,.int .i64 v,.slice (some ⟨g6,0,none⟩) (vs.length+1) c6]) rfl (by go_simp) ?_
     refine Calls.mono (HREC.out x5 _ _ (HBW.out.trans (HW5.out.mono HBW.out.size)) HN5.out) ?_
     rintro e x6 ⟨g2,cap2,ys,rfl,hy1,hy2,hb2⟩
     have HW6:Hid (Below w5.heap.size w5 x6):=HW5.out.trans (hb2.mono HW5.out.size)
     have HZ6:Hid (x5.heap.size<=x6.heap.size):=hb2.size
     have HY6:Hid (Lq x6 x5.heap.size g2 cap2 ys):=hy2
     have HYP:Hid (ys.map Pq.pk=_):=hy1
     have HA6:Hid _:=HA5.out.below hb2
     have HYG:Hid (∀ q∈ys,¬ q.own x1.heap.size):=fun q hq hb=>by have:=(wi_own (hy2.ins q hq) hb).1;have:=HZ0.out;have:=HZ1.out;have:=HZ2.out;have:=HZ3.out;have:=HZ4.out;have:=HZ5.out;omega
     clear HA5
     clear hy1 hy2 hb2 HN5
     refine ⟨_,rfl,?_⟩
     refine hK.out _ _ (HS.out _ HW6.out) (fun hNext=>?_)
     clear hK K hHeld
     have hHeld:=hNext
     clear hNext
     try simp only [Act.put,List.setIfInBounds_toArray,List.set_cons_zero,List.set_cons_succ,List.getElem_toArray,List.getElem_cons_zero,List.getElem_cons_succ]
     refine wpAnyH_ready (rs:=[13]) (by kernel_rfl) (by simp) ?_
     refine (AllReadyH.cons rfl (fun K hK=>?_) AllReadyH.nil)
     refine step_join x6 rfl _ _ rfl W.heap.size x1.heap.size 1 x5.heap.size g2 cap2 1 [⟨a4,c4,vs,(x:Int)⟩] ys rfl rfl rfl HA6.out HY6.out (Nat.le_trans HBB.out (by have:=HZ0.out;have:=HZ1.out;have:=HZ2.out;have:=HZ3.out;have:=HZ4.out;have:=HZ5.out;have:=HZ6.out;omega)) HYG.out (fun p hp b hb=>by have:=HPO.out p hp b hb;have:=HZ0.out;have:=HZ1.out;have:=HZ2.out;have:=HZ3.out;have:=HZ4.out;have:=HZ5.out;have:=HZ6.out;omega) (Nat.le_trans HBB.out HW6.out.size) (by have:=HYL.out ys HYP.out;simp;omega) ?_
     intro g7 c7 x7 ho hk
     have HW7:Hid (Below w5.heap.size w5 x7):=HW6.out.trans (hk.below (fun b (hb:b=x1.heap.size)=>(by have:=HZ0.out;have:=HZ1.out;have:=HZ2.out;have:=HZ3.out;have:=HZ4.out;have:=HZ5.out;have:=HZ6.out;omega)) HW6.out.size)
     have HR:Hid (Lq x7 W.heap.size g7 c7 ([⟨a4,c4,vs,(x:Int)⟩]++ys)):=ho
     clear ho hk HA6 HY6
     refine hK.out _ _ (HS.out _ HW7.out) (fun hNext=>?_)
     clear hK K hHeld
     have hHeld:=hNext
     clear hNext
     try simp only [Act.put,List.setIfInBounds_toArray,List.set_cons_zero,List.set_cons_succ,List.getElem_toArray,List.getElem_cons_zero,List.getElem_cons_succ]
     refine wpAnyH_take (i:=14) (v:=?_) rfl (by kernel_rfl) (by kernel_rfl) (by kernel_rfl) (fun _ _ _ h=>h) (Or.inl ⟨by rfl,?_⟩) hHeld ?_
     rotate_left
     ·intro v9 hS9
      try dsimp only at hS9
      skip
      go_simp
      try with_reducible rfl
     try simp only [Act.put,List.setIfInBounds_toArray,List.set_cons_zero,List.set_cons_succ,List.getElem_toArray,List.getElem_cons_zero,List.getElem_cons_succ]
     refine wpAnyH_done (by kernel_rfl) ?_ _
     clear hHeld
     go_wp2
     go_ret
     exact ⟨g7,c7,_,by rw [List.length_append];rfl,by rw [List.map_append,HYP.out];rfl,HR.out,HBW.out.trans (HW7.out.mono HBW.out.size)⟩
   ·refine step_ints x1 rfl _ _ rfl w5.heap.size x0.heap.size vs va vc rfl rfl HG1.out HW1.out.size (HI0.out.below HW1.out) HLV.out ?_
    intro v5 x2 ho hk hv5
    have hb:Below w5.heap.size x1 x2:=hk.below (fun b (hb:b=x0.heap.size)=>(by have:=HZ0.out;have:=HZ1.out;omega)) HW1.out.size
    have HW2:Hid (Below w5.heap.size w5 x2):=HW1.out.trans hb
    have HZ2:Hid (x1.heap.size<=x2.heap.size):=hk.size
    have HV2:Hid (Ows x2 w5.heap.size v5 vs):=ho
    clear hb ho hk hv5 HG1
    refine hK.out _ _ (HS.out _ HW2.out) (fun hNext=>?_)
    clear hK K hHeld
    have hHeld:=hNext
    clear hNext
    try simp only [Act.put,List.setIfInBounds_toArray,List.set_cons_zero,List.set_cons_succ,List.getElem_toArray,List.getElem_cons_zero,List.getElem_cons_succ]
    refine wpAnyH_ready (rs:=[1,10]) (by kernel_rfl) (by simp) ?_
    refine (AllReadyH.cons rfl (fun K hK=>?_) (AllReadyH.cons rfl (fun K hK=>?_) AllReadyH.nil))
    ·go_simp
     have hal:Below x2.heap.size x2 (x2.alloc (.cells #[.slice a4 vs.length c4,.int .i64 (x:Int)] 61)):=(Below.refl _ _).alloc (Nat.le_refl _) _
     have HW3:Hid (Below w5.heap.size w5 (x2.alloc (.cells #[.slice a4 vs.length c4,.int .i64 (x:Int)] 61))):=HW2.out.trans (hal.mono HW2.out.size)
     refine hK.out _ _ (HS.out _ HW3.out) (fun hNext=>?_)
     clear hK K hHeld
     have hHeld:=hNext
     clear hNext
     have hA:Lq (x2.alloc (.cells #[.slice a4 vs.length c4,.int .i64 (x:Int)] 61)) W.heap.size x2.heap.size 1 [⟨a4,c4,vs,(x:Int)⟩]:=Lq.one x2 W.heap.size ⟨a4,c4,vs,(x:Int)⟩ (Nat.le_trans HBB.out HW2.out.size) (wi_kept (q:=⟨a4,c4,vs,(x:Int)⟩) HP0.out (S:=fun _=>False) (Kept.ofBelow HW2.out) (fun _ _ h=>h))
     obtain ⟨x3,hx⟩:∃ z,z=x2.alloc (.cells #[.slice a4 vs.length c4,.int .i64 (x:Int)] 61):=⟨_,rfl⟩
     have HZ3:Hid (x2.heap.size < x3.heap.size):=by show _ < _;rw [hx];simp
     rw [<- hx] at hHeld HW3 hal hA ⊢
     clear hx
     have HA3:Hid (Lq x3 W.heap.size x2.heap.size 1 [⟨a4,c4,vs,(x:Int)⟩]):=hA
     have HAV:Hid (∀ b,v5.ownBlock=some b->b≠x2.heap.size):=fun b hb=>by have:=(HV2.out.lt b hb).2;omega
     clear hA
     have HV3:Hid (Ows x3 w5.heap.size v5 vs):=HV2.out.kept (S:=fun _=>False) (Kept.ofBelow hal) (fun _ _ h=>h)
     clear HV2
     clear hal
     try simp only [Act.put,List.setIfInBounds_toArray,List.set_cons_zero,List.set_cons_succ,List.getElem_toArray,List.getElem_cons_zero,List.getElem_cons_succ]
     refine wpAnyH_ready (rs:=[10]) (by kernel_rfl) (by simp) ?_
     refine (AllReadyH.cons rfl (fun K hK=>?_) AllReadyH.nil)
     go_simp
     have hal:Below x3.heap.size x3 (x3.alloc (.cells #[.int .i64 (x:Int)] 3)):=(Below.refl _ _).alloc (Nat.le_refl _) _
     have HW4:Hid (Below w5.heap.size w5 (x3.alloc (.cells #[.int .i64 (x:Int)] 3))):=HW3.out.trans (hal.mono HW3.out.size)
     refine hK.out _ _ (HS.out _ HW4.out) (fun hNext=>?_)
     clear hK K hHeld
     have hHeld:=hNext
     clear hNext
     have hD:(x3.alloc (.cells #[.int .i64 (x:Int)] 3)).cell? ⟨x3.heap.size,0,none⟩=some (.int .i64 (x:Int)):=by simp
     obtain ⟨x4,hx⟩:∃ z,z=x3.alloc (.cells #[.int .i64 (x:Int)] 3):=⟨_,rfl⟩
     have HZ4:Hid (x3.heap.size < x4.heap.size):=by show _ < _;rw [hx];simp
     rw [<- hx] at hHeld HW4 hal hD ⊢
     clear hx
     have HD4:Hid (x4.cell? ⟨x3.heap.size,0,none⟩=some (.int .i64 (x:Int))):=hD
     clear hD
     have HA4:Hid _:=HA3.out.below hal
     clear HA3
     have HV4:Hid (Ows x4 w5.heap.size v5 vs):=HV3.out.kept (S:=fun _=>False) (Kept.ofBelow hal) (fun _ _ h=>h)
     clear HV3
     clear hal
     try simp only [Act.put,List.setIfInBounds_toArray,List.set_cons_zero,List.set_cons_succ,List.getElem_toArray,List.getElem_cons_zero,List.getElem_cons_succ]
     refine wpAnyH_ready (rs:=[11]) (by kernel_rfl) (by simp) ?_
     refine (AllReadyH.cons rfl (fun K hK=>?_) AllReadyH.nil)
     refine step_int x4 rfl _ _ rfl w5.heap.size v5 vs (x:Int) rfl x3.heap.size rfl HD4.out HV4.out HW4.out.size HLV.out ?_
     intro g6 c6 x5 ho hk
     have HW5:Hid (Below w5.heap.size w5 x5):=HW4.out.trans (hk.below (fun b hb=>(HV4.out.lt b hb).1) HW4.out.size)
     have HZ5:Hid (x4.heap.size<=x5.heap.size):=hk.size
     have HN5:Hid (Ints x5 (some ⟨g6,0,none⟩) (vs++[(x:Int)])):=by
      obtain ⟨a9,c9,e9,f9⟩:=ho.form
      injection e9 with ea eb ec
      rw [<- ea] at f9
      exact f9.ints
     have HA5:Hid _:=HA4.out.kept hk (fun h=>HAV.out _ h rfl) (fun q hq b hb h=>by have:=HPO.out q hq b hb;have:=(HV4.out.lt b h).1;have:=HZ0.out;have:=HZ1.out;have:=HZ2.out;have:=HZ3.out;have:=HZ4.out;omega)
     clear HA4
     clear ho hk HD4 HV4
     refine hK.out _ _ (HS.out _ HW5.out) (fun hNext=>?_)
     clear hK K hHeld
     have hHeld:=hNext
     clear hNext
     try simp only [Act.put,List.setIfInBounds_toArray,List.set_cons_zero,List.set_cons_succ,List.getElem_toArray,List.getElem_cons_zero,List.getElem_cons_succ]
     refine wpAnyH_ready (rs:=[12]) (by kernel_rfl) (by simp) ?_
     refine (AllReadyH.cons rfl (fun K hK=>?_) AllReadyH.nil)
     refine step_call (f:=46) (args := #[.slice (some ⟨b,t,none⟩) n c1,tv (n:Int) SX,.int .i64 v,.slice (some ⟨g6,0,none⟩) (vs.length+1) c6]) rfl (by go_simp) ?_
     refine Calls.mono (HREC.out x5 _ _ (HBW.out.trans (HW5.out.mono HBW.out.size)) HN5.out) ?_
     rintro e x6 ⟨g2,cap2,ys,rfl,hy1,hy2,hb2⟩
     have HW6:Hid (Below w5.heap.size w5 x6):=HW5.out.trans (hb2.mono HW5.out.size)
     have HZ6:Hid (x5.heap.size<=x6.heap.size):=hb2.size
     have HY6:Hid (Lq x6 x5.heap.size g2 cap2 ys):=hy2
     have HYP:Hid (ys.map Pq.pk=_):=hy1
     have HA6:Hid _:=HA5.out.below hb2
     have HYG:Hid (∀ q∈ys,¬ q.own x2.heap.size):=fun q hq hb=>by have:=(wi_own (hy2.ins q hq) hb).1;have:=HZ0.out;have:=HZ1.out;have:=HZ2.out;have:=HZ3.out;have:=HZ4.out;have:=HZ5.out;omega
     clear HA5
     clear hy1 hy2 hb2 HN5
     refine ⟨_,rfl,?_⟩
     refine hK.out _ _ (HS.out _ HW6.out) (fun hNext=>?_)
     clear hK K hHeld
     have hHeld:=hNext
     clear hNext
     try simp only [Act.put,List.setIfInBounds_toArray,List.set_cons_zero,List.set_cons_succ,List.getElem_toArray,List.getElem_cons_zero,List.getElem_cons_succ]
     refine wpAnyH_ready (rs:=[13]) (by kernel_rfl) (by simp) ?_
     refine (AllReadyH.cons rfl (fun K hK=>?_) AllReadyH.nil)
     refine step_join x6 rfl _ _ rfl W.heap.size x2.heap.size 1 x5.heap.size g2 cap2 1 [⟨a4,c4,vs,(x:Int)⟩] ys rfl rfl rfl HA6.out HY6.out (Nat.le_trans HBB.out (by have:=HZ0.out;have:=HZ1.out;have:=HZ2.out;have:=HZ3.out;have:=HZ4.out;have:=HZ5.out;have:=HZ6.out;omega)) HYG.out (fun p hp b hb=>by have:=HPO.out p hp b hb;have:=HZ0.out;have:=HZ1.out;have:=HZ2.out;have:=HZ3.out;have:=HZ4.out;have:=HZ5.out;have:=HZ6.out;omega) (Nat.le_trans HBB.out HW6.out.size) (by have:=HYL.out ys HYP.out;simp;omega) ?_
     intro g7 c7 x7 ho hk
     have HW7:Hid (Below w5.heap.size w5 x7):=HW6.out.trans (hk.below (fun b (hb:b=x2.heap.size)=>(by have:=HZ0.out;have:=HZ1.out;have:=HZ2.out;have:=HZ3.out;have:=HZ4.out;have:=HZ5.out;have:=HZ6.out;omega)) HW6.out.size)
     have HR:Hid (Lq x7 W.heap.size g7 c7 ([⟨a4,c4,vs,(x:Int)⟩]++ys)):=ho
     clear ho hk HA6 HY6
     refine hK.out _ _ (HS.out _ HW7.out) (fun hNext=>?_)
     clear hK K hHeld
     have hHeld:=hNext
     clear hNext
     try simp only [Act.put,List.setIfInBounds_toArray,List.set_cons_zero,List.set_cons_succ,List.getElem_toArray,List.getElem_cons_zero,List.getElem_cons_succ]
     refine wpAnyH_take (i:=14) (v:=?_) rfl (by kernel_rfl) (by kernel_rfl) (by kernel_rfl) (fun _ _ _ h=>h) (Or.inl ⟨by rfl,?_⟩) hHeld ?_
     rotate_left
     ·intro v9 hS9
      try dsimp only at hS9
      skip
      go_simp
      try with_reducible rfl
     try simp only [Act.put,List.setIfInBounds_toArray,List.set_cons_zero,List.set_cons_succ,List.getElem_toArray,List.getElem_cons_zero,List.getElem_cons_succ]
     refine wpAnyH_done (by kernel_rfl) ?_ _
     clear hHeld
     go_wp2
     go_ret
     exact ⟨g7,c7,_,by rw [List.length_append];rfl,by rw [List.map_append,HYP.out];rfl,HR.out,HBW.out.trans (HW7.out.mono HBW.out.size)⟩
    ·go_simp
     have hal:Below x2.heap.size x2 (x2.alloc (.cells #[.int .i64 (x:Int)] 3)):=(Below.refl _ _).alloc (Nat.le_refl _) _
     have HW3:Hid (Below w5.heap.size w5 (x2.alloc (.cells #[.int .i64 (x:Int)] 3))):=HW2.out.trans (hal.mono HW2.out.size)
     refine hK.out _ _ (HS.out _ HW3.out) (fun hNext=>?_)
     clear hK K hHeld
     have hHeld:=hNext
     clear hNext
     have hD:(x2.alloc (.cells #[.int .i64 (x:Int)] 3)).cell? ⟨x2.heap.size,0,none⟩=some (.int .i64 (x:Int)):=by simp
     obtain ⟨x3,hx⟩:∃ z,z=x2.alloc (.cells #[.int .i64 (x:Int)] 3):=⟨_,rfl⟩
     have HZ3:Hid (x2.heap.size < x3.heap.size):=by show _ < _;rw [hx];simp
     rw [<- hx] at hHeld HW3 hal hD ⊢
     clear hx
     have HD3:Hid (x3.cell? ⟨x2.heap.size,0,none⟩=some (.int .i64 (x:Int))):=hD
     clear hD
     have HV3:Hid (Ows x3 w5.heap.size v5 vs):=HV2.out.kept (S:=fun _=>False) (Kept.ofBelow hal) (fun _ _ h=>h)
     clear HV2
     clear hal
     try simp only [Act.put,List.setIfInBounds_toArray,List.set_cons_zero,List.set_cons_succ,List.getElem_toArray,List.getElem_cons_zero,List.getElem_cons_succ]
     refine wpAnyH_ready (rs:=[1,11]) (by kernel_rfl) (by simp) ?_
     refine (AllReadyH.cons rfl (fun K hK=>?_) (AllReadyH.cons rfl (fun K hK=>?_) AllReadyH.nil))
     ·go_simp
      have hal:Below x3.heap.size x3 (x3.alloc (.cells #[.slice a4 vs.length c4,.int .i64 (x:Int)] 61)):=(Below.refl _ _).alloc (Nat.le_refl _) _
      have HW4:Hid (Below w5.heap.size w5 (x3.alloc (.cells #[.slice a4 vs.length c4,.int .i64 (x:Int)] 61))):=HW3.out.trans (hal.mono HW3.out.size)
      refine hK.out _ _ (HS.out _ HW4.out) (fun hNext=>?_)
      clear hK K hHeld
      have hHeld:=hNext
      clear hNext
      have hA:Lq (x3.alloc (.cells #[.slice a4 vs.length c4,.int .i64 (x:Int)] 61)) W.heap.size x3.heap.size 1 [⟨a4,c4,vs,(x:Int)⟩]:=Lq.one x3 W.heap.size ⟨a4,c4,vs,(x:Int)⟩ (Nat.le_trans HBB.out HW3.out.size) (wi_kept (q:=⟨a4,c4,vs,(x:Int)⟩) HP0.out (S:=fun _=>False) (Kept.ofBelow HW3.out) (fun _ _ h=>h))
      obtain ⟨x4,hx⟩:∃ z,z=x3.alloc (.cells #[.slice a4 vs.length c4,.int .i64 (x:Int)] 61):=⟨_,rfl⟩
      have HZ4:Hid (x3.heap.size < x4.heap.size):=by show _ < _;rw [hx];simp
      rw [<- hx] at hHeld HW4 hal hA ⊢
      clear hx
      have HA4:Hid (Lq x4 W.heap.size x3.heap.size 1 [⟨a4,c4,vs,(x:Int)⟩]):=hA
      have HAV:Hid (∀ b,v5.ownBlock=some b->b≠x3.heap.size):=fun b hb=>by have:=(HV3.out.lt b hb).2;omega
      clear hA
      have HV4:Hid (Ows x4 w5.heap.size v5 vs):=HV3.out.kept (S:=fun _=>False) (Kept.ofBelow hal) (fun _ _ h=>h)
      clear HV3
      have HD4:Hid (x4.cell? ⟨x2.heap.size,0,none⟩=some (.int .i64 (x:Int))):=(by show _=_;rw [hal.cell (lt_of_cell HD3.out)];exact HD3.out)
      clear HD3
      clear hal
      try simp only [Act.put,List.setIfInBounds_toArray,List.set_cons_zero,List.set_cons_succ,List.getElem_toArray,List.getElem_cons_zero,List.getElem_cons_succ]
      refine wpAnyH_ready (rs:=[11]) (by kernel_rfl) (by simp) ?_
      refine (AllReadyH.cons rfl (fun K hK=>?_) AllReadyH.nil)
      refine step_int x4 rfl _ _ rfl w5.heap.size v5 vs (x:Int) rfl x2.heap.size rfl HD4.out HV4.out HW4.out.size HLV.out ?_
      intro g6 c6 x5 ho hk
      have HW5:Hid (Below w5.heap.size w5 x5):=HW4.out.trans (hk.below (fun b hb=>(HV4.out.lt b hb).1) HW4.out.size)
      have HZ5:Hid (x4.heap.size<=x5.heap.size):=hk.size
      have HN5:Hid (Ints x5 (some ⟨g6,0,none⟩) (vs++[(x:Int)])):=by
       obtain ⟨a9,c9,e9,f9⟩:=ho.form
       injection e9 with ea eb ec
       rw [<- ea] at f9
       exact f9.ints
      have HA5:Hid _:=HA4.out.kept hk (fun h=>HAV.out _ h rfl) (fun q hq b hb h=>by have:=HPO.out q hq b hb;have:=(HV4.out.lt b h).1;have:=HZ0.out;have:=HZ1.out;have:=HZ2.out;have:=HZ3.out;have:=HZ4.out;omega)
      clear HA4
      clear ho hk HD4 HV4
      refine hK.out _ _ (HS.out _ HW5.out) (fun hNext=>?_)
      clear hK K hHeld
      have hHeld:=hNext
      clear hNext
      try simp only [Act.put,List.setIfInBounds_toArray,List.set_cons_zero,List.set_cons_succ,List.getElem_toArray,List.getElem_cons_zero,List.getElem_cons_succ]
      refine wpAnyH_ready (rs:=[12]) (by kernel_rfl) (by simp) ?_
      refine (AllReadyH.cons rfl (fun K hK=>?_) AllReadyH.nil)
      refine step_call (f:=46) (args := #[.slice (some ⟨b,t,none⟩) n c1,tv (n:Int) SX,.int .i64 v,.slice (some ⟨g6,0,none⟩) (vs.length+1) c6]) rfl (by go_simp) ?_
      refine Calls.mono (HREC.out x5 _ _ (HBW.out.trans (HW5.out.mono HBW.out.size)) HN5.out) ?_
      rintro e x6 ⟨g2,cap2,ys,rfl,hy1,hy2,hb2⟩
      have HW6:Hid (Below w5.heap.size w5 x6):=HW5.out.trans (hb2.mono HW5.out.size)
      have HZ6:Hid (x5.heap.size<=x6.heap.size):=hb2.size
      have HY6:Hid (Lq x6 x5.heap.size g2 cap2 ys):=hy2
      have HYP:Hid (ys.map Pq.pk=_):=hy1
      have HA6:Hid _:=HA5.out.below hb2
      have HYG:Hid (∀ q∈ys,¬ q.own x3.heap.size):=fun q hq hb=>by have:=(wi_own (hy2.ins q hq) hb).1;have:=HZ0.out;have:=HZ1.out;have:=HZ2.out;have:=HZ3.out;have:=HZ4.out;have:=HZ5.out;omega
      clear HA5
      clear hy1 hy2 hb2 HN5
      refine ⟨_,rfl,?_⟩
      refine hK.out _ _ (HS.out _ HW6.out) (fun hNext=>?_)
      clear hK K hHeld
      have hHeld:=hNext
      clear hNext
      try simp only [Act.put,List.setIfInBounds_toArray,List.set_cons_zero,List.set_cons_succ,List.getElem_toArray,List.getElem_cons_zero,List.getElem_cons_succ]
      refine wpAnyH_ready (rs:=[13]) (by kernel_rfl) (by simp) ?_
      refine (AllReadyH.cons rfl (fun K hK=>?_) AllReadyH.nil)
      refine step_join x6 rfl _ _ rfl W.heap.size x3.heap.size 1 x5.heap.size g2 cap2 1 [⟨a4,c4,vs,(x:Int)⟩] ys rfl rfl rfl HA6.out HY6.out (Nat.le_trans HBB.out (by have:=HZ0.out;have:=HZ1.out;have:=HZ2.out;have:=HZ3.out;have:=HZ4.out;have:=HZ5.out;have:=HZ6.out;omega)) HYG.out (fun p hp b hb=>by have:=HPO.out p hp b hb;have:=HZ0.out;have:=HZ1.out;have:=HZ2.out;have:=HZ3.out;have:=HZ4.out;have:=HZ5.out;have:=HZ6.out;omega) (Nat.le_trans HBB.out HW6.out.size) (by have:=HYL.out ys HYP.out;simp;omega) ?_
      intro g7 c7 x7 ho hk
      have HW7:Hid (Below w5.heap.size w5 x7):=HW6.out.trans (hk.below (fun b (hb:b=x3.heap.size)=>(by have:=HZ0.out;have:=HZ1.out;have:=HZ2.out;have:=HZ3.out;have:=HZ4.out;have:=HZ5.out;have:=HZ6.out;omega)) HW6.out.size)
      have HR:Hid (Lq x7 W.heap.size g7 c7 ([⟨a4,c4,vs,(x:Int)⟩]++ys)):=ho
      clear ho hk HA6 HY6
      refine hK.out _ _ (HS.out _ HW7.out) (fun hNext=>?_)
      clear hK K hHeld
      have hHeld:=hNext
      clear hNext
      try simp only [Act.put,List.setIfInBounds_toArray,List.set_cons_zero,List.set_cons_succ,List.getElem_toArray,List.getElem_cons_zero,List.getElem_cons_succ]
      refine wpAnyH_take (i:=14) (v:=?_) rfl (by kernel_rfl) (by kernel_rfl) (by kernel_rfl) (fun _ _ _ h=>h) (Or.inl ⟨by rfl,?_⟩) hHeld ?_
      rotate_left
      ·intro v9 hS9
       try dsimp only at hS9
       skip
       go_simp
       try with_reducible rfl
      try simp only [Act.put,List.setIfInBounds_toArray,List.set_cons_zero,List.set_cons_succ,List.getElem_toArray,List.getElem_cons_zero,List.getElem_cons_succ]
      refine wpAnyH_done (by kernel_rfl) ?_ _
      clear hHeld
      go_wp2
      go_ret
      exact ⟨g7,c7,_,by rw [List.length_append];rfl,by rw [List.map_append,HYP.out];rfl,HR.out,HBW.out.trans (HW7.out.mono HBW.out.size)⟩
     ·refine step_int x3 rfl _ _ rfl w5.heap.size v5 vs (x:Int) rfl x2.heap.size rfl HD3.out HV3.out HW3.out.size HLV.out ?_
      intro g6 c6 x4 ho hk
      have HW4:Hid (Below w5.heap.size w5 x4):=HW3.out.trans (hk.below (fun b hb=>(HV3.out.lt b hb).1) HW3.out.size)
      have HZ4:Hid (x3.heap.size<=x4.heap.size):=hk.size
      have HN4:Hid (Ints x4 (some ⟨g6,0,none⟩) (vs++[(x:Int)])):=by
       obtain ⟨a9,c9,e9,f9⟩:=ho.form
       injection e9 with ea eb ec
       rw [<- ea] at f9
       exact f9.ints
      clear ho hk HD3 HV3
      refine hK.out _ _ (HS.out _ HW4.out) (fun hNext=>?_)
      clear hK K hHeld
      have hHeld:=hNext
      clear hNext
      try simp only [Act.put,List.setIfInBounds_toArray,List.set_cons_zero,List.set_cons_succ,List.getElem_toArray,List.getElem_cons_zero,List.getElem_cons_succ]
      refine wpAnyH_ready (rs:=[1,12]) (by kernel_rfl) (by simp) ?_
      refine (AllReadyH.cons rfl (fun K hK=>?_) (AllReadyH.cons rfl (fun K hK=>?_) AllReadyH.nil))
      ·go_simp
       have hal:Below x4.heap.size x4 (x4.alloc (.cells #[.slice a4 vs.length c4,.int .i64 (x:Int)] 61)):=(Below.refl _ _).alloc (Nat.le_refl _) _
       have HW5:Hid (Below w5.heap.size w5 (x4.alloc (.cells #[.slice a4 vs.length c4,.int .i64 (x:Int)] 61))):=HW4.out.trans (hal.mono HW4.out.size)
       refine hK.out _ _ (HS.out _ HW5.out) (fun hNext=>?_)
       clear hK K hHeld
       have hHeld:=hNext
       clear hNext
       have hA:Lq (x4.alloc (.cells #[.slice a4 vs.length c4,.int .i64 (x:Int)] 61)) W.heap.size x4.heap.size 1 [⟨a4,c4,vs,(x:Int)⟩]:=Lq.one x4 W.heap.size ⟨a4,c4,vs,(x:Int)⟩ (Nat.le_trans HBB.out HW4.out.size) (wi_kept (q:=⟨a4,c4,vs,(x:Int)⟩) HP0.out (S:=fun _=>False) (Kept.ofBelow HW4.out) (fun _ _ h=>h))
       obtain ⟨x5,hx⟩:∃ z,z=x4.alloc (.cells #[.slice a4 vs.length c4,.int .i64 (x:Int)] 61):=⟨_,rfl⟩
       have HZ5:Hid (x4.heap.size < x5.heap.size):=by show _ < _;rw [hx];simp
       rw [<- hx] at hHeld HW5 hal hA ⊢
       clear hx
       have HA5:Hid (Lq x5 W.heap.size x4.heap.size 1 [⟨a4,c4,vs,(x:Int)⟩]):=hA
       clear hA
       have HN5:Hid (Ints x5 (some ⟨g6,0,none⟩) (vs++[(x:Int)])):=HN4.out.below hal
       clear HN4
       clear hal
       try simp only [Act.put,List.setIfInBounds_toArray,List.set_cons_zero,List.set_cons_succ,List.getElem_toArray,List.getElem_cons_zero,List.getElem_cons_succ]
       refine wpAnyH_ready (rs:=[12]) (by kernel_rfl) (by simp) ?_
       refine (AllReadyH.cons rfl (fun K hK=>?_) AllReadyH.nil)
       refine step_call (f:=46) (args := #[.slice (some ⟨b,t,none⟩) n c1,tv (n:Int) SX,.int .i64 v,.slice (some ⟨g6,0,none⟩) (vs.length+1) c6]) rfl (by go_simp) ?_
       refine Calls.mono (HREC.out x5 _ _ (HBW.out.trans (HW5.out.mono HBW.out.size)) HN5.out) ?_
       rintro e x6 ⟨g2,cap2,ys,rfl,hy1,hy2,hb2⟩
       have HW6:Hid (Below w5.heap.size w5 x6):=HW5.out.trans (hb2.mono HW5.out.size)
       have HZ6:Hid (x5.heap.size<=x6.heap.size):=hb2.size
       have HY6:Hid (Lq x6 x5.heap.size g2 cap2 ys):=hy2
       have HYP:Hid (ys.map Pq.pk=_):=hy1
       have HA6:Hid _:=HA5.out.below hb2
       have HYG:Hid (∀ q∈ys,¬ q.own x4.heap.size):=fun q hq hb=>by have:=(wi_own (hy2.ins q hq) hb).1;have:=HZ0.out;have:=HZ1.out;have:=HZ2.out;have:=HZ3.out;have:=HZ4.out;have:=HZ5.out;omega
       clear HA5
       clear hy1 hy2 hb2 HN5
       refine ⟨_,rfl,?_⟩
       refine hK.out _ _ (HS.out _ HW6.out) (fun hNext=>?_)
       clear hK K hHeld
       have hHeld:=hNext
       clear hNext
       try simp only [Act.put,List.setIfInBounds_toArray,List.set_cons_zero,List.set_cons_succ,List.getElem_toArray,List.getElem_cons_zero,List.getElem_cons_succ]
       refine wpAnyH_ready (rs:=[13]) (by kernel_rfl) (by simp) ?_
       refine (AllReadyH.cons rfl (fun K hK=>?_) AllReadyH.nil)
       refine step_join x6 rfl _ _ rfl W.heap.size x4.heap.size 1 x5.heap.size g2 cap2 1 [⟨a4,c4,vs,(x:Int)⟩] ys rfl rfl rfl HA6.out HY6.out (Nat.le_trans HBB.out (by have:=HZ0.out;have:=HZ1.out;have:=HZ2.out;have:=HZ3.out;have:=HZ4.out;have:=HZ5.out;have:=HZ6.out;omega)) HYG.out (fun p hp b hb=>by have:=HPO.out p hp b hb;have:=HZ0.out;have:=HZ1.out;have:=HZ2.out;have:=HZ3.out;have:=HZ4.out;have:=HZ5.out;have:=HZ6.out;omega) (Nat.le_trans HBB.out HW6.out.size) (by have:=HYL.out ys HYP.out;simp;omega) ?_
       intro g7 c7 x7 ho hk
       have HW7:Hid (Below w5.heap.size w5 x7):=HW6.out.trans (hk.below (fun b (hb:b=x4.heap.size)=>(by have:=HZ0.out;have:=HZ1.out;have:=HZ2.out;have:=HZ3.out;have:=HZ4.out;have:=HZ5.out;have:=HZ6.out;omega)) HW6.out.size)
       have HR:Hid (Lq x7 W.heap.size g7 c7 ([⟨a4,c4,vs,(x:Int)⟩]++ys)):=ho
       clear ho hk HA6 HY6
       refine hK.out _ _ (HS.out _ HW7.out) (fun hNext=>?_)
       clear hK K hHeld
       have hHeld:=hNext
       clear hNext
       try simp only [Act.put,List.setIfInBounds_toArray,List.set_cons_zero,List.set_cons_succ,List.getElem_toArray,List.getElem_cons_zero,List.getElem_cons_succ]
       refine wpAnyH_take (i:=14) (v:=?_) rfl (by kernel_rfl) (by kernel_rfl) (by kernel_rfl) (fun _ _ _ h=>h) (Or.inl ⟨by rfl,?_⟩) hHeld ?_
       rotate_left
       ·intro v9 hS9
        try dsimp only at hS9
        skip
        go_simp
        try with_reducible rfl
       try simp only [Act.put,List.setIfInBounds_toArray,List.set_cons_zero,List.set_cons_succ,List.getElem_toArray,List.getElem_cons_zero,List.getElem_cons_succ]
       refine wpAnyH_done (by kernel_rfl) ?_ _
       clear hHeld
       go_wp2
       go_ret
       exact ⟨g7,c7,_,by rw [List.length_append];rfl,by rw [List.map_append,HYP.out];rfl,HR.out,HBW.out.trans (HW7.out.mono HBW.out.size)⟩
      ·refine step_call (f:=46) (args := #[.slice (some ⟨b,t,none⟩) n c1,tv (n:Int) SX,.int .i64 v,.slice (some ⟨g6,0,none⟩) (vs.length+1) c6]) rfl (by go_simp) ?_
       refine Calls.mono (HREC.out x4 _ _ (HBW.out.trans (HW4.out.mono HBW.out.size)) HN4.out) ?_
       rintro e x5 ⟨g2,cap2,ys,rfl,hy1,hy2,hb2⟩
       have HW5:Hid (Below w5.heap.size w5 x5):=HW4.out.trans (hb2.mono HW4.out.size)
       have HZ5:Hid (x4.heap.size<=x5.heap.size):=hb2.size
       have HY5:Hid (Lq x5 x4.heap.size g2 cap2 ys):=hy2
       have HYP:Hid (ys.map Pq.pk=_):=hy1
       clear hy1 hy2 hb2 HN4
       refine ⟨_,rfl,?_⟩
       refine hK.out _ _ (HS.out _ HW5.out) (fun hNext=>?_)
       clear hK K hHeld
       have hHeld:=hNext
       clear hNext
       try simp only [Act.put,List.setIfInBounds_toArray,List.set_cons_zero,List.set_cons_succ,List.getElem_toArray,List.getElem_cons_zero,List.getElem_cons_succ]
       refine wpAnyH_ready (rs:=[1]) (by kernel_rfl) (by simp) ?_
       refine (AllReadyH.cons rfl (fun K hK=>?_) AllReadyH.nil)
       go_simp
       have hal:Below x5.heap.size x5 (x5.alloc (.cells #[.slice a4 vs.length c4,.int .i64 (x:Int)] 61)):=(Below.refl _ _).alloc (Nat.le_refl _) _
       have HW6:Hid (Below w5.heap.size w5 (x5.alloc (.cells #[.slice a4 vs.length c4,.int .i64 (x:Int)] 61))):=HW5.out.trans (hal.mono HW5.out.size)
       refine hK.out _ _ (HS.out _ HW6.out) (fun hNext=>?_)
       clear hK K hHeld
       have hHeld:=hNext
       clear hNext
       have hA:Lq (x5.alloc (.cells #[.slice a4 vs.length c4,.int .i64 (x:Int)] 61)) W.heap.size x5.heap.size 1 [⟨a4,c4,vs,(x:Int)⟩]:=Lq.one x5 W.heap.size ⟨a4,c4,vs,(x:Int)⟩ (Nat.le_trans HBB.out HW5.out.size) (wi_kept (q:=⟨a4,c4,vs,(x:Int)⟩) HP0.out (S:=fun _=>False) (Kept.ofBelow HW5.out) (fun _ _ h=>h))
       obtain ⟨x6,hx⟩:∃ z,z=x5.alloc (.cells #[.slice a4 vs.length c4,.int .i64 (x:Int)] 61):=⟨_,rfl⟩
       have HZ6:Hid (x5.heap.size < x6.heap.size):=by show _ < _;rw [hx];simp
       rw [<- hx] at hHeld HW6 hal hA ⊢
       clear hx
       have HA6:Hid (Lq x6 W.heap.size x5.heap.size 1 [⟨a4,c4,vs,(x:Int)⟩]):=hA
       have HYG:Hid (∀ q∈ys,¬ q.own x5.heap.size):=fun q hq hb=>by have:=(wi_own (HY5.out.ins q hq) hb).2;omega
       clear hA
       have HY6:Hid _:=HY5.out.below hal
       clear HY5
       clear hal
       try simp only [Act.put,List.setIfInBounds_toArray,List.set_cons_zero,List.set_cons_succ,List.getElem_toArray,List.getElem_cons_zero,List.getElem_cons_succ]
       refine wpAnyH_ready (rs:=[13]) (by kernel_rfl) (by simp) ?_
       refine (AllReadyH.cons rfl (fun K hK=>?_) AllReadyH.nil)
       refine step_join x6 rfl _ _ rfl W.heap.size x5.heap.size 1 x4.heap.size g2 cap2 1 [⟨a4,c4,vs,(x:Int)⟩] ys rfl rfl rfl HA6.out HY6.out (Nat.le_trans HBB.out (by have:=HZ0.out;have:=HZ1.out;have:=HZ2.out;have:=HZ3.out;have:=HZ4.out;have:=HZ5.out;have:=HZ6.out;omega)) HYG.out (fun p hp b hb=>by have:=HPO.out p hp b hb;have:=HZ0.out;have:=HZ1.out;have:=HZ2.out;have:=HZ3.out;have:=HZ4.out;have:=HZ5.out;have:=HZ6.out;omega) (Nat.le_trans HBB.out HW6.out.size) (by have:=HYL.out ys HYP.out;simp;omega) ?_
       intro g7 c7 x7 ho hk
       have HW7:Hid (Below w5.heap.size w5 x7):=HW6.out.trans (hk.below (fun b (hb:b=x5.heap.size)=>(by have:=HZ0.out;have:=HZ1.out;have:=HZ2.out;have:=HZ3.out;have:=HZ4.out;have:=HZ5.out;have:=HZ6.out;omega)) HW6.out.size)
       have HR:Hid (Lq x7 W.heap.size g7 c7 ([⟨a4,c4,vs,(x:Int)⟩]++ys)):=ho
       clear ho hk HA6 HY6
       refine hK.out _ _ (HS.out _ HW7.out) (fun hNext=>?_)
       clear hK K hHeld
       have hHeld:=hNext
       clear hNext
       try simp only [Act.put,List.setIfInBounds_toArray,List.set_cons_zero,List.set_cons_succ,List.getElem_toArray,List.getElem_cons_zero,List.getElem_cons_succ]
       refine wpAnyH_take (i:=14) (v:=?_) rfl (by kernel_rfl) (by kernel_rfl) (by kernel_rfl) (fun _ _ _ h=>h) (Or.inl ⟨by rfl,?_⟩) hHeld ?_
       rotate_left
       ·intro v9 hS9
        try dsimp only at hS9
        skip
        go_simp
        try with_reducible rfl
       try simp only [Act.put,List.setIfInBounds_toArray,List.set_cons_zero,List.set_cons_succ,List.getElem_toArray,List.getElem_cons_zero,List.getElem_cons_succ]
       refine wpAnyH_done (by kernel_rfl) ?_ _
       clear hHeld
       go_wp2
       go_ret
       exact ⟨g7,c7,_,by rw [List.length_append];rfl,by rw [List.map_append,HYP.out];rfl,HR.out,HBW.out.trans (HW7.out.mono HBW.out.size)⟩
   ·go_simp
    have hal:Below x1.heap.size x1 (x1.alloc (.cells #[.int .i64 (x:Int)] 3)):=(Below.refl _ _).alloc (Nat.le_refl _) _
    have HW2:Hid (Below w5.heap.size w5 (x1.alloc (.cells #[.int .i64 (x:Int)] 3))):=HW1.out.trans (hal.mono HW1.out.size)
    refine hK.out _ _ (HS.out _ HW2.out) (fun hNext=>?_)
    clear hK K hHeld
    have hHeld:=hNext
    clear hNext
    have hD:(x1.alloc (.cells #[.int .i64 (x:Int)] 3)).cell? ⟨x1.heap.size,0,none⟩=some (.int .i64 (x:Int)):=by simp
    obtain ⟨x2,hx⟩:∃ z,z=x1.alloc (.cells #[.int .i64 (x:Int)] 3):=⟨_,rfl⟩
    have HZ2:Hid (x1.heap.size < x2.heap.size):=by show _ < _;rw [hx];simp
    rw [<- hx] at hHeld HW2 hal hD ⊢
    clear hx
    have HD2:Hid (x2.cell? ⟨x1.heap.size,0,none⟩=some (.int .i64 (x:Int))):=hD
    clear hD
    have HG2:Hid (Ows x2 w5.heap.size (.slice (some ⟨x0.heap.size,0,none⟩) 0 0) []):=HG1.out.kept (S:=fun _=>False) (Kept.ofBelow hal) (fun _ _ h=>h)
    clear HG1
    clear hal
    try simp only [Act.put,List.setIfInBounds_toArray,List.set_cons_zero,List.set_cons_succ,List.getElem_toArray,List.getElem_cons_zero,List.getElem_cons_succ]
    refine wpAnyH_ready (rs:=[1,8]) (by kernel_rfl) (by simp) ?_
    refine (AllReadyH.cons rfl (fun K hK=>?_) (AllReadyH.cons rfl (fun K hK=>?_) AllReadyH.nil))
    ·go_simp
     have hal:Below x2.heap.size x2 (x2.alloc (.cells #[.slice a4 vs.length c4,.int .i64 (x:Int)] 61)):=(Below.refl _ _).alloc (Nat.le_refl _) _
     have HW3:Hid (Below w5.heap.size w5 (x2.alloc (.cells #[.slice a4 vs.length c4,.int .i64 (x:Int)] 61))):=HW2.out.trans (hal.mono HW2.out.size)
     refine hK.out _ _ (HS.out _ HW3.out) (fun hNext=>?_)
     clear hK K hHeld
     have hHeld:=hNext
     clear hNext
     have hA:Lq (x2.alloc (.cells #[.slice a4 vs.length c4,.int .i64 (x:Int)] 61)) W.heap.size x2.heap.size 1 [⟨a4,c4,vs,(x:Int)⟩]:=Lq.one x2 W.heap.size ⟨a4,c4,vs,(x:Int)⟩ (Nat.le_trans HBB.out HW2.out.size) (wi_kept (q:=⟨a4,c4,vs,(x:Int)⟩) HP0.out (S:=fun _=>False) (Kept.ofBelow HW2.out) (fun _ _ h=>h))
     obtain ⟨x3,hx⟩:∃ z,z=x2.alloc (.cells #[.slice a4 vs.length c4,.int .i64 (x:Int)] 61):=⟨_,rfl⟩
     have HZ3:Hid (x2.heap.size < x3.heap.size):=by show _ < _;rw [hx];simp
     rw [<- hx] at hHeld HW3 hal hA ⊢
     clear hx
     have HA3:Hid (Lq x3 W.heap.size x2.heap.size 1 [⟨a4,c4,vs,(x:Int)⟩]):=hA
     clear hA
     have HG3:Hid (Ows x3 w5.heap.size (.slice (some ⟨x0.heap.size,0,none⟩) 0 0) []):=HG2.out.kept (S:=fun _=>False) (Kept.ofBelow hal) (fun _ _ h=>h)
     clear HG2
     have HD3:Hid (x3.cell? ⟨x1.heap.size,0,none⟩=some (.int .i64 (x:Int))):=(by show _=_;rw [hal.cell (lt_of_cell HD2.out)];exact HD2.out)
     clear HD2
     clear hal
     try simp only [Act.put,List.setIfInBounds_toArray,List.set_cons_zero,List.set_cons_succ,List.getElem_toArray,List.getElem_cons_zero,List.getElem_cons_succ]
     refine wpAnyH_ready (rs:=[8]) (by kernel_rfl) (by simp) ?_
     refine (AllReadyH.cons rfl (fun K hK=>?_) AllReadyH.nil)
     refine step_ints x3 rfl _ _ rfl w5.heap.size x0.heap.size vs va vc rfl rfl HG3.out HW3.out.size (HI0.out.below HW3.out) HLV.out ?_
     intro v5 x4 ho hk hv5
     have hb:Below w5.heap.size x3 x4:=hk.below (fun b (hb:b=x0.heap.size)=>(by have:=HZ0.out;have:=HZ1.out;have:=HZ2.out;have:=HZ3.out;omega)) HW3.out.size
     have HW4:Hid (Below w5.heap.size w5 x4):=HW3.out.trans hb
     have HZ4:Hid (x3.heap.size<=x4.heap.size):=hk.size
     have HV4:Hid (Ows x4 w5.heap.size v5 vs):=ho
     have HA4:Hid _:=HA3.out.kept hk (fun (h:x2.heap.size=x0.heap.size)=>(by have:=HZ0.out;have:=HZ1.out;have:=HZ2.out;have:=HZ3.out;omega)) (fun q hq b hb (h:b=x0.heap.size)=>by have:=HPO.out q hq b hb;have:=HZ0.out;have:=HZ1.out;have:=HZ2.out;have:=HZ3.out;omega)
     have HAV:Hid (∀ b,v5.ownBlock=some b->b≠x2.heap.size):=fun b hb=>by have:=hv5 b hb;have:=HZ0.out;have:=HZ1.out;have:=HZ2.out;have:=HZ3.out;omega
     clear HA3
     have HD4:Hid (x4.cell? ⟨x1.heap.size,0,none⟩=some (.int .i64 (x:Int))):=(by show _=_;rw [hk.cell (p:=⟨x1.heap.size,0,none⟩) (lt_of_cell HD3.out) (fun (h:x1.heap.size=x0.heap.size)=>(by have:=HZ0.out;have:=HZ1.out;have:=HZ2.out;have:=HZ3.out;omega))];exact HD3.out)
     clear HD3
     clear hb ho hk hv5 HG3
     refine hK.out _ _ (HS.out _ HW4.out) (fun hNext=>?_)
     clear hK K hHeld
     have hHeld:=hNext
     clear hNext
     try simp only [Act.put,List.setIfInBounds_toArray,List.set_cons_zero,List.set_cons_succ,List.getElem_toArray,List.getElem_cons_zero,List.getElem_cons_succ]
     refine wpAnyH_ready (rs:=[11]) (by kernel_rfl) (by simp) ?_
     refine (AllReadyH.cons rfl (fun K hK=>?_) AllReadyH.nil)
     refine step_int x4 rfl _ _ rfl w5.heap.size v5 vs (x:Int) rfl x1.heap.size rfl HD4.out HV4.out HW4.out.size HLV.out ?_
     intro g6 c6 x5 ho hk
     have HW5:Hid (Below w5.heap.size w5 x5):=HW4.out.trans (hk.below (fun b hb=>(HV4.out.lt b hb).1) HW4.out.size)
     have HZ5:Hid (x4.heap.size<=x5.heap.size):=hk.size
     have HN5:Hid (Ints x5 (some ⟨g6,0,none⟩) (vs++[(x:Int)])):=by
      obtain ⟨a9,c9,e9,f9⟩:=ho.form
      injection e9 with ea eb ec
      rw [<- ea] at f9
      exact f9.ints
     have HA5:Hid _:=HA4.out.kept hk (fun h=>HAV.out _ h rfl) (fun q hq b hb h=>by have:=HPO.out q hq b hb;have:=(HV4.out.lt b h).1;have:=HZ0.out;have:=HZ1.out;have:=HZ2.out;have:=HZ3.out;have:=HZ4.out;omega)
     clear HA4
     clear ho hk HD4 HV4
     refine hK.out _ _ (HS.out _ HW5.out) (fun hNext=>?_)
     clear hK K hHeld
     have hHeld:=hNext
     clear hNext
     try simp only [Act.put,List.setIfInBounds_toArray,List.set_cons_zero,List.set_cons_succ,List.getElem_toArray,List.getElem_cons_zero,List.getElem_cons_succ]
     refine wpAnyH_ready (rs:=[12]) (by kernel_rfl) (by simp) ?_
     refine (AllReadyH.cons rfl (fun K hK=>?_) AllReadyH.nil)
     refine step_call (f:=46) (args := #[.slice (some ⟨b,t,none⟩) n c1,tv (n:Int) SX,.int .i64 v,.slice (some ⟨g6,0,none⟩) (vs.length+1) c6]) rfl (by go_simp) ?_
     refine Calls.mono (HREC.out x5 _ _ (HBW.out.trans (HW5.out.mono HBW.out.size)) HN5.out) ?_
     rintro e x6 ⟨g2,cap2,ys,rfl,hy1,hy2,hb2⟩
     have HW6:Hid (Below w5.heap.size w5 x6):=HW5.out.trans (hb2.mono HW5.out.size)
     have HZ6:Hid (x5.heap.size<=x6.heap.size):=hb2.size
     have HY6:Hid (Lq x6 x5.heap.size g2 cap2 ys):=hy2
     have HYP:Hid (ys.map Pq.pk=_):=hy1
     have HA6:Hid _:=HA5.out.below hb2
     have HYG:Hid (∀ q∈ys,¬ q.own x2.heap.size):=fun q hq hb=>by have:=(wi_own (hy2.ins q hq) hb).1;have:=HZ0.out;have:=HZ1.out;have:=HZ2.out;have:=HZ3.out;have:=HZ4.out;have:=HZ5.out;omega
     clear HA5
     clear hy1 hy2 hb2 HN5
     refine ⟨_,rfl,?_⟩
     refine hK.out _ _ (HS.out _ HW6.out) (fun hNext=>?_)
     clear hK K hHeld
     have hHeld:=hNext
     clear hNext
     try simp only [Act.put,List.setIfInBounds_toArray,List.set_cons_zero,List.set_cons_succ,List.getElem_toArray,List.getElem_cons_zero,List.getElem_cons_succ]
     refine wpAnyH_ready (rs:=[13]) (by kernel_rfl) (by simp) ?_
     refine (AllReadyH.cons rfl (fun K hK=>?_) AllReadyH.nil)
     refine step_join x6 rfl _ _ rfl W.heap.size x2.heap.size 1 x5.heap.size g2 cap2 1 [⟨a4,c4,vs,(x:Int)⟩] ys rfl rfl rfl HA6.out HY6.out (Nat.le_trans HBB.out (by have:=HZ0.out;have:=HZ1.out;have:=HZ2.out;have:=HZ3.out;have:=HZ4.out;have:=HZ5.out;have:=HZ6.out;omega)) HYG.out (fun p hp b hb=>by have:=HPO.out p hp b hb;have:=HZ0.out;have:=HZ1.out;have:=HZ2.out;have:=HZ3.out;have:=HZ4.out;have:=HZ5.out;have:=HZ6.out;omega) (Nat.le_trans HBB.out HW6.out.size) (by have:=HYL.out ys HYP.out;simp;omega) ?_
     intro g7 c7 x7 ho hk
     have HW7:Hid (Below w5.heap.size w5 x7):=HW6.out.trans (hk.below (fun b (hb:b=x2.heap.size)=>(by have:=HZ0.out;have:=HZ1.out;have:=HZ2.out;have:=HZ3.out;have:=HZ4.out;have:=HZ5.out;have:=HZ6.out;omega)) HW6.out.size)
     have HR:Hid (Lq x7 W.heap.size g7 c7 ([⟨a4,c4,vs,(x:Int)⟩]++ys)):=ho
     clear ho hk HA6 HY6
     refine hK.out _ _ (HS.out _ HW7.out) (fun hNext=>?_)
     clear hK K hHeld
     have hHeld:=hNext
     clear hNext
     try simp only [Act.put,List.setIfInBounds_toArray,List.set_cons_zero,List.set_cons_succ,List.getElem_toArray,List.getElem_cons_zero,List.getElem_cons_succ]
     refine wpAnyH_take (i:=14) (v:=?_) rfl (by kernel_rfl) (by kernel_rfl) (by kernel_rfl) (fun _ _ _ h=>h) (Or.inl ⟨by rfl,?_⟩) hHeld ?_
     rotate_left
     ·intro v9 hS9
      try dsimp only at hS9
      skip
      go_simp
      try with_reducible rfl
     try simp only [Act.put,List.setIfInBounds_toArray,List.set_cons_zero,List.set_cons_succ,List.getElem_toArray,List.getElem_cons_zero,List.getElem_cons_succ]
     refine wpAnyH_done (by kernel_rfl) ?_ _
     clear hHeld
     go_wp2
     go_ret
     exact ⟨g7,c7,_,by rw [List.length_append];rfl,by rw [List.map_append,HYP.out];rfl,HR.out,HBW.out.trans (HW7.out.mono HBW.out.size)⟩
    ·refine step_ints x2 rfl _ _ rfl w5.heap.size x0.heap.size vs va vc rfl rfl HG2.out HW2.out.size (HI0.out.below HW2.out) HLV.out ?_
     intro v5 x3 ho hk hv5
     have hb:Below w5.heap.size x2 x3:=hk.below (fun b (hb:b=x0.heap.size)=>(by have:=HZ0.out;have:=HZ1.out;have:=HZ2.out;omega)) HW2.out.size
     have HW3:Hid (Below w5.heap.size w5 x3):=HW2.out.trans hb
     have HZ3:Hid (x2.heap.size<=x3.heap.size):=hk.size
     have HV3:Hid (Ows x3 w5.heap.size v5 vs):=ho
     have HD3:Hid (x3.cell? ⟨x1.heap.size,0,none⟩=some (.int .i64 (x:Int))):=(by show _=_;rw [hk.cell (p:=⟨x1.heap.size,0,none⟩) (lt_of_cell HD2.out) (fun (h:x1.heap.size=x0.heap.size)=>(by have:=HZ0.out;have:=HZ1.out;have:=HZ2.out;omega))];exact HD2.out)
     clear HD2
     clear hb ho hk hv5 HG2
     refine hK.out _ _ (HS.out _ HW3.out) (fun hNext=>?_)
     clear hK K hHeld
     have hHeld:=hNext
     clear hNext
     try simp only [Act.put,List.setIfInBounds_toArray,List.set_cons_zero,List.set_cons_succ,List.getElem_toArray,List.getElem_cons_zero,List.getElem_cons_succ]
     refine wpAnyH_ready (rs:=[1,11]) (by kernel_rfl) (by simp) ?_
     refine (AllReadyH.cons rfl (fun K hK=>?_) (AllReadyH.cons rfl (fun K hK=>?_) AllReadyH.nil))
     ·go_simp
      have hal:Below x3.heap.size x3 (x3.alloc (.cells #[.slice a4 vs.length c4,.int .i64 (x:Int)] 61)):=(Below.refl _ _).alloc (Nat.le_refl _) _
      have HW4:Hid (Below w5.heap.size w5 (x3.alloc (.cells #[.slice a4 vs.length c4,.int .i64 (x:Int)] 61))):=HW3.out.trans (hal.mono HW3.out.size)
      refine hK.out _ _ (HS.out _ HW4.out) (fun hNext=>?_)
      clear hK K hHeld
      have hHeld:=hNext
      clear hNext
      have hA:Lq (x3.alloc (.cells #[.slice a4 vs.length c4,.int .i64 (x:Int)] 61)) W.heap.size x3.heap.size 1 [⟨a4,c4,vs,(x:Int)⟩]:=Lq.one x3 W.heap.size ⟨a4,c4,vs,(x:Int)⟩ (Nat.le_trans HBB.out HW3.out.size) (wi_kept (q:=⟨a4,c4,vs,(x:Int)⟩) HP0.out (S:=fun _=>False) (Kept.ofBelow HW3.out) (fun _ _ h=>h))
      obtain ⟨x4,hx⟩:∃ z,z=x3.alloc (.cells #[.slice a4 vs.length c4,.int .i64 (x:Int)] 61):=⟨_,rfl⟩
      have HZ4:Hid (x3.heap.size < x4.heap.size):=by show _ < _;rw [hx];simp
      rw [<- hx] at hHeld HW4 hal hA ⊢
      clear hx
      have HA4:Hid (Lq x4 W.heap.size x3.heap.size 1 [⟨a4,c4,vs,(x:Int)⟩]):=hA
      have HAV:Hid (∀ b,v5.ownBlock=some b->b≠x3.heap.size):=fun b hb=>by have:=(HV3.out.lt b hb).2;omega
      clear hA
      have HV4:Hid (Ows x4 w5.heap.size v5 vs):=HV3.out.kept (S:=fun _=>False) (Kept.ofBelow hal) (fun _ _ h=>h)
      clear HV3
      have HD4:Hid (x4.cell? ⟨x1.heap.size,0,none⟩=some (.int .i64 (x:Int))):=(by show _=_;rw [hal.cell (lt_of_cell HD3.out)];exact HD3.out)
      clear HD3
      clear hal
      try simp only [Act.put,List.setIfInBounds_toArray,List.set_cons_zero,List.set_cons_succ,List.getElem_toArray,List.getElem_cons_zero,List.getElem_cons_succ]
      refine wpAnyH_ready (rs:=[11]) (by kernel_rfl) (by simp) ?_
      refine (AllReadyH.cons rfl (fun K hK=>?_) AllReadyH.nil)
      refine step_int x4 rfl _ _ rfl w5.heap.size v5 vs (x:Int) rfl x1.heap.size rfl HD4.out HV4.out HW4.out.size HLV.out ?_
      intro g6 c6 x5 ho hk
      have HW5:Hid (Below w5.heap.size w5 x5):=HW4.out.trans (hk.below (fun b hb=>(HV4.out.lt b hb).1) HW4.out.size)
      have HZ5:Hid (x4.heap.size<=x5.heap.size):=hk.size
      have HN5:Hid (Ints x5 (some ⟨g6,0,none⟩) (vs++[(x:Int)])):=by
       obtain ⟨a9,c9,e9,f9⟩:=ho.form
       injection e9 with ea eb ec
       rw [<- ea] at f9
       exact f9.ints
      have HA5:Hid _:=HA4.out.kept hk (fun h=>HAV.out _ h rfl) (fun q hq b hb h=>by have:=HPO.out q hq b hb;have:=(HV4.out.lt b h).1;have:=HZ0.out;have:=HZ1.out;have:=HZ2.out;have:=HZ3.out;have:=HZ4.out;omega)
      clear HA4
      clear ho hk HD4 HV4
      refine hK.out _ _ (HS.out _ HW5.out) (fun hNext=>?_)
      clear hK K hHeld
      have hHeld:=hNext
      clear hNext
      try simp only [Act.put,List.setIfInBounds_toArray,List.set_cons_zero,List.set_cons_succ,List.getElem_toArray,List.getElem_cons_zero,List.getElem_cons_succ]
      refine wpAnyH_ready (rs:=[12]) (by kernel_rfl) (by simp) ?_
      refine (AllReadyH.cons rfl (fun K hK=>?_) AllReadyH.nil)
      refine step_call (f:=46) (args := #[.slice (some ⟨b,t,none⟩) n c1,tv (n:Int) SX,.int .i64 v,.slice (some ⟨g6,0,none⟩) (vs.length+1) c6]) rfl (by go_simp) ?_
      refine Calls.mono (HREC.out x5 _ _ (HBW.out.trans (HW5.out.mono HBW.out.size)) HN5.out) ?_
      rintro e x6 ⟨g2,cap2,ys,rfl,hy1,hy2,hb2⟩
      have HW6:Hid (Below w5.heap.size w5 x6):=HW5.out.trans (hb2.mono HW5.out.size)
      have HZ6:Hid (x5.heap.size<=x6.heap.size):=hb2.size
      have HY6:Hid (Lq x6 x5.heap.size g2 cap2 ys):=hy2
      have HYP:Hid (ys.map Pq.pk=_):=hy1
      have HA6:Hid _:=HA5.out.below hb2
      have HYG:Hid (∀ q∈ys,¬ q.own x3.heap.size):=fun q hq hb=>by have:=(wi_own (hy2.ins q hq) hb).1;have:=HZ0.out;have:=HZ1.out;have:=HZ2.out;have:=HZ3.out;have:=HZ4.out;have:=HZ5.out;omega
      clear HA5
      clear hy1 hy2 hb2 HN5
      refine ⟨_,rfl,?_⟩
      refine hK.out _ _ (HS.out _ HW6.out) (fun hNext=>?_)
      clear hK K hHeld
      have hHeld:=hNext
      clear hNext
      try simp only [Act.put,List.setIfInBounds_toArray,List.set_cons_zero,List.set_cons_succ,List.getElem_toArray,List.getElem_cons_zero,List.getElem_cons_succ]
      refine wpAnyH_ready (rs:=[13]) (by kernel_rfl) (by simp) ?_
      refine (AllReadyH.cons rfl (fun K hK=>?_) AllReadyH.nil)
      refine step_join x6 rfl _ _ rfl W.heap.size x3.heap.size 1 x5.heap.size g2 cap2 1 [⟨a4,c4,vs,(x:Int)⟩] ys rfl rfl rfl HA6.out HY6.out (Nat.le_trans HBB.out (by have:=HZ0.out;have:=HZ1.out;have:=HZ2.out;have:=HZ3.out;have:=HZ4.out;have:=HZ5.out;have:=HZ6.out;omega)) HYG.out (fun p hp b hb=>by have:=HPO.out p hp b hb;have:=HZ0.out;have:=HZ1.out;have:=HZ2.out;have:=HZ3.out;have:=HZ4.out;have:=HZ5.out;have:=HZ6.out;omega) (Nat.le_trans HBB.out HW6.out.size) (by have:=HYL.out ys HYP.out;simp;omega) ?_
      intro g7 c7 x7 ho hk
      have HW7:Hid (Below w5.heap.size w5 x7):=HW6.out.trans (hk.below (fun b (hb:b=x3.heap.size)=>(by have:=HZ0.out;have:=HZ1.out;have:=HZ2.out;have:=HZ3.out;have:=HZ4.out;have:=HZ5.out;have:=HZ6.out;omega)) HW6.out.size)
      have HR:Hid (Lq x7 W.heap.size g7 c7 ([⟨a4,c4,vs,(x:Int)⟩]++ys)):=ho
      clear ho hk HA6 HY6
      refine hK.out _ _ (HS.out _ HW7.out) (fun hNext=>?_)
      clear hK K hHeld
      have hHeld:=hNext
      clear hNext
      try simp only [Act.put,List.setIfInBounds_toArray,List.set_cons_zero,List.set_cons_succ,List.getElem_toArray,List.getElem_cons_zero,List.getElem_cons_succ]
      refine wpAnyH_take (i:=14) (v:=?_) rfl (by kernel_rfl) (by kernel_rfl) (by kernel_rfl) (fun _ _ _ h=>h) (Or.inl ⟨by rfl,?_⟩) hHeld ?_
      rotate_left
      ·intro v9 hS9
       try dsimp only at hS9
       skip
       go_simp
       try with_reducible rfl
      try simp only [Act.put,List.setIfInBounds_toArray,List.set_cons_zero,List.set_cons_succ,List.getElem_toArray,List.getElem_cons_zero,List.getElem_cons_succ]
      refine wpAnyH_done (by kernel_rfl) ?_ _
      clear hHeld
      go_wp2
      go_ret
      exact ⟨g7,c7,_,by rw [List.length_append];rfl,by rw [List.map_append,HYP.out];rfl,HR.out,HBW.out.trans (HW7.out.mono HBW.out.size)⟩
     ·refine step_int x3 rfl _ _ rfl w5.heap.size v5 vs (x:Int) rfl x1.heap.size rfl HD3.out HV3.out HW3.out.size HLV.out ?_
      intro g6 c6 x4 ho hk
      have HW4:Hid (Below w5.heap.size w5 x4):=HW3.out.trans (hk.below (fun b hb=>(HV3.out.lt b hb).1) HW3.out.size)
      have HZ4:Hid (x3.heap.size<=x4.heap.size):=hk.size
      have HN4:Hid (Ints x4 (some ⟨g6,0,none⟩) (vs++[(x:Int)])):=by
       obtain ⟨a9,c9,e9,f9⟩:=ho.form
       injection e9 with ea eb ec
       rw [<- ea] at f9
       exact f9.ints
      clear ho hk HD3 HV3
      refine hK.out _ _ (HS.out _ HW4.out) (fun hNext=>?_)
      clear hK K hHeld
      have hHeld:=hNext
      clear hNext
      try simp only [Act.put,List.setIfInBounds_toArray,List.set_cons_zero,List.set_cons_succ,List.getElem_toArray,List.getElem_cons_zero,List.getElem_cons_succ]
      refine wpAnyH_ready (rs:=[1,12]) (by kernel_rfl) (by simp) ?_
      refine (AllReadyH.cons rfl (fun K hK=>?_) (AllReadyH.cons rfl (fun K hK=>?_) AllReadyH.nil))
      ·go_simp
       have hal:Below x4.heap.size x4 (x4.alloc (.cells #[.slice a4 vs.length c4,.int .i64 (x:Int)] 61)):=(Below.refl _ _).alloc (Nat.le_refl _) _
       have HW5:Hid (Below w5.heap.size w5 (x4.alloc (.cells #[.slice a4 vs.length c4,.int .i64 (x:Int)] 61))):=HW4.out.trans (hal.mono HW4.out.size)
       refine hK.out _ _ (HS.out _ HW5.out) (fun hNext=>?_)
       clear hK K hHeld
       have hHeld:=hNext
       clear hNext
       have hA:Lq (x4.alloc (.cells #[.slice a4 vs.length c4,.int .i64 (x:Int)] 61)) W.heap.size x4.heap.size 1 [⟨a4,c4,vs,(x:Int)⟩]:=Lq.one x4 W.heap.size ⟨a4,c4,vs,(x:Int)⟩ (Nat.le_trans HBB.out HW4.out.size) (wi_kept (q:=⟨a4,c4,vs,(x:Int)⟩) HP0.out (S:=fun _=>False) (Kept.ofBelow HW4.out) (fun _ _ h=>h))
       obtain ⟨x5,hx⟩:∃ z,z=x4.alloc (.cells #[.slice a4 vs.length c4,.int .i64 (x:Int)] 61):=⟨_,rfl⟩
       have HZ5:Hid (x4.heap.size < x5.heap.size):=by show _ < _;rw [hx];simp
       rw [<- hx] at hHeld HW5 hal hA ⊢
       clear hx
       have HA5:Hid (Lq x5 W.heap.size x4.heap.size 1 [⟨a4,c4,vs,(x:Int)⟩]):=hA
       clear hA
       have HN5:Hid (Ints x5 (some ⟨g6,0,none⟩) (vs++[(x:Int)])):=HN4.out.below hal
       clear HN4
       clear hal
       try simp only [Act.put,List.setIfInBounds_toArray,List.set_cons_zero,List.set_cons_succ,List.getElem_toArray,List.getElem_cons_zero,List.getElem_cons_succ]
       refine wpAnyH_ready (rs:=[12]) (by kernel_rfl) (by simp) ?_
       refine (AllReadyH.cons rfl (fun K hK=>?_) AllReadyH.nil)
       refine step_call (f:=46) (args := #[.slice (some ⟨b,t,none⟩) n c1,tv (n:Int) SX,.int .i64 v,.slice (some ⟨g6,0,none⟩) (vs.length+1) c6]) rfl (by go_simp) ?_
       refine Calls.mono (HREC.out x5 _ _ (HBW.out.trans (HW5.out.mono HBW.out.size)) HN5.out) ?_
       rintro e x6 ⟨g2,cap2,ys,rfl,hy1,hy2,hb2⟩
       have HW6:Hid (Below w5.heap.size w5 x6):=HW5.out.trans (hb2.mono HW5.out.size)
       have HZ6:Hid (x5.heap.size<=x6.heap.size):=hb2.size
       have HY6:Hid (Lq x6 x5.heap.size g2 cap2 ys):=hy2
       have HYP:Hid (ys.map Pq.pk=_):=hy1
       have HA6:Hid _:=HA5.out.below hb2
       have HYG:Hid (∀ q∈ys,¬ q.own x4.heap.size):=fun q hq hb=>by have:=(wi_own (hy2.ins q hq) hb).1;have:=HZ0.out;have:=HZ1.out;have:=HZ2.out;have:=HZ3.out;have:=HZ4.out;have:=HZ5.out;omega
       clear HA5
       clear hy1 hy2 hb2 HN5
       refine ⟨_,rfl,?_⟩
       refine hK.out _ _ (HS.out _ HW6.out) (fun hNext=>?_)
       clear hK K hHeld
       have hHeld:=hNext
       clear hNext
       try simp only [Act.put,List.setIfInBounds_toArray,List.set_cons_zero,List.set_cons_succ,List.getElem_toArray,List.getElem_cons_zero,List.getElem_cons_succ]
       refine wpAnyH_ready (rs:=[13]) (by kernel_rfl) (by simp) ?_
       refine (AllReadyH.cons rfl (fun K hK=>?_) AllReadyH.nil)
       refine step_join x6 rfl _ _ rfl W.heap.size x4.heap.size 1 x5.heap.size g2 cap2 1 [⟨a4,c4,vs,(x:Int)⟩] ys rfl rfl rfl HA6.out HY6.out (Nat.le_trans HBB.out (by have:=HZ0.out;have:=HZ1.out;have:=HZ2.out;have:=HZ3.out;have:=HZ4.out;have:=HZ5.out;have:=HZ6.out;omega)) HYG.out (fun p hp b hb=>by have:=HPO.out p hp b hb;have:=HZ0.out;have:=HZ1.out;have:=HZ2.out;have:=HZ3.out;have:=HZ4.out;have:=HZ5.out;have:=HZ6.out;omega) (Nat.le_trans HBB.out HW6.out.size) (by have:=HYL.out ys HYP.out;simp;omega) ?_
       intro g7 c7 x7 ho hk
       have HW7:Hid (Below w5.heap.size w5 x7):=HW6.out.trans (hk.below (fun b (hb:b=x4.heap.size)=>(by have:=HZ0.out;have:=HZ1.out;have:=HZ2.out;have:=HZ3.out;have:=HZ4.out;have:=HZ5.out;have:=HZ6.out;omega)) HW6.out.size)
       have HR:Hid (Lq x7 W.heap.size g7 c7 ([⟨a4,c4,vs,(x:Int)⟩]++ys)):=ho
       clear ho hk HA6 HY6
       refine hK.out _ _ (HS.out _ HW7.out) (fun hNext=>?_)
       clear hK K hHeld
       have hHeld:=hNext
       clear hNext
       try simp only [Act.put,List.setIfInBounds_toArray,List.set_cons_zero,List.set_cons_succ,List.getElem_toArray,List.getElem_cons_zero,List.getElem_cons_succ]
       refine wpAnyH_take (i:=14) (v:=?_) rfl (by kernel_rfl) (by kernel_rfl) (by kernel_rfl) (fun _ _ _ h=>h) (Or.inl ⟨by rfl,?_⟩) hHeld ?_
       rotate_left
       ·intro v9 hS9
        try dsimp only at hS9
        skip
        go_simp
        try with_reducible rfl
       try simp only [Act.put,List.setIfInBounds_toArray,List.set_cons_zero,List.set_cons_succ,List.getElem_toArray,List.getElem_cons_zero,List.getElem_cons_succ]
       refine wpAnyH_done (by kernel_rfl) ?_ _
       clear hHeld
       go_wp2
       go_ret
       exact ⟨g7,c7,_,by rw [List.length_append];rfl,by rw [List.map_append,HYP.out];rfl,HR.out,HBW.out.trans (HW7.out.mono HBW.out.size)⟩
      ·refine step_call (f:=46) (args := #[.slice (some ⟨b,t,none⟩) n c1,tv (n:Int) SX,.int .i64 v,.slice (some ⟨g6,0,none⟩) (vs.length+1) c6]) rfl (by go_simp) ?_
       refine Calls.mono (HREC.out x4 _ _ (HBW.out.trans (HW4.out.mono HBW.out.size)) HN4.out) ?_
       rintro e x5 ⟨g2,cap2,ys,rfl,hy1,hy2,hb2⟩
       have HW5:Hid (Below w5.heap.size w5 x5):=HW4.out.trans (hb2.mono HW4.out.size)
       have HZ5:Hid (x4.heap.size<=x5.heap.size):=hb2.size
       have HY5:Hid (Lq x5 x4.heap.size g2 cap2 ys):=hy2
       have HYP:Hid (ys.map Pq.pk=_):=hy1
       clear hy1 hy2 hb2 HN4
       refine ⟨_,rfl,?_⟩
       refine hK.out _ _ (HS.out _ HW5.out) (fun hNext=>?_)
       clear hK K hHeld
       have hHeld:=hNext
       clear hNext
       try simp only [Act.put,List.setIfInBounds_toArray,List.set_cons_zero,List.set_cons_succ,List.getElem_toArray,List.getElem_cons_zero,List.getElem_cons_succ]
       refine wpAnyH_ready (rs:=[1]) (by kernel_rfl) (by simp) ?_
       refine (AllReadyH.cons rfl (fun K hK=>?_) AllReadyH.nil)
       go_simp
       have hal:Below x5.heap.size x5 (x5.alloc (.cells #[.slice a4 vs.length c4,.int .i64 (x:Int)] 61)):=(Below.refl _ _).alloc (Nat.le_refl _) _
       have HW6:Hid (Below w5.heap.size w5 (x5.alloc (.cells #[.slice a4 vs.length c4,.int .i64 (x:Int)] 61))):=HW5.out.trans (hal.mono HW5.out.size)
       refine hK.out _ _ (HS.out _ HW6.out) (fun hNext=>?_)
       clear hK K hHeld
       have hHeld:=hNext
       clear hNext
       have hA:Lq (x5.alloc (.cells #[.slice a4 vs.length c4,.int .i64 (x:Int)] 61)) W.heap.size x5.heap.size 1 [⟨a4,c4,vs,(x:Int)⟩]:=Lq.one x5 W.heap.size ⟨a4,c4,vs,(x:Int)⟩ (Nat.le_trans HBB.out HW5.out.size) (wi_kept (q:=⟨a4,c4,vs,(x:Int)⟩) HP0.out (S:=fun _=>False) (Kept.ofBelow HW5.out) (fun _ _ h=>h))
       obtain ⟨x6,hx⟩:∃ z,z=x5.alloc (.cells #[.slice a4 vs.length c4,.int .i64 (x:Int)] 61):=⟨_,rfl⟩
       have HZ6:Hid (x5.heap.size < x6.heap.size):=by show _ < _;rw [hx];simp
       rw [<- hx] at hHeld HW6 hal hA ⊢
       clear hx
       have HA6:Hid (Lq x6 W.heap.size x5.heap.size 1 [⟨a4,c4,vs,(x:Int)⟩]):=hA
       have HYG:Hid (∀ q∈ys,¬ q.own x5.heap.size):=fun q hq hb=>by have:=(wi_own (HY5.out.ins q hq) hb).2;omega
       clear hA
       have HY6:Hid _:=HY5.out.below hal
       clear HY5
       clear hal
       try simp only [Act.put,List.setIfInBounds_toArray,List.set_cons_zero,List.set_cons_succ,List.getElem_toArray,List.getElem_cons_zero,List.getElem_cons_succ]
       refine wpAnyH_ready (rs:=[13]) (by kernel_rfl) (by simp) ?_
       refine (AllReadyH.cons rfl (fun K hK=>?_) AllReadyH.nil)
       refine step_join x6 rfl _ _ rfl W.heap.size x5.heap.size 1 x4.heap.size g2 cap2 1 [⟨a4,c4,vs,(x:Int)⟩] ys rfl rfl rfl HA6.out HY6.out (Nat.le_trans HBB.out (by have:=HZ0.out;have:=HZ1.out;have:=HZ2.out;have:=HZ3.out;have:=HZ4.out;have:=HZ5.out;have:=HZ6.out;omega)) HYG.out (fun p hp b hb=>by have:=HPO.out p hp b hb;have:=HZ0.out;have:=HZ1.out;have:=HZ2.out;have:=HZ3.out;have:=HZ4.out;have:=HZ5.out;have:=HZ6.out;omega) (Nat.le_trans HBB.out HW6.out.size) (by have:=HYL.out ys HYP.out;simp;omega) ?_
       intro g7 c7 x7 ho hk
       have HW7:Hid (Below w5.heap.size w5 x7):=HW6.out.trans (hk.below (fun b (hb:b=x5.heap.size)=>(by have:=HZ0.out;have:=HZ1.out;have:=HZ2.out;have:=HZ3.out;have:=HZ4.out;have:=HZ5.out;have:=HZ6.out;omega)) HW6.out.size)
       have HR:Hid (Lq x7 W.heap.size g7 c7 ([⟨a4,c4,vs,(x:Int)⟩]++ys)):=ho
       clear ho hk HA6 HY6
       refine hK.out _ _ (HS.out _ HW7.out) (fun hNext=>?_)
       clear hK K hHeld
       have hHeld:=hNext
       clear hNext
       try simp only [Act.put,List.setIfInBounds_toArray,List.set_cons_zero,List.set_cons_succ,List.getElem_toArray,List.getElem_cons_zero,List.getElem_cons_succ]
       refine wpAnyH_take (i:=14) (v:=?_) rfl (by kernel_rfl) (by kernel_rfl) (by kernel_rfl) (fun _ _ _ h=>h) (Or.inl ⟨by rfl,?_⟩) hHeld ?_
       rotate_left
       ·intro v9 hS9
        try dsimp only at hS9
        skip
        go_simp
        try with_reducible rfl
       try simp only [Act.put,List.setIfInBounds_toArray,List.set_cons_zero,List.set_cons_succ,List.getElem_toArray,List.getElem_cons_zero,List.getElem_cons_succ]
       refine wpAnyH_done (by kernel_rfl) ?_ _
       clear hHeld
       go_wp2
       go_ret
       exact ⟨g7,c7,_,by rw [List.length_append];rfl,by rw [List.map_append,HYP.out];rfl,HR.out,HBW.out.trans (HW7.out.mono HBW.out.size)⟩
  ·go_simp
   have hal:Below x0.heap.size x0 (x0.alloc (.cells #[.int .i64 (x:Int)] 3)):=(Below.refl _ _).alloc (Nat.le_refl _) _
   have HW1:Hid (Below w5.heap.size w5 (x0.alloc (.cells #[.int .i64 (x:Int)] 3))):=HW0.out.trans (hal.mono HW0.out.size)
   refine hK.out _ _ (HS.out _ HW1.out) (fun hNext=>?_)
   clear hK K hHeld
   have hHeld:=hNext
   clear hNext
   have hD:(x0.alloc (.cells #[.int .i64 (x:Int)] 3)).cell? ⟨x0.heap.size,0,none⟩=some (.int .i64 (x:Int)):=by simp
   obtain ⟨x1,hx⟩:∃ z,z=x0.alloc (.cells #[.int .i64 (x:Int)] 3):=⟨_,rfl⟩
   have HZ1:Hid (x0.heap.size < x1.heap.size):=by show _ < _;rw [hx];simp
   rw [<- hx] at hHeld HW1 hal hD ⊢
   clear hx
   have HD1:Hid (x1.cell? ⟨x0.heap.size,0,none⟩=some (.int .i64 (x:Int))):=hD
   clear hD
   clear hal
   try simp only [Act.put,List.setIfInBounds_toArray,List.set_cons_zero,List.set_cons_succ,List.getElem_toArray,List.getElem_cons_zero,List.getElem_cons_succ]
   refine wpAnyH_ready (rs:=[1,6]) (by kernel_rfl) (by simp) ?_
   refine (AllReadyH.cons rfl (fun K hK=>?_) (AllReadyH.cons rfl (fun K hK=>?_) AllReadyH.nil))
   ·go_simp
    have hal:Below x1.heap.size x1 (x1.alloc (.cells #[.slice a4 vs.length c4,.int .i64 (x:Int)] 61)):=(Below.refl _ _).alloc (Nat.le_refl _) _
    have HW2:Hid (Below w5.heap.size w5 (x1.alloc (.cells #[.slice a4 vs.length c4,.int .i64 (x:Int)] 61))):=HW1.out.trans (hal.mono HW1.out.size)
    refine hK.out _ _ (HS.out _ HW2.out) (fun hNext=>?_)
    clear hK K hHeld
    have hHeld:=hNext
    clear hNext
    have hA:Lq (x1.alloc (.cells #[.slice a4 vs.length c4,.int .i64 (x:Int)] 61)) W.heap.size x1.heap.size 1 [⟨a4,c4,vs,(x:Int)⟩]:=Lq.one x1 W.heap.size ⟨a4,c4,vs,(x:Int)⟩ (Nat.le_trans HBB.out HW1.out.size) (wi_kept (q:=⟨a4,c4,vs,(x:Int)⟩) HP0.out (S:=fun _=>False) (Kept.ofBelow HW1.out) (fun _ _ h=>h))
    obtain ⟨x2,hx⟩:∃ z,z=x1.alloc (.cells #[.slice a4 vs.length c4,.int .i64 (x:Int)] 61):=⟨_,rfl⟩
    have HZ2:Hid (x1.heap.size < x2.heap.size):=by show _ < _;rw [hx];simp
    rw [<- hx] at hHeld HW2 hal hA ⊢
    clear hx
    have HA2:Hid (Lq x2 W.heap.size x1.heap.size 1 [⟨a4,c4,vs,(x:Int)⟩]):=hA
    clear hA
    have HD2:Hid (x2.cell? ⟨x0.heap.size,0,none⟩=some (.int .i64 (x:Int))):=(by show _=_;rw [hal.cell (lt_of_cell HD1.out)];exact HD1.out)
    clear HD1
    clear hal
    try simp only [Act.put,List.setIfInBounds_toArray,List.set_cons_zero,List.set_cons_succ,List.getElem_toArray,List.getElem_cons_zero,List.getElem_cons_succ]
    refine wpAnyH_ready (rs:=[6]) (by kernel_rfl) (by simp) ?_
    refine (AllReadyH.cons rfl (fun K hK=>?_) AllReadyH.nil)
    go_simp
    have hal:Below x2.heap.size x2 (x2.alloc (.cells #[] 3)):=(Below.refl _ _).alloc (Nat.le_refl _) _
    have HW3:Hid (Below w5.heap.size w5 (x2.alloc (.cells #[] 3))):=HW2.out.trans (hal.mono HW2.out.size)
    refine hK.out _ _ (HS.out _ HW3.out) (fun hNext=>?_)
    clear hK K hHeld
    have hHeld:=hNext
    clear hNext
    have hG:Ows (x2.alloc (.cells #[] 3)) w5.heap.size (.slice (some ⟨x2.heap.size,0,none⟩) 0 0) []:=Ows.lit x2 _ HW2.out.size
    obtain ⟨x3,hx⟩:∃ z,z=x2.alloc (.cells #[] 3):=⟨_,rfl⟩
    have HZ3:Hid (x2.heap.size < x3.heap.size):=by show _ < _;rw [hx];simp
    rw [<- hx] at hHeld HW3 hal hG ⊢
    clear hx
    have HG3:Hid (Ows x3 w5.heap.size (.slice (some ⟨x2.heap.size,0,none⟩) 0 0) []):=hG
    clear hG
    have HA3:Hid _:=HA2.out.below hal
    clear HA2
    have HD3:Hid (x3.cell? ⟨x0.heap.size,0,none⟩=some (.int .i64 (x:Int))):=(by show _=_;rw [hal.cell (lt_of_cell HD2.out)];exact HD2.out)
    clear HD2
    clear hal
    try simp only [Act.put,List.setIfInBounds_toArray,List.set_cons_zero,List.set_cons_succ,List.getElem_toArray,List.getElem_cons_zero,List.getElem_cons_succ]
    refine wpAnyH_ready (rs:=[8]) (by kernel_rfl) (by simp) ?_
    refine (AllReadyH.cons rfl (fun K hK=>?_) AllReadyH.nil)
    refine step_ints x3 rfl _ _ rfl w5.heap.size x2.heap.size vs va vc rfl rfl HG3.out HW3.out.size (HI0.out.below HW3.out) HLV.out ?_
    intro v5 x4 ho hk hv5
    have hb:Below w5.heap.size x3 x4:=hk.below (fun b (hb:b=x2.heap.size)=>(by have:=HZ0.out;have:=HZ1.out;have:=HZ2.out;have:=HZ3.out;omega)) HW3.out.size
    have HW4:Hid (Below w5.heap.size w5 x4):=HW3.out.trans hb
    have HZ4:Hid (x3.heap.size<=x4.heap.size):=hk.size
    have HV4:Hid (Ows x4 w5.heap.size v5 vs):=ho
    have HA4:Hid _:=HA3.out.kept hk (fun (h:x1.heap.size=x2.heap.size)=>(by have:=HZ0.out;have:=HZ1.out;have:=HZ2.out;have:=HZ3.out;omega)) (fun q hq b hb (h:b=x2.heap.size)=>by have:=HPO.out q hq b hb;have:=HZ0.out;have:=HZ1.out;have:=HZ2.out;have:=HZ3.out;omega)
    have HAV:Hid (∀ b,v5.ownBlock=some b->b≠x1.heap.size):=fun b hb=>by have:=hv5 b hb;have:=HZ0.out;have:=HZ1.out;have:=HZ2.out;have:=HZ3.out;omega
    clear HA3
    have HD4:Hid (x4.cell? ⟨x0.heap.size,0,none⟩=some (.int .i64 (x:Int))):=(by show _=_;rw [hk.cell (p:=⟨x0.heap.size,0,none⟩) (lt_of_cell HD3.out) (fun (h:x0.heap.size=x2.heap.size)=>(by have:=HZ0.out;have:=HZ1.out;have:=HZ2.out;have:=HZ3.out;omega))];exact HD3.out)
    clear HD3
    clear hb ho hk hv5 HG3
    refine hK.out _ _ (HS.out _ HW4.out) (fun hNext=>?_)
    clear hK K hHeld
    have hHeld:=hNext
    clear hNext
    try simp only [Act.put,List.setIfInBounds_toArray,List.set_cons_zero,List.set_cons_succ,List.getElem_toArray,List.getElem_cons_zero,List.getElem_cons_succ]
    refine wpAnyH_ready (rs:=[11]) (by kernel_rfl) (by simp) ?_
    refine (AllReadyH.cons rfl (fun K hK=>?_) AllReadyH.nil)
    refine step_int x4 rfl _ _ rfl w5.heap.size v5 vs (x:Int) rfl x0.heap.size rfl HD4.out HV4.out HW4.out.size HLV.out ?_
    intro g6 c6 x5 ho hk
    have HW5:Hid (Below w5.heap.size w5 x5):=HW4.out.trans (hk.below (fun b hb=>(HV4.out.lt b hb).1) HW4.out.size)
    have HZ5:Hid (x4.heap.size<=x5.heap.size):=hk.size
    have HN5:Hid (Ints x5 (some ⟨g6,0,none⟩) (vs++[(x:Int)])):=by
     obtain ⟨a9,c9,e9,f9⟩:=ho.form
     injection e9 with ea eb ec
     rw [<- ea] at f9
     exact f9.ints
    have HA5:Hid _:=HA4.out.kept hk (fun h=>HAV.out _ h rfl) (fun q hq b hb h=>by have:=HPO.out q hq b hb;have:=(HV4.out.lt b h).1;have:=HZ0.out;have:=HZ1.out;have:=HZ2.out;have:=HZ3.out;have:=HZ4.out;omega)
    clear HA4
    clear ho hk HD4 HV4
    refine hK.out _ _ (HS.out _ HW5.out) (fun hNext=>?_)
    clear hK K hHeld
    have hHeld:=hNext
    clear hNext
    try simp only [Act.put,List.setIfInBounds_toArray,List.set_cons_zero,List.set_cons_succ,List.getElem_toArray,List.getElem_cons_zero,List.getElem_cons_succ]
    refine wpAnyH_ready (rs:=[12]) (by kernel_rfl) (by simp) ?_
    refine (AllReadyH.cons rfl (fun K hK=>?_) AllReadyH.nil)
    refine step_call (f:=46) (args := #[.slice (some ⟨b,t,none⟩) n c1,tv (n:Int) SX,.int .i64 v,.slice (some ⟨g6,0,none⟩) (vs.length+1) c6]) rfl (by go_simp) ?_
    refine Calls.mono (HREC.out x5 _ _ (HBW.out.trans (HW5.out.mono HBW.out.size)) HN5.out) ?_
    rintro e x6 ⟨g2,cap2,ys,rfl,hy1,hy2,hb2⟩
    have HW6:Hid (Below w5.heap.size w5 x6):=HW5.out.trans (hb2.mono HW5.out.size)
    have HZ6:Hid (x5.heap.size<=x6.heap.size):=hb2.size
    have HY6:Hid (Lq x6 x5.heap.size g2 cap2 ys):=hy2
    have HYP:Hid (ys.map Pq.pk=_):=hy1
    have HA6:Hid _:=HA5.out.below hb2
    have HYG:Hid (∀ q∈ys,¬ q.own x1.heap.size):=fun q hq hb=>by have:=(wi_own (hy2.ins q hq) hb).1;have:=HZ0.out;have:=HZ1.out;have:=HZ2.out;have:=HZ3.out;have:=HZ4.out;have:=HZ5.out;omega
    clear HA5
    clear hy1 hy2 hb2 HN5
    refine ⟨_,rfl,?_⟩
    refine hK.out _ _ (HS.out _ HW6.out) (fun hNext=>?_)
    clear hK K hHeld
    have hHeld:=hNext
    clear hNext
    try simp only [Act.put,List.setIfInBounds_toArray,List.set_cons_zero,List.set_cons_succ,List.getElem_toArray,List.getElem_cons_zero,List.getElem_cons_succ]
    refine wpAnyH_ready (rs:=[13]) (by kernel_rfl) (by simp) ?_
    refine (AllReadyH.cons rfl (fun K hK=>?_) AllReadyH.nil)
    refine step_join x6 rfl _ _ rfl W.heap.size x1.heap.size 1 x5.heap.size g2 cap2 1 [⟨a4,c4,vs,(x:Int)⟩] ys rfl rfl rfl HA6.out HY6.out (Nat.le_trans HBB.out (by have:=HZ0.out;have:=HZ1.out;have:=HZ2.out;have:=HZ3.out;have:=HZ4.out;have:=HZ5.out;have:=HZ6.out;omega)) HYG.out (fun p hp b hb=>by have:=HPO.out p hp b hb;have:=HZ0.out;have:=HZ1.out;have:=HZ2.out;have:=HZ3.out;have:=HZ4.out;have:=HZ5.out;have:=HZ6.out;omega) (Nat.le_trans HBB.out HW6.out.size) (by have:=HYL.out ys HYP.out;simp;omega) ?_
    intro g7 c7 x7 ho hk
    have HW7:Hid (Below w5.heap.size w5 x7):=HW6.out.trans (hk.below (fun b (hb:b=x1.heap.size)=>(by have:=HZ0.out;have:=HZ1.out;have:=HZ2.out;have:=HZ3.out;have:=HZ4.out;have:=HZ5.out;have:=HZ6.out;omega)) HW6.out.size)
    have HR:Hid (Lq x7 W.heap.size g7 c7 ([⟨a4,c4,vs,(x:Int)⟩]++ys)):=ho
    clear ho hk HA6 HY6
    refine hK.out _ _ (HS.out _ HW7.out) (fun hNext=>?_)
    clear hK K hHeld
    have hHeld:=hNext
    clear hNext
    try simp only [Act.put,List.setIfInBounds_toArray,List.set_cons_zero,List.set_cons_succ,List.getElem_toArray,List.getElem_cons_zero,List.getElem_cons_succ]
    refine wpAnyH_take (i:=14) (v:=?_) rfl (by kernel_rfl) (by kernel_rfl) (by kernel_rfl) (fun _ _ _ h=>h) (Or.inl ⟨by rfl,?_⟩) hHeld ?_
    rotate_left
    ·intro v9 hS9
     try dsimp only at hS9
     skip
     go_simp
     try with_reducible rfl
    try simp only [Act.put,List.setIfInBounds_toArray,List.set_cons_zero,List.set_cons_succ,List.getElem_toArray,List.getElem_cons_zero,List.getElem_cons_succ]
    refine wpAnyH_done (by kernel_rfl) ?_ _
    clear hHeld
    go_wp2
    go_ret
    exact ⟨g7,c7,_,by rw [List.length_append];rfl,by rw [List.map_append,HYP.out];rfl,HR.out,HBW.out.trans (HW7.out.mono HBW.out.size)⟩
   ·go_simp
    have hal:Below x1.heap.size x1 (x1.alloc (.cells #[] 3)):=(Below.refl _ _).alloc (Nat.le_refl _) _
    have HW2:Hid (Below w5.heap.size w5 (x1.alloc (.cells #[] 3))):=HW1.out.trans (hal.mono HW1.out.size)
    refine hK.out _ _ (HS.out _ HW2.out) (fun hNext=>?_)
    clear hK K hHeld
    have hHeld:=hNext
    clear hNext
    have hG:Ows (x1.alloc (.cells #[] 3)) w5.heap.size (.slice (some ⟨x1.heap.size,0,none⟩) 0 0) []:=Ows.lit x1 _ HW1.out.size
    obtain ⟨x2,hx⟩:∃ z,z=x1.alloc (.cells #[] 3):=⟨_,rfl⟩
    have HZ2:Hid (x1.heap.size < x2.heap.size):=by show _ < _;rw [hx];simp
    rw [<- hx] at hHeld HW2 hal hG ⊢
    clear hx
    have HG2:Hid (Ows x2 w5.heap.size (.slice (some ⟨x1.heap.size,0,none⟩) 0 0) []):=hG
    clear hG
    have HD2:Hid (x2.cell? ⟨x0.heap.size,0,none⟩=some (.int .i64 (x:Int))):=(by show _=_;rw [hal.cell (lt_of_cell HD1.out)];exact HD1.out)
    clear HD1
    clear hal
    try simp only [Act.put,List.setIfInBounds_toArray,List.set_cons_zero,List.set_cons_succ,List.getElem_toArray,List.getElem_cons_zero,List.getElem_cons_succ]
    refine wpAnyH_ready (rs:=[1,8]) (by kernel_rfl) (by simp) ?_
    refine (AllReadyH.cons rfl (fun K hK=>?_) (AllReadyH.cons rfl (fun K hK=>?_) AllReadyH.nil))
    ·go_simp
     have hal:Below x2.heap.size x2 (x2.alloc (.cells #[.slice a4 vs.length c4,.int .i64 (x:Int)] 61)):=(Below.refl _ _).alloc (Nat.le_refl _) _
     have HW3:Hid (Below w5.heap.size w5 (x2.alloc (.cells #[.slice a4 vs.length c4,.int .i64 (x:Int)] 61))):=HW2.out.trans (hal.mono HW2.out.size)
     refine hK.out _ _ (HS.out _ HW3.out) (fun hNext=>?_)
     clear hK K hHeld
     have hHeld:=hNext
     clear hNext
     have hA:Lq (x2.alloc (.cells #[.slice a4 vs.length c4,.int .i64 (x:Int)] 61)) W.heap.size x2.heap.size 1 [⟨a4,c4,vs,(x:Int)⟩]:=Lq.one x2 W.heap.size ⟨a4,c4,vs,(x:Int)⟩ (Nat.le_trans HBB.out HW2.out.size) (wi_kept (q:=⟨a4,c4,vs,(x:Int)⟩) HP0.out (S:=fun _=>False) (Kept.ofBelow HW2.out) (fun _ _ h=>h))
     obtain ⟨x3,hx⟩:∃ z,z=x2.alloc (.cells #[.slice a4 vs.length c4,.int .i64 (x:Int)] 61):=⟨_,rfl⟩
     have HZ3:Hid (x2.heap.size < x3.heap.size):=by show _ < _;rw [hx];simp
     rw [<- hx] at hHeld HW3 hal hA ⊢
     clear hx
     have HA3:Hid (Lq x3 W.heap.size x2.heap.size 1 [⟨a4,c4,vs,(x:Int)⟩]):=hA
     clear hA
     have HG3:Hid (Ows x3 w5.heap.size (.slice (some ⟨x1.heap.size,0,none⟩) 0 0) []):=HG2.out.kept (S:=fun _=>False) (Kept.ofBelow hal) (fun _ _ h=>h)
     clear HG2
     have HD3:Hid (x3.cell? ⟨x0.heap.size,0,none⟩=some (.int .i64 (x:Int))):=(by show _=_;rw [hal.cell (lt_of_cell HD2.out)];exact HD2.out)
     clear HD2
     clear hal
     try simp only [Act.put,List.setIfInBounds_toArray,List.set_cons_zero,List.set_cons_succ,List.getElem_toArray,List.getElem_cons_zero,List.getElem_cons_succ]
     refine wpAnyH_ready (rs:=[8]) (by kernel_rfl) (by simp) ?_
     refine (AllReadyH.cons rfl (fun K hK=>?_) AllReadyH.nil)
     refine step_ints x3 rfl _ _ rfl w5.heap.size x1.heap.size vs va vc rfl rfl HG3.out HW3.out.size (HI0.out.below HW3.out) HLV.out ?_
     intro v5 x4 ho hk hv5
     have hb:Below w5.heap.size x3 x4:=hk.below (fun b (hb:b=x1.heap.size)=>(by have:=HZ0.out;have:=HZ1.out;have:=HZ2.out;have:=HZ3.out;omega)) HW3.out.size
     have HW4:Hid (Below w5.heap.size w5 x4):=HW3.out.trans hb
     have HZ4:Hid (x3.heap.size<=x4.heap.size):=hk.size
     have HV4:Hid (Ows x4 w5.heap.size v5 vs):=ho
     have HA4:Hid _:=HA3.out.kept hk (fun (h:x2.heap.size=x1.heap.size)=>(by have:=HZ0.out;have:=HZ1.out;have:=HZ2.out;have:=HZ3.out;omega)) (fun q hq b hb (h:b=x1.heap.size)=>by have:=HPO.out q hq b hb;have:=HZ0.out;have:=HZ1.out;have:=HZ2.out;have:=HZ3.out;omega)
     have HAV:Hid (∀ b,v5.ownBlock=some b->b≠x2.heap.size):=fun b hb=>by have:=hv5 b hb;have:=HZ0.out;have:=HZ1.out;have:=HZ2.out;have:=HZ3.out;omega
     clear HA3
     have HD4:Hid (x4.cell? ⟨x0.heap.size,0,none⟩=some (.int .i64 (x:Int))):=(by show _=_;rw [hk.cell (p:=⟨x0.heap.size,0,none⟩) (lt_of_cell HD3.out) (fun (h:x0.heap.size=x1.heap.size)=>(by have:=HZ0.out;have:=HZ1.out;have:=HZ2.out;have:=HZ3.out;omega))];exact HD3.out)
     clear HD3
     clear hb ho hk hv5 HG3
     refine hK.out _ _ (HS.out _ HW4.out) (fun hNext=>?_)
     clear hK K hHeld
     have hHeld:=hNext
     clear hNext
     try simp only [Act.put,List.setIfInBounds_toArray,List.set_cons_zero,List.set_cons_succ,List.getElem_toArray,List.getElem_cons_zero,List.getElem_cons_succ]
     refine wpAnyH_ready (rs:=[11]) (by kernel_rfl) (by simp) ?_
     refine (AllReadyH.cons rfl (fun K hK=>?_) AllReadyH.nil)
     refine step_int x4 rfl _ _ rfl w5.heap.size v5 vs (x:Int) rfl x0.heap.size rfl HD4.out HV4.out HW4.out.size HLV.out ?_
     intro g6 c6 x5 ho hk
     have HW5:Hid (Below w5.heap.size w5 x5):=HW4.out.trans (hk.below (fun b hb=>(HV4.out.lt b hb).1) HW4.out.size)
     have HZ5:Hid (x4.heap.size<=x5.heap.size):=hk.size
     have HN5:Hid (Ints x5 (some ⟨g6,0,none⟩) (vs++[(x:Int)])):=by
      obtain ⟨a9,c9,e9,f9⟩:=ho.form
      injection e9 with ea eb ec
      rw [<- ea] at f9
      exact f9.ints
     have HA5:Hid _:=HA4.out.kept hk (fun h=>HAV.out _ h rfl) (fun q hq b hb h=>by have:=HPO.out q hq b hb;have:=(HV4.out.lt b h).1;have:=HZ0.out;have:=HZ1.out;have:=HZ2.out;have:=HZ3.out;have:=HZ4.out;omega)
     clear HA4
     clear ho hk HD4 HV4
     refine hK.out _ _ (HS.out _ HW5.out) (fun hNext=>?_)
     clear hK K hHeld
     have hHeld:=hNext
     clear hNext
     try simp only [Act.put,List.setIfInBounds_toArray,List.set_cons_zero,List.set_cons_succ,List.getElem_toArray,List.getElem_cons_zero,List.getElem_cons_succ]
     refine wpAnyH_ready (rs:=[12]) (by kernel_rfl) (by simp) ?_
     refine (AllReadyH.cons rfl (fun K hK=>?_) AllReadyH.nil)
     refine step_call (f:=46) (args := #[.slice (some ⟨b,t,none⟩) n c1,tv (n:Int) SX,.int .i64 v,.slice (some ⟨g6,0,none⟩) (vs.length+1) c6]) rfl (by go_simp) ?_
     refine Calls.mono (HREC.out x5 _ _ (HBW.out.trans (HW5.out.mono HBW.out.size)) HN5.out) ?_
     rintro e x6 ⟨g2,cap2,ys,rfl,hy1,hy2,hb2⟩
     have HW6:Hid (Below w5.heap.size w5 x6):=HW5.out.trans (hb2.mono HW5.out.size)
     have HZ6:Hid (x5.heap.size<=x6.heap.size):=hb2.size
     have HY6:Hid (Lq x6 x5.heap.size g2 cap2 ys):=hy2
     have HYP:Hid (ys.map Pq.pk=_):=hy1
     have HA6:Hid _:=HA5.out.below hb2
     have HYG:Hid (∀ q∈ys,¬ q.own x2.heap.size):=fun q hq hb=>by have:=(wi_own (hy2.ins q hq) hb).1;have:=HZ0.out;have:=HZ1.out;have:=HZ2.out;have:=HZ3.out;have:=HZ4.out;have:=HZ5.out;omega
     clear HA5
     clear hy1 hy2 hb2 HN5
     refine ⟨_,rfl,?_⟩
     refine hK.out _ _ (HS.out _ HW6.out) (fun hNext=>?_)
     clear hK K hHeld
     have hHeld:=hNext
     clear hNext
     try simp only [Act.put,List.setIfInBounds_toArray,List.set_cons_zero,List.set_cons_succ,List.getElem_toArray,List.getElem_cons_zero,List.getElem_cons_succ]
     refine wpAnyH_ready (rs:=[13]) (by kernel_rfl) (by simp) ?_
     refine (AllReadyH.cons rfl (fun K hK=>?_) AllReadyH.nil)
     refine step_join x6 rfl _ _ rfl W.heap.size x2.heap.size 1 x5.heap.size g2 cap2 1 [⟨a4,c4,vs,(x:Int)⟩] ys rfl rfl rfl HA6.out HY6.out (Nat.le_trans HBB.out (by have:=HZ0.out;have:=HZ1.out;have:=HZ2.out;have:=HZ3.out;have:=HZ4.out;have:=HZ5.out;have:=HZ6.out;omega)) HYG.out (fun p hp b hb=>by have:=HPO.out p hp b hb;have:=HZ0.out;have:=HZ1.out;have:=HZ2.out;have:=HZ3.out;have:=HZ4.out;have:=HZ5.out;have:=HZ6.out;omega) (Nat.le_trans HBB.out HW6.out.size) (by have:=HYL.out ys HYP.out;simp;omega) ?_
     intro g7 c7 x7 ho hk
     have HW7:Hid (Below w5.heap.size w5 x7):=HW6.out.trans (hk.below (fun b (hb:b=x2.heap.size)=>(by have:=HZ0.out;have:=HZ1.out;have:=HZ2.out;have:=HZ3.out;have:=HZ4.out;have:=HZ5.out;have:=HZ6.out;omega)) HW6.out.size)
     have HR:Hid (Lq x7 W.heap.size g7 c7 ([⟨a4,c4,vs,(x:Int)⟩]++ys)):=ho
     clear ho hk HA6 HY6
     refine hK.out _ _ (HS.out _ HW7.out) (fun hNext=>?_)
     clear hK K hHeld
     have hHeld:=hNext
     clear hNext
     try simp only [Act.put,List.setIfInBounds_toArray,List.set_cons_zero,List.set_cons_succ,List.getElem_toArray,List.getElem_cons_zero,List.getElem_cons_succ]
     refine wpAnyH_take (i:=14) (v:=?_) rfl (by kernel_rfl) (by kernel_rfl) (by kernel_rfl) (fun _ _ _ h=>h) (Or.inl ⟨by rfl,?_⟩) hHeld ?_
     rotate_left
     ·intro v9 hS9
      try dsimp only at hS9
      skip
      go_simp
      try with_reducible rfl
     try simp only [Act.put,List.setIfInBounds_toArray,List.set_cons_zero,List.set_cons_succ,List.getElem_toArray,List.getElem_cons_zero,List.getElem_cons_succ]
     refine wpAnyH_done (by kernel_rfl) ?_ _
     clear hHeld
     go_wp2
     go_ret
     exact ⟨g7,c7,_,by rw [List.length_append];rfl,by rw [List.map_append,HYP.out];rfl,HR.out,HBW.out.trans (HW7.out.mono HBW.out.size)⟩
    ·refine step_ints x2 rfl _ _ rfl w5.heap.size x1.heap.size vs va vc rfl rfl HG2.out HW2.out.size (HI0.out.below HW2.out) HLV.out ?_
     intro v5 x3 ho hk hv5
     have hb:Below w5.heap.size x2 x3:=hk.below (fun b (hb:b=x1.heap.size)=>(by have:=HZ0.out;have:=HZ1.out;have:=HZ2.out;omega)) HW2.out.size
     have HW3:Hid (Below w5.heap.size w5 x3):=HW2.out.trans hb
     have HZ3:Hid (x2.heap.size<=x3.heap.size):=hk.size
     have HV3:Hid (Ows x3 w5.heap.size v5 vs):=ho
     have HD3:Hid (x3.cell? ⟨x0.heap.size,0,none⟩=some (.int .i64 (x:Int))):=(by show _=_;rw [hk.cell (p:=⟨x0.heap.size,0,none⟩) (lt_of_cell HD2.out) (fun (h:x0.heap.size=x1.heap.size)=>(by have:=HZ0.out;have:=HZ1.out;have:=HZ2.out;omega))];exact HD2.out)
     clear HD2
     clear hb ho hk hv5 HG2
     refine hK.out _ _ (HS.out _ HW3.out) (fun hNext=>?_)
     clear hK K hHeld
     have hHeld:=hNext
     clear hNext
     try simp only [Act.put,List.setIfInBounds_toArray,List.set_cons_zero,List.set_cons_succ,List.getElem_toArray,List.getElem_cons_zero,List.getElem_cons_succ]
     refine wpAnyH_ready (rs:=[1,11]) (by kernel_rfl) (by simp) ?_
     refine (AllReadyH.cons rfl (fun K hK=>?_) (AllReadyH.cons rfl (fun K hK=>?_) AllReadyH.nil))
     ·go_simp
      have hal:Below x3.heap.size x3 (x3.alloc (.cells #[.slice a4 vs.length c4,.int .i64 (x:Int)] 61)):=(Below.refl _ _).alloc (Nat.le_refl _) _
      have HW4:Hid (Below w5.heap.size w5 (x3.alloc (.cells #[.slice a4 vs.length c4,.int .i64 (x:Int)] 61))):=HW3.out.trans (hal.mono HW3.out.size)
      refine hK.out _ _ (HS.out _ HW4.out) (fun hNext=>?_)
      clear hK K hHeld
      have hHeld:=hNext
      clear hNext
      have hA:Lq (x3.alloc (.cells #[.slice a4 vs.length c4,.int .i64 (x:Int)] 61)) W.heap.size x3.heap.size 1 [⟨a4,c4,vs,(x:Int)⟩]:=Lq.one x3 W.heap.size ⟨a4,c4,vs,(x:Int)⟩ (Nat.le_trans HBB.out HW3.out.size) (wi_kept (q:=⟨a4,c4,vs,(x:Int)⟩) HP0.out (S:=fun _=>False) (Kept.ofBelow HW3.out) (fun _ _ h=>h))
      obtain ⟨x4,hx⟩:∃ z,z=x3.alloc (.cells #[.slice a4 vs.length c4,.int .i64 (x:Int)] 61):=⟨_,rfl⟩
      have HZ4:Hid (x3.heap.size < x4.heap.size):=by show _ < _;rw [hx];simp
      rw [<- hx] at hHeld HW4 hal hA ⊢
      clear hx
      have HA4:Hid (Lq x4 W.heap.size x3.heap.size 1 [⟨a4,c4,vs,(x:Int)⟩]):=hA
      have HAV:Hid (∀ b,v5.ownBlock=some b->b≠x3.heap.size):=fun b hb=>by have:=(HV3.out.lt b hb).2;omega
      clear hA
      have HV4:Hid (Ows x4 w5.heap.size v5 vs):=HV3.out.kept (S:=fun _=>False) (Kept.ofBelow hal) (fun _ _ h=>h)
      clear HV3
      have HD4:Hid (x4.cell? ⟨x0.heap.size,0,none⟩=some (.int .i64 (x:Int))):=(by show _=_;rw [hal.cell (lt_of_cell HD3.out)];exact HD3.out)
      clear HD3
      clear hal
      try simp only [Act.put,List.setIfInBounds_toArray,List.set_cons_zero,List.set_cons_succ,List.getElem_toArray,List.getElem_cons_zero,List.getElem_cons_succ]
      refine wpAnyH_ready (rs:=[11]) (by kernel_rfl) (by simp) ?_
      refine (AllReadyH.cons rfl (fun K hK=>?_) AllReadyH.nil)
      refine step_int x4 rfl _ _ rfl w5.heap.size v5 vs (x:Int) rfl x0.heap.size rfl HD4.out HV4.out HW4.out.size HLV.out ?_
      intro g6 c6 x5 ho hk
      have HW5:Hid (Below w5.heap.size w5 x5):=HW4.out.trans (hk.below (fun b hb=>(HV4.out.lt b hb).1) HW4.out.size)
      have HZ5:Hid (x4.heap.size<=x5.heap.size):=hk.size
      have HN5:Hid (Ints x5 (some ⟨g6,0,none⟩) (vs++[(x:Int)])):=by
       obtain ⟨a9,c9,e9,f9⟩:=ho.form
       injection e9 with ea eb ec
       rw [<- ea] at f9
       exact f9.ints
      have HA5:Hid _:=HA4.out.kept hk (fun h=>HAV.out _ h rfl) (fun q hq b hb h=>by have:=HPO.out q hq b hb;have:=(HV4.out.lt b h).1;have:=HZ0.out;have:=HZ1.out;have:=HZ2.out;have:=HZ3.out;have:=HZ4.out;omega)
      clear HA4
      clear ho hk HD4 HV4
      refine hK.out _ _ (HS.out _ HW5.out) (fun hNext=>?_)
      clear hK K hHeld
      have hHeld:=hNext
      clear hNext
      try simp only [Act.put,List.setIfInBounds_toArray,List.set_cons_zero,List.set_cons_succ,List.getElem_toArray,List.getElem_cons_zero,List.getElem_cons_succ]
      refine wpAnyH_ready (rs:=[12]) (by kernel_rfl) (by simp) ?_
      refine (AllReadyH.cons rfl (fun K hK=>?_) AllReadyH.nil)
      refine step_call (f:=46) (args := #[.slice (some ⟨b,t,none⟩) n c1,tv (n:Int) SX,.int .i64 v,.slice (some ⟨g6,0,none⟩) (vs.length+1) c6]) rfl (by go_simp) ?_
      refine Calls.mono (HREC.out x5 _ _ (HBW.out.trans (HW5.out.mono HBW.out.size)) HN5.out) ?_
      rintro e x6 ⟨g2,cap2,ys,rfl,hy1,hy2,hb2⟩
      have HW6:Hid (Below w5.heap.size w5 x6):=HW5.out.trans (hb2.mono HW5.out.size)
      have HZ6:Hid (x5.heap.size<=x6.heap.size):=hb2.size
      have HY6:Hid (Lq x6 x5.heap.size g2 cap2 ys):=hy2
      have HYP:Hid (ys.map Pq.pk=_):=hy1
      have HA6:Hid _:=HA5.out.below hb2
      have HYG:Hid (∀ q∈ys,¬ q.own x3.heap.size):=fun q hq hb=>by have:=(wi_own (hy2.ins q hq) hb).1;have:=HZ0.out;have:=HZ1.out;have:=HZ2.out;have:=HZ3.out;have:=HZ4.out;have:=HZ5.out;omega
      clear HA5
      clear hy1 hy2 hb2 HN5
      refine ⟨_,rfl,?_⟩
      refine hK.out _ _ (HS.out _ HW6.out) (fun hNext=>?_)
      clear hK K hHeld
      have hHeld:=hNext
      clear hNext
      try simp only [Act.put,List.setIfInBounds_toArray,List.set_cons_zero,List.set_cons_succ,List.getElem_toArray,List.getElem_cons_zero,List.getElem_cons_succ]
      refine wpAnyH_ready (rs:=[13]) (by kernel_rfl) (by simp) ?_
      refine (AllReadyH.cons rfl (fun K hK=>?_) AllReadyH.nil)
      refine step_join x6 rfl _ _ rfl W.heap.size x3.heap.size 1 x5.heap.size g2 cap2 1 [⟨a4,c4,vs,(x:Int)⟩] ys rfl rfl rfl HA6.out HY6.out (Nat.le_trans HBB.out (by have:=HZ0.out;have:=HZ1.out;have:=HZ2.out;have:=HZ3.out;have:=HZ4.out;have:=HZ5.out;have:=HZ6.out;omega)) HYG.out (fun p hp b hb=>by have:=HPO.out p hp b hb;have:=HZ0.out;have:=HZ1.out;have:=HZ2.out;have:=HZ3.out;have:=HZ4.out;have:=HZ5.out;have:=HZ6.out;omega) (Nat.le_trans HBB.out HW6.out.size) (by have:=HYL.out ys HYP.out;simp;omega) ?_
      intro g7 c7 x7 ho hk
      have HW7:Hid (Below w5.heap.size w5 x7):=HW6.out.trans (hk.below (fun b (hb:b=x3.heap.size)=>(by have:=HZ0.out;have:=HZ1.out;have:=HZ2.out;have:=HZ3.out;have:=HZ4.out;have:=HZ5.out;have:=HZ6.out;omega)) HW6.out.size)
      have HR:Hid (Lq x7 W.heap.size g7 c7 ([⟨a4,c4,vs,(x:Int)⟩]++ys)):=ho
      clear ho hk HA6 HY6
      refine hK.out _ _ (HS.out _ HW7.out) (fun hNext=>?_)
      clear hK K hHeld
      have hHeld:=hNext
      clear hNext
      try simp only [Act.put,List.setIfInBounds_toArray,List.set_cons_zero,List.set_cons_succ,List.getElem_toArray,List.getElem_cons_zero,List.getElem_cons_succ]
      refine wpAnyH_take (i:=14) (v:=?_) rfl (by kernel_rfl) (by kernel_rfl) (by kernel_rfl) (fun _ _ _ h=>h) (Or.inl ⟨by rfl,?_⟩) hHeld ?_
      rotate_left
      ·intro v9 hS9
       try dsimp only at hS9
       skip
       go_simp
       try with_reducible rfl
      try simp only [Act.put,List.setIfInBounds_toArray,List.set_cons_zero,List.set_cons_succ,List.getElem_toArray,List.getElem_cons_zero,List.getElem_cons_succ]
      refine wpAnyH_done (by kernel_rfl) ?_ _
      clear hHeld
      go_wp2
      go_ret
      exact ⟨g7,c7,_,by rw [List.length_append];rfl,by rw [List.map_append,HYP.out];rfl,HR.out,HBW.out.trans (HW7.out.mono HBW.out.size)⟩
     ·refine step_int x3 rfl _ _ rfl w5.heap.size v5 vs (x:Int) rfl x0.heap.size rfl HD3.out HV3.out HW3.out.size HLV.out ?_
      intro g6 c6 x4 ho hk
      have HW4:Hid (Below w5.heap.size w5 x4):=HW3.out.trans (hk.below (fun b hb=>(HV3.out.lt b hb).1) HW3.out.size)
      have HZ4:Hid (x3.heap.size<=x4.heap.size):=hk.size
      have HN4:Hid (Ints x4 (some ⟨g6,0,none⟩) (vs++[(x:Int)])):=by
       obtain ⟨a9,c9,e9,f9⟩:=ho.form
       injection e9 with ea eb ec
       rw [<- ea] at f9
       exact f9.ints
      clear ho hk HD3 HV3
      refine hK.out _ _ (HS.out _ HW4.out) (fun hNext=>?_)
      clear hK K hHeld
      have hHeld:=hNext
      clear hNext
      try simp only [Act.put,List.setIfInBounds_toArray,List.set_cons_zero,List.set_cons_succ,List.getElem_toArray,List.getElem_cons_zero,List.getElem_cons_succ]
      refine wpAnyH_ready (rs:=[1,12]) (by kernel_rfl) (by simp) ?_
      refine (AllReadyH.cons rfl (fun K hK=>?_) (AllReadyH.cons rfl (fun K hK=>?_) AllReadyH.nil))
      ·go_simp
       have hal:Below x4.heap.size x4 (x4.alloc (.cells #[.slice a4 vs.length c4,.int .i64 (x:Int)] 61)):=(Below.refl _ _).alloc (Nat.le_refl _) _
       have HW5:Hid (Below w5.heap.size w5 (x4.alloc (.cells #[.slice a4 vs.length c4,.int .i64 (x:Int)] 61))):=HW4.out.trans (hal.mono HW4.out.size)
       refine hK.out _ _ (HS.out _ HW5.out) (fun hNext=>?_)
       clear hK K hHeld
       have hHeld:=hNext
       clear hNext
       have hA:Lq (x4.alloc (.cells #[.slice a4 vs.length c4,.int .i64 (x:Int)] 61)) W.heap.size x4.heap.size 1 [⟨a4,c4,vs,(x:Int)⟩]:=Lq.one x4 W.heap.size ⟨a4,c4,vs,(x:Int)⟩ (Nat.le_trans HBB.out HW4.out.size) (wi_kept (q:=⟨a4,c4,vs,(x:Int)⟩) HP0.out (S:=fun _=>False) (Kept.ofBelow HW4.out) (fun _ _ h=>h))
       obtain ⟨x5,hx⟩:∃ z,z=x4.alloc (.cells #[.slice a4 vs.length c4,.int .i64 (x:Int)] 61):=⟨_,rfl⟩
       have HZ5:Hid (x4.heap.size < x5.heap.size):=by show _ < _;rw [hx];simp
       rw [<- hx] at hHeld HW5 hal hA ⊢
       clear hx
       have HA5:Hid (Lq x5 W.heap.size x4.heap.size 1 [⟨a4,c4,vs,(x:Int)⟩]):=hA
       clear hA
       have HN5:Hid (Ints x5 (some ⟨g6,0,none⟩) (vs++[(x:Int)])):=HN4.out.below hal
       clear HN4
       clear hal
       try simp only [Act.put,List.setIfInBounds_toArray,List.set_cons_zero,List.set_cons_succ,List.getElem_toArray,List.getElem_cons_zero,List.getElem_cons_succ]
       refine wpAnyH_ready (rs:=[12]) (by kernel_rfl) (by simp) ?_
       refine (AllReadyH.cons rfl (fun K hK=>?_) AllReadyH.nil)
       refine step_call (f:=46) (args := #[.slice (some ⟨b,t,none⟩) n c1,tv (n:Int) SX,.int .i64 v,.slice (some ⟨g6,0,none⟩) (vs.length+1) c6]) rfl (by go_simp) ?_
       refine Calls.mono (HREC.out x5 _ _ (HBW.out.trans (HW5.out.mono HBW.out.size)) HN5.out) ?_
       rintro e x6 ⟨g2,cap2,ys,rfl,hy1,hy2,hb2⟩
       have HW6:Hid (Below w5.heap.size w5 x6):=HW5.out.trans (hb2.mono HW5.out.size)
       have HZ6:Hid (x5.heap.size<=x6.heap.size):=hb2.size
       have HY6:Hid (Lq x6 x5.heap.size g2 cap2 ys):=hy2
       have HYP:Hid (ys.map Pq.pk=_):=hy1
       have HA6:Hid _:=HA5.out.below hb2
       have HYG:Hid (∀ q∈ys,¬ q.own x4.heap.size):=fun q hq hb=>by have:=(wi_own (hy2.ins q hq) hb).1;have:=HZ0.out;have:=HZ1.out;have:=HZ2.out;have:=HZ3.out;have:=HZ4.out;have:=HZ5.out;omega
       clear HA5
       clear hy1 hy2 hb2 HN5
       refine ⟨_,rfl,?_⟩
       refine hK.out _ _ (HS.out _ HW6.out) (fun hNext=>?_)
       clear hK K hHeld
       have hHeld:=hNext
       clear hNext
       try simp only [Act.put,List.setIfInBounds_toArray,List.set_cons_zero,List.set_cons_succ,List.getElem_toArray,List.getElem_cons_zero,List.getElem_cons_succ]
       refine wpAnyH_ready (rs:=[13]) (by kernel_rfl) (by simp) ?_
       refine (AllReadyH.cons rfl (fun K hK=>?_) AllReadyH.nil)
       refine step_join x6 rfl _ _ rfl W.heap.size x4.heap.size 1 x5.heap.size g2 cap2 1 [⟨a4,c4,vs,(x:Int)⟩] ys rfl rfl rfl HA6.out HY6.out (Nat.le_trans HBB.out (by have:=HZ0.out;have:=HZ1.out;have:=HZ2.out;have:=HZ3.out;have:=HZ4.out;have:=HZ5.out;have:=HZ6.out;omega)) HYG.out (fun p hp b hb=>by have:=HPO.out p hp b hb;have:=HZ0.out;have:=HZ1.out;have:=HZ2.out;have:=HZ3.out;have:=HZ4.out;have:=HZ5.out;have:=HZ6.out;omega) (Nat.le_trans HBB.out HW6.out.size) (by have:=HYL.out ys HYP.out;simp;omega) ?_
       intro g7 c7 x7 ho hk
       have HW7:Hid (Below w5.heap.size w5 x7):=HW6.out.trans (hk.below (fun b (hb:b=x4.heap.size)=>(by have:=HZ0.out;have:=HZ1.out;have:=HZ2.out;have:=HZ3.out;have:=HZ4.out;have:=HZ5.out;have:=HZ6.out;omega)) HW6.out.size)
       have HR:Hid (Lq x7 W.heap.size g7 c7 ([⟨a4,c4,vs,(x:Int)⟩]++ys)):=ho
       clear ho hk HA6 HY6
       refine hK.out _ _ (HS.out _ HW7.out) (fun hNext=>?_)
       clear hK K hHeld
       have hHeld:=hNext
       clear hNext
       try simp only [Act.put,List.setIfInBounds_toArray,List.set_cons_zero,List.set_cons_succ,List.getElem_toArray,List.getElem_cons_zero,List.getElem_cons_succ]
       refine wpAnyH_take (i:=14) (v:=?_) rfl (by kernel_rfl) (by kernel_rfl) (by kernel_rfl) (fun _ _ _ h=>h) (Or.inl ⟨by rfl,?_⟩) hHeld ?_
       rotate_left
       ·intro v9 hS9
        try dsimp only at hS9
        skip
        go_simp
        try with_reducible rfl
       try simp only [Act.put,List.setIfInBounds_toArray,List.set_cons_zero,List.set_cons_succ,List.getElem_toArray,List.getElem_cons_zero,List.getElem_cons_succ]
       refine wpAnyH_done (by kernel_rfl) ?_ _
       clear hHeld
       go_wp2
       go_ret
       exact ⟨g7,c7,_,by rw [List.length_append];rfl,by rw [List.map_append,HYP.out];rfl,HR.out,HBW.out.trans (HW7.out.mono HBW.out.size)⟩
      ·refine step_call (f:=46) (args := #[.slice (some ⟨b,t,none⟩) n c1,tv (n:Int) SX,.int .i64 v,.slice (some ⟨g6,0,none⟩) (vs.length+1) c6]) rfl (by go_simp) ?_
       refine Calls.mono (HREC.out x4 _ _ (HBW.out.trans (HW4.out.mono HBW.out.size)) HN4.out) ?_
       rintro e x5 ⟨g2,cap2,ys,rfl,hy1,hy2,hb2⟩
       have HW5:Hid (Below w5.heap.size w5 x5):=HW4.out.trans (hb2.mono HW4.out.size)
       have HZ5:Hid (x4.heap.size<=x5.heap.size):=hb2.size
       have HY5:Hid (Lq x5 x4.heap.size g2 cap2 ys):=hy2
       have HYP:Hid (ys.map Pq.pk=_):=hy1
       clear hy1 hy2 hb2 HN4
       refine ⟨_,rfl,?_⟩
       refine hK.out _ _ (HS.out _ HW5.out) (fun hNext=>?_)
       clear hK K hHeld
       have hHeld:=hNext
       clear hNext
       try simp only [Act.put,List.setIfInBounds_toArray,List.set_cons_zero,List.set_cons_succ,List.getElem_toArray,List.getElem_cons_zero,List.getElem_cons_succ]
       refine wpAnyH_ready (rs:=[1]) (by kernel_rfl) (by simp) ?_
       refine (AllReadyH.cons rfl (fun K hK=>?_) AllReadyH.nil)
       go_simp
       have hal:Below x5.heap.size x5 (x5.alloc (.cells #[.slice a4 vs.length c4,.int .i64 (x:Int)] 61)):=(Below.refl _ _).alloc (Nat.le_refl _) _
       have HW6:Hid (Below w5.heap.size w5 (x5.alloc (.cells #[.slice a4 vs.length c4,.int .i64 (x:Int)] 61))):=HW5.out.trans (hal.mono HW5.out.size)
       refine hK.out _ _ (HS.out _ HW6.out) (fun hNext=>?_)
       clear hK K hHeld
       have hHeld:=hNext
       clear hNext
       have hA:Lq (x5.alloc (.cells #[.slice a4 vs.length c4,.int .i64 (x:Int)] 61)) W.heap.size x5.heap.size 1 [⟨a4,c4,vs,(x:Int)⟩]:=Lq.one x5 W.heap.size ⟨a4,c4,vs,(x:Int)⟩ (Nat.le_trans HBB.out HW5.out.size) (wi_kept (q:=⟨a4,c4,vs,(x:Int)⟩) HP0.out (S:=fun _=>False) (Kept.ofBelow HW5.out) (fun _ _ h=>h))
       obtain ⟨x6,hx⟩:∃ z,z=x5.alloc (.cells #[.slice a4 vs.length c4,.int .i64 (x:Int)] 61):=⟨_,rfl⟩
       have HZ6:Hid (x5.heap.size < x6.heap.size):=by show _ < _;rw [hx];simp
       rw [<- hx] at hHeld HW6 hal hA ⊢
       clear hx
       have HA6:Hid (Lq x6 W.heap.size x5.heap.size 1 [⟨a4,c4,vs,(x:Int)⟩]):=hA
       have HYG:Hid (∀ q∈ys,¬ q.own x5.heap.size):=fun q hq hb=>by have:=(wi_own (HY5.out.ins q hq) hb).2;omega
       clear hA
       have HY6:Hid _:=HY5.out.below hal
       clear HY5
       clear hal
       try simp only [Act.put,List.setIfInBounds_toArray,List.set_cons_zero,List.set_cons_succ,List.getElem_toArray,List.getElem_cons_zero,List.getElem_cons_succ]
       refine wpAnyH_ready (rs:=[13]) (by kernel_rfl) (by simp) ?_
       refine (AllReadyH.cons rfl (fun K hK=>?_) AllReadyH.nil)
       refine step_join x6 rfl _ _ rfl W.heap.size x5.heap.size 1 x4.heap.size g2 cap2 1 [⟨a4,c4,vs,(x:Int)⟩] ys rfl rfl rfl HA6.out HY6.out (Nat.le_trans HBB.out (by have:=HZ0.out;have:=HZ1.out;have:=HZ2.out;have:=HZ3.out;have:=HZ4.out;have:=HZ5.out;have:=HZ6.out;omega)) HYG.out (fun p hp b hb=>by have:=HPO.out p hp b hb;have:=HZ0.out;have:=HZ1.out;have:=HZ2.out;have:=HZ3.out;have:=HZ4.out;have:=HZ5.out;have:=HZ6.out;omega) (Nat.le_trans HBB.out HW6.out.size) (by have:=HYL.out ys HYP.out;simp;omega) ?_
       intro g7 c7 x7 ho hk
       have HW7:Hid (Below w5.heap.size w5 x7):=HW6.out.trans (hk.below (fun b (hb:b=x5.heap.size)=>(by have:=HZ0.out;have:=HZ1.out;have:=HZ2.out;have:=HZ3.out;have:=HZ4.out;have:=HZ5.out;have:=HZ6.out;omega)) HW6.out.size)
       have HR:Hid (Lq x7 W.heap.size g7 c7 ([⟨a4,c4,vs,(x:Int)⟩]++ys)):=ho
       clear ho hk HA6 HY6
       refine hK.out _ _ (HS.out _ HW7.out) (fun hNext=>?_)
       clear hK K hHeld
       have hHeld:=hNext
       clear hNext
       try simp only [Act.put,List.setIfInBounds_toArray,List.set_cons_zero,List.set_cons_succ,List.getElem_toArray,List.getElem_cons_zero,List.getElem_cons_succ]
       refine wpAnyH_take (i:=14) (v:=?_) rfl (by kernel_rfl) (by kernel_rfl) (by kernel_rfl) (fun _ _ _ h=>h) (Or.inl ⟨by rfl,?_⟩) hHeld ?_
       rotate_left
       ·intro v9 hS9
        try dsimp only at hS9
        skip
        go_simp
        try with_reducible rfl
       try simp only [Act.put,List.setIfInBounds_toArray,List.set_cons_zero,List.set_cons_succ,List.getElem_toArray,List.getElem_cons_zero,List.getElem_cons_succ]
       refine wpAnyH_done (by kernel_rfl) ?_ _
       clear hHeld
       go_wp2
       go_ret
       exact ⟨g7,c7,_,by rw [List.length_append];rfl,by rw [List.map_append,HYP.out];rfl,HR.out,HBW.out.trans (HW7.out.mono HBW.out.size)⟩
/-- A bit that the other side has. -/
theorem ml_oth (v:Int) (n:Nat) (F:Nat->Bool) (hn:n<=11) (q:Bool) (W:World) (b o t:Nat) (va:Option Addr) (c c1 vc:Nat) (vs:List Int) (PA PS:List Pk) (hk:¬ 0<=knw (n+1) F) (ht:(q==(v==0))=false)
 (p0:W.cell? ⟨b,o,none⟩=some (.bool q)) (hsl:∀ w:World,(Instr.slice 24 (.slice (some ⟨b,o,none⟩) (n+1) c) (some (.int .i64 1)) none none).run Try.prog w=.ok (.slice (some ⟨b,t,none⟩) n c1) w)
 (hI:Ints W va vs) (hlen:vs.length<=100) (hpa:PA.length<=5000) (hps:PS.length<=5000)
 (h0:∀ (W':World) a c,Below W.heap.size W W'->Ints W' a (vs++[0])->Calls Try.prog 46 #[.slice (some ⟨b,t,none⟩) n c1,tv (n:Int) (bs (tab n (hb n 0 F))),.int .i64 v,.slice a (vs.length+1) c] W' (PL PA W'))
 (h1:∀ (W':World) a c,Below W.heap.size W W'->Ints W' a (vs++[1])->Calls Try.prog 46 #[.slice (some ⟨b,t,none⟩) n c1,tv (n:Int) (bs (tab n (hb n 1 F))),.int .i64 v,.slice a (vs.length+1) c] W' (PL PS W')) :
 Calls Try.prog 46 #[.slice (some ⟨b,o,none⟩) (n+1) c,tv ((n:Int)+1) (bs (tab (n+1) F)),.int .i64 v,.slice va vs.length vc] W (PL (PA++PS) W):=by
 obtain ⟨X0,hX0⟩:∃ X,X=W.alloc (.cells #[.int .i64 ((n:Int)+1),.string (bs (tab (n+1) F))] 26):=⟨_,rfl⟩
 have HB0:Hid (Below W.heap.size W X0):=by rw [hX0];exact (Below.refl _ _).alloc (Nat.le_refl _) _
 have HL0:Hid (Lay X0 W.heap.size (.int .i64 ((n:Int)+1)) (.string (bs (tab (n+1) F)))):=by rw [hX0];exact Lay.made _ _ _ _
 have hE:W.alloc (.cells #[.int .i64 ((n:Int)+1),.string (bs (tab (n+1) F))] 26)=X0:=hX0.symm
 have HKN:Hid (∀ W,Calls Try.prog 73 #[tv ((n:Int)+1) (bs (tab (n+1) F))] W fun e w'=>e=.returned (.int .i64 (knw (n+1) F))/\Below W.heap.size W w'):=fun W=>sKnown (n+1) F W (by omega)
 have HH0:Hid (∀ W,Calls Try.prog 63 #[tv ((n:Int)+1) (bs (tab (n+1) F)),.int .i64 0] W fun e w'=>e=.returned (.tuple #[tv (n:Int) (bs (tab n (hb n 0 F))),.bool true])/\Below W.heap.size W w'):=fun W=>sHalf n 0 F W (by omega) (by omega)
 have HH1:Hid (∀ W,Calls Try.prog 63 #[tv ((n:Int)+1) (bs (tab (n+1) F)),.int .i64 1] W fun e w'=>e=.returned (.tuple #[tv (n:Int) (bs (tab n (hb n 1 F))),.bool true])/\Below W.heap.size W w'):=fun W=>sHalf n 1 F W (by omega) (by omega)
 have HR0:Hid (∀ (W':World) a c,Below W.heap.size W W'->Ints W' a (vs++[0])->Calls Try.prog 46 #[.slice (some ⟨b,t,none⟩) n c1,tv (n:Int) (bs (tab n (hb n 0 F))),.int .i64 v,.slice a (vs.length+1) c] W' (PL PA W')):=h0
 have HR1:Hid (∀ (W':World) a c,Below W.heap.size W W'->Ints W' a (vs++[1])->Calls Try.prog 46 #[.slice (some ⟨b,t,none⟩) n c1,tv (n:Int) (bs (tab n (hb n 1 F))),.int .i64 v,.slice a (vs.length+1) c] W' (PL PS W')):=h1
 have HV:Hid (Ints W va vs):=hI
 have HLV:Hid (vs.length<=1048576):=by show _<=_;omega
 have P0:Hid (W.cell? ⟨b,o,none⟩=some (.bool q)):=p0
 have HAL:Hid (∀ ys:List Pq,ys.map Pq.pk=PA->ys.length<=5000):=fun ys hy=>by rw [<- List.length_map,hy];exact hpa
 have HYL:Hid (∀ ys:List Pq,ys.map Pq.pk=PS->ys.length<=5000):=fun ys hy=>by rw [<- List.length_map,hy];exact hps
 clear hX0 h0 h1 hI p0 hn hlen hps hpa
 generalize knw (n+1) F=kn at *
 generalize bs (tab (n+1) F)=S at *
 generalize bs (tab n (hb n 0 F))=S0 at *
 generalize bs (tab n (hb n 1 F))=S1 at *
 go_enter Try.func46,Try.ntmps46
 go_upto_region 1 with fail
 clear hE
 obtain ⟨d0,d1,_,_⟩:=HL0.out
 have hd:=HL0.out.lt
 go_wp2_with fail
 clear d0 d1 hd
 refine (HKN.out _).mono ?_
 rintro e w1 ⟨rfl,hb1⟩
 have HB1:Hid (Below W.heap.size W w1):=HB0.out.trans (hb1.mono HB0.out.size)
 have HL1:Hid (Lay w1 W.heap.size (.int .i64 ((n:Int)+1)) (.string S)):=HL0.out.below hb1
 clear hb1 HB0 HL0
 obtain ⟨d0,d1,_,_⟩:=HL1.out
 have hd:=HL1.out.lt
 go_wp2_with fail
 clear d0 d1 hd
 refine (HH0.out _).mono ?_
 rintro e w2 ⟨rfl,hb2⟩
 go_upto_region 4 with fail
 obtain ⟨W2,hW2⟩:∃ X,X=w2.alloc (.cells #[.int .i64 (n:Int),.string S0] 26):=⟨_,rfl⟩
 obtain ⟨ql,hql⟩:∃ q,q=w2.heap.size:=⟨_,rfl⟩
 have hb3:Below w1.heap.size w1 W2:=by rw [hW2];exact hb2.alloc hb2.size _
 have HB2:Hid (Below W.heap.size W W2):=HB1.out.trans (hb3.mono HB1.out.size)
 have HL2:Hid (Lay W2 W.heap.size (.int .i64 ((n:Int)+1)) (.string S)):=HL1.out.below hb3
 have HA2:Hid (Lay W2 ql (.int .i64 (n:Int)) (.string S0)):=by rw [hW2,hql];exact Lay.made _ _ _ _
 rw [<- hW2,<- hql]
 clear hW2 hql hb2 hb3 HB1 HL1
 obtain ⟨d0,d1,_,_⟩:=HL2.out
 have hd:=HL2.out.lt
 go_wp2_with fail
 clear d0 d1 hd
 refine (HH1.out _).mono ?_
 rintro e w6 ⟨rfl,hb3⟩
 go_upto_region 5 with fail
 obtain ⟨w3,hW3⟩:∃ X,X=w6.alloc (.cells #[.int .i64 (n:Int),.string S1] 26):=⟨_,rfl⟩
 obtain ⟨qh,hqh⟩:∃ q,q=w6.heap.size:=⟨_,rfl⟩
 have hb4:Below W2.heap.size W2 w3:=by rw [hW3];exact hb3.alloc hb3.size _
 have HBW:Hid (Below W.heap.size W w3):=HB2.out.trans (hb4.mono HB2.out.size)
 have HBB:Hid (W.heap.size<=w3.heap.size):=HBW.out.size
 have HA3:Hid (Lay w3 ql (.int .i64 (n:Int)) (.string S0)):=HA2.out.below hb4
 have HC3:Hid (Lay w3 qh (.int .i64 (n:Int)) (.string S1)):=by rw [hW3,hqh];exact Lay.made _ _ _ _
 rw [<- hW3,<- hqh]
 clear hW3 hqh hb3 hb4 HB2 HL2 HA2
 have p0:w3.cell? ⟨b,o,none⟩=some (.bool q):=by rw [HBW.out.cell (p:=⟨b,o,none⟩) (lt_of_cell P0.out)];exact P0.out
 have hpl:=lt_of_cell p0
 have hcn:(1:Int)<=(n:Int)+1:=by omega
 go_upto_region 12 with fail
 clear p0 hpl ht hk
 have HI0:Hid (Ints w3 va vs):=HV.out.below HBW.out
 have HREC:=HR0
 go_cut [17] from 67 to 76 (fun s17 wc=>∃ ga ca al,s17=.slice (some ⟨ga,0,none⟩) al.length ca/\al.map Pq.pk=PA/\Lq wc w3.heap.size ga ca al/\Below w3.heap.size w3 wc)
 case first =>
  have HS:Hid (∀ W',Below w3.heap.size w3 W'->W'.cell? ⟨ql,0,none⟩=some (.int .i64 (n:Int))/\W'.cell? ⟨ql,1,none⟩=some (.string S0)):=fun W' hb=>⟨(HA3.out.below hb).c0,(HA3.out.below hb).c1⟩
  refine wp_region_held_drew (S:=fun W=>W.cell? ⟨ql,0,none⟩=some (.int .i64 (n:Int))/\W.cell? ⟨ql,1,none⟩=some (.string S0)) (by kernel_rfl) (HS.out _ (Below.refl _ _).drew) (fun hHeld=>?_)
  refine wpAnyH_take (i:=0) (v:=?_) rfl (by kernel_rfl) (by kernel_rfl) (by kernel_rfl) (fun _ _ _ h=>h) (Or.inl ⟨by rfl,?_⟩) hHeld ?_
  rotate_left
  ·intro v9 hS9
   try dsimp only at hS9
   skip
   go_simp
   try with_reducible rfl
  try simp only [Act.put,List.setIfInBounds_toArray,List.set_cons_zero,List.set_cons_succ,List.getElem_toArray,List.getElem_cons_zero,List.getElem_cons_succ]
  refine wpAnyH_take (i:=1) (v:=?_) rfl (by kernel_rfl) (by kernel_rfl) (by kernel_rfl) (fun _ _ _ h=>h) (Or.inl ⟨by rfl,?_⟩) hHeld ?_
  rotate_left
  ·intro v9 hS9
   try dsimp only at hS9
   skip
   go_simp
   try with_reducible rfl
  try simp only [Act.put,List.setIfInBounds_toArray,List.set_cons_zero,List.set_cons_succ,List.getElem_toArray,List.getElem_cons_zero,List.getElem_cons_succ]
  refine wpAnyH_take (i:=2) (v:=?_) rfl (by kernel_rfl) (by kernel_rfl) (by kernel_rfl) (fun _ _ _ h=>h) (Or.inl ⟨by rfl,?_⟩) hHeld ?_
  rotate_left
  ·intro v9 hS9
   try dsimp only at hS9
   obtain ⟨s0,s1⟩:=hS9
   go_simp
   try with_reducible rfl
  try simp only [Act.put,List.setIfInBounds_toArray,List.set_cons_zero,List.set_cons_succ,List.getElem_toArray,List.getElem_cons_zero,List.getElem_cons_succ]
  refine wpAnyH_take (i:=3) (v:=?_) rfl (by kernel_rfl) (by kernel_rfl) (by kernel_rfl) (fun _ _ _ h=>h) (Or.inl ⟨by rfl,?_⟩) hHeld ?_
  rotate_left
  ·intro v9 hS9
   try dsimp only at hS9
   skip
   go_simp
   try with_reducible rfl
  try simp only [Act.put,List.setIfInBounds_toArray,List.set_cons_zero,List.set_cons_succ,List.getElem_toArray,List.getElem_cons_zero,List.getElem_cons_succ]
  refine wpAnyH_take (i:=5) (v:=?_) rfl (by kernel_rfl) (by kernel_rfl) (by kernel_rfl) (fun _ _ _ h=>h) (Or.inl ⟨by rfl,?_⟩) hHeld ?_
  rotate_left
  ·intro v9 hS9
   try dsimp only at hS9
   skip
   go_simp
   try with_reducible rfl
  try simp only [Act.put,List.setIfInBounds_toArray,List.set_cons_zero,List.set_cons_succ,List.getElem_toArray,List.getElem_cons_zero,List.getElem_cons_succ]
  have HW0:Hid (Below w3.heap.size w3 w3.drew):=(Below.refl _ _).drew
  have HZ0:Hid (w3.heap.size<=w3.drew.heap.size):=(Below.refl w3.heap.size w3).drew.size
  obtain ⟨x0,hx⟩:∃ z,z=w3.drew:=⟨_,rfl⟩
  rw [<- hx] at hHeld HW0 HZ0 ⊢
  clear hx
  refine wpAnyH_ready (rs:=[4,7]) (by kernel_rfl) (by simp) ?_
  refine (AllReadyH.cons rfl (fun K hK=>?_) (AllReadyH.cons rfl (fun K hK=>?_) AllReadyH.nil))
  ·go_simp
   have hal:Below x0.heap.size x0 (x0.alloc (.cells #[] 3)):=(Below.refl _ _).alloc (Nat.le_refl _) _
   have HW1:Hid (Below w3.heap.size w3 (x0.alloc (.cells #[] 3))):=HW0.out.trans (hal.mono HW0.out.size)
   refine hK.out _ _ (HS.out _ HW1.out) (fun hNext=>?_)
   clear hK K hHeld
   have hHeld:=hNext
   clear hNext
   have hG:Ows (x0.alloc (.cells #[] 3)) w3.heap.size (.slice (some ⟨x0.heap.size,0,none⟩) 0 0) []:=Ows.lit x0 _ HW0.out.size
   obtain ⟨x1,hx⟩:∃ z,z=x0.alloc (.cells #[] 3):=⟨_,rfl⟩
   have HZ1:Hid (x0.heap.size < x1.heap.size):=by show _ < _;rw [hx];simp
   rw [<- hx] at hHeld HW1 hal hG ⊢
   clear hx
   have HG1:Hid (Ows x1 w3.heap.size (.slice (some ⟨x0.heap.size,0,none⟩) 0 0) []):=hG
   clear hG
   clear hal
   try simp only [Act.put,List.setIfInBounds_toArray,List.set_cons_zero,List.set_cons_succ,List.getElem_toArray,List.getElem_cons_zero,List.getElem_cons_succ]
   refine wpAnyH_ready (rs:=[6,7]) (by kernel_rfl) (by simp) ?_
   refine (AllReadyH.cons rfl (fun K hK=>?_) (AllReadyH.cons rfl (fun K hK=>?_) AllReadyH.nil))
   ·refine step_ints x1 rfl _ _ rfl w3.heap.size x0.heap.size vs va vc rfl rfl HG1.out HW1.out.size (HI0.out.below HW1.out) HLV.out ?_
    intro v5 x2 ho hk hv5
    have hb:Below w3.heap.size x1 x2:=hk.below (fun b (hb:b=x0.heap.size)=>(by have:=HZ0.out;have:=HZ1.out;omega)) HW1.out.size
    have HW2:Hid (Below w3.heap.size w3 x2):=HW1.out.trans hb
    have HZ2:Hid (x1.heap.size<=x2.heap.size):=hk.size
    have HV2:Hid (Ows x2 w3.heap.size v5 vs):=ho
    clear hb ho hk hv5 HG1
    refine hK.out _ _ (HS.out _ HW2.out) (fun hNext=>?_)
    clear hK K hHeld
    have hHeld:=hNext
    clear hNext
    try simp only [Act.put,List.setIfInBounds_toArray,List.set_cons_zero,List.set_cons_succ,List.getElem_toArray,List.getElem_cons_zero,List.getElem_cons_succ]
    refine wpAnyH_ready (rs:=[7]) (by kernel_rfl) (by simp) ?_
    refine (AllReadyH.cons rfl (fun K hK=>?_) AllReadyH.nil)
    go_simp
    have hal:Below x2.heap.size x2 (x2.alloc (.cells #[.int .i64 0] 3)):=(Below.refl _ _).alloc (Nat.le_refl _) _
    have HW3:Hid (Below w3.heap.size w3 (x2.alloc (.cells #[.int .i64 0] 3))):=HW2.out.trans (hal.mono HW2.out.size)
    refine hK.out _ _ (HS.out _ HW3.out) (fun hNext=>?_)
    clear hK K hHeld
    have hHeld:=hNext
    clear hNext
    have hD:(x2.alloc (.cells #[.int .i64 0] 3)).cell? ⟨x2.heap.size,0,none⟩=some (.int .i64 0):=by simp
    obtain ⟨x3,hx⟩:∃ z,z=x2.alloc (.cells #[.int .i64 0] 3):=⟨_,rfl⟩
    have HZ3:Hid (x2.heap.size < x3.heap.size):=by show _ < _;rw [hx];simp
    rw [<- hx] at hHeld HW3 hal hD ⊢
    clear hx
    have HD3:Hid (x3.cell? ⟨x2.heap.size,0,none⟩=some (.int .i64 0)):=hD
    clear hD
    have HV3:Hid (Ows x3 w3.heap.size v5 vs):=HV2.out.kept (S:=fun _=>False) (Kept.ofBelow hal) (fun _ _ h=>h)
    clear HV2
    clear hal
    try simp only [Act.put,List.setIfInBounds_toArray,List.set_cons_zero,List.set_cons_succ,List.getElem_toArray,List.getElem_cons_zero,List.getElem_cons_succ]
    refine wpAnyH_ready (rs:=[8]) (by kernel_rfl) (by simp) ?_
    refine (AllReadyH.cons rfl (fun K hK=>?_) AllReadyH.nil)
    refine step_int x3 rfl _ _ rfl w3.heap.size v5 vs 0 rfl x2.heap.size rfl HD3.out HV3.out HW3.out.size HLV.out ?_
    intro g6 c6 x4 ho hk
    have HW4:Hid (Below w3.heap.size w3 x4):=HW3.out.trans (hk.below (fun b hb=>(HV3.out.lt b hb).1) HW3.out.size)
    have HZ4:Hid (x3.heap.size<=x4.heap.size):=hk.size
    have HN4:Hid (Ints x4 (some ⟨g6,0,none⟩) (vs++[0])):=by
     obtain ⟨a9,c9,e9,f9⟩:=ho.form
     injection e9 with ea eb ec
     rw [<- ea] at f9
     exact f9.ints
    clear ho hk HD3 HV3
    refine hK.out _ _ (HS.out _ HW4.out) (fun hNext=>?_)
    clear hK K hHeld
    have hHeld:=hNext
    clear hNext
    try simp only [Act.put,List.setIfInBounds_toArray,List.set_cons_zero,List.set_cons_succ,List.getElem_toArray,List.getElem_cons_zero,List.getElem_cons_succ]
    refine wpAnyH_ready (rs:=[9]) (by kernel_rfl) (by simp) ?_
    refine (AllReadyH.cons rfl (fun K hK=>?_) AllReadyH.nil)
    refine step_call (f:=46) (args := #[.slice (some ⟨b,t,none⟩) n c1,tv (n:Int) S0,.int .i64 v,.slice (some ⟨g6,0,none⟩) (vs.length+1) c6]) rfl (by go_simp) ?_
    refine Calls.mono (HREC.out x4 _ _ (HBW.out.trans (HW4.out.mono HBW.out.size)) HN4.out) ?_
    rintro e x5 ⟨g2,cap2,ys,rfl,hy1,hy2,hb2⟩
    have HW5:Hid (Below w3.heap.size w3 x5):=HW4.out.trans (hb2.mono HW4.out.size)
    have HZ5:Hid (x4.heap.size<=x5.heap.size):=hb2.size
    have HY5:Hid (Lq x5 x4.heap.size g2 cap2 ys):=hy2
    have HYP:Hid (ys.map Pq.pk=_):=hy1
    clear hy1 hy2 hb2 HN4
    refine ⟨_,rfl,?_⟩
    refine hK.out _ _ (HS.out _ HW5.out) (fun hNext=>?_)
    clear hK K hHeld
    have hHeld:=hNext
    clear hNext
    try simp only [Act.put,List.setIfInBounds_toArray,List.set_cons_zero,List.set_cons_succ,List.getElem_toArray,List.getElem_cons_zero,List.getElem_cons_succ]
    refine wpAnyH_take (i:=10) (v:=?_) rfl (by kernel_rfl) (by kernel_rfl) (by kernel_rfl) (fun _ _ _ h=>h) (Or.inl ⟨by rfl,?_⟩) hHeld ?_
    rotate_left
    ·intro v9 hS9
     try dsimp only at hS9
     skip
     go_simp
     try with_reducible rfl
    try simp only [Act.put,List.setIfInBounds_toArray,List.set_cons_zero,List.set_cons_succ,List.getElem_toArray,List.getElem_cons_zero,List.getElem_cons_succ]
    refine wpAnyH_done (by kernel_rfl) ?_ _
    clear hHeld
    go_wp2_with fail
    go_meet
    case rel=>exact ⟨g2,cap2,ys,rfl,HYP.out,lower HY5.out (by have:=HZ0.out;have:=HZ1.out;have:=HZ2.out;have:=HZ3.out;have:=HZ4.out;have:=HZ5.out;omega),HW5.out⟩
   ·go_simp
    have hal:Below x1.heap.size x1 (x1.alloc (.cells #[.int .i64 0] 3)):=(Below.refl _ _).alloc (Nat.le_refl _) _
    have HW2:Hid (Below w3.heap.size w3 (x1.alloc (.cells #[.int .i64 0] 3))):=HW1.out.trans (hal.mono HW1.out.size)
    refine hK.out _ _ (HS.out _ HW2.out) (fun hNext=>?_)
    clear hK K hHeld
    have hHeld:=hNext
    clear hNext
    have hD:(x1.alloc (.cells #[.int .i64 0] 3)).cell? ⟨x1.heap.size,0,none⟩=some (.int .i64 0):=by simp
    obtain ⟨x2,hx⟩:∃ z,z=x1.alloc (.cells #[.int .i64 0] 3):=⟨_,rfl⟩
    have HZ2:Hid (x1.heap.size < x2.heap.size):=by show _ < _;rw [hx];simp
    rw [<- hx] at hHeld HW2 hal hD ⊢
    clear hx
    have HD2:Hid (x2.cell? ⟨x1.heap.size,0,none⟩=some (.int .i64 0)):=hD
    clear hD
    have HG2:Hid (Ows x2 w3.heap.size (.slice (some ⟨x0.heap.size,0,none⟩) 0 0) []):=HG1.out.kept (S:=fun _=>False) (Kept.ofBelow hal) (fun _ _ h=>h)
    clear HG1
    clear hal
    try simp only [Act.put,List.setIfInBounds_toArray,List.set_cons_zero,List.set_cons_succ,List.getElem_toArray,List.getElem_cons_zero,List.getElem_cons_succ]
    refine wpAnyH_ready (rs:=[6]) (by kernel_rfl) (by simp) ?_
    refine (AllReadyH.cons rfl (fun K hK=>?_) AllReadyH.nil)
    refine step_ints x2 rfl _ _ rfl w3.heap.size x0.heap.size vs va vc rfl rfl HG2.out HW2.out.size (HI0.out.below HW2.out) HLV.out ?_
    intro v5 x3 ho hk hv5
    have hb:Below w3.heap.size x2 x3:=hk.below (fun b (hb:b=x0.heap.size)=>(by have:=HZ0.out;have:=HZ1.out;have:=HZ2.out;omega)) HW2.out.size
    have HW3:Hid (Below w3.heap.size w3 x3):=HW2.out.trans hb
    have HZ3:Hid (x2.heap.size<=x3.heap.size):=hk.size
    have HV3:Hid (Ows x3 w3.heap.size v5 vs):=ho
    have HD3:Hid (x3.cell? ⟨x1.heap.size,0,none⟩=some (.int .i64 0)):=(by show _=_;rw [hk.cell (p:=⟨x1.heap.size,0,none⟩) (lt_of_cell HD2.out) (fun (h:x1.heap.size=x0.heap.size)=>(by have:=HZ0.out;have:=HZ1.out;have:=HZ2.out;omega))];exact HD2.out)
    clear HD2
    clear hb ho hk hv5 HG2
    refine hK.out _ _ (HS.out _ HW3.out) (fun hNext=>?_)
    clear hK K hHeld
    have hHeld:=hNext
    clear hNext
    try simp only [Act.put,List.setIfInBounds_toArray,List.set_cons_zero,List.set_cons_succ,List.getElem_toArray,List.getElem_cons_zero,List.getElem_cons_succ]
    refine wpAnyH_ready (rs:=[8]) (by kernel_rfl) (by simp) ?_
    refine (AllReadyH.cons rfl (fun K hK=>?_) AllReadyH.nil)
    refine step_int x3 rfl _ _ rfl w3.heap.size v5 vs 0 rfl x1.heap.size rfl HD3.out HV3.out HW3.out.size HLV.out ?_
    intro g6 c6 x4 ho hk
    have HW4:Hid (Below w3.heap.size w3 x4):=HW3.out.trans (hk.below (fun b hb=>(HV3.out.lt b hb).1) HW3.out.size)
    have HZ4:Hid (x3.heap.size<=x4.heap.size):=hk.size
    have HN4:Hid (Ints x4 (some ⟨g6,0,none⟩) (vs++[0])):=by
     obtain ⟨a9,c9,e9,f9⟩:=ho.form
     injection e9 with ea eb ec
     rw [<- ea] at f9
     exact f9.ints
    clear ho hk HD3 HV3
    refine hK.out _ _ (HS.out _ HW4.out) (fun hNext=>?_)
    clear hK K hHeld
    have hHeld:=hNext
    clear hNext
    try simp only [Act.put,List.setIfInBounds_toArray,List.set_cons_zero,List.set_cons_succ,List.getElem_toArray,List.getElem_cons_zero,List.getElem_cons_succ]
    refine wpAnyH_ready (rs:=[9]) (by kernel_rfl) (by simp) ?_
    refine (AllReadyH.cons rfl (fun K hK=>?_) AllReadyH.nil)
    refine step_call (f:=46) (args := #[.slice (some ⟨b,t,none⟩) n c1,tv (n:Int) S0,.int .i64 v,.slice (some ⟨g6,0,none⟩) (vs.length+1) c6]) rfl (by go_simp) ?_
    refine Calls.mono (HREC.out x4 _ _ (HBW.out.trans (HW4.out.mono HBW.out.size)) HN4.out) ?_
    rintro e x5 ⟨g2,cap2,ys,rfl,hy1,hy2,hb2⟩
    have HW5:Hid (Below w3.heap.size w3 x5):=HW4.out.trans (hb2.mono HW4.out.size)
    have HZ5:Hid (x4.heap.size<=x5.heap.size):=hb2.size
    have HY5:Hid (Lq x5 x4.heap.size g2 cap2 ys):=hy2
    have HYP:Hid (ys.map Pq.pk=_):=hy1
    clear hy1 hy2 hb2 HN4
    refine ⟨_,rfl,?_⟩
    refine hK.out _ _ (HS.out _ HW5.out) (fun hNext=>?_)
    clear hK K hHeld
    have hHeld:=hNext
    clear hNext
    try simp only [Act.put,List.setIfInBounds_toArray,List.set_cons_zero,List.set_cons_succ,List.getElem_toArray,List.getElem_cons_zero,List.getElem_cons_succ]
    refine wpAnyH_take (i:=10) (v:=?_) rfl (by kernel_rfl) (by kernel_rfl) (by kernel_rfl) (fun _ _ _ h=>h) (Or.inl ⟨by rfl,?_⟩) hHeld ?_
    rotate_left
    ·intro v9 hS9
     try dsimp only at hS9
     skip
     go_simp
     try with_reducible rfl
    try simp only [Act.put,List.setIfInBounds_toArray,List.set_cons_zero,List.set_cons_succ,List.getElem_toArray,List.getElem_cons_zero,List.getElem_cons_succ]
    refine wpAnyH_done (by kernel_rfl) ?_ _
    clear hHeld
    go_wp2_with fail
    go_meet
    case rel=>exact ⟨g2,cap2,ys,rfl,HYP.out,lower HY5.out (by have:=HZ0.out;have:=HZ1.out;have:=HZ2.out;have:=HZ3.out;have:=HZ4.out;have:=HZ5.out;omega),HW5.out⟩
  ·go_simp
   have hal:Below x0.heap.size x0 (x0.alloc (.cells #[.int .i64 0] 3)):=(Below.refl _ _).alloc (Nat.le_refl _) _
   have HW1:Hid (Below w3.heap.size w3 (x0.alloc (.cells #[.int .i64 0] 3))):=HW0.out.trans (hal.mono HW0.out.size)
   refine hK.out _ _ (HS.out _ HW1.out) (fun hNext=>?_)
   clear hK K hHeld
   have hHeld:=hNext
   clear hNext
   have hD:(x0.alloc (.cells #[.int .i64 0] 3)).cell? ⟨x0.heap.size,0,none⟩=some (.int .i64 0):=by simp
   obtain ⟨x1,hx⟩:∃ z,z=x0.alloc (.cells #[.int .i64 0] 3):=⟨_,rfl⟩
   have HZ1:Hid (x0.heap.size < x1.heap.size):=by show _ < _;rw [hx];simp
   rw [<- hx] at hHeld HW1 hal hD ⊢
   clear hx
   have HD1:Hid (x1.cell? ⟨x0.heap.size,0,none⟩=some (.int .i64 0)):=hD
   clear hD
   clear hal
   try simp only [Act.put,List.setIfInBounds_toArray,List.set_cons_zero,List.set_cons_succ,List.getElem_toArray,List.getElem_cons_zero,List.getElem_cons_succ]
   refine wpAnyH_ready (rs:=[4]) (by kernel_rfl) (by simp) ?_
   refine (AllReadyH.cons rfl (fun K hK=>?_) AllReadyH.nil)
   go_simp
   have hal:Below x1.heap.size x1 (x1.alloc (.cells #[] 3)):=(Below.refl _ _).alloc (Nat.le_refl _) _
   have HW2:Hid (Below w3.heap.size w3 (x1.alloc (.cells #[] 3))):=HW1.out.trans (hal.mono HW1.out.size)
   refine hK.out _ _ (HS.out _ HW2.out) (fun hNext=>?_)
   clear hK K hHeld
   have hHeld:=hNext
   clear hNext
   have hG:Ows (x1.alloc (.cells #[] 3)) w3.heap.size (.slice (some ⟨x1.heap.size,0,none⟩) 0 0) []:=Ows.lit x1 _ HW1.out.size
   obtain ⟨x2,hx⟩:∃ z,z=x1.alloc (.cells #[] 3):=⟨_,rfl⟩
   have HZ2:Hid (x1.heap.size < x2.heap.size):=by show _ < _;rw [hx];simp
   rw [<- hx] at hHeld HW2 hal hG ⊢
   clear hx
   have HG2:Hid (Ows x2 w3.heap.size (.slice (some ⟨x1.heap.size,0,none⟩) 0 0) []):=hG
   clear hG
   have HD2:Hid (x2.cell? ⟨x0.heap.size,0,none⟩=some (.int .i64 0)):=(by show _=_;rw [hal.cell (lt_of_cell HD1.out)];exact HD1.out)
   clear HD1
   clear hal
   try simp only [Act.put,List.setIfInBounds_toArray,List.set_cons_zero,List.set_cons_succ,List.getElem_toArray,List.getElem_cons_zero,List.getElem_cons_succ]
   refine wpAnyH_ready (rs:=[6]) (by kernel_rfl) (by simp) ?_
   refine (AllReadyH.cons rfl (fun K hK=>?_) AllReadyH.nil)
   refine step_ints x2 rfl _ _ rfl w3.heap.size x1.heap.size vs va vc rfl rfl HG2.out HW2.out.size (HI0.out.below HW2.out) HLV.out ?_
   intro v5 x3 ho hk hv5
   have hb:Below w3.heap.size x2 x3:=hk.below (fun b (hb:b=x1.heap.size)=>(by have:=HZ0.out;have:=HZ1.out;have:=HZ2.out;omega)) HW2.out.size
   have HW3:Hid (Below w3.heap.size w3 x3):=HW2.out.trans hb
   have HZ3:Hid (x2.heap.size<=x3.heap.size):=hk.size
   have HV3:Hid (Ows x3 w3.heap.size v5 vs):=ho
   have HD3:Hid (x3.cell? ⟨x0.heap.size,0,none⟩=some (.int .i64 0)):=(by show _=_;rw [hk.cell (p:=⟨x0.heap.size,0,none⟩) (lt_of_cell HD2.out) (fun (h:x0.heap.size=x1.heap.size)=>(by have:=HZ0.out;have:=HZ1.out;have:=HZ2.out;omega))];exact HD2.out)
   clear HD2
   clear hb ho hk hv5 HG2
   refine hK.out _ _ (HS.out _ HW3.out) (fun hNext=>?_)
   clear hK K hHeld
   have hHeld:=hNext
   clear hNext
   try simp only [Act.put,List.setIfInBounds_toArray,List.set_cons_zero,List.set_cons_succ,List.getElem_toArray,List.getElem_cons_zero,List.getElem_cons_succ]
   refine wpAnyH_ready (rs:=[8]) (by kernel_rfl) (by simp) ?_
   refine (AllReadyH.cons rfl (fun K hK=>?_) AllReadyH.nil)
   refine step_int x3 rfl _ _ rfl w3.heap.size v5 vs 0 rfl x0.heap.size rfl HD3.out HV3.out HW3.out.size HLV.out ?_
   intro g6 c6 x4 ho hk
   have HW4:Hid (Below w3.heap.size w3 x4):=HW3.out.trans (hk.below (fun b hb=>(HV3.out.lt b hb).1) HW3.out.size)
   have HZ4:Hid (x3.heap.size<=x4.heap.size):=hk.size
   have HN4:Hid (Ints x4 (some ⟨g6,0,none⟩) (vs++[0])):=by
    obtain ⟨a9,c9,e9,f9⟩:=ho.form
    injection e9 with ea eb ec
    rw [<- ea] at f9
    exact f9.ints
   clear ho hk HD3 HV3
   refine hK.out _ _ (HS.out _ HW4.out) (fun hNext=>?_)
   clear hK K hHeld
   have hHeld:=hNext
   clear hNext
   try simp only [Act.put,List.setIfInBounds_toArray,List.set_cons_zero,List.set_cons_succ,List.getElem_toArray,List.getElem_cons_zero,List.getElem_cons_succ]
   refine wpAnyH_ready (rs:=[9]) (by kernel_rfl) (by simp) ?_
   refine (AllReadyH.cons rfl (fun K hK=>?_) AllReadyH.nil)
   refine step_call (f:=46) (args := #[.slice (some ⟨b,t,none⟩) n c1,tv (n:Int) S0,.int .i64 v,.slice (some ⟨g6,0,none⟩) (vs.length+1) c6]) rfl (by go_simp) ?_
   refine Calls.mono (HREC.out x4 _ _ (HBW.out.trans (HW4.out.mono HBW.out.size)) HN4.out) ?_
   rintro e x5 ⟨g2,cap2,ys,rfl,hy1,hy2,hb2⟩
   have HW5:Hid (Below w3.heap.size w3 x5):=HW4.out.trans (hb2.mono HW4.out.size)
   have HZ5:Hid (x4.heap.size<=x5.heap.size):=hb2.size
   have HY5:Hid (Lq x5 x4.heap.size g2 cap2 ys):=hy2
   have HYP:Hid (ys.map Pq.pk=_):=hy1
   clear hy1 hy2 hb2 HN4
   refine ⟨_,rfl,?_⟩
   refine hK.out _ _ (HS.out _ HW5.out) (fun hNext=>?_)
   clear hK K hHeld
   have hHeld:=hNext
   clear hNext
   try simp only [Act.put,List.setIfInBounds_toArray,List.set_cons_zero,List.set_cons_succ,List.getElem_toArray,List.getElem_cons_zero,List.getElem_cons_succ]
   refine wpAnyH_take (i:=10) (v:=?_) rfl (by kernel_rfl) (by kernel_rfl) (by kernel_rfl) (fun _ _ _ h=>h) (Or.inl ⟨by rfl,?_⟩) hHeld ?_
   rotate_left
   ·intro v9 hS9
    try dsimp only at hS9
    skip
    go_simp
    try with_reducible rfl
   try simp only [Act.put,List.setIfInBounds_toArray,List.set_cons_zero,List.set_cons_succ,List.getElem_toArray,List.getElem_cons_zero,List.getElem_cons_succ]
   refine wpAnyH_done (by kernel_rfl) ?_ _
   clear hHeld
   go_wp2_with fail
   go_meet
   case rel=>exact ⟨g2,cap2,ys,rfl,HYP.out,lower HY5.out (by have:=HZ0.out;have:=HZ1.out;have:=HZ2.out;have:=HZ3.out;have:=HZ4.out;have:=HZ5.out;omega),HW5.out⟩
 case rest =>
  obtain ⟨ga,ca,al,hs17,hap,haq,hab⟩:=hcut
  subst hs17
  have HAP:Hid (al.map Pq.pk=PA):=hap
  have HQG:Hid (¬ qh=ga):=fun e=>by have:=haq.lt.1;have:=HC3.out.lt;omega
  have HGA:Hid (W.heap.size<=ga):=Nat.le_trans HBB.out haq.lt.1
  have HA0:Hid (Lq wc W.heap.size ga ca al):=lower haq HBB.out
  have HCC:Hid (Lay wc qh (.int .i64 (n:Int)) (.string S1)):=HC3.out.below hab
  have HBW2:Hid (Below W.heap.size W wc):=HBW.out.trans (hab.mono HBW.out.size)
  clear hap haq hab HI0 HREC HA3 HC3 HBW HBB HR0
  have HREC:=HR1
  have HBW:=HBW2
  have HBB:Hid (W.heap.size<=wc.heap.size):=HBW.out.size
  have HI0:Hid (Ints wc va vs):=HV.out.below HBW.out
  have HS:Hid (∀ W',Below wc.heap.size wc W'->W'.cell? ⟨qh,0,none⟩=some (.int .i64 (n:Int))/\W'.cell? ⟨qh,1,none⟩=some (.string S1)):=fun W' hb=>⟨(HCC.out.below hb).c0,(HCC.out.below hb).c1⟩
  go_upto_region 13 with fail
  refine wp_region_held_drew (S:=fun W=>W.cell? ⟨qh,0,none⟩=some (.int .i64 (n:Int))/\W.cell? ⟨qh,1,none⟩=some (.string S1)) (by kernel_rfl) (HS.out _ (Below.refl _ _).drew) (fun hHeld=>?_)
  refine wpAnyH_take (i:=0) (v:=?_) rfl (by kernel_rfl) (by kernel_rfl) (by kernel_rfl) (fun _ _ _ h=>h) (Or.inl ⟨by rfl,?_⟩) hHeld ?_
  rotate_left
  ·intro v9 hS9
   try dsimp only at hS9
   skip
   go_simp
   try with_reducible rfl
  try simp only [Act.put,List.setIfInBounds_toArray,List.set_cons_zero,List.set_cons_succ,List.getElem_toArray,List.getElem_cons_zero,List.getElem_cons_succ]
  refine wpAnyH_take (i:=1) (v:=?_) rfl (by kernel_rfl) (by kernel_rfl) (by kernel_rfl) (fun _ _ _ h=>h) (Or.inl ⟨by rfl,?_⟩) hHeld ?_
  rotate_left
  ·intro v9 hS9
   try dsimp only at hS9
   skip
   go_simp
   try with_reducible rfl
  try simp only [Act.put,List.setIfInBounds_toArray,List.set_cons_zero,List.set_cons_succ,List.getElem_toArray,List.getElem_cons_zero,List.getElem_cons_succ]
  refine wpAnyH_take (i:=2) (v:=?_) rfl (by kernel_rfl) (by kernel_rfl) (by kernel_rfl) (fun _ _ _ h=>h) (Or.inl ⟨by rfl,?_⟩) hHeld ?_
  rotate_left
  ·intro v9 hS9
   try dsimp only at hS9
   skip
   go_simp
   try with_reducible rfl
  try simp only [Act.put,List.setIfInBounds_toArray,List.set_cons_zero,List.set_cons_succ,List.getElem_toArray,List.getElem_cons_zero,List.getElem_cons_succ]
  refine wpAnyH_take (i:=3) (v:=?_) rfl (by kernel_rfl) (by kernel_rfl) (by kernel_rfl) (fun _ _ _ h=>h) (Or.inl ⟨by rfl,?_⟩) hHeld ?_
  rotate_left
  ·intro v9 hS9
   try dsimp only at hS9
   obtain ⟨s0,s1⟩:=hS9
   go_simp
   try with_reducible rfl
  try simp only [Act.put,List.setIfInBounds_toArray,List.set_cons_zero,List.set_cons_succ,List.getElem_toArray,List.getElem_cons_zero,List.getElem_cons_succ]
  refine wpAnyH_take (i:=4) (v:=?_) rfl (by kernel_rfl) (by kernel_rfl) (by kernel_rfl) (fun _ _ _ h=>h) (Or.inl ⟨by rfl,?_⟩) hHeld ?_
  rotate_left
  ·intro v9 hS9
   try dsimp only at hS9
   skip
   go_simp
   try with_reducible rfl
  try simp only [Act.put,List.setIfInBounds_toArray,List.set_cons_zero,List.set_cons_succ,List.getElem_toArray,List.getElem_cons_zero,List.getElem_cons_succ]
  refine wpAnyH_take (i:=6) (v:=?_) rfl (by kernel_rfl) (by kernel_rfl) (by kernel_rfl) (fun _ _ _ h=>h) (Or.inl ⟨by rfl,?_⟩) hHeld ?_
  rotate_left
  ·intro v9 hS9
   try dsimp only at hS9
   skip
   go_simp
   try with_reducible rfl
  try simp only [Act.put,List.setIfInBounds_toArray,List.set_cons_zero,List.set_cons_succ,List.getElem_toArray,List.getElem_cons_zero,List.getElem_cons_succ]
  have HW0:Hid (Below wc.heap.size wc wc.drew):=(Below.refl _ _).drew
  have HZ0:Hid (wc.heap.size<=wc.drew.heap.size):=(Below.refl wc.heap.size wc).drew.size
  obtain ⟨x0,hx⟩:∃ z,z=wc.drew:=⟨_,rfl⟩
  rw [<- hx] at hHeld HW0 HZ0 ⊢
  clear hx
  refine wpAnyH_ready (rs:=[5,8]) (by kernel_rfl) (by simp) ?_
  refine (AllReadyH.cons rfl (fun K hK=>?_) (AllReadyH.cons rfl (fun K hK=>?_) AllReadyH.nil))
  ·go_simp
   have hal:Below x0.heap.size x0 (x0.alloc (.cells #[] 3)):=(Below.refl _ _).alloc (Nat.le_refl _) _
   have HW1:Hid (Below wc.heap.size wc (x0.alloc (.cells #[] 3))):=HW0.out.trans (hal.mono HW0.out.size)
   refine hK.out _ _ (HS.out _ HW1.out) (fun hNext=>?_)
   clear hK K hHeld
   have hHeld:=hNext
   clear hNext
   have hG:Ows (x0.alloc (.cells #[] 3)) wc.heap.size (.slice (some ⟨x0.heap.size,0,none⟩) 0 0) []:=Ows.lit x0 _ HW0.out.size
   obtain ⟨x1,hx⟩:∃ z,z=x0.alloc (.cells #[] 3):=⟨_,rfl⟩
   have HZ1:Hid (x0.heap.size < x1.heap.size):=by show _ < _;rw [hx];simp
   rw [<- hx] at hHeld HW1 hal hG ⊢
   clear hx
   have HG1:Hid (Ows x1 wc.heap.size (.slice (some ⟨x0.heap.size,0,none⟩) 0 0) []):=hG
   clear hG
   clear hal
   try simp only [Act.put,List.setIfInBounds_toArray,List.set_cons_zero,List.set_cons_succ,List.getElem_toArray,List.getElem_cons_zero,List.getElem_cons_succ]
   refine wpAnyH_ready (rs:=[7,8]) (by kernel_rfl) (by simp) ?_
   refine (AllReadyH.cons rfl (fun K hK=>?_) (AllReadyH.cons rfl (fun K hK=>?_) AllReadyH.nil))
   ·refine step_ints x1 rfl _ _ rfl wc.heap.size x0.heap.size vs va vc rfl rfl HG1.out HW1.out.size (HI0.out.below HW1.out) HLV.out ?_
    intro v5 x2 ho hk hv5
    have hb:Below wc.heap.size x1 x2:=hk.below (fun b (hb:b=x0.heap.size)=>(by have:=HZ0.out;have:=HZ1.out;omega)) HW1.out.size
    have HW2:Hid (Below wc.heap.size wc x2):=HW1.out.trans hb
    have HZ2:Hid (x1.heap.size<=x2.heap.size):=hk.size
    have HV2:Hid (Ows x2 wc.heap.size v5 vs):=ho
    clear hb ho hk hv5 HG1
    refine hK.out _ _ (HS.out _ HW2.out) (fun hNext=>?_)
    clear hK K hHeld
    have hHeld:=hNext
    clear hNext
    try simp only [Act.put,List.setIfInBounds_toArray,List.set_cons_zero,List.set_cons_succ,List.getElem_toArray,List.getElem_cons_zero,List.getElem_cons_succ]
    refine wpAnyH_ready (rs:=[8]) (by kernel_rfl) (by simp) ?_
    refine (AllReadyH.cons rfl (fun K hK=>?_) AllReadyH.nil)
    go_simp
    have hal:Below x2.heap.size x2 (x2.alloc (.cells #[.int .i64 1] 3)):=(Below.refl _ _).alloc (Nat.le_refl _) _
    have HW3:Hid (Below wc.heap.size wc (x2.alloc (.cells #[.int .i64 1] 3))):=HW2.out.trans (hal.mono HW2.out.size)
    refine hK.out _ _ (HS.out _ HW3.out) (fun hNext=>?_)
    clear hK K hHeld
    have hHeld:=hNext
    clear hNext
    have hD:(x2.alloc (.cells #[.int .i64 1] 3)).cell? ⟨x2.heap.size,0,none⟩=some (.int .i64 1):=by simp
    obtain ⟨x3,hx⟩:∃ z,z=x2.alloc (.cells #[.int .i64 1] 3):=⟨_,rfl⟩
    have HZ3:Hid (x2.heap.size < x3.heap.size):=by show _ < _;rw [hx];simp
    rw [<- hx] at hHeld HW3 hal hD ⊢
    clear hx
    have HD3:Hid (x3.cell? ⟨x2.heap.size,0,none⟩=some (.int .i64 1)):=hD
    clear hD
    have HV3:Hid (Ows x3 wc.heap.size v5 vs):=HV2.out.kept (S:=fun _=>False) (Kept.ofBelow hal) (fun _ _ h=>h)
    clear HV2
    clear hal
    try simp only [Act.put,List.setIfInBounds_toArray,List.set_cons_zero,List.set_cons_succ,List.getElem_toArray,List.getElem_cons_zero,List.getElem_cons_succ]
    refine wpAnyH_ready (rs:=[9]) (by kernel_rfl) (by simp) ?_
    refine (AllReadyH.cons rfl (fun K hK=>?_) AllReadyH.nil)
    refine step_int x3 rfl _ _ rfl wc.heap.size v5 vs 1 rfl x2.heap.size rfl HD3.out HV3.out HW3.out.size HLV.out ?_
    intro g6 c6 x4 ho hk
    have HW4:Hid (Below wc.heap.size wc x4):=HW3.out.trans (hk.below (fun b hb=>(HV3.out.lt b hb).1) HW3.out.size)
    have HZ4:Hid (x3.heap.size<=x4.heap.size):=hk.size
    have HN4:Hid (Ints x4 (some ⟨g6,0,none⟩) (vs++[1])):=by
     obtain ⟨a9,c9,e9,f9⟩:=ho.form
     injection e9 with ea eb ec
     rw [<- ea] at f9
     exact f9.ints
    clear ho hk HD3 HV3
    refine hK.out _ _ (HS.out _ HW4.out) (fun hNext=>?_)
    clear hK K hHeld
    have hHeld:=hNext
    clear hNext
    try simp only [Act.put,List.setIfInBounds_toArray,List.set_cons_zero,List.set_cons_succ,List.getElem_toArray,List.getElem_cons_zero,List.getElem_cons_succ]
    refine wpAnyH_ready (rs:=[10]) (by kernel_rfl) (by simp) ?_
    refine (AllReadyH.cons rfl (fun K hK=>?_) AllReadyH.nil)
    refine step_call (f:=46) (args := #[.slice (some ⟨b,t,none⟩) n c1,tv (n:Int) S1,.int .i64 v,.slice (some ⟨g6,0,none⟩) (vs.length+1) c6]) rfl (by go_simp) ?_
    refine Calls.mono (HREC.out x4 _ _ (HBW.out.trans (HW4.out.mono HBW.out.size)) HN4.out) ?_
    rintro e x5 ⟨g2,cap2,ys,rfl,hy1,hy2,hb2⟩
    have HW5:Hid (Below wc.heap.size wc x5):=HW4.out.trans (hb2.mono HW4.out.size)
    have HZ5:Hid (x4.heap.size<=x5.heap.size):=hb2.size
    have HY5:Hid (Lq x5 x4.heap.size g2 cap2 ys):=hy2
    have HYP:Hid (ys.map Pq.pk=_):=hy1
    clear hy1 hy2 hb2 HN4
    refine ⟨_,rfl,?_⟩
    refine hK.out _ _ (HS.out _ HW5.out) (fun hNext=>?_)
    clear hK K hHeld
    have hHeld:=hNext
    clear hNext
    try simp only [Act.put,List.setIfInBounds_toArray,List.set_cons_zero,List.set_cons_succ,List.getElem_toArray,List.getElem_cons_zero,List.getElem_cons_succ]
    refine wpAnyH_ready (rs:=[11]) (by kernel_rfl) (by simp) ?_
    refine (AllReadyH.cons rfl (fun K hK=>?_) AllReadyH.nil)
    refine step_join x5 rfl _ _ rfl W.heap.size ga ca x4.heap.size g2 cap2 al.length al ys rfl rfl rfl (HA0.out.below HW5.out) HY5.out (by have:=HBB.out;have:=HZ0.out;have:=HZ1.out;have:=HZ2.out;have:=HZ3.out;have:=HZ4.out;have:=HZ5.out;omega) (fun q hq hb=>by have:=(wi_own (HY5.out.ins q hq) hb).1;have:=HA0.out.lt.2;have:=HZ0.out;have:=HZ1.out;have:=HZ2.out;have:=HZ3.out;have:=HZ4.out;have:=HZ5.out;omega) (fun p hp b hb=>by have:=(wi_own (HA0.out.ins p hp) hb).2;have:=HZ0.out;have:=HZ1.out;have:=HZ2.out;have:=HZ3.out;have:=HZ4.out;have:=HZ5.out;omega) (by have:=HBB.out;have:=HZ0.out;have:=HZ1.out;have:=HZ2.out;have:=HZ3.out;have:=HZ4.out;have:=HZ5.out;omega) (by have:=HYL.out ys HYP.out;have:=HAL.out al HAP.out;omega) ?_
    intro g7 c7 x6 ho hk
    have HBF:Hid (Below W.heap.size W x6):=(HBW.out.trans (HW5.out.mono HBW.out.size)).trans (hk.below (fun b (hb:b=ga)=>by have:=HGA.out;omega) (by have:=HBW.out.size;have:=HZ0.out;have:=HZ1.out;have:=HZ2.out;have:=HZ3.out;have:=HZ4.out;have:=HZ5.out;omega))
    have HR:Hid (Lq x6 W.heap.size g7 c7 (al++ys)):=ho
    have hs7:x6.cell? ⟨qh,0,none⟩=some (.int .i64 (n:Int))/\x6.cell? ⟨qh,1,none⟩=some (.string S1):=by
     have h:=HS.out _ HW5.out
     exact ⟨(hk.cell (p:=⟨qh,0,none⟩) (lt_of_cell h.1) HQG.out).trans h.1,(hk.cell (p:=⟨qh,1,none⟩) (lt_of_cell h.2) HQG.out).trans h.2⟩
    clear ho hk HY5
    refine hK.out _ _ (hs7) (fun hNext=>?_)
    clear hK K hHeld
    have hHeld:=hNext
    clear hNext
    clear hs7
    try simp only [Act.put,List.setIfInBounds_toArray,List.set_cons_zero,List.set_cons_succ,List.getElem_toArray,List.getElem_cons_zero,List.getElem_cons_succ]
    refine wpAnyH_take (i:=12) (v:=?_) rfl (by kernel_rfl) (by kernel_rfl) (by kernel_rfl) (fun _ _ _ h=>h) (Or.inl ⟨by rfl,?_⟩) hHeld ?_
    rotate_left
    ·intro v9 hS9
     try dsimp only at hS9
     skip
     go_simp
     try with_reducible rfl
    try simp only [Act.put,List.setIfInBounds_toArray,List.set_cons_zero,List.set_cons_succ,List.getElem_toArray,List.getElem_cons_zero,List.getElem_cons_succ]
    refine wpAnyH_done (by kernel_rfl) ?_ _
    clear hHeld
    go_wp2
    go_ret
    exact ⟨g7,c7,_,by rw [List.length_append];rfl,by rw [List.map_append,HAP.out,HYP.out],HR.out,HBF.out⟩
   ·go_simp
    have hal:Below x1.heap.size x1 (x1.alloc (.cells #[.int .i64 1] 3)):=(Below.refl _ _).alloc (Nat.le_refl _) _
    have HW2:Hid (Below wc.heap.size wc (x1.alloc (.cells #[.int .i64 1] 3))):=HW1.out.trans (hal.mono HW1.out.size)
    refine hK.out _ _ (HS.out _ HW2.out) (fun hNext=>?_)
    clear hK K hHeld
    have hHeld:=hNext
    clear hNext
    have hD:(x1.alloc (.cells #[.int .i64 1] 3)).cell? ⟨x1.heap.size,0,none⟩=some (.int .i64 1):=by simp
    obtain ⟨x2,hx⟩:∃ z,z=x1.alloc (.cells #[.int .i64 1] 3):=⟨_,rfl⟩
    have HZ2:Hid (x1.heap.size < x2.heap.size):=by show _ < _;rw [hx];simp
    rw [<- hx] at hHeld HW2 hal hD ⊢
    clear hx
    have HD2:Hid (x2.cell? ⟨x1.heap.size,0,none⟩=some (.int .i64 1)):=hD
    clear hD
    have HG2:Hid (Ows x2 wc.heap.size (.slice (some ⟨x0.heap.size,0,none⟩) 0 0) []):=HG1.out.kept (S:=fun _=>False) (Kept.ofBelow hal) (fun _ _ h=>h)
    clear HG1
    clear hal
    try simp only [Act.put,List.setIfInBounds_toArray,List.set_cons_zero,List.set_cons_succ,List.getElem_toArray,List.getElem_cons_zero,List.getElem_cons_succ]
    refine wpAnyH_ready (rs:=[7]) (by kernel_rfl) (by simp) ?_
    refine (AllReadyH.cons rfl (fun K hK=>?_) AllReadyH.nil)
    refine step_ints x2 rfl _ _ rfl wc.heap.size x0.heap.size vs va vc rfl rfl HG2.out HW2.out.size (HI0.out.below HW2.out) HLV.out ?_
    intro v5 x3 ho hk hv5
    have hb:Below wc.heap.size x2 x3:=hk.below (fun b (hb:b=x0.heap.size)=>(by have:=HZ0.out;have:=HZ1.out;have:=HZ2.out;omega)) HW2.out.size
    have HW3:Hid (Below wc.heap.size wc x3):=HW2.out.trans hb
    have HZ3:Hid (x2.heap.size<=x3.heap.size):=hk.size
    have HV3:Hid (Ows x3 wc.heap.size v5 vs):=ho
    have HD3:Hid (x3.cell? ⟨x1.heap.size,0,none⟩=some (.int .i64 1)):=(by show _=_;rw [hk.cell (p:=⟨x1.heap.size,0,none⟩) (lt_of_cell HD2.out) (fun (h:x1.heap.size=x0.heap.size)=>(by have:=HZ0.out;have:=HZ1.out;have:=HZ2.out;omega))];exact HD2.out)
    clear HD2
    clear hb ho hk hv5 HG2
    refine hK.out _ _ (HS.out _ HW3.out) (fun hNext=>?_)
    clear hK K hHeld
    have hHeld:=hNext
    clear hNext
    try simp only [Act.put,List.setIfInBounds_toArray,List.set_cons_zero,List.set_cons_succ,List.getElem_toArray,List.getElem_cons_zero,List.getElem_cons_succ]
    refine wpAnyH_ready (rs:=[9]) (by kernel_rfl) (by simp) ?_
    refine (AllReadyH.cons rfl (fun K hK=>?_) AllReadyH.nil)
    refine step_int x3 rfl _ _ rfl wc.heap.size v5 vs 1 rfl x1.heap.size rfl HD3.out HV3.out HW3.out.size HLV.out ?_
    intro g6 c6 x4 ho hk
    have HW4:Hid (Below wc.heap.size wc x4):=HW3.out.trans (hk.below (fun b hb=>(HV3.out.lt b hb).1) HW3.out.size)
    have HZ4:Hid (x3.heap.size<=x4.heap.size):=hk.size
    have HN4:Hid (Ints x4 (some ⟨g6,0,none⟩) (vs++[1])):=by
     obtain ⟨a9,c9,e9,f9⟩:=ho.form
     injection e9 with ea eb ec
     rw [<- ea] at f9
     exact f9.ints
    clear ho hk HD3 HV3
    refine hK.out _ _ (HS.out _ HW4.out) (fun hNext=>?_)
    clear hK K hHeld
    have hHeld:=hNext
    clear hNext
    try simp only [Act.put,List.setIfInBounds_toArray,List.set_cons_zero,List.set_cons_succ,List.getElem_toArray,List.getElem_cons_zero,List.getElem_cons_succ]
    refine wpAnyH_ready (rs:=[10]) (by kernel_rfl) (by simp) ?_
    refine (AllReadyH.cons rfl (fun K hK=>?_) AllReadyH.nil)
    refine step_call (f:=46) (args := #[.slice (some ⟨b,t,none⟩) n c1,tv (n:Int) S1,.int .i64 v,.slice (some ⟨g6,0,none⟩) (vs.length+1) c6]) rfl (by go_simp) ?_
    refine Calls.mono (HREC.out x4 _ _ (HBW.out.trans (HW4.out.mono HBW.out.size)) HN4.out) ?_
    rintro e x5 ⟨g2,cap2,ys,rfl,hy1,hy2,hb2⟩
    have HW5:Hid (Below wc.heap.size wc x5):=HW4.out.trans (hb2.mono HW4.out.size)
    have HZ5:Hid (x4.heap.size<=x5.heap.size):=hb2.size
    have HY5:Hid (Lq x5 x4.heap.size g2 cap2 ys):=hy2
    have HYP:Hid (ys.map Pq.pk=_):=hy1
    clear hy1 hy2 hb2 HN4
    refine ⟨_,rfl,?_⟩
    refine hK.out _ _ (HS.out _ HW5.out) (fun hNext=>?_)
    clear hK K hHeld
    have hHeld:=hNext
    clear hNext
    try simp only [Act.put,List.setIfInBounds_toArray,List.set_cons_zero,List.set_cons_succ,List.getElem_toArray,List.getElem_cons_zero,List.getElem_cons_succ]
    refine wpAnyH_ready (rs:=[11]) (by kernel_rfl) (by simp) ?_
    refine (AllReadyH.cons rfl (fun K hK=>?_) AllReadyH.nil)
    refine step_join x5 rfl _ _ rfl W.heap.size ga ca x4.heap.size g2 cap2 al.length al ys rfl rfl rfl (HA0.out.below HW5.out) HY5.out (by have:=HBB.out;have:=HZ0.out;have:=HZ1.out;have:=HZ2.out;have:=HZ3.out;have:=HZ4.out;have:=HZ5.out;omega) (fun q hq hb=>by have:=(wi_own (HY5.out.ins q hq) hb).1;have:=HA0.out.lt.2;have:=HZ0.out;have:=HZ1.out;have:=HZ2.out;have:=HZ3.out;have:=HZ4.out;have:=HZ5.out;omega) (fun p hp b hb=>by have:=(wi_own (HA0.out.ins p hp) hb).2;have:=HZ0.out;have:=HZ1.out;have:=HZ2.out;have:=HZ3.out;have:=HZ4.out;have:=HZ5.out;omega) (by have:=HBB.out;have:=HZ0.out;have:=HZ1.out;have:=HZ2.out;have:=HZ3.out;have:=HZ4.out;have:=HZ5.out;omega) (by have:=HYL.out ys HYP.out;have:=HAL.out al HAP.out;omega) ?_
    intro g7 c7 x6 ho hk
    have HBF:Hid (Below W.heap.size W x6):=(HBW.out.trans (HW5.out.mono HBW.out.size)).trans (hk.below (fun b (hb:b=ga)=>by have:=HGA.out;omega) (by have:=HBW.out.size;have:=HZ0.out;have:=HZ1.out;have:=HZ2.out;have:=HZ3.out;have:=HZ4.out;have:=HZ5.out;omega))
    have HR:Hid (Lq x6 W.heap.size g7 c7 (al++ys)):=ho
    have hs7:x6.cell? ⟨qh,0,none⟩=some (.int .i64 (n:Int))/\x6.cell? ⟨qh,1,none⟩=some (.string S1):=by
     have h:=HS.out _ HW5.out
     exact ⟨(hk.cell (p:=⟨qh,0,none⟩) (lt_of_cell h.1) HQG.out).trans h.1,(hk.cell (p:=⟨qh,1,none⟩) (lt_of_cell h.2) HQG.out).trans h.2⟩
    clear ho hk HY5
    refine hK.out _ _ (hs7) (fun hNext=>?_)
    clear hK K hHeld
    have hHeld:=hNext
    clear hNext
    clear hs7
    try simp only [Act.put,List.setIfInBounds_toArray,List.set_cons_zero,List.set_cons_succ,List.getElem_toArray,List.getElem_cons_zero,List.getElem_cons_succ]
    refine wpAnyH_take (i:=12) (v:=?_) rfl (by kernel_rfl) (by kernel_rfl) (by kernel_rfl) (fun _ _ _ h=>h) (Or.inl ⟨by rfl,?_⟩) hHeld ?_
    rotate_left
    ·intro v9 hS9
     try dsimp only at hS9
     skip
     go_simp
     try with_reducible rfl
    try simp only [Act.put,List.setIfInBounds_toArray,List.set_cons_zero,List.set_cons_succ,List.getElem_toArray,List.getElem_cons_zero,List.getElem_cons_succ]
    refine wpAnyH_done (by kernel_rfl) ?_ _
    clear hHeld
    go_wp2
    go_ret
    exact ⟨g7,c7,_,by rw [List.length_append];rfl,by rw [List.map_append,HAP.out,HYP.out],HR.out,HBF.out⟩
  ·go_simp
   have hal:Below x0.heap.size x0 (x0.alloc (.cells #[.int .i64 1] 3)):=(Below.refl _ _).alloc (Nat.le_refl _) _
   have HW1:Hid (Below wc.heap.size wc (x0.alloc (.cells #[.int .i64 1] 3))):=HW0.out.trans (hal.mono HW0.out.size)
   refine hK.out _ _ (HS.out _ HW1.out) (fun hNext=>?_)
   clear hK K hHeld
   have hHeld:=hNext
   clear hNext
   have hD:(x0.alloc (.cells #[.int .i64 1] 3)).cell? ⟨x0.heap.size,0,none⟩=some (.int .i64 1):=by simp
   obtain ⟨x1,hx⟩:∃ z,z=x0.alloc (.cells #[.int .i64 1] 3):=⟨_,rfl⟩
   have HZ1:Hid (x0.heap.size < x1.heap.size):=by show _ < _;rw [hx];simp
   rw [<- hx] at hHeld HW1 hal hD ⊢
   clear hx
   have HD1:Hid (x1.cell? ⟨x0.heap.size,0,none⟩=some (.int .i64 1)):=hD
   clear hD
   clear hal
   try simp only [Act.put,List.setIfInBounds_toArray,List.set_cons_zero,List.set_cons_succ,List.getElem_toArray,List.getElem_cons_zero,List.getElem_cons_succ]
   refine wpAnyH_ready (rs:=[5]) (by kernel_rfl) (by simp) ?_
   refine (AllReadyH.cons rfl (fun K hK=>?_) AllReadyH.nil)
   go_simp
   have hal:Below x1.heap.size x1 (x1.alloc (.cells #[] 3)):=(Below.refl _ _).alloc (Nat.le_refl _) _
   have HW2:Hid (Below wc.heap.size wc (x1.alloc (.cells #[] 3))):=HW1.out.trans (hal.mono HW1.out.size)
   refine hK.out _ _ (HS.out _ HW2.out) (fun hNext=>?_)
   clear hK K hHeld
   have hHeld:=hNext
   clear hNext
   have hG:Ows (x1.alloc (.cells #[] 3)) wc.heap.size (.slice (some ⟨x1.heap.size,0,none⟩) 0 0) []:=Ows.lit x1 _ HW1.out.size
   obtain ⟨x2,hx⟩:∃ z,z=x1.alloc (.cells #[] 3):=⟨_,rfl⟩
   have HZ2:Hid (x1.heap.size < x2.heap.size):=by show _ < _;rw [hx];simp
   rw [<- hx] at hHeld HW2 hal hG ⊢
   clear hx
   have HG2:Hid (Ows x2 wc.heap.size (.slice (some ⟨x1.heap.size,0,none⟩) 0 0) []):=hG
   clear hG
   have HD2:Hid (x2.cell? ⟨x0.heap.size,0,none⟩=some (.int .i64 1)):=(by show _=_;rw [hal.cell (lt_of_cell HD1.out)];exact HD1.out)
   clear HD1
   clear hal
   try simp only [Act.put,List.setIfInBounds_toArray,List.set_cons_zero,List.set_cons_succ,List.getElem_toArray,List.getElem_cons_zero,List.getElem_cons_succ]
   refine wpAnyH_ready (rs:=[7]) (by kernel_rfl) (by simp) ?_
   refine (AllReadyH.cons rfl (fun K hK=>?_) AllReadyH.nil)
   refine step_ints x2 rfl _ _ rfl wc.heap.size x1.heap.size vs va vc rfl rfl HG2.out HW2.out.size (HI0.out.below HW2.out) HLV.out ?_
   intro v5 x3 ho hk hv5
   have hb:Below wc.heap.size x2 x3:=hk.below (fun b (hb:b=x1.heap.size)=>(by have:=HZ0.out;have:=HZ1.out;have:=HZ2.out;omega)) HW2.out.size
   have HW3:Hid (Below wc.heap.size wc x3):=HW2.out.trans hb
   have HZ3:Hid (x2.heap.size<=x3.heap.size):=hk.size
   have HV3:Hid (Ows x3 wc.heap.size v5 vs):=ho
   have HD3:Hid (x3.cell? ⟨x0.heap.size,0,none⟩=some (.int .i64 1)):=(by show _=_;rw [hk.cell (p:=⟨x0.heap.size,0,none⟩) (lt_of_cell HD2.out) (fun (h:x0.heap.size=x1.heap.size)=>(by have:=HZ0.out;have:=HZ1.out;have:=HZ2.out;omega))];exact HD2.out)
   clear HD2
   clear hb ho hk hv5 HG2
   refine hK.out _ _ (HS.out _ HW3.out) (fun hNext=>?_)
   clear hK K hHeld
   have hHeld:=hNext
   clear hNext
   try simp only [Act.put,List.setIfInBounds_toArray,List.set_cons_zero,List.set_cons_succ,List.getElem_toArray,List.getElem_cons_zero,List.getElem_cons_succ]
   refine wpAnyH_ready (rs:=[9]) (by kernel_rfl) (by simp) ?_
   refine (AllReadyH.cons rfl (fun K hK=>?_) AllReadyH.nil)
   refine step_int x3 rfl _ _ rfl wc.heap.size v5 vs 1 rfl x0.heap.size rfl HD3.out HV3.out HW3.out.size HLV.out ?_
   intro g6 c6 x4 ho hk
   have HW4:Hid (Below wc.heap.size wc x4):=HW3.out.trans (hk.below (fun b hb=>(HV3.out.lt b hb).1) HW3.out.size)
   have HZ4:Hid (x3.heap.size<=x4.heap.size):=hk.size
   have HN4:Hid (Ints x4 (some ⟨g6,0,none⟩) (vs++[1])):=by
    obtain ⟨a9,c9,e9,f9⟩:=ho.form
    injection e9 with ea eb ec
    rw [<- ea] at f9
    exact f9.ints
   clear ho hk HD3 HV3
   refine hK.out _ _ (HS.out _ HW4.out) (fun hNext=>?_)
   clear hK K hHeld
   have hHeld:=hNext
   clear hNext
   try simp only [Act.put,List.setIfInBounds_toArray,List.set_cons_zero,List.set_cons_succ,List.getElem_toArray,List.getElem_cons_zero,List.getElem_cons_succ]
   refine wpAnyH_ready (rs:=[10]) (by kernel_rfl) (by simp) ?_
   refine (AllReadyH.cons rfl (fun K hK=>?_) AllReadyH.nil)
   refine step_call (f:=46) (args := #[.slice (some ⟨b,t,none⟩) n c1,tv (n:Int) S1,.int .i64 v,.slice (some ⟨g6,0,none⟩) (vs.length+1) c6]) rfl (by go_simp) ?_
   refine Calls.mono (HREC.out x4 _ _ (HBW.out.trans (HW4.out.mono HBW.out.size)) HN4.out) ?_
   rintro e x5 ⟨g2,cap2,ys,rfl,hy1,hy2,hb2⟩
   have HW5:Hid (Below wc.heap.size wc x5):=HW4.out.trans (hb2.mono HW4.out.size)
   have HZ5:Hid (x4.heap.size<=x5.heap.size):=hb2.size
   have HY5:Hid (Lq x5 x4.heap.size g2 cap2 ys):=hy2
   have HYP:Hid (ys.map Pq.pk=_):=hy1
   clear hy1 hy2 hb2 HN4
   refine ⟨_,rfl,?_⟩
   refine hK.out _ _ (HS.out _ HW5.out) (fun hNext=>?_)
   clear hK K hHeld
   have hHeld:=hNext
   clear hNext
   try simp only [Act.put,List.setIfInBounds_toArray,List.set_cons_zero,List.set_cons_succ,List.getElem_toArray,List.getElem_cons_zero,List.getElem_cons_succ]
   refine wpAnyH_ready (rs:=[11]) (by kernel_rfl) (by simp) ?_
   refine (AllReadyH.cons rfl (fun K hK=>?_) AllReadyH.nil)
   refine step_join x5 rfl _ _ rfl W.heap.size ga ca x4.heap.size g2 cap2 al.length al ys rfl rfl rfl (HA0.out.below HW5.out) HY5.out (by have:=HBB.out;have:=HZ0.out;have:=HZ1.out;have:=HZ2.out;have:=HZ3.out;have:=HZ4.out;have:=HZ5.out;omega) (fun q hq hb=>by have:=(wi_own (HY5.out.ins q hq) hb).1;have:=HA0.out.lt.2;have:=HZ0.out;have:=HZ1.out;have:=HZ2.out;have:=HZ3.out;have:=HZ4.out;have:=HZ5.out;omega) (fun p hp b hb=>by have:=(wi_own (HA0.out.ins p hp) hb).2;have:=HZ0.out;have:=HZ1.out;have:=HZ2.out;have:=HZ3.out;have:=HZ4.out;have:=HZ5.out;omega) (by have:=HBB.out;have:=HZ0.out;have:=HZ1.out;have:=HZ2.out;have:=HZ3.out;have:=HZ4.out;have:=HZ5.out;omega) (by have:=HYL.out ys HYP.out;have:=HAL.out al HAP.out;omega) ?_
   intro g7 c7 x6 ho hk
   have HBF:Hid (Below W.heap.size W x6):=(HBW.out.trans (HW5.out.mono HBW.out.size)).trans (hk.below (fun b (hb:b=ga)=>by have:=HGA.out;omega) (by have:=HBW.out.size;have:=HZ0.out;have:=HZ1.out;have:=HZ2.out;have:=HZ3.out;have:=HZ4.out;have:=HZ5.out;omega))
   have HR:Hid (Lq x6 W.heap.size g7 c7 (al++ys)):=ho
   have hs7:x6.cell? ⟨qh,0,none⟩=some (.int .i64 (n:Int))/\x6.cell? ⟨qh,1,none⟩=some (.string S1):=by
    have h:=HS.out _ HW5.out
    exact ⟨(hk.cell (p:=⟨qh,0,none⟩) (lt_of_cell h.1) HQG.out).trans h.1,(hk.cell (p:=⟨qh,1,none⟩) (lt_of_cell h.2) HQG.out).trans h.2⟩
   clear ho hk HY5
   refine hK.out _ _ (hs7) (fun hNext=>?_)
   clear hK K hHeld
   have hHeld:=hNext
   clear hNext
   clear hs7
   try simp only [Act.put,List.setIfInBounds_toArray,List.set_cons_zero,List.set_cons_succ,List.getElem_toArray,List.getElem_cons_zero,List.getElem_cons_succ]
   refine wpAnyH_take (i:=12) (v:=?_) rfl (by kernel_rfl) (by kernel_rfl) (by kernel_rfl) (fun _ _ _ h=>h) (Or.inl ⟨by rfl,?_⟩) hHeld ?_
   rotate_left
   ·intro v9 hS9
    try dsimp only at hS9
    skip
    go_simp
    try with_reducible rfl
   try simp only [Act.put,List.setIfInBounds_toArray,List.set_cons_zero,List.set_cons_succ,List.getElem_toArray,List.getElem_cons_zero,List.getElem_cons_succ]
   refine wpAnyH_done (by kernel_rfl) ?_ _
   clear hHeld
   go_wp2
   go_ret
   exact ⟨g7,c7,_,by rw [List.length_append];rfl,by rw [List.map_append,HAP.out,HYP.out],HR.out,HBF.out⟩
end Wr6
end Go.Proofs.Ytfhdbcfhhbdiiaa
