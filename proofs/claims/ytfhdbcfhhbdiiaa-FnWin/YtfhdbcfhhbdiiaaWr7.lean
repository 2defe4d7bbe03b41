import Derived.Test.YtfhdbcfhhbdiiaaWr6
namespace Go.Proofs.Ytfhdbcfhhbdiiaa
set_option maxRecDepth 100000
set_option maxHeartbeats 8000000
set_option linter.unusedVariables false
namespace Wr7
open Go.RowKit
open Nd0 (Kept Ints WInts At Ats lt_of_cell set_same)
open Nd6 (Bools)
open Op6 (Pk PkAt Pks)
open Ta1 (tab tokB tok_tab)
open Ta2 (bitB)
open Ta3 (hb)
open Tc2 (tv ret_bool)
open Tc5 (Lay)
open Td1 (knw knw_same)
open Dm3 (sChoose sDecide sDecide0)
open De0 (dc)
open Ss0 (bs)
open Ss1 (tl bs_tl)
open Ap0 Wq0 Wr0 Wr1 Wr3 Wr5 Wr6
def ML (v:Int) (row:List Bool):Prop:=∀ (F:Nat->Bool) (W:World) (ra va:Option Addr) (c vc:Nat) (vs:List Int),Bools W ra row->row.length<=c->Ints W va vs->vs.length+row.length<=100 ->
 Calls Try.prog 46 #[.slice ra row.length c,tv (row.length:Int) (bs (tab row.length F)),.int .i64 v,.slice va vs.length vc] W (PL (wn v row F vs) W)
theorem ml_all (v:Int):∀ row:List Bool,row.length<=12->ML v row:=by
 intro row
 induction row with
 | nil =>
   intro _ F W ra va c vc vs _ _ _ _
   exact ml_known v 0 F (by omega) W ra va 0 c vc vs.length (by rw [knw_same (fun j hj=>by have:j=0:=(by simpa using hj);rw [this])];omega)
 | cons q r ih =>
   intro h12 F W ra va c vc vs hB hc hI hlen
   rw [List.length_cons] at hc hlen h12 ⊢
   by_cases hk:0<=knw (r.length+1) F
   ·have e:wn v (q :: r) F vs=[]:=by unfold wn;rw [if_pos hk]
    rw [e]
    exact ml_known v (r.length+1) F (by omega) W ra va (r.length+1) c vc vs.length hk
   ·obtain ⟨b,o,rfl,p0,t,ht,hT⟩:=Wq0.tail hB hc
    have hsl:=slc b o r.length c t (c - 1) hc ht rfl
    have h2:2 ^ r.length<=2 ^ 11:=Nat.pow_le_pow_right (by decide) (by omega)
    have hrec:∀ (x:Nat),∀ (W':World) a c',Below W.heap.size W W'->Ints W' a (vs++[(x:Int)])->Calls Try.prog 46 #[.slice (some ⟨b,t,none⟩) r.length (c - 1),tv (r.length:Int) (bs (tab r.length (hb r.length x F))),.int .i64 v,.slice a (vs.length+1) c'] W' (PL (wn v r (hb r.length x F) (vs++[(x:Int)])) W'):=fun x W' a c' hbw hi=>by
     have h:=ih (by omega) (hb r.length x F) W' (some ⟨b,t,none⟩) a (c - 1) c' (vs++[(x:Int)]) (hT.below hbw) (by omega) hi (by rw [List.length_append,List.length_singleton];omega)
     rw [List.length_append,List.length_singleton] at h
     exact h
    by_cases hown:(q==(v==0))=true
    ·obtain ⟨x,hx1,hxc,_⟩:=ch_v q r F
     have e:wn v (q :: r) F vs=⟨vs,(x:Int)⟩ :: wn v r (hb r.length x F) (vs++[(x:Int)]):=by
      conv=>lhs;unfold wn
      rw [if_neg hk,if_pos hown,hxc]
      have h2:x=0\/x=1:=by omega
      rcases h2 with rfl|rfl<;>rfl
     have hwl:=wn_len v r (hb r.length x F) (vs++[(x:Int)])
     rw [e]
     exact ml_own v r.length F (by omega) q W b o t va c (c - 1) vc vs x hx1 _ hk hown p0 hsl hI (by omega) (by omega) (fun W' hbw=>by
      have h:=sChoose (r.length+1) F (some ⟨b,o,none⟩) (q :: r) c W' (by omega) (by omega) rfl (hB.below hbw) hc
      rw [hxc] at h
      exact h) (hrec x)
    ·have e:wn v (q :: r) F vs=wn v r (hb r.length 0 F) (vs++[0])++wn v r (hb r.length 1 F) (vs++[1]):=by
      conv=>lhs;unfold wn
      rw [if_neg hk,if_neg hown]
     have hw0:=wn_len v r (hb r.length 0 F) (vs++[0])
     have hw1:=wn_len v r (hb r.length 1 F) (vs++[1])
     rw [e]
     exact ml_oth v r.length F (by omega) q W b o t va c (c - 1) vc vs _ _ hk (Bool.eq_false_iff.mpr hown) p0 hsl hI (by omega) (by omega) (by omega) (hrec 0) (hrec 1)
/-- What Win gives, of both. -/
def WP (ps:List Pk) (v:Int) (ok:Bool) (W:World) (e:Ending) (w':World):Prop:=∃ g cap qs,e=.returned (.tuple #[.slice (some ⟨g,0,none⟩) qs.length cap,.int .i64 v,.bool ok])/\qs.map Pq.pk=ps/\Lq w' W.heap.size g cap qs/\Below W.heap.size W w'
theorem sWin (row:List Bool) (F:Nat->Bool) (ra:Option Addr) (c:Nat) (w:World) (hn:row.length<=12) (hB:Bools w ra row) (hc:row.length<=c) :
 Calls Try.prog 15 #[.slice ra row.length c,tv (row.length:Int) (bs (tab row.length F))] w (WP (wn ((dc row F).toNat:Int) row F []) ((dc row F).toNat:Int) true w):=by
 obtain ⟨X0,hX0⟩:∃ X,X=w.alloc (.cells #[.int .i64 (row.length:Int),.string (bs (tab row.length F))] 26):=⟨_,rfl⟩
 have HB0:Hid (Below w.heap.size w X0):=by rw [hX0];exact (Below.refl _ _).alloc (Nat.le_refl _) _
 have HL0:Hid (Lay X0 w.heap.size (.int .i64 (row.length:Int)) (.string (bs (tab row.length F)))):=by rw [hX0];exact Lay.made _ _ _ _
 have hE:w.alloc (.cells #[.int .i64 (row.length:Int),.string (bs (tab row.length F))] 26)=X0:=hX0.symm
 obtain ⟨d,hd⟩:∃ d,d=dc row F:=⟨_,rfl⟩
 have HDE:Hid (∀ W,Below w.heap.size w W->Calls Try.prog 8 #[.slice ra row.length c,tv (row.length:Int) (bs (tab row.length F))] W fun e w'=>e=.returned (.tuple #[.int .i64 (d.toNat:Int),.bool true])/\Below W.heap.size W w'):=fun W hb=>by
  rw [hd]
  exact sDecide row.length F ra row c W hn rfl (hB.below hb) hc
 have HML:Hid (∀ W va vc,Below w.heap.size w W->Ints W va []->Calls Try.prog 46 #[.slice ra row.length c,tv (row.length:Int) (bs (tab row.length F)),.int .i64 (d.toNat:Int),.slice va 0 vc] W (PL (wn (d.toNat:Int) row F []) W)):=fun W va vc hb hi=>ml_all (d.toNat:Int) row hn F W ra va c vc [] (hB.below hb) hc hi (by simp;omega)
 rw [<- hd]
 clear hX0 hB hd hn
 generalize wn (d.toNat:Int) row F []=PS at *
 generalize bs (tab row.length F)=S at *
 go_enter Try.func15,Try.ntmps15
 go_upto_region 1 with fail
 clear hE
 obtain ⟨d0,d1,_,_⟩:=HL0.out
 have hd:=HL0.out.lt
 go_wp2_with fail
 clear d0 d1 hd
 refine (HDE.out _ HB0.out).mono ?_
 rintro e w1 ⟨rfl,hb1⟩
 have HB1:Hid (Below w.heap.size w w1):=HB0.out.trans (hb1.mono HB0.out.size)
 have HL1:Hid (Lay w1 w.heap.size (.int .i64 (row.length:Int)) (.string S)):=HL0.out.below hb1
 clear hb1 HB0 HL0 HDE
 obtain ⟨d0,d1,_,_⟩:=HL1.out
 have hd:=HL1.out.lt
 go_wp2_with fail
 clear d0 d1 hd
 have HB2:Hid (Below w.heap.size w (w1.alloc (.cells #[] 3))):=HB1.out.alloc HB1.out.size _
 refine (HML.out _ _ _ HB2.out ⟨Nat.zero_le _,.inl rfl⟩).mono ?_
 rintro e w2 ⟨g,cap,qs,rfl,hq1,hq2,hb2⟩
 have HB3:Hid (Below w.heap.size w w2):=HB2.out.trans (hb2.mono HB2.out.size)
 have HQ:Hid (qs.map Pq.pk=PS/\Lq w2 w.heap.size g cap qs):=⟨hq1,lower hq2 HB2.out.size⟩
 clear hq1 hq2 hb2 HB2 HB1 HL1 HML
 go_wp2
 go_ret3
 exact ⟨g,cap,qs,rfl,HQ.out.1,HQ.out.2,HB3.out⟩
theorem sWinN (N:Int) (S:ByteArray) (ra:Option Addr) (L c:Nat) (w:World) (hS:S.size<=1048576) (h:¬ (tokB N (tl S)=true/\(L:Int)=N)) :
 Calls Try.prog 15 #[.slice ra L c,tv N S] w (WP [] 0 false w):=by
 obtain ⟨X0,hX0⟩:∃ X,X=w.alloc (.cells #[.int .i64 N,.string S] 26):=⟨_,rfl⟩
 have HB0:Hid (Below w.heap.size w X0):=by rw [hX0];exact (Below.refl _ _).alloc (Nat.le_refl _) _
 have HL0:Hid (Lay X0 w.heap.size (.int .i64 N) (.string S)):=by rw [hX0];exact Lay.made _ _ _ _
 have hE:w.alloc (.cells #[.int .i64 N,.string S] 26)=X0:=hX0.symm
 have HDE:Hid (∀ W,Calls Try.prog 8 #[.slice ra L c,tv N S] W fun e w'=>e=.returned (.tuple #[.int .i64 0,.bool false])/\Below W.heap.size W w'):=fun W=>sDecide0 ra L c W hS h
 clear hX0
 go_enter Try.func15,Try.ntmps15
 go_upto_region 1 with fail
 clear hE
 obtain ⟨d0,d1,_,_⟩:=HL0.out
 have hd:=HL0.out.lt
 go_wp2_with fail
 clear d0 d1 hd
 refine (HDE.out _).mono ?_
 rintro e w1 ⟨rfl,hb1⟩
 have HB1:Hid (Below w.heap.size w w1):=HB0.out.trans (hb1.mono HB0.out.size)
 clear hb1 HB0 HL0 HDE
 go_wp2
 go_ret3
 exact ⟨_,0,[],rfl,rfl,Lq.lit w1 w.heap.size HB1.out.size,HB1.out.alloc HB1.out.size _⟩
end Wr7
end Go.Proofs.Ytfhdbcfhhbdiiaa
