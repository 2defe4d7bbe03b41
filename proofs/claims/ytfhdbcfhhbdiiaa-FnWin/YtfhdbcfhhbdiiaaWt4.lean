import Derived.Test.YtfhdbcfhhbdiiaaPkWI3
import Derived.Test.YtfhdbcfhhbdiiaaWr7
namespace Go.Proofs.Ytfhdbcfhhbdiiaa
set_option maxRecDepth 100000
set_option maxHeartbeats 8000000
set_option linter.unusedVariables false
namespace Wt4
open Go.RowKit
open Ta0 Ta1 Tc2 Tc5 Tdw Ddr
open Nd0 (Kept set_same set_other lt_of_cell)
open Nd6 (Bools)
open Op6 (Pk PkAt Pks)
open Dr0 (Cur Only Bytes)
open Ta2 (bitB)
open Ss0 (bs bs_size)
open Ss1 (tl bs_tl)
open De0 (dc)
open Wr0 Wr3 Wt2 Wt3
open Wr5 (step_call)
open Wr7 (sWin sWinN WP)
set_option linter.unusedSimpArgs false
theorem tok_str {N:Int} {S:ByteArray} (h:tokB N (tl S)=true):∃ (n:Nat) (F:Nat->Bool),n<=12/\N=(n:Int)/\S=bs (tab n F):=by
 obtain ⟨n,F,h1,h2,h3⟩:=tok_tab h
 exact ⟨n,F,h1,h2,by rw [<- bs_tl S,h3]⟩
/-- The model's Win of a small table: few picks, of bits. -/
theorem smallWin (row:List Bool) (N:Int) (S:ByteArray) (hS:S.size<=64):∃ (ps:List Pk) (v:Int) (ok:Bool),ps.length<=64/\(∀ p∈ps,bitB p.v=true)/\(v=0\/v=1) /\
 (∀ (W:World) (ra:Option Addr) (c:Nat),Bools W ra row->row.length<=c->Calls Try.prog 15 #[.slice ra row.length c,tv N S] W (WP ps v ok W)):=by
 by_cases h:tokB N (tl S)=true/\(row.length:Int)=N
 ·obtain ⟨h1,h2⟩:=h
  obtain ⟨n,F,hn,rfl,rfl⟩:=tok_str h1
  obtain rfl:n=row.length:=by omega
  have hp:2 ^ row.length<=64:=by
   rw [bs_size,tab_length] at hS
   exact hS
  have hl:=wn_len ((dc row F).toNat:Int) row F []
  exact ⟨wn ((dc row F).toNat:Int) row F [],((dc row F).toNat:Int),true,by omega,Wt0.wn_bits _ row F [],by cases dc row F<;>simp,fun W ra c hB hc=>sWin row F ra c W hn hB hc⟩
 ·exact ⟨[],0,false,by simp,fun p hp=>(by cases hp),.inl rfl,fun W ra c hB hc=>sWinN N S ra row.length c W (by omega) h⟩
/-- A row, a table, a number, a list are given back. -/
def ChD (w:World) (e:Ending) (w':World):Prop:=(∃ (N:Int) (S:ByteArray) (row:List Bool) (ra:Option Addr) (c:Nat) (v:Int) (la:Option Addr) (ps:List Pk) (lc:Nat),S.size<=64/\row.length<=20/\row.length<=c/\e=.returned (.tuple #[.slice ra row.length c,tv N S,.int .i64 v,.slice la ps.length lc])/\Bools w' ra row/\Pks w' la ps/\∀ p∈ps,Wf p.v)/\Below w.heap.size w w'
theorem drawChecks (w:World) (a:Option Addr) (len cap:Nat) (hb:Bytes w a len) :
 Calls Try.prog 12 #[.slice a len cap] w (ChD w):=by
 have HB:Hid (Bytes w a len):=hb
 have HB0:Hid (Bytes (w.alloc (.cells #[.int .i64 0,.string ByteArray.empty] 26)) a len):=hb.below ((Below.refl _ _).alloc (Nat.le_refl _) _)
 clear hb
 go_enter Try.func12,Try.ntmps12
 go_wp2_with fail
 refine (Dr4.new _ a len cap HB0.out).mono ?_
 rintro e w1 ⟨rfl,hc1,hb1⟩
 have HR1:Hid (Lay w1 w.heap.size (.int .i64 0) (.string ByteArray.empty)):=(Lay.made w _ _ _).below hb1
 have HB1:Hid (Below w.heap.size w w1):=((Below.refl _ _).alloc (Nat.le_refl _) _).trans (hb1.mono (by simp))
 have hc1':Cur w1 (w.heap.size+1) a len cap:=by simpa using hc1
 have HC1:Hid (Cur w1 (w.heap.size+1) a len cap):=hc1'
 have hcl:w.heap.size+1 < w1.heap.size:=hc1'.lt
 clear hb1 hc1 hc1'
 go_wp2_with fail
 refine (drawAny w1 a len cap (HB.out.below HB1.out)).mono ?_
 rintro e w2 ⟨⟨N,S,row,ra,c,hS,hr20,hrc,rfl,hrow,hrb⟩,hb2⟩
 obtain ⟨w3,hw3⟩:∃ z,z=w2.alloc (.cells #[.int .i64 N,.string S] 26):=⟨_,rfl⟩
 obtain ⟨qt,hqt⟩:∃ z,z=w2.heap.size:=⟨_,rfl⟩
 have hb3:Below w2.heap.size w2 w3:=by rw [hw3];exact (Below.refl _ _).alloc (Nat.le_refl _) _
 have HT3:Hid (Lay w3 qt (.int .i64 N) (.string S)):=by rw [hw3,hqt];exact Lay.made _ _ _ _
 have h13:Below w1.heap.size w1 w3:=hb2.trans (hb3.mono hb2.size)
 have HQ3:Hid (w1.heap.size<=qt):=by rw [hqt];exact hb2.size
 have HC3:Hid (Cur w3 (w.heap.size+1) a len cap):=cur_kept HC1.out (S:=fun _=>False) (Kept.ofBelow h13) (fun h=>h) (.inr fun _ _ h=>h)
 have HR3:Hid (Lay w3 w.heap.size (.int .i64 0) (.string ByteArray.empty)):=HR1.out.below h13
 have HB3:Hid (Below w.heap.size w w3):=HB1.out.trans (h13.mono HB1.out.size)
 have HW3:Hid (Bools w3 ra row):=hrow.below hb3
 have hz3:w1.heap.size<=w3.heap.size:=h13.size
 obtain ⟨ps0,v0,ok,hpl,hpb,hv01,hwin⟩:=smallWin row N S hS
 have HWN:Hid (∀ (W:World) (ra:Option Addr) (c:Nat),Bools W ra row->row.length<=c->Calls Try.prog 15 #[.slice ra row.length c,tv N S] W (WP ps0 v0 ok W)):=hwin
 have HPB:Hid (∀ p∈ps0,bitB p.v=true):=hpb
 go_upto_region 3 with fail
 rw [<- hw3,<- hqt]
 clear hw3 hqt hb3 hb2 hrow h13 HC1 HR1 hwin hpb
 obtain ⟨t0,t1,_,_⟩:=HT3.out
 have tl:=lt_of_cell t0
 go_wp2_with fail
 clear t0 t1 tl
 refine (HWN.out w3 ra c HW3.out hrc).mono ?_
 rintro e w4 ⟨g,cp,qs,rfl,hq1,hq2,hb4⟩
 have HQ1:Hid (qs.map Pq.pk=ps0):=hq1
 have HQL:Hid (qs.length=ps0.length):=by show _=_;rw [<- hq1,List.length_map]
 have HL4:Hid (Lq w4 w3.heap.size g cp qs):=hq2
 have HC4:Hid (Cur w4 (w.heap.size+1) a len cap):=cur_kept HC3.out (S:=fun _=>False) (Kept.ofBelow hb4) (fun h=>h) (.inr fun _ _ h=>h)
 have HR4:Hid (Lay w4 w.heap.size (.int .i64 0) (.string ByteArray.empty)):=HR3.out.below hb4
 have HT4:Hid (Lay w4 qt (.int .i64 N) (.string S)):=HT3.out.below hb4
 have HB4:Hid (Below w.heap.size w w4):=HB3.out.trans (hb4.mono HB3.out.size)
 have HW4:Hid (Bools w4 ra row):=HW3.out.below hb4
 have HGL:Hid (w3.heap.size<=g/\qt < w3.heap.size):=⟨hq2.lt.1,HT3.out.lt⟩
 have HRA:Hid (∀ x,ra=some x->0 < row.length->x.block < w3.heap.size):=fun x hx h0=>ra_lt HW3.out hx h0
 clear hq1 hq2 hb4 HC3 HR3 HT3 HB3 HW3 HWN
 go_wp2_with fail
 refine (Dr1.once _ (w.heap.size+1) a len cap 8 (by omega) (by omega) HC4.out).mono ?_
 rintro e w5 ⟨⟨z,rfl⟩,hc5,ho5⟩
 have HC5:Hid (Cur w5 (w.heap.size+1) a len cap):=hc5
 have HO5:Hid (Only (w.heap.size+1) w4 w5):=ho5
 have hw1:IntKind.i64.wrap (1 - v0)=1 - v0:=by rw [IntKind.wrap_i64]<;>omega
 clear hc5 ho5
 go_upto_if 27 with fail
 go_cut [10] from 28 to 32 (fun s10 wc=>∃ v':Int,s10=.int .i64 v'/\Cur wc (w.heap.size+1) a len cap/\Only (w.heap.size+1) w5 wc)
 case first =>
  cases z
  ·go_wp2_with fail
   go_meet
   case rel=>exact ⟨v0,rfl,HC5.out,Only.refl _ _⟩
  ·go_wp2_with fail
   refine (pickP w5 (w.heap.size+1) a len cap _ _ 3 (fun _=>True) (by omega) (by omega) (fun j hj=>?_) HC5.out).mono ?_
   ·have:j=0\/j=1\/j=2:=by omega
    rcases this with e|e|e<;>subst e<;>exact ⟨_,rfl,trivial⟩
   rintro e w6 ⟨⟨x,rfl,_⟩,hc6,ho6⟩
   have HX6:Hid (Cur w6 (w.heap.size+1) a len cap/\Only (w.heap.size+1) w5 w6):=⟨hc6,ho6⟩
   clear hc6 ho6
   go_wp2_with fail
   go_meet
   case rel=>exact ⟨x,rfl,HX6.out.1,HX6.out.2⟩
 case rest =>
  obtain ⟨v1,hs10,hc6,ho6⟩:=hcut
  subst hs10
  have KK:Kept (fun i=>i=w.heap.size+1) w4 wc:=(kept_of_only HO5.out).trans (kept_of_only ho6)
  have hzz:=HQ3.out
  have hgg:=HGL.out
  have HD:Hid (Kept (fun i=>i=w.heap.size+1) w4 wc.drew):=KK.drew
  have HC6:Hid (Cur wc.drew (w.heap.size+1) a len cap):=hc6.drew
  have HL6:Hid (Lq wc.drew w3.heap.size g cp qs):=HL4.out.kept HD.out (by omega) (fun q hq j hj e=>by have:=(wi_own (HL4.out.ins q hq) hj).1;omega)
  have HT6:Hid (Lay wc.drew qt (.int .i64 N) (.string S)):=HT4.out.kept HD.out (by omega)
  have HR6:Hid (Lay wc.drew w.heap.size (.int .i64 0) (.string ByteArray.empty)):=HR4.out.kept HD.out (by omega)
  have HW6:Hid (Bools wc.drew ra row):=Wp15.bools_kept HW4.out HD.out (fun x hx h0 e=>by have:=hrb x hx h0;omega)
  have HB6:Hid (Below w.heap.size w wc.drew):=HB4.out.trans (HD.out.below (fun b hb=>by omega) HB4.out.size)
  have HQB:Hid (∀ q∈qs,bitB q.v=true):=fun q hq=>by
   have h9:q.pk∈ps0:=by rw [<- HQ1.out];exact List.mem_map_of_mem hq
   exact HPB.out _ h9
  have HLOW:Hid (len=0\/∀ x,a=some x->x.block≠g):=(low_of HB.out).imp id fun h x hx=>by have:=h x hx;omega
  clear hc6 ho6 KK HC5 HO5 HC4 HL4 HT4 HR4 HW4 HB4 HPB
  go_upto_region 6 with fail
  refine wp_region_held_drew (S:=fun W=>W.cell? ⟨qt,0,none⟩=some (.int .i64 N)/\W.cell? ⟨qt,1,none⟩=some (.string S)) (by kernel_rfl) (⟨HT6.out.c0,HT6.out.c1⟩) (fun hHeld=>?_)
  refine wpAnyH_take (i:=0) (v:=?_) rfl (by kernel_rfl) (by kernel_rfl) (by kernel_rfl) (fun _ _ _ h=>h) (Or.inl ⟨by rfl,?_⟩) hHeld ?_
  rotate_left
  ·intro v9 hS9
   try dsimp only at hS9
   skip
   go_simp
   try with_reducible rfl
  try simp only [Act.put,List.setIfInBounds_toArray,List.set_cons_zero,List.set_cons_succ,List.getElem_toArray,List.getElem_cons_zero]
  refine wpAnyH_take (i:=1) (v:=?_) rfl (by kernel_rfl) (by kernel_rfl) (by kernel_rfl) (fun _ _ _ h=>h) (Or.inl ⟨by rfl,?_⟩) hHeld ?_
  rotate_left
  ·intro v9 hS9
   try dsimp only at hS9
   obtain ⟨s0,s1⟩:=hS9
   go_simp
   try with_reducible rfl
  try simp only [Act.put,List.setIfInBounds_toArray,List.set_cons_zero,List.set_cons_succ,List.getElem_toArray,List.getElem_cons_zero,List.getElem_cons_succ]
  refine wpAnyH_take (i:=2) (v:=?_) rfl (by kernel_rfl) (by kernel_rfl) (by kernel_rfl) (fun _ _ _ h=>h) (Or.inl ⟨by rfl,?_⟩) hHeld ?_
  rotate_left
  ·intro v9 hS9
   try dsimp only at hS9
   skip
   go_simp
   try with_reducible rfl
  try simp only [Act.put,List.setIfInBounds_toArray,List.set_cons_zero,List.set_cons_succ,List.getElem_toArray,List.getElem_cons_zero,List.getElem_cons_succ]
  refine wpAnyH_take (i:=3) (v:=?_) rfl (by kernel_rfl) (by kernel_rfl) (by kernel_rfl) (fun _ _ _ h=>h) (Or.inl ⟨by rfl,?_⟩) hHeld ?_
  rotate_left
  ·intro v9 hS9
   try dsimp only at hS9
   skip
   go_simp
   try with_reducible rfl
  try simp only [Act.put,List.setIfInBounds_toArray,List.set_cons_zero,List.set_cons_succ,List.getElem_toArray,List.getElem_cons_zero,List.getElem_cons_succ]
  refine wpAnyH_take (i:=4) (v:=?_) rfl (by kernel_rfl) (by kernel_rfl) (by kernel_rfl) (fun _ _ _ h=>h) (Or.inl ⟨by rfl,?_⟩) hHeld ?_
  rotate_left
  ·intro v9 hS9
   try dsimp only at hS9
   skip
   go_simp
   try with_reducible rfl
  try simp only [Act.put,List.setIfInBounds_toArray,List.set_cons_zero,List.set_cons_succ,List.getElem_toArray,List.getElem_cons_zero,List.getElem_cons_succ]
  refine wpAnyH_ready (rs:=[5]) (by kernel_rfl) (by simp) ?_
  refine (AllReadyH.cons rfl (fun K hK=>?_) AllReadyH.nil)
  refine step_call (f:=43) (args := #[.pointer (some ⟨w.heap.size+1,0,none⟩),.slice (some ⟨g,0,none⟩) qs.length cp]) rfl (by go_simp) ?_
  refine (spoil wc.drew (w.heap.size+1) a len cap w3.heap.size g cp qs HC6.out HL6.out (by omega) HLOW.out (by rw [HQL.out];omega) HQB.out).mono ?_
  rintro e w7 ⟨⟨la,ps,lc,rfl,hp7,hv7⟩,hk7⟩
  have HT7:Hid (Lay w7 qt (.int .i64 N) (.string S)):=HT6.out.kept hk7 (by omega)
  have HR7:Hid (Lay w7 w.heap.size (.int .i64 0) (.string ByteArray.empty)):=HR6.out.kept hk7 (by omega)
  have HW7:Hid (Bools w7 ra row):=Wp15.bools_kept HW6.out hk7 (fun x hx h0 e=>by have:=hrb x hx h0;have:=HRA.out x hx h0;omega)
  have HB7:Hid (Below w.heap.size w w7):=HB6.out.trans (hk7.below (fun b hb=>by omega) HB6.out.size)
  have HP7:Hid (PksF w7 w3.heap.size la ps/\∀ p∈ps,Wf p.v):=⟨hp7,hv7⟩
  clear hp7 hv7 hk7
  obtain ⟨r0,r1,r2,r3⟩:=HR7.out
  have rl:=lt_of_cell r0
  have HFN:Hid _:=Td2.finT HR7.out HB7.out (Nat.le_refl _) (.int .i64 N) (.string S)
  have HK:Hid (Kept (fun b=>b=w.heap.size) w7 ((w7.setCell ⟨w.heap.size,0,none⟩ (.int .i64 N)).setCell ⟨w.heap.size,1,none⟩ (.string S))):=Kept.setCell (S:=fun b=>b=w.heap.size) (Kept.setCell (S:=fun b=>b=w.heap.size) (Kept.refl _ w7) (p:=⟨w.heap.size,0,none⟩) rfl _) (p:=⟨w.heap.size,1,none⟩) rfl _
  refine ⟨_,rfl,?_⟩
  refine hK.out _ _ (⟨HT7.out.c0,HT7.out.c1⟩) (fun hNext=>?_)
  clear hK K hHeld
  have hHeld:=hNext
  clear hNext
  try simp only [Act.put,List.setIfInBounds_toArray,List.set_cons_zero,List.set_cons_succ,List.getElem_toArray,List.getElem_cons_zero,List.getElem_cons_succ]
  refine wpAnyH_take (i:=6) (v:=?_) rfl (by kernel_rfl) (by kernel_rfl) (by kernel_rfl) (fun _ _ _ h=>h) (Or.inl ⟨by rfl,?_⟩) hHeld ?_
  rotate_left
  ·intro v9 hS9
   try dsimp only at hS9
   skip
   go_simp
   try with_reducible rfl
  try simp only [Act.put,List.setIfInBounds_toArray,List.set_cons_zero,List.set_cons_succ,List.getElem_toArray,List.getElem_cons_zero,List.getElem_cons_succ]
  refine wpAnyH_ready (rs:=[7]) (by kernel_rfl) (by simp) ?_
  refine (AllReadyH.cons rfl (fun K hK=>?_) AllReadyH.nil)
  go_simp
  have hq9:¬ qt=w.heap.size:=by omega
  refine hK.out _ _ (⟨(HT7.out.kept HK.out hq9).c0,(HT7.out.kept HK.out hq9).c1⟩) (fun hNext=>?_)
  clear hK K hHeld
  have hHeld:=hNext
  clear hNext
  try simp only [Act.put,List.setIfInBounds_toArray,List.set_cons_zero,List.set_cons_succ,List.getElem_toArray,List.getElem_cons_zero,List.getElem_cons_succ]
  refine wpAnyH_take (i:=8) (v:=?_) rfl (by kernel_rfl) (by kernel_rfl) (by kernel_rfl) (fun _ _ _ h=>h) (Or.inl ⟨by rfl,?_⟩) hHeld ?_
  rotate_left
  ·intro v9 hS9
   try dsimp only at hS9
   skip
   go_simp
   try with_reducible rfl
  try simp only [Act.put,List.setIfInBounds_toArray,List.set_cons_zero,List.set_cons_succ,List.getElem_toArray,List.getElem_cons_zero,List.getElem_cons_succ]
  refine wpAnyH_take (i:=9) (v:=?_) rfl (by kernel_rfl) (by kernel_rfl) (by kernel_rfl) (fun _ _ _ h=>h) (Or.inl ⟨by rfl,?_⟩) hHeld ?_
  rotate_left
  ·intro v9 hS9
   try dsimp only at hS9
   skip
   go_simp
   try with_reducible rfl
  try simp only [Act.put,List.setIfInBounds_toArray,List.set_cons_zero,List.set_cons_succ,List.getElem_toArray,List.getElem_cons_zero,List.getElem_cons_succ]
  refine wpAnyH_done (by kernel_rfl) ?_ _
  clear hHeld
  go_wp2
  obtain ⟨W,hW,hz,hbz⟩:=HFN.out
  have hK:=HK.out
  rw [<- hW] at hK ⊢
  obtain ⟨z0,z1,_,_⟩:=hz
  refine bodyPost_ret (v:=.tuple #[.slice ra row.length c,tv N S,.int .i64 v1,.slice la ps.length lc]) (by simp [results,Try.results12,go_sem,z0,z1]) rfl ⟨⟨N,S,row,ra,c,v1,la,ps,lc,hS,hr20,hrc,rfl,Wp15.bools_kept HW7.out hK (fun x hx h0 e=>by have:=hrb x hx h0;omega),HP7.out.1.kept hK (fun b hb e=>by omega),HP7.out.2⟩,hbz⟩
end Wt4
end Go.Proofs.Ytfhdbcfhhbdiiaa
