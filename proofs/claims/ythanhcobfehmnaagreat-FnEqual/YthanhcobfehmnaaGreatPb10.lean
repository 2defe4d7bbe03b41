import Derived.Test.YthanhcobfehmnaaGreatPkQU232
namespace Go.Proofs.YthanhcobfehmnaaGreat
set_option maxRecDepth 100000
set_option maxHeartbeats 8000000
set_option linter.unusedVariables false
namespace Pb10
open Go.RowKit
open Nd0 Nd3 Tm0 Tm8 Rw0 Ap0 Ap15 Aq0 Aq1 Aw2 Pg1
open Aw1 (nv TellI wInt)
open Ap2 (Own)
open Pg10 (mv)
open Tm3 (parts_cases)
theorem mv_sh (m:Nat) (n:Nd) (hp:∀ p∈parts n,0<=p):mv (fun i=>(m:Int)+i) n=shN (m:Int) n:=by
 have hc:=cnt_parts n
 unfold mv shN
 rw [hc]
 have ha:0 < cnt n.op->0<=n.a:=fun h=>hp _ (by
  rcases Tm3.parts_cases n with e|e|e|e<;>rw [e] at hc ⊢ <;> simp at hc ⊢
  omega)
 have hb:1 < cnt n.op->0<=n.b:=fun h=>hp _ (by
  rcases Tm3.parts_cases n with e|e|e|e<;>rw [e] at hc ⊢ <;> simp at hc ⊢ <;> omega)
 have hd:2 < cnt n.op->0<=n.c:=fun h=>hp _ (by
  rcases Tm3.parts_cases n with e|e|e|e<;>rw [e] at hc ⊢ <;> simp at hc ⊢ <;> omega)
 have e1:(if 0 < cnt n.op then (m:Int)+(n.a.toNat:Int) else n.a)=if 0 < cnt n.op then n.a+(m:Int) else n.a:=by
  split
  ·have:=ha ‹_›;omega
  ·rfl
 have e2:(if 1 < cnt n.op then (m:Int)+(n.b.toNat:Int) else n.b)=if 1 < cnt n.op then n.b+(m:Int) else n.b:=by
  split
  ·have:=hb ‹_›;omega
  ·rfl
 have e3:(if 2 < cnt n.op then (m:Int)+(n.c.toNat:Int) else n.c)=if 2 < cnt n.op then n.c+(m:Int) else n.c:=by
  split
  ·have:=hd ‹_›;omega
  ·rfl
 simp only [e1,e2,e3]
theorem sh_zero (n:Nd):shN 0 n=n:=by
 unfold shN
 simp
theorem map_sh {l:List Nd} (hD:Down l) (m:Nat):l.map (mv (fun i=>(m:Int)+i))=l.map (shN (m:Int)):=by
 apply List.map_congr_left
 intro n hn
 obtain ⟨i,hi,rfl⟩:=List.mem_iff_getElem.1 hn
 rw [nth_get hi]
 exact mv_sh m _ fun p hp=>(hD i hi p hp).1
def plF (m:Nat) (i:Nat) (_:Nd) (_:List Int):Int:=(m:Int)+(i:Int)
theorem tellP (bx:Nat) (g:Option Addr) (m cp:Nat) (l:List Nd) (w0:World) (hl:l.length<=1048576) (hm:m<=1048576) (hc:w0.cell? ⟨bx,0,none⟩=some (.slice g m cp)) :
 TellI w0 35 #[.pointer (some ⟨bx,0,none⟩)] l (plF m):=by
 intro W i a c hi hB _
 have h1:W.cell? ⟨bx,0,none⟩=some (.slice g m cp):=(hB.cell (lt_of_cell hc)).trans hc
 have hI:(i:Int)<=1048576:=by omega
 have hs:W.heap.size<=W.heap.size:=Nat.le_refl _
 generalize nth l i=n
 have HS:Hid ((said 0 (plF m) l i).length<=1048577):=by
  show _<=_
  rw [said_len]
  exact Nat.le_trans (parts_le _) (by omega)
 clear hB hc hs
 have h2:(W.alloc (.cells #[.int .i64 n.op,.int .i64 n.w,.int .i64 n.k,.int .i64 n.a,.int .i64 n.b,.int .i64 n.c] 44)).cell? ⟨bx,0,none⟩=some (.slice g m cp):=by
  rw [World.cell?_alloc_old _ _ _ (Nat.ne_of_lt (lt_of_cell h1))];exact h1
 have HB:Hid (Below W.heap.size W (W.alloc (.cells #[.int .i64 n.op,.int .i64 n.w,.int .i64 n.k,.int .i64 n.a,.int .i64 n.b,.int .i64 n.c] 44))):=(Below.refl _ _).alloc (Nat.le_refl _) _
 go_enter Tryz.func35,Tryz.ntmps35
 go_wp2
 go_ret
 exact ⟨rfl,HB.out⟩
theorem iMovedAt (n:Nd) (w:World) (gp go len cap:Nat) (P:Nat->Int) (hr:∀ i,i < len->w.cell? ⟨gp,go+i,none⟩=some (.int .i64 (P i))) (hp:∀ p∈parts n,0<=p/\p < (len:Int)) (hl:len<=80) :
 Calls Tryz.prog 38 #[.agg #[.int .i64 n.op,.int .i64 n.w,.int .i64 n.k,.int .i64 n.a,.int .i64 n.b,.int .i64 n.c],.slice (some ⟨gp,go,none⟩) len cap] w fun e w' =>
  e=.returned (.agg #[.int .i64 (mv P n).op,.int .i64 (mv P n).w,.int .i64 (mv P n).k,.int .i64 (mv P n).a,.int .i64 (mv P n).b,.int .i64 (mv P n).c])/\Below w.heap.size w w':=by
 have hc3:=cnt_le n.op
 have hcp:=cnt_parts n
 have HC:Hid (cnt n.op=0\/cnt n.op=1\/cnt n.op=2\/cnt n.op=3):=by show _\/_;omega
 have HV:Hid (mv P n=⟨n.op,n.w,n.k,if 0 < cnt n.op then P n.a.toNat else n.a,if 1 < cnt n.op then P n.b.toNat else n.b,if 2 < cnt n.op then P n.c.toNat else n.c⟩):=rfl
 have HPC:=parts_cases n
 have HA:Hid (0 < cnt n.op->∃ j:Nat,n.a=(j:Int)/\j < len/\w.cell? ⟨gp,go+j,none⟩=some (.int .i64 (P n.a.toNat))):=by
  show _->_
  intro h
  have hm:n.a∈parts n:=by
   rcases HPC with e|e|e|e
   ·rw [e] at hcp;simp at hcp;omega
   ·rw [e];simp
   ·rw [e];simp
   ·rw [e];simp
  obtain ⟨h0,h1⟩:=hp _ hm
  exact ⟨n.a.toNat,by omega,by omega,hr n.a.toNat (by omega)⟩
 have HB:Hid (1 < cnt n.op->∃ j:Nat,n.b=(j:Int)/\j < len/\w.cell? ⟨gp,go+j,none⟩=some (.int .i64 (P n.b.toNat))):=by
  show _->_
  intro h
  have hm:n.b∈parts n:=by
   rcases HPC with e|e|e|e
   ·rw [e] at hcp;simp at hcp;omega
   ·rw [e] at hcp;simp at hcp;omega
   ·rw [e];simp
   ·rw [e];simp
  obtain ⟨h0,h1⟩:=hp _ hm
  exact ⟨n.b.toNat,by omega,by omega,hr n.b.toNat (by omega)⟩
 have HD:Hid (2 < cnt n.op->∃ j:Nat,n.c=(j:Int)/\j < len/\w.cell? ⟨gp,go+j,none⟩=some (.int .i64 (P n.c.toNat))):=by
  show _->_
  intro h
  have hm:n.c∈parts n:=by
   rcases HPC with e|e|e|e
   ·rw [e] at hcp;simp at hcp;omega
   ·rw [e] at hcp;simp at hcp;omega
   ·rw [e] at hcp;simp at hcp;omega
   ·rw [e];simp
  obtain ⟨h0,h1⟩:=hp _ hm
  exact ⟨n.c.toNat,by omega,by omega,hr n.c.toNat (by omega)⟩
 clear hc3 hcp HPC hr hp
 generalize mv P n=u at HV ⊢
 generalize P n.a.toNat=xa at HV HA
 generalize P n.b.toNat=xb at HV HB
 generalize P n.c.toNat=xc at HV HD
 obtain ⟨op,m,k,a,b,c⟩:=n
 dsimp only at *
 rcases HC.out with hc|hc|hc|hc
 ·have HK:Hid (cnt op=_):=hc
  clear HA HB HD
  go_enter Tryz.func38,Tryz.ntmps38
  go_wp2_with (go_at_call 73;refine (iCount _ _).mono ?_;rintro e w' ⟨rfl,rfl⟩;rw [hc])
  refine bodyPost_ret (v:=.agg #[.int .i64 u.op,.int .i64 u.w,.int .i64 u.k,.int .i64 u.a,.int .i64 u.b,.int .i64 u.c]) ?_ rfl ⟨rfl,?_⟩
  ·have h9:=HV.out
   rw [HK.out] at h9
   simp at h9
   subst h9
   simp [results,Tryz.results38,go_sem]
  ·exact ((Below.refl _ _).alloc (Nat.le_refl _) _).alloc (by simp) _
 ·have HK:Hid (cnt op=_):=hc
  obtain ⟨ja,rfl,hja,pa⟩:=HA.out (by omega)
  have hz1:(ja:Int) < (len:Int):=by omega
  have hn0:gp < w.heap.size:=lt_of_cell (p:=⟨gp,go+ja,none⟩) pa
  have hn1:gp < w.heap.size+1:=by omega
  clear HA HB HD
  go_enter Tryz.func38,Tryz.ntmps38
  go_wp2_with (go_at_call 73;refine (iCount _ _).mono ?_;rintro e w' ⟨rfl,rfl⟩;rw [hc])
  refine bodyPost_ret (v:=.agg #[.int .i64 u.op,.int .i64 u.w,.int .i64 u.k,.int .i64 u.a,.int .i64 u.b,.int .i64 u.c]) ?_ rfl ⟨rfl,?_⟩
  ·have h9:=HV.out
   rw [HK.out] at h9
   simp at h9
   subst h9
   simp [results,Tryz.results38,go_sem]
  ·exact ((Below.refl _ _).alloc (Nat.le_refl _) _).alloc (by simp) _
 ·have HK:Hid (cnt op=_):=hc
  obtain ⟨ja,rfl,hja,pa⟩:=HA.out (by omega)
  obtain ⟨jb,rfl,hjb,pb⟩:=HB.out (by omega)
  have hz1:(ja:Int) < (len:Int):=by omega
  have hz2:(jb:Int) < (len:Int):=by omega
  have hn0:gp < w.heap.size:=lt_of_cell (p:=⟨gp,go+ja,none⟩) pa
  have hn1:gp < w.heap.size+1:=by omega
  clear HA HB HD
  go_enter Tryz.func38,Tryz.ntmps38
  go_wp2_with (go_at_call 73;refine (iCount _ _).mono ?_;rintro e w' ⟨rfl,rfl⟩;rw [hc])
  refine bodyPost_ret (v:=.agg #[.int .i64 u.op,.int .i64 u.w,.int .i64 u.k,.int .i64 u.a,.int .i64 u.b,.int .i64 u.c]) ?_ rfl ⟨rfl,?_⟩
  ·have h9:=HV.out
   rw [HK.out] at h9
   simp at h9
   subst h9
   simp [results,Tryz.results38,go_sem]
  ·exact ((Below.refl _ _).alloc (Nat.le_refl _) _).alloc (by simp) _
 ·have HK:Hid (cnt op=_):=hc
  obtain ⟨ja,rfl,hja,pa⟩:=HA.out (by omega)
  obtain ⟨jb,rfl,hjb,pb⟩:=HB.out (by omega)
  obtain ⟨jc,rfl,hjc,pc⟩:=HD.out (by omega)
  have hz1:(ja:Int) < (len:Int):=by omega
  have hz2:(jb:Int) < (len:Int):=by omega
  have hz3:(jc:Int) < (len:Int):=by omega
  have hn0:gp < w.heap.size:=lt_of_cell (p:=⟨gp,go+ja,none⟩) pa
  have hn1:gp < w.heap.size+1:=by omega
  clear HA HB HD
  go_enter Tryz.func38,Tryz.ntmps38
  go_wp2_with (go_at_call 73;refine (iCount _ _).mono ?_;rintro e w' ⟨rfl,rfl⟩;rw [hc])
  refine bodyPost_ret (v:=.agg #[.int .i64 u.op,.int .i64 u.w,.int .i64 u.k,.int .i64 u.a,.int .i64 u.b,.int .i64 u.c]) ?_ rfl ⟨rfl,?_⟩
  ·have h9:=HV.out
   rw [HK.out] at h9
   simp at h9
   subst h9
   simp [results,Tryz.results38,go_sem]
  ·exact ((Below.refl _ _).alloc (Nat.le_refl _) _).alloc (by simp) _
theorem res_moved {w:World} {g:Nat} {n:Nd} {tmps:Array Value} (hp:tmps.getD 7 undef=.pointer (some ⟨g,0,none⟩)) (h:NodeAt w g 0 n) :
 (results Tryz.f37 tmps).run Tryz.prog w=.ok (nv n) w:=by
 have hr:w.rangeAt g 0 [.int .i64 n.op,.int .i64 n.w,.int .i64 n.k,.int .i64 n.a,.int .i64 n.b,.int .i64 n.c]:=fun j v hv=>by
  rw [Nat.zero_add]
  have hj:j < 6:=by
   have:=(List.getElem?_eq_some_iff.1 hv).1
   simpa using this
  rcases (show j=0\/j=1\/j=2\/j=3\/j=4\/j=5 by omega) with h'|h'|h'|h'|h'|h'<;>subst h'
  ·rw [<- hv];exact h.c0
  ·rw [<- hv];exact h.c1
  ·rw [<- hv];exact h.c2
  ·rw [<- hv];exact h.c3
  ·rw [<- hv];exact h.c4
  ·rw [<- hv];exact h.c5
 have hl:=run_loadVar_mid (P:=Tryz.prog) w g 0 44 _ _ hr Tryz.underlying44 rfl rfl
 have hp':tmps[7]?.getD undef=.pointer (some ⟨g,0,none⟩):=by simpa using hp
 simp [results,hp',asAddr,hl]
def mvF (P:Nat->Int) (_:Nat) (n:Nd) (_:List Nd):Nd:=mv P n
theorem tellM (px:Nat) (gp go cp:Nat) (P:Nat->Int) (l:List Nd) (w0:World) (hD:Down l) (hl:l.length<=80) (hc:w0.cell? ⟨px,0,none⟩=some (.slice (some ⟨gp,go,none⟩) l.length cp)) (hr:∀ i,i < l.length->w0.cell? ⟨gp,go+i,none⟩=some (.int .i64 (P i))) :
 TellN w0 37 #[.pointer (some ⟨px,0,none⟩)] l (mvF P):=by
 intro W i a c hi hB _
 have h1:W.cell? ⟨px,0,none⟩=some (.slice (some ⟨gp,go,none⟩) l.length cp):=(hB.cell (lt_of_cell hc)).trans hc
 have hr1:∀ i,i < l.length->W.cell? ⟨gp,go+i,none⟩=some (.int .i64 (P i)):=fun i hi=>(hB.cell (lt_of_cell (hr i hi))).trans (hr i hi)
 have hpd:∀ p∈parts (nth l i),0<=p/\p < (l.length:Int):=fun p hp=>by have:=hD i hi p hp;omega
 have hs:(said Nd.zero (mvF P) l i).length<=1048577:=by
  rw [said_len]
  exact Nat.le_trans (parts_le _) (by omega)
 show Calls _ _ _ _ fun e w'=>e=.returned (nv (mv P (nth l i)))/\_
 generalize nth l i=n at hpd hs
 have hI:(i:Int)<=1048576:=by omega
 obtain ⟨W1,hW1⟩:∃ W1:World,W1=(W.alloc (.cells #[.int .i64 n.op,.int .i64 n.w,.int .i64 n.k,.int .i64 n.a,.int .i64 n.b,.int .i64 n.c] 44)).alloc (.cells #[.int .i64 0,.int .i64 0,.int .i64 0,.int .i64 0,.int .i64 0,.int .i64 0] 44):=⟨_,rfl⟩
 have hs0:(W.alloc (.cells #[.int .i64 n.op,.int .i64 n.w,.int .i64 n.k,.int .i64 n.a,.int .i64 n.b,.int .i64 n.c] 44)).heap.size=W.heap.size+1:=by simp
 have hb0:Below W.heap.size W (W.alloc (.cells #[.int .i64 n.op,.int .i64 n.w,.int .i64 n.k,.int .i64 n.a,.int .i64 n.b,.int .i64 n.c] 44)):=(Below.refl _ _).alloc (Nat.le_refl _) _
 have HB:Hid (Below W.heap.size W W1):=by rw [hW1];exact hb0.alloc (by simp) _
 have hn1:NodeAt W1 W.heap.size 0 n:=by
  have h:NodeAt (W.alloc (.cells #[.int .i64 n.op,.int .i64 n.w,.int .i64 n.k,.int .i64 n.a,.int .i64 n.b,.int .i64 n.c] 44)) W.heap.size 0 n:=⟨by simp,by simp,by simp,by simp,by simp,by simp⟩
  rw [hW1]
  exact h.below ((Below.refl _ _).alloc (Nat.le_refl _) _) h.lt
 have HZ:Hid (NodeAt W1 (W.heap.size+1) 0 Nd.zero/\∀ j,W1.frozen? ⟨W.heap.size+1,j,none⟩=false):=by
  rw [hW1,<- hs0]
  exact ⟨⟨by simp [Nd.zero],by simp [Nd.zero],by simp [Nd.zero],by simp [Nd.zero],by simp [Nd.zero],by simp [Nd.zero]⟩,fun j=>by simp⟩
 have hc1:W1.cell? ⟨px,0,none⟩=some (.slice (some ⟨gp,go,none⟩) l.length cp):=(HB.out.cell (lt_of_cell h1)).trans h1
 have HR1:Hid (∀ i,i < l.length->W1.cell? ⟨gp,go+i,none⟩=some (.int .i64 (P i))):=fun i hi=>(HB.out.cell (lt_of_cell (hr1 i hi))).trans (hr1 i hi)
 obtain ⟨b0,b1,b2,b3,b4,b5⟩:=hn1
 simp only [Nat.zero_add] at b1 b2 b3 b4 b5
 have HPD:Hid (∀ p∈parts n,0<=p/\p < (l.length:Int)):=hpd
 clear hB hc hr h1 hr1 hpd hs0 hb0
 go_enter Tryz.func37,Tryz.ntmps37
 go_upto_region 1 with fail
 rw [<- hW1]
 clear hW1
 go_wp2_with fail
 refine (iMovedAt n W1 gp go l.length cp P HR1.out HPD.out hl).mono ?_
 rintro e w2 ⟨rfl,hb2⟩
 have HB2:Hid (Below W.heap.size W w2):=HB.out.trans (hb2.mono HB.out.size)
 have hz2:NodeAt w2 (W.heap.size+1) 0 Nd.zero:=HZ.out.1.below hb2 HZ.out.1.lt
 have hf2:∀ j,w2.frozen? ⟨W.heap.size+1,j,none⟩=false:=fun j=>(hb2.frozen (p:=⟨W.heap.size+1,j,none⟩) HZ.out.1.lt).trans (HZ.out.2 j)
 have HZ2:Hid (NodeAt w2 (W.heap.size+1) 0 Nd.zero):=hz2
 obtain ⟨r0,r1,r2,r3,r4,r5⟩:=hz2
 simp only [Nat.zero_add] at r1 r2 r3 r4 r5
 have f0:=hf2 0
 have f1:=hf2 1
 have f2:=hf2 2
 have f3:=hf2 3
 have f4:=hf2 4
 have f5:=hf2 5
 have HE:Hid (Below W.heap.size W (setNode w2 (W.heap.size+1) 0 (mv P n))/\NodeAt (setNode w2 (W.heap.size+1) 0 (mv P n)) (W.heap.size+1) 0 (mv P n)):=by
  have k:=setNode_keptS (S:=fun b=>b=W.heap.size+1) (b:=W.heap.size+1) (p:=0) (n:=mv P n) rfl (Kept.refl (fun b=>b=W.heap.size+1) w2)
  exact ⟨HB2.out.trans (k.below (fun b (hb:b=_)=>by omega) HB2.out.size),setNode_same HZ2.out⟩
 generalize hy:mv P n=y at HE ⊢
 have HY:Hid (mv P n=y):=hy
 clear hy
 clear hb2 hf2 HB2 HZ2 HZ HR1 b0 b1 b2 b3 b4 b5 hc1 HB HPD
 go_wp2_with fail
 refine bodyPost_ret (v:=nv y) (res_moved (g:=W.heap.size+1) (n:=y) rfl HE.out.2) rfl ?_
 exact ⟨by rw [HY.out],HE.out.1⟩
end Pb10
end Go.Proofs.YthanhcobfehmnaaGreat
