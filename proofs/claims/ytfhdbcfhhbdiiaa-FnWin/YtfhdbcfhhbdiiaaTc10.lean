import Derived.Laws.IdiomCopy
import Derived.Test.YtfhdbcfhhbdiiaaPkXW25
namespace Go.Proofs.Ytfhdbcfhhbdiiaa
set_option maxRecDepth 100000
set_option maxHeartbeats 8000000
set_option linter.unusedVariables false
namespace Tc10
open Go.RowKit
open Ta0 Ta1 Tc2 Tc4 Tc5 Tc7 Tc8
open Nd0 (Kept set_other set_same lt_of_cell)
/-- What stands while a half is made. -/
structure WH (w:World) (n m n2 m2 g q g2:Nat) (F H:Nat->Bool) (W:World):Prop where
 lay:Lay W w.heap.size (.int .i64 (n:Int)) (.slice (some ⟨g,0,none⟩) m m)
 res:Lay W (w.heap.size+1) (.int .i64 0) (.slice none 0 0)
 new:Lay W q (.int .i64 (n2:Int)) (.slice (some ⟨g2,0,none⟩) m2 m2)
 wds:Wds W g m F
 wdk:Wdk W g2 m2 0 H
 bel:Below w.heap.size w W
theorem WH.below {w:World} {n m n2 m2 g q g2:Nat} {F H:Nat->Bool} {W W':World} (h:WH w n m n2 m2 g q g2 F H W) (b:Below W.heap.size W W'):WH w n m n2 m2 g q g2 F H W' :=
 ⟨h.lay.below b,h.res.below b,h.new.below b,h.wds.below b,h.wdk.below b,h.bel.trans (b.mono h.bel.size)⟩
theorem WH.drewN {w:World} {n m n2 m2 g q g2:Nat} {F H:Nat->Bool} {W:World} (h:WH w n m n2 m2 g q g2 F H W) (k:Nat):WH w n m n2 m2 g q g2 F H (W.drewN k) :=
 h.below (below_drewN (Below.refl _ _) k)
theorem WH.drew {w:World} {n m n2 m2 g q g2:Nat} {F H:Nat->Bool} {W:World} (h:WH w n m n2 m2 g q g2 F H W):WH w n m n2 m2 g q g2 F H W.drew:=h.drewN 1
/-- Behind the store of the one word. -/
theorem fin1 {w:World} {n n2 g q g2:Nat} {F H:Nat->Bool} {W:World} (h:WH w n 1 n2 1 g q g2 F H W) (hq:g2≠q) (h0:w.heap.size+2<=g2) (_:True\/True) :
 Lay (W.setCell ⟨g2,0,none⟩ (.int .u64 (wd H 0:Int))) (w.heap.size+1) (.int .i64 0) (.slice none 0 0)/\Lay (W.setCell ⟨g2,0,none⟩ (.int .u64 (wd H 0:Int))) q (.int .i64 (n2:Int)) (.slice (some ⟨g2,0,none⟩) 1 1)/\Wds (W.setCell ⟨g2,0,none⟩ (.int .u64 (wd H 0:Int))) g2 1 H/\Below w.heap.size w (W.setCell ⟨g2,0,none⟩ (.int .u64 (wd H 0:Int))):=by
 have K:=kset (S:=fun b=>b=g2) (Kept.refl (fun b=>b=g2) W) (b:=g2) (o:=0) rfl (.int .u64 (wd H 0:Int))
 exact ⟨h.res.kept K (by omega),h.new.kept K (fun e=>hq e.symm),(h.wdk.set _ rfl).done,h.bel.trans (K.below (fun b hb=>by omega) h.bel.size)⟩
theorem fin {w W:World} {g2 m2:Nat} {H:Nat->Bool} {a b:Value} (hr:Lay W (w.heap.size+1) a b) (hw:Wds W g2 m2 H) (hb:Below w.heap.size w W) (hne:w.heap.size+2<=g2) (x y:Value) :
 ∃ W',W'=(W.setCell ⟨w.heap.size+1,0,none⟩ x).setCell ⟨w.heap.size+1,1,none⟩ y/\Lay W' (w.heap.size+1) x y/\Wds W' g2 m2 H/\Below w.heap.size w W':=by
 have K:Kept (fun b=>b=w.heap.size+1) W ((W.setCell ⟨w.heap.size+1,0,none⟩ x).setCell ⟨w.heap.size+1,1,none⟩ y):=kset (S:=fun b=>b=w.heap.size+1) (kset (S:=fun b=>b=w.heap.size+1) (Kept.refl (fun b=>b=w.heap.size+1) W) rfl _) rfl _
 exact ⟨_,rfl,hr.put x y,hw.kept K (by omega),hb.trans (K.below (fun b hb=>by omega) hb.size)⟩
/-- Words as cells. -/
def wcs (m:Nat) (H:Nat->Bool):List Value:=(List.range m).map fun i=>.int .u64 (wd H i:Int)
theorem wcs_length (m:Nat) (H:Nat->Bool):(wcs m H).length=m:=by simp [wcs]
theorem wcs_get (m:Nat) (H:Nat->Bool) (i:Nat) (h:i < (wcs m H).length):(wcs m H)[i]=.int .u64 (wd H i:Int):=by simp [wcs]
theorem sizeU:(Try.prog.info? 107).map (·.size)=some 1:=by kernel_rfl
theorem copyW {w:World} {n m n2 m2 g q g2:Nat} {F H:Nat->Bool} {W:World} (h:WH w n m n2 m2 g q g2 F H W) (fr:Nat) (h1:fr+m2<=m) (h2:∀ i,i < m2->wd F (fr+i)=wd H i) :
 (Builtin.copy_ #[85,85] 3 #[.slice (some ⟨g2,0,none⟩) m2 m2,.slice (some ⟨g,fr,none⟩) m2 m2]).run Try.prog W.drew=.ok (.int .i64 (m2:Int)) (W.drew.setCells g2 0 (wcs m2 H)):=by
 have hd:WH w n m n2 m2 g q g2 F H W.drew:=h.below (below_drewN (Below.refl _ _) 1)
 have:=run_copy_cells (P:=Try.prog) W.drew 85 85 3 107 g2 0 m2 m2 ⟨g,fr,none⟩ m2 m2 (wcs m2 H) Try.underlying85 sizeU (by rw [wcs_length];simp)
  (fun j v hv=>by
   obtain ⟨hj,rfl⟩:=List.getElem?_eq_some_iff.1 hv
   have hj':j < m2:=by rwa [wcs_length] at hj
   rw [wcs_get,<- h2 j hj',Addr.add_lit]
   exact (hd.wds (fr+j) (by omega)).1)
  (fun j hj=>by
   rw [wcs_length] at hj
   obtain ⟨⟨v,hv,_⟩,_⟩:=hd.wdk j hj
   rw [Nat.zero_add,hv];rfl)
  (fun j hj=>by
   rw [wcs_length] at hj
   rw [Nat.zero_add];exact (hd.wdk j hj).2)
  (fun v hv=>by
   obtain ⟨i,_,rfl⟩:=List.mem_map.1 hv
   rfl)
 rw [wcs_length] at this
 exact this
theorem kset_all {b:Nat}:∀ (vs:List Value) (o:Nat) (w:World),Kept (fun i=>i=b) w (w.setCells b o vs)
 | [],_,w=>Kept.refl _ _
 | v :: r,o,w=>(kset (S:=fun i=>i=b) (Kept.refl (fun i=>i=b) w) rfl v).trans (kset_all r (o+1) _)
/-- Behind the copy of the words. -/
theorem fin2 {w:World} {n m n2 m2 g q g2:Nat} {F H:Nat->Bool} {W:World} (h0:WH w n m n2 m2 g q g2 F H W) (hq:g2≠q) (hs:w.heap.size+2<=g2) :
 Lay (W.drew.setCells g2 0 (wcs m2 H)) (w.heap.size+1) (.int .i64 0) (.slice none 0 0)/\Lay (W.drew.setCells g2 0 (wcs m2 H)) q (.int .i64 (n2:Int)) (.slice (some ⟨g2,0,none⟩) m2 m2)/\Wds (W.drew.setCells g2 0 (wcs m2 H)) g2 m2 H/\Below w.heap.size w (W.drew.setCells g2 0 (wcs m2 H)):=by
 have h:=h0.drew
 have K:=kset_all (b:=g2) (wcs m2 H) 0 W.drew
 refine ⟨h.res.kept K (by omega),h.new.kept K (fun e=>hq e.symm),fun i hi=>⟨?_,?_⟩,h.bel.trans (K.below (fun b hb=>by omega) h.bel.size)⟩
 ·have:=World.cell?_setCells_in g2 (wcs m2 H) 0 W.drew (fun j hj=>by
   rw [wcs_length] at hj
   obtain ⟨⟨v,hv,_⟩,_⟩:=h.wdk j hj
   rw [Nat.zero_add,hv];rfl) i (by rw [wcs_length];exact hi)
  rw [Nat.zero_add,wcs_get] at this
  exact this
 ·rw [World.frozen?_setCells];exact (h.wdk i hi).2
theorem nw_low {n:Nat} (h:n<=6):nw n=1:=by
 have h6:2 ^ n<=2 ^ 6:=Nat.pow_le_pow_right (by omega) h
 have:=Nat.one_le_two_pow (n:=n)
 unfold nw;omega
theorem nw_high {n:Nat} (h:6<=n):nw n=2 ^ n / 64/\nw (n+1)=2*nw n:=by
 have hd:2 ^ n=64*2 ^ (n - 6):=by rw [show (64:Nat)=2 ^ 6 from rfl,<- Nat.pow_add];congr 1;omega
 have hp:2 ^ (n+1)=2*2 ^ n:=by rw [Nat.pow_succ];omega
 unfold nw;omega
theorem half (n g b:Nat) (F:Nat->Bool) (w:World) (hn:n<=11) (hb:b<=1) (hW:Wds w g (nw (n+1)) (upto (2 ^ (n+1)) F)) :
 Calls Try.prog 78 #[pv (n+1) (nw (n+1)) g,.int .i64 (b:Int)] w fun e w'=>∃ g2,e=.returned (pv n (nw n) g2)/\w.heap.size<=g2/\Wds w' g2 (nw n) (upto (2 ^ n) fun p=>F (b*2 ^ n+p))/\Below w.heap.size w w':=by
 have hnw:=nw_le (n:=n) (by omega)
 have hnw2:=nw_le (n:=n+1) (by omega)
 have hgl:=hW.lt (by omega)
 have HW:Hid (Wds w g (nw (n+1)) (upto (2 ^ (n+1)) F)):=hW
 have HNP:Hid (∀ W,Calls Try.prog 83 #[.int .i64 (n:Int)] W fun e w'=>∃ g,e=.returned (pv n (nw n) g)/\W.heap.size<=g/\Wds w' g (nw n) (fun _=>false)/\Below W.heap.size W w'):=fun W=>newPacked n W (by omega)
 have HSI:Hid (∀ W,Calls Try.prog 81 #[pv (n+1) (nw (n+1)) g] W fun e w'=>e=.returned (.int .i64 ((2 ^ (n+1):Nat):Int))/\Below W.heap.size W w'):=fun W=>size (n+1) g W (by omega)
 have HS2:Hid (∀ W g,Calls Try.prog 81 #[pv n (nw n) g] W fun e w'=>e=.returned (.int .i64 ((2 ^ n:Nat):Int))/\Below W.heap.size W w'):=fun W g=>size n g W (by omega)
 have HIU:Hid (∀ W g,Calls Try.prog 88 #[pv n (nw n) g] W fun e w'=>e=.returned (.int .u64 ((use (2 ^ n):Nat):Int))/\Below W.heap.size W w'):=fun W g=>inUse n (nw n) g W (by omega) rfl
 have hp1:2 ^ (n+1)=2*2 ^ n:=by rw [Nat.pow_succ];omega
 have hpn:=p12 (n:=n) (by omega)
 by_cases h6:n < 6
 ·have HLO:Hid (wd (upto (2 ^ (n+1)) F) 0 / 2 ^ (b*2 ^ n) &&& use (2 ^ n)=wd (upto (2 ^ n) fun p=>F (b*2 ^ n+p)) 0):=wd_half_low F n b h6 hb
  have hP32:2 ^ n<=32:=Nat.pow_le_pow_right (by omega) (by omega:n<=5)
  have hm1:=nw_low (n:=n) (by omega)
  have hm2:=nw_low (n:=n+1) (by omega)
  have hus:use (2 ^ n) < 18446744073709551616:=by
   unfold use;split
   ·rename_i h;exact Nat.lt_of_le_of_lt (Nat.sub_le _ _) (Nat.lt_of_lt_of_le (Nat.pow_lt_pow_right (by omega) h) (by decide))
   ·decide
  clear hW
  generalize nw (n+1)=m2 at *
  generalize nw n=m1 at *
  subst hm1 hm2
  clear hnw hnw2
  generalize use (2 ^ n)=us at *
  generalize (upto (2 ^ n) fun p=>F (b*2 ^ n+p))=H at *
  generalize upto (2 ^ (n+1)) F=F at *
  generalize 2 ^ (n+1)=P2 at *
  generalize 2 ^ n=P at *
  have e1:((n+1:Nat):Int) - 1=(n:Int):=by omega
  have hi64:(P2:Int)<=64:=by omega
  generalize hN:n+1=N at *
  clear hN
  go_enter Try.func78,Try.ntmps78
  go_wp2_with fail
  refine (HNP.out _).mono ?_
  rintro e w1 ⟨g2,rfl,hg,hw1,hb1⟩
  have HX0:Lay w1 w.heap.size (.int .i64 (N:Int)) (.slice (some ⟨g,0,none⟩) 1 1):=(((Lay.made w _ _ _).alloc _).below hb1)
  have HR0:Lay w1 (w.heap.size+1) (.int .i64 0) (.slice none 0 0):=by
   have:=(Lay.made (w.alloc (.cells #[.int .i64 (N:Int),.slice (some ⟨g,0,none⟩) 1 1] 87)) (.int .i64 0) (.slice none 0 0) 87).below hb1
   simpa using this
  have hsz1:w.heap.size+2<=g2:=by simpa using hg
  have hg2l:=hw1.lt (by omega)
  have HBA:=((Below.refl w.heap.size w).alloc (Nat.le_refl _) (.cells #[.int .i64 (N:Int),.slice (some ⟨g,0,none⟩) 1 1] 87)).alloc (by simp) (.cells #[.int .i64 0,.slice none 0 0] 87)
  have HB1:Below w.heap.size w w1:=HBA.trans (hb1.mono (by simp;omega))
  have HS0:Hid (WH w N 1 n 1 g w1.heap.size g2 F H (w1.alloc (.cells #[.int .i64 (n:Int),.slice (some ⟨g2,0,none⟩) 1 1] 87))) :=
   ⟨HX0.alloc _,HR0.alloc _,Lay.made _ _ _ _,(HW.out.below HB1).kept (S:=fun _=>False) ((Kept.refl _ _).alloc _) (fun h=>h),(Wdk.start hw1 H).kept (S:=fun _=>False) ((Kept.refl _ _).alloc _) (fun h=>h),HB1.alloc HB1.size _⟩
  have hgw1:w.heap.size<=w1.heap.size:=HB1.size
  have hww:w.heap.size < w1.heap.size:=by omega
  obtain ⟨y0,y1,_,_⟩:=HX0
  clear hb1 hw1 hg HR0 HBA HB1
  go_wp2_with fail
  refine (HSI.out _).mono ?_
  rintro e w2 ⟨rfl,hb2⟩
  have HS:Hid (WH w N 1 n 1 g w1.heap.size g2 F H w2):=HS0.out.below hb2
  clear hb2 y0 y1
  obtain ⟨x0,x1,_,_⟩:=HS.out.lay
  obtain ⟨q0,q1,_,_⟩:=HS.out.new
  have v0:=(HS.out.wds 0 (by omega)).1
  have hvl:=wd_lt F 0
  have HWV:Hid (∀ W,WH w N 1 n 1 g w1.heap.size g2 F H W->W.cell? ⟨g,0,none⟩=some (.int .u64 (wd F 0:Int))):=fun W h=>(h.wds 0 (by omega)).1
  generalize wd F 0=x at *
  have wP:IntKind.i64.wrap (P:Int)=(P:Int):=by rw [IntKind.wrap_i64]<;>omega
  have w0:IntKind.i64.wrap (0:Int)=0:=by decide
  have HV0:Hid (bits .and .u64 (x:Int) (us:Int)=(wd H 0:Int))\/b≠0:=by
   by_cases h:b=0
   ·refine .inl ?_
    show _=_
    rw [bits_and_u64_nat _ _ hvl hus,<- HLO.out,h,Nat.zero_mul,Nat.pow_zero,Nat.div_one]
   ·exact .inr h
  have HV1:Hid (bits .and .u64 ((x:Int) / (2:Int) ^ P) (us:Int)=(wd H 0:Int))\/b≠1:=by
   by_cases h:b=1
   ·refine .inl ?_
    show _=_
    rw [pow_div,bits_and_u64_nat _ _ (Nat.lt_of_le_of_lt (Nat.div_le_self _ _) hvl) hus,<- HLO.out,h,Nat.one_mul]
   ·exact .inr h
  rcases (by omega:b=0\/b=1) with rfl|rfl
  ·obtain HV0:Hid (bits .and .u64 (x:Int) (us:Int)=(wd H 0:Int)):=by
    rcases HV0 with h|h
    ·exact h
    ·omega
   clear HV1 HLO
   go_wp2_with fail
   go_region_held3 (fun w'=>w'.cell? ⟨w1.heap.size,0,none⟩=some (.int .i64 (n:Int))/\w'.cell? ⟨w1.heap.size,1,none⟩=some (.slice (some ⟨g2,0,none⟩) 1 1)/\w'.cell? ⟨w.heap.size,1,none⟩=some (.slice (some ⟨g,0,none⟩) 1 1)/\w'.cell? ⟨g,0,none⟩=some (.int .u64 (x:Int))) ((first|exact ⟨q0,q1,x1,v0⟩|exact ⟨hS3.new.c0,hS3.new.c1,hS3.lay.c1,HWV.out _ hS3⟩|exact ⟨sother hS3.new.c0 (by omega),sother hS3.new.c1 (by omega),sother hS3.lay.c1 (by omega),sother (HWV.out _ hS3) (by omega)⟩)) ((first|(go_at_call 81;refine (HS2.out _ g2).mono ?_;rintro e w3 ⟨rfl,hb3⟩;(first|have hS3:=hS3.below hb3|have hS3:=HS.out.drew.below hb3);obtain ⟨⟨vv,vc,_⟩,vf⟩:=hS3.wdk 0 (by omega))|(go_at_call 88;refine (HIU.out _ g2).mono ?_;rintro e w3 ⟨rfl,hb3⟩;(first|have hS3:=hS3.below hb3|have hS3:=HS.out.drew.below hb3);obtain ⟨⟨vv,vc,_⟩,vf⟩:=hS3.wdk 0 (by omega))))
   rw [HV0.out]
   obtain ⟨f1,f2,f3,f4⟩:=fin1 hS3 (by omega) hsz1 (.inl trivial)
   have HH:=fin f1 f3 f4 (by omega) (.int .i64 (n:Int)) (.slice (some ⟨g2,0,none⟩) 1 1)
   obtain ⟨r0,r1,r2,r3⟩:=f1
   obtain ⟨q0,q1,_,_⟩:=f2
   clear f3 f4 hS3
   have HHd:Hid _:=HH
   clear HH
   generalize (w3.setCell ⟨g2,0,none⟩ (.int .u64 (wd H 0:Int)))=W4 at *
   go_wp2
   obtain ⟨W,hW,hz,hwz,hbz⟩:=HHd.out
   rw [<- hW]
   obtain ⟨z0,z1,_,_⟩:=hz
   exact bodyPost_ret (v:=pv n 1 g2) (by simp [results,Try.results78,go_sem,z0,z1]) rfl ⟨g2,rfl,by omega,hwz,hbz⟩
  ·obtain HV1:Hid (bits .and .u64 ((x:Int) / (2:Int) ^ P) (us:Int)=(wd H 0:Int)):=by
    rcases HV1 with h|h
    ·exact h
    ·omega
   clear HV0 HLO
   go_wp2_with fail
   go_region_held3 (fun w'=>w'.cell? ⟨w1.heap.size,0,none⟩=some (.int .i64 (n:Int))/\w'.cell? ⟨w1.heap.size,1,none⟩=some (.slice (some ⟨g2,0,none⟩) 1 1)/\w'.cell? ⟨w.heap.size,1,none⟩=some (.slice (some ⟨g,0,none⟩) 1 1)/\w'.cell? ⟨g,0,none⟩=some (.int .u64 (x:Int))) ((first|exact ⟨q0,q1,x1,v0⟩|exact ⟨hS3.new.c0,hS3.new.c1,hS3.lay.c1,HWV.out _ hS3⟩|exact ⟨sother hS3.new.c0 (by omega),sother hS3.new.c1 (by omega),sother hS3.lay.c1 (by omega),sother (HWV.out _ hS3) (by omega)⟩)) ((first|(go_at_call 81;refine (HS2.out _ g2).mono ?_;rintro e w3 ⟨rfl,hb3⟩;(first|have hS3:=hS3.below hb3|have hS3:=HS.out.drew.below hb3);obtain ⟨⟨vv,vc,_⟩,vf⟩:=hS3.wdk 0 (by omega))|(go_at_call 88;refine (HIU.out _ g2).mono ?_;rintro e w3 ⟨rfl,hb3⟩;(first|have hS3:=hS3.below hb3|have hS3:=HS.out.drew.below hb3);obtain ⟨⟨vv,vc,_⟩,vf⟩:=hS3.wdk 0 (by omega))))
   rw [HV1.out]
   obtain ⟨f1,f2,f3,f4⟩:=fin1 hS3 (by omega) hsz1 (.inl trivial)
   have HH:=fin f1 f3 f4 (by omega) (.int .i64 (n:Int)) (.slice (some ⟨g2,0,none⟩) 1 1)
   obtain ⟨r0,r1,r2,r3⟩:=f1
   obtain ⟨q0,q1,_,_⟩:=f2
   clear f3 f4 hS3
   have HHd:Hid _:=HH
   clear HH
   generalize (w3.setCell ⟨g2,0,none⟩ (.int .u64 (wd H 0:Int)))=W4 at *
   go_wp2
   obtain ⟨W,hW,hz,hwz,hbz⟩:=HHd.out
   rw [<- hW]
   obtain ⟨z0,z1,_,_⟩:=hz
   exact bodyPost_ret (v:=pv n 1 g2) (by simp [results,Try.results78,go_sem,z0,z1]) rfl ⟨g2,rfl,by omega,hwz,hbz⟩
 ·obtain ⟨hm1,hm2⟩:=nw_high (n:=n) (by omega)
  have HHI:Hid (∀ i,i < nw n->wd (upto (2 ^ (n+1)) F) (b*nw n+i)=wd (upto (2 ^ n) fun p=>F (b*2 ^ n+p)) i):=fun i hi=>by
   rw [hm1] at hi ⊢
   exact wd_half_high F n b i (by omega) hb hi
  have h64:64<=2 ^ n:=Nat.pow_le_pow_right (n:=2) (by omega) (by omega:6<=n)
  clear hW hm1
  generalize nw (n+1)=M at *
  generalize nw n=m at *
  generalize (upto (2 ^ n) fun p=>F (b*2 ^ n+p))=H at *
  generalize upto (2 ^ (n+1)) F=F at *
  generalize 2 ^ (n+1)=P2 at *
  generalize 2 ^ n=P at *
  have HM:Hid (M=2*m):=hm2
  clear hm2
  have e1:((n+1:Nat):Int) - 1=(n:Int):=by omega
  have hi64:¬ (P2:Int)<=64:=by omega
  generalize hN:n+1=N at *
  clear hN
  go_enter Try.func78,Try.ntmps78
  go_wp2_with fail
  refine (HNP.out _).mono ?_
  rintro e w1 ⟨g2,rfl,hg,hw1,hb1⟩
  have HX0:Lay w1 w.heap.size (.int .i64 (N:Int)) (.slice (some ⟨g,0,none⟩) M M):=(((Lay.made w _ _ _).alloc _).below hb1)
  have HR0:Lay w1 (w.heap.size+1) (.int .i64 0) (.slice none 0 0):=by
   have:=(Lay.made (w.alloc (.cells #[.int .i64 (N:Int),.slice (some ⟨g,0,none⟩) M M] 87)) (.int .i64 0) (.slice none 0 0) 87).below hb1
   simpa using this
  have hsz1:w.heap.size+2<=g2:=by simpa using hg
  have hg2l:=hw1.lt (by omega)
  have HBA:=((Below.refl w.heap.size w).alloc (Nat.le_refl _) (.cells #[.int .i64 (N:Int),.slice (some ⟨g,0,none⟩) M M] 87)).alloc (by simp) (.cells #[.int .i64 0,.slice none 0 0] 87)
  have HB1:Below w.heap.size w w1:=HBA.trans (hb1.mono (by simp;omega))
  have HS0:Hid (WH w N M n m g w1.heap.size g2 F H (w1.alloc (.cells #[.int .i64 (n:Int),.slice (some ⟨g2,0,none⟩) m m] 87))) :=
   ⟨HX0.alloc _,HR0.alloc _,Lay.made _ _ _ _,(HW.out.below HB1).kept (S:=fun _=>False) ((Kept.refl _ _).alloc _) (fun h=>h),(Wdk.start hw1 H).kept (S:=fun _=>False) ((Kept.refl _ _).alloc _) (fun h=>h),HB1.alloc HB1.size _⟩
  have hgw1:w.heap.size<=w1.heap.size:=HB1.size
  have hww:w.heap.size < w1.heap.size:=by omega
  obtain ⟨y0,y1,_,_⟩:=HX0
  clear hb1 hw1 hg HR0 HBA HB1
  go_wp2_with fail
  refine (HSI.out _).mono ?_
  rintro e w2 ⟨rfl,hb2⟩
  have HS:Hid (WH w N M n m g w1.heap.size g2 F H w2):=HS0.out.below hb2
  clear hb2 y0 y1
  obtain ⟨x0,x1,_,_⟩:=HS.out.lay
  obtain ⟨q0,q1,_,_⟩:=HS.out.new
  have HPP:Hid (P2=2*P):=hp1
  clear hp1
  have HCP:Hid (∀ W,WH w N M n m g w1.heap.size g2 F H W->∀ fr,fr+m<=M->(∀ i,i < m->wd F (fr+i)=wd H i)->(Builtin.copy_ #[85,85] 3 #[.slice (some ⟨g2,0,none⟩) m m,.slice (some ⟨g,fr,none⟩) m m]).run Try.prog W.drew=.ok (.int .i64 (m:Int)) (W.drew.setCells g2 0 (wcs m H))):=fun W h fr h1 h2=>copyW h fr h1 h2
  rcases (by omega:b=0\/b=1) with rfl|rfl
  ·have hmM:(m:Int)<=(M:Int):=by have:=HM.out;omega
   go_wp2_with fail
   go_quiet (fail)
   go_wp2_with fail
   have HS5:Hid (WH w N M n m g w1.heap.size g2 F H (w2.drewN nq)):=HS.out.drewN nq
   generalize w2.drewN nq=w5 at *
   clear x0 x1 q0 q1
   obtain ⟨x0,x1,_,_⟩:=HS5.out.lay
   obtain ⟨q0,q1,_,_⟩:=HS5.out.new
   have hcp:=HCP.out w5 HS5.out 0 (by omega) (by intro i hi;have:=HHI.out i hi;rw [Nat.zero_mul] at this;exact this)
   go_region
   obtain ⟨f1,f2,f3,f4⟩:=fin2 HS5.out (by omega) hsz1
   have HH:=fin f1 f3 f4 (by omega) (.int .i64 (n:Int)) (.slice (some ⟨g2,0,none⟩) m m)
   obtain ⟨r0,r1,r2,r3⟩:=f1
   obtain ⟨q0,q1,_,_⟩:=f2
   clear f3 f4 hcp
   have HHd:Hid _:=HH
   clear HH
   generalize (w5.drew.setCells g2 0 (wcs m H))=W4 at *
   go_wp2
   obtain ⟨W,hW,hz,hwz,hbz⟩:=HHd.out
   rw [<- hW]
   obtain ⟨z0,z1,_,_⟩:=hz
   exact bodyPost_ret (v:=pv n m g2) (by simp [results,Try.results78,go_sem,z0,z1]) rfl ⟨g2,rfl,by omega,hwz,hbz⟩
  ·have hmM:2*(m:Int)<=(M:Int):=by have:=HM.out;omega
   have hmm:¬ 2*(m:Int) < (m:Int):=by omega
   have hmt:2*m - m=m:=by omega
   go_wp2_with fail
   go_quiet (fail)
   go_wp2_with fail
   have HS5:Hid (WH w N M n m g w1.heap.size g2 F H (w2.drewN nq)):=HS.out.drewN nq
   generalize w2.drewN nq=w5 at *
   clear x0 x1 q0 q1
   obtain ⟨x0,x1,_,_⟩:=HS5.out.lay
   obtain ⟨q0,q1,_,_⟩:=HS5.out.new
   have hcp:=HCP.out w5 HS5.out m (by have:=HM.out;omega) (by intro i hi;have:=HHI.out i hi;rw [Nat.one_mul] at this;exact this)
   go_region
   obtain ⟨f1,f2,f3,f4⟩:=fin2 HS5.out (by omega) hsz1
   have HH:=fin f1 f3 f4 (by omega) (.int .i64 (n:Int)) (.slice (some ⟨g2,0,none⟩) m m)
   obtain ⟨r0,r1,r2,r3⟩:=f1
   obtain ⟨q0,q1,_,_⟩:=f2
   clear f3 f4 hcp
   have HHd:Hid _:=HH
   clear HH
   generalize (w5.drew.setCells g2 0 (wcs m H))=W4 at *
   go_wp2
   obtain ⟨W,hW,hz,hwz,hbz⟩:=HHd.out
   rw [<- hW]
   obtain ⟨z0,z1,_,_⟩:=hz
   exact bodyPost_ret (v:=pv n m g2) (by simp [results,Try.results78,go_sem,z0,z1]) rfl ⟨g2,rfl,by omega,hwz,hbz⟩
end Tc10
end Go.Proofs.Ytfhdbcfhhbdiiaa
