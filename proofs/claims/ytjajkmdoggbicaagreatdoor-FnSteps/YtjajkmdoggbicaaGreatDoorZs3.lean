import Derived.Deep.RegionHeld
import Derived.Test.YtjajkmdoggbicaaGreatDoorZs2
namespace Go.Proofs.YtjajkmdoggbicaaGreatDoor
set_option maxRecDepth 100000
set_option maxHeartbeats 8000000
set_option linter.unusedVariables false
namespace Zs3
open Go.RowKit
open Nd0 (Kept Ints lt_of_cell set_same set_other)
open Tc2 (tv)
open Ss0 (bs bs_size bs_app ret_str)
open Ss1 (tl tl_bs bs_tl)
open Tk0 (TabK keyL)
open Mm0 (Mc Mb Mr Mok mval)
open Qc0 (Sn SnAt Sns)
open Zs0 Zs1 Zs2 Zt0
/-- A block of three cells. -/
structure L3 (W:World) (b:Nat) (x y z:Value):Prop where
 c0:W.cell? ⟨b,0,none⟩=some x
 c1:W.cell? ⟨b,1,none⟩=some y
 c2:W.cell? ⟨b,2,none⟩=some z
 f0:W.frozen? ⟨b,0,none⟩=false
 f1:W.frozen? ⟨b,1,none⟩=false
 f2:W.frozen? ⟨b,2,none⟩=false
theorem L3.lt {W:World} {b:Nat} {x y z:Value} (h:L3 W b x y z):b < W.heap.size:=lt_of_cell h.c0
theorem L3.kept {W W':World} {b:Nat} {x y z:Value} (h:L3 W b x y z) {S:Nat->Prop} (k:Kept S W W') (hs:¬ S b):L3 W' b x y z :=
 ⟨by rw [k.cell (p:=⟨b,0,none⟩) h.lt hs];exact h.c0,by rw [k.cell (p:=⟨b,1,none⟩) h.lt hs];exact h.c1,by rw [k.cell (p:=⟨b,2,none⟩) h.lt hs];exact h.c2,by rw [k.frozen (p:=⟨b,0,none⟩) h.lt hs];exact h.f0,by rw [k.frozen (p:=⟨b,1,none⟩) h.lt hs];exact h.f1,by rw [k.frozen (p:=⟨b,2,none⟩) h.lt hs];exact h.f2⟩
theorem L3.below {W W':World} {b:Nat} {x y z:Value} (h:L3 W b x y z) (k:Below W.heap.size W W'):L3 W' b x y z:=h.kept (S:=fun _=>False) (Kept.ofBelow k) (fun h=>h)
theorem L3.made (W:World) (x y z:Value) (T:Nat):L3 (W.alloc (.cells #[x,y,z] T)) W.heap.size x y z:=⟨by simp,by simp,by simp,by simp,by simp,by simp⟩
theorem L3.alloc {W:World} {b:Nat} {x y z:Value} (h:L3 W b x y z) (o:Obj):L3 (W.alloc o) b x y z:=h.kept (S:=fun _=>False) ((Kept.refl _ _).alloc _) (fun h=>h)
theorem fin3 {w W:World} {r:Nat} {a b c:Value} (hr:L3 W r a b c) (hb:Below w.heap.size w W) (hw:w.heap.size<=r) (x y z:Value) :
 ∃ W',W'=((W.setCell ⟨r,0,none⟩ x).setCell ⟨r,1,none⟩ y).setCell ⟨r,2,none⟩ z/\L3 W' r x y z/\Below w.heap.size w W':=by
 have K:Kept (fun b=>b=r) W (((W.setCell ⟨r,0,none⟩ x).setCell ⟨r,1,none⟩ y).setCell ⟨r,2,none⟩ z):=(((Kept.refl (fun k=>k=r) W).setCell (p:=⟨r,0,none⟩) rfl _).setCell (p:=⟨r,1,none⟩) rfl _).setCell (p:=⟨r,2,none⟩) rfl _
 refine ⟨_,rfl,⟨?_,?_,?_,?_,?_,?_⟩,hb.trans (K.below (fun b hb=>by omega) hb.size)⟩
 ·rw [set_other (by simp),set_other (by simp)];exact set_same hr.c0
 ·rw [set_other (by simp)];exact set_same (by rw [set_other (by simp)];exact hr.c1)
 ·exact set_same (by rw [set_other (by simp),set_other (by simp)];exact hr.c2)
 ·rw [World.frozen?_setCell,World.frozen?_setCell,World.frozen?_setCell];exact hr.f0
 ·rw [World.frozen?_setCell,World.frozen?_setCell,World.frozen?_setCell];exact hr.f1
 ·rw [World.frozen?_setCell,World.frozen?_setCell,World.frozen?_setCell];exact hr.f2
theorem c7 (m:Mc) (ra va ma:Option Addr) (rc vc mc:Nat) (w:World) (hR:Mr w m ra va ma) (hO:Mok m) (hK:∀ x∈m.memo,x.k.size<=1048576) (hT:TabZ w) (k bx:Nat) (hk:k < m.memo.length) (hbx:w.cell? ⟨bx,0,none⟩=some (.int .i64 (k:Int))) :
 Calls Tryz.prog 145 #[mval m ra va ma rc vc mc,.pointer (some ⟨bx,0,none⟩)] w fun e w'=>e=.returned (.string (bs (bod m (k+7))))/\Below w.heap.size w w':=by
 obtain ⟨X0,hX0⟩:∃ X,X=w.alloc (.cells #[.slice ra m.row.length rc,.int .i64 m.N,.string m.S,.int .i64 m.room,.slice va m.vals.length vc,.int .i64 m.ret,.bool m.over,.int .i64 m.steps,.int .i64 m.looks,.int .i64 m.hits,.slice ma m.memo.length mc] 30):=⟨_,rfl⟩
 have b0:Below w.heap.size w X0:=by rw [hX0];exact (Below.refl _ _).alloc (Nat.le_refl _) _
 have HB:Hid (Below w.heap.size w X0):=b0
 have HM:Hid (Mb X0 w.heap.size m ra va ma rc vc mc):=by rw [hX0];exact Mb.made _ _ _ _ _ _ _ _ _
 have hE:w.alloc (.cells #[.slice ra m.row.length rc,.int .i64 m.N,.string m.S,.int .i64 m.room,.slice va m.vals.length vc,.int .i64 m.ret,.bool m.over,.int .i64 m.steps,.int .i64 m.looks,.int .i64 m.hits,.slice ma m.memo.length mc] 30)=X0:=hX0.symm
 have HT:Hid (TabZ X0):=hT.below b0
 have HR:Hid (Mr X0 m ra va ma):=hR.below b0
 have HO:Hid (Mok m):=hO
 have hbc:X0.cell? ⟨bx,0,none⟩=some (.int .i64 (k:Int)):=by rw [b0.cell (p:=⟨bx,0,none⟩) (lt_of_cell hbx)];exact hbx
 have hbl:bx < X0.heap.size:=lt_of_cell hbc
 obtain ⟨mb,mo,hma,hsn⟩:∃ b o,ma=some ⟨b,o,none⟩/\SnAt X0 b (o+k*2) m.memo[k]:=by
  rcases HR.out.memo.2 with e|⟨b,o,e,hc⟩
  ·omega
  ·exact ⟨b,o,e,hc k hk⟩
 have HE:Hid (m.memo[k].k++⟨#[32]⟩++bs (Lib.itoa m.memo[k].r)=bs (bod m (k+7))):=by
  show _=bs (match m.memo[k]? with
   | some x=>tl x.k++(32 :: Lib.itoa x.r)
   | none=>[])
  rw [List.getElem?_eq_getElem hk]
  show _=bs (tl m.memo[k].k++(32 :: Lib.itoa m.memo[k].r))
  rw [show (⟨#[32]⟩:ByteArray)=bs [32] from rfl]
  conv=>lhs;rw [<- bs_tl m.memo[k].k]
  rw [bs_app,bs_app]
  simp
 have hks:m.memo[k].k.size<=1048576:=hK _ (List.getElem_mem hk)
 have hrs:=HO.out.seen _ (List.getElem_mem hk)
 have HNU:Hid (∀ W,TabZ W->Calls Tryz.prog 132 #[.slice (some ⟨W.heap.size,0,none⟩) 1 1] (W.alloc (.cells #[.int .i64 m.memo[k].r] 3)) fun e w'=>e=.returned (.string (bs (Lib.itoa m.memo[k].r)))/\Below (W.alloc (.cells #[.int .i64 m.memo[k].r] 3)).heap.size (W.alloc (.cells #[.int .i64 m.memo[k].r] 3)) w'):=fun W hW=>by
  have bb:Below W.heap.size W (W.alloc (.cells #[.int .i64 m.memo[k].r] 3)):=(Below.refl _ _).alloc (Nat.le_refl _) _
  have h:=iNumbers (W.alloc (.cells #[.int .i64 m.memo[k].r] 3)) (some ⟨W.heap.size,0,none⟩) [m.memo[k].r] 1 (lit_ints W [m.memo[k].r] (by simp) 3) (by simp) (by intro n hn;simp at hn;subst hn;omega) (hW.below bb).pow
  refine h.mono ?_
  rintro e w' ⟨rfl,hb⟩
  exact ⟨ret_str (congrArg bs (Lib.join_one _ _)),hb⟩
 have hil:(Lib.itoa m.memo[k].r).length<=10:=itoa_len (by omega) (by omega)
 obtain ⟨hk0,hk1⟩:=hsn
 obtain ⟨IS,hIS⟩:∃ S,S=bs (Lib.itoa m.memo[k].r):=⟨_,rfl⟩
 have hisz:IS.size<=10:=by rw [hIS,bs_size];exact hil
 rw [<- hIS] at HE HNU
 clear hIS hil hrs
 obtain ⟨xk,hxk⟩:∃ x,x=m.memo[k].k:=⟨_,rfl⟩
 obtain ⟨xr,hxr⟩:∃ x,x=m.memo[k].r:=⟨_,rfl⟩
 rw [<- hxk] at HE hk0 hks
 rw [<- hxr] at hk1 HNU
 clear hxk hxr
 subst hma
 have hml:mb < X0.heap.size:=lt_of_cell hk0
 have hkz:(k:Int) < (m.memo.length:Int):=by omega
 have hs1:¬ 9223372036854775807 < xk.size+1:=by omega
 have hs2:¬ 9223372036854775807 < (xk++⟨#[32]⟩).size+IS.size:=by rw [ByteArray.size_append];show ¬ 9223372036854775807 < xk.size+1+IS.size;omega
 have hs3:¬ 9223372036854775807 < xk.size+1+IS.size:=by omega
 have HTD:Hid (TabZ X0.drew):=HT.out.below (Below.refl _ _).drew
 clear hX0 b0 hT hR hO hK hbx hk HR
 go_enter Tryz.func145,Tryz.ntmps145
 go_upto_region 1 with fail
 clear hE
 obtain ⟨m0,m1,m2,m3,m4,m5,m6,m7,m8,m9,m10⟩:=HM.out
 have hm:=HM.out.lt
 refine wp_region_held_drew (S:=(fun v=>Below X0.heap.size X0 v)) (by kernel_rfl) ((Below.refl _ _).drew) (fun hHeld=>?_)
 refine wpAnyH_take (i:=0) (v:=?_) rfl (by kernel_rfl) (by kernel_rfl) (by kernel_rfl) (fun _ _ _ h=>h) (Or.inl ⟨by rfl,?_⟩) hHeld ?_
 rotate_left
 ·(intro v9 hS9;have z10:v9.cell? ⟨w.heap.size,10,none⟩=some (.slice (some ⟨mb,mo,none⟩) m.memo.length mc):=(by rw [hS9.cell (p:=⟨w.heap.size,10,none⟩) hm];exact m10);have zb:v9.cell? ⟨bx,0,none⟩=some (.int .i64 (k:Int)):=(by rw [hS9.cell (p:=⟨bx,0,none⟩) hbl];exact hbc);have zk:v9.cell? ⟨mb,mo+k*2,none⟩=some (.string xk):=(by rw [hS9.cell (p:=⟨mb,mo+k*2,none⟩) hml];exact hk0);have zr:v9.cell? ⟨mb,mo+k*2+1,none⟩=some (.int .i64 xr):=(by rw [hS9.cell (p:=⟨mb,mo+k*2+1,none⟩) hml];exact hk1);clear hS9;go_simp;try with_reducible rfl)
 try simp only [Act.put,List.setIfInBounds_toArray,List.set_cons_zero,List.set_cons_succ,List.getElem_toArray,List.getElem_cons_zero]
 refine wpAnyH_take (i:=1) (v:=?_) rfl (by kernel_rfl) (by kernel_rfl) (by kernel_rfl) (fun _ _ _ h=>h) (Or.inl ⟨by rfl,?_⟩) hHeld ?_
 rotate_left
 ·(intro v9 hS9;have z10:v9.cell? ⟨w.heap.size,10,none⟩=some (.slice (some ⟨mb,mo,none⟩) m.memo.length mc):=(by rw [hS9.cell (p:=⟨w.heap.size,10,none⟩) hm];exact m10);have zb:v9.cell? ⟨bx,0,none⟩=some (.int .i64 (k:Int)):=(by rw [hS9.cell (p:=⟨bx,0,none⟩) hbl];exact hbc);have zk:v9.cell? ⟨mb,mo+k*2,none⟩=some (.string xk):=(by rw [hS9.cell (p:=⟨mb,mo+k*2,none⟩) hml];exact hk0);have zr:v9.cell? ⟨mb,mo+k*2+1,none⟩=some (.int .i64 xr):=(by rw [hS9.cell (p:=⟨mb,mo+k*2+1,none⟩) hml];exact hk1);clear hS9;go_simp;try with_reducible rfl)
 try simp only [Act.put,List.setIfInBounds_toArray,List.set_cons_zero,List.set_cons_succ,List.getElem_toArray,List.getElem_cons_zero,List.getElem_cons_succ]
 refine wpAnyH_take (i:=2) (v:=?_) rfl (by kernel_rfl) (by kernel_rfl) (by kernel_rfl) (fun _ _ _ h=>h) (Or.inl ⟨by rfl,?_⟩) hHeld ?_
 rotate_left
 ·(intro v9 hS9;have z10:v9.cell? ⟨w.heap.size,10,none⟩=some (.slice (some ⟨mb,mo,none⟩) m.memo.length mc):=(by rw [hS9.cell (p:=⟨w.heap.size,10,none⟩) hm];exact m10);have zb:v9.cell? ⟨bx,0,none⟩=some (.int .i64 (k:Int)):=(by rw [hS9.cell (p:=⟨bx,0,none⟩) hbl];exact hbc);have zk:v9.cell? ⟨mb,mo+k*2,none⟩=some (.string xk):=(by rw [hS9.cell (p:=⟨mb,mo+k*2,none⟩) hml];exact hk0);have zr:v9.cell? ⟨mb,mo+k*2+1,none⟩=some (.int .i64 xr):=(by rw [hS9.cell (p:=⟨mb,mo+k*2+1,none⟩) hml];exact hk1);clear hS9;go_simp;try with_reducible rfl)
 try simp only [Act.put,List.setIfInBounds_toArray,List.set_cons_zero,List.set_cons_succ,List.getElem_toArray,List.getElem_cons_zero,List.getElem_cons_succ]
 refine wpAnyH_take (i:=3) (v:=?_) rfl (by kernel_rfl) (by kernel_rfl) (by kernel_rfl) (fun _ _ _ h=>h) (Or.inl ⟨by rfl,?_⟩) hHeld ?_
 rotate_left
 ·(intro v9 hS9;have z10:v9.cell? ⟨w.heap.size,10,none⟩=some (.slice (some ⟨mb,mo,none⟩) m.memo.length mc):=(by rw [hS9.cell (p:=⟨w.heap.size,10,none⟩) hm];exact m10);have zb:v9.cell? ⟨bx,0,none⟩=some (.int .i64 (k:Int)):=(by rw [hS9.cell (p:=⟨bx,0,none⟩) hbl];exact hbc);have zk:v9.cell? ⟨mb,mo+k*2,none⟩=some (.string xk):=(by rw [hS9.cell (p:=⟨mb,mo+k*2,none⟩) hml];exact hk0);have zr:v9.cell? ⟨mb,mo+k*2+1,none⟩=some (.int .i64 xr):=(by rw [hS9.cell (p:=⟨mb,mo+k*2+1,none⟩) hml];exact hk1);clear hS9;go_simp;try with_reducible rfl)
 try simp only [Act.put,List.setIfInBounds_toArray,List.set_cons_zero,List.set_cons_succ,List.getElem_toArray,List.getElem_cons_zero,List.getElem_cons_succ]
 refine wpAnyH_take (i:=4) (v:=?_) rfl (by kernel_rfl) (by kernel_rfl) (by kernel_rfl) (fun _ _ _ h=>h) (Or.inl ⟨by rfl,?_⟩) hHeld ?_
 rotate_left
 ·(intro v9 hS9;have z10:v9.cell? ⟨w.heap.size,10,none⟩=some (.slice (some ⟨mb,mo,none⟩) m.memo.length mc):=(by rw [hS9.cell (p:=⟨w.heap.size,10,none⟩) hm];exact m10);have zb:v9.cell? ⟨bx,0,none⟩=some (.int .i64 (k:Int)):=(by rw [hS9.cell (p:=⟨bx,0,none⟩) hbl];exact hbc);have zk:v9.cell? ⟨mb,mo+k*2,none⟩=some (.string xk):=(by rw [hS9.cell (p:=⟨mb,mo+k*2,none⟩) hml];exact hk0);have zr:v9.cell? ⟨mb,mo+k*2+1,none⟩=some (.int .i64 xr):=(by rw [hS9.cell (p:=⟨mb,mo+k*2+1,none⟩) hml];exact hk1);clear hS9;go_simp;try with_reducible rfl)
 try simp only [Act.put,List.setIfInBounds_toArray,List.set_cons_zero,List.set_cons_succ,List.getElem_toArray,List.getElem_cons_zero,List.getElem_cons_succ]
 refine wpAnyH_take (i:=5) (v:=?_) rfl (by kernel_rfl) (by kernel_rfl) (by kernel_rfl) (fun _ _ _ h=>h) (Or.inl ⟨by rfl,?_⟩) hHeld ?_
 rotate_left
 ·(intro v9 hS9;have z10:v9.cell? ⟨w.heap.size,10,none⟩=some (.slice (some ⟨mb,mo,none⟩) m.memo.length mc):=(by rw [hS9.cell (p:=⟨w.heap.size,10,none⟩) hm];exact m10);have zb:v9.cell? ⟨bx,0,none⟩=some (.int .i64 (k:Int)):=(by rw [hS9.cell (p:=⟨bx,0,none⟩) hbl];exact hbc);have zk:v9.cell? ⟨mb,mo+k*2,none⟩=some (.string xk):=(by rw [hS9.cell (p:=⟨mb,mo+k*2,none⟩) hml];exact hk0);have zr:v9.cell? ⟨mb,mo+k*2+1,none⟩=some (.int .i64 xr):=(by rw [hS9.cell (p:=⟨mb,mo+k*2+1,none⟩) hml];exact hk1);clear hS9;go_simp;try with_reducible rfl)
 try simp only [Act.put,List.setIfInBounds_toArray,List.set_cons_zero,List.set_cons_succ,List.getElem_toArray,List.getElem_cons_zero,List.getElem_cons_succ]
 refine wpAnyH_take (i:=6) (v:=?_) rfl (by kernel_rfl) (by kernel_rfl) (by kernel_rfl) (fun _ _ _ h=>h) (Or.inl ⟨by rfl,?_⟩) hHeld ?_
 rotate_left
 ·(intro v9 hS9;have z10:v9.cell? ⟨w.heap.size,10,none⟩=some (.slice (some ⟨mb,mo,none⟩) m.memo.length mc):=(by rw [hS9.cell (p:=⟨w.heap.size,10,none⟩) hm];exact m10);have zb:v9.cell? ⟨bx,0,none⟩=some (.int .i64 (k:Int)):=(by rw [hS9.cell (p:=⟨bx,0,none⟩) hbl];exact hbc);have zk:v9.cell? ⟨mb,mo+k*2,none⟩=some (.string xk):=(by rw [hS9.cell (p:=⟨mb,mo+k*2,none⟩) hml];exact hk0);have zr:v9.cell? ⟨mb,mo+k*2+1,none⟩=some (.int .i64 xr):=(by rw [hS9.cell (p:=⟨mb,mo+k*2+1,none⟩) hml];exact hk1);clear hS9;go_simp;try with_reducible rfl)
 try simp only [Act.put,List.setIfInBounds_toArray,List.set_cons_zero,List.set_cons_succ,List.getElem_toArray,List.getElem_cons_zero,List.getElem_cons_succ]
 refine wpAnyH_take (i:=7) (v:=?_) rfl (by kernel_rfl) (by kernel_rfl) (by kernel_rfl) (fun _ _ _ h=>h) (Or.inl ⟨by rfl,?_⟩) hHeld ?_
 rotate_left
 ·(intro v9 hS9;have z10:v9.cell? ⟨w.heap.size,10,none⟩=some (.slice (some ⟨mb,mo,none⟩) m.memo.length mc):=(by rw [hS9.cell (p:=⟨w.heap.size,10,none⟩) hm];exact m10);have zb:v9.cell? ⟨bx,0,none⟩=some (.int .i64 (k:Int)):=(by rw [hS9.cell (p:=⟨bx,0,none⟩) hbl];exact hbc);have zk:v9.cell? ⟨mb,mo+k*2,none⟩=some (.string xk):=(by rw [hS9.cell (p:=⟨mb,mo+k*2,none⟩) hml];exact hk0);have zr:v9.cell? ⟨mb,mo+k*2+1,none⟩=some (.int .i64 xr):=(by rw [hS9.cell (p:=⟨mb,mo+k*2+1,none⟩) hml];exact hk1);clear hS9;go_simp;try with_reducible rfl)
 try simp only [Act.put,List.setIfInBounds_toArray,List.set_cons_zero,List.set_cons_succ,List.getElem_toArray,List.getElem_cons_zero,List.getElem_cons_succ]
 refine wpAnyH_take (i:=8) (v:=?_) rfl (by kernel_rfl) (by kernel_rfl) (by kernel_rfl) (fun _ _ _ h=>h) (Or.inl ⟨by rfl,?_⟩) hHeld ?_
 rotate_left
 ·(intro v9 hS9;have z10:v9.cell? ⟨w.heap.size,10,none⟩=some (.slice (some ⟨mb,mo,none⟩) m.memo.length mc):=(by rw [hS9.cell (p:=⟨w.heap.size,10,none⟩) hm];exact m10);have zb:v9.cell? ⟨bx,0,none⟩=some (.int .i64 (k:Int)):=(by rw [hS9.cell (p:=⟨bx,0,none⟩) hbl];exact hbc);have zk:v9.cell? ⟨mb,mo+k*2,none⟩=some (.string xk):=(by rw [hS9.cell (p:=⟨mb,mo+k*2,none⟩) hml];exact hk0);have zr:v9.cell? ⟨mb,mo+k*2+1,none⟩=some (.int .i64 xr):=(by rw [hS9.cell (p:=⟨mb,mo+k*2+1,none⟩) hml];exact hk1);clear hS9;go_simp;try with_reducible rfl)
 try simp only [Act.put,List.setIfInBounds_toArray,List.set_cons_zero,List.set_cons_succ,List.getElem_toArray,List.getElem_cons_zero,List.getElem_cons_succ]
 refine wpAnyH_take (i:=9) (v:=?_) rfl (by kernel_rfl) (by kernel_rfl) (by kernel_rfl) (fun _ _ _ h=>h) (Or.inl ⟨by rfl,?_⟩) hHeld ?_
 rotate_left
 ·(intro v9 hS9;have z10:v9.cell? ⟨w.heap.size,10,none⟩=some (.slice (some ⟨mb,mo,none⟩) m.memo.length mc):=(by rw [hS9.cell (p:=⟨w.heap.size,10,none⟩) hm];exact m10);have zb:v9.cell? ⟨bx,0,none⟩=some (.int .i64 (k:Int)):=(by rw [hS9.cell (p:=⟨bx,0,none⟩) hbl];exact hbc);have zk:v9.cell? ⟨mb,mo+k*2,none⟩=some (.string xk):=(by rw [hS9.cell (p:=⟨mb,mo+k*2,none⟩) hml];exact hk0);have zr:v9.cell? ⟨mb,mo+k*2+1,none⟩=some (.int .i64 xr):=(by rw [hS9.cell (p:=⟨mb,mo+k*2+1,none⟩) hml];exact hk1);clear hS9;go_simp;try with_reducible rfl)
 try simp only [Act.put,List.setIfInBounds_toArray,List.set_cons_zero,List.set_cons_succ,List.getElem_toArray,List.getElem_cons_zero,List.getElem_cons_succ]
 refine wpAnyH_take (i:=10) (v:=?_) rfl (by kernel_rfl) (by kernel_rfl) (by kernel_rfl) (fun _ _ _ h=>h) (Or.inl ⟨by rfl,?_⟩) hHeld ?_
 rotate_left
 ·(intro v9 hS9;have z10:v9.cell? ⟨w.heap.size,10,none⟩=some (.slice (some ⟨mb,mo,none⟩) m.memo.length mc):=(by rw [hS9.cell (p:=⟨w.heap.size,10,none⟩) hm];exact m10);have zb:v9.cell? ⟨bx,0,none⟩=some (.int .i64 (k:Int)):=(by rw [hS9.cell (p:=⟨bx,0,none⟩) hbl];exact hbc);have zk:v9.cell? ⟨mb,mo+k*2,none⟩=some (.string xk):=(by rw [hS9.cell (p:=⟨mb,mo+k*2,none⟩) hml];exact hk0);have zr:v9.cell? ⟨mb,mo+k*2+1,none⟩=some (.int .i64 xr):=(by rw [hS9.cell (p:=⟨mb,mo+k*2+1,none⟩) hml];exact hk1);clear hS9;go_simp;try with_reducible rfl)
 try simp only [Act.put,List.setIfInBounds_toArray,List.set_cons_zero,List.set_cons_succ,List.getElem_toArray,List.getElem_cons_zero,List.getElem_cons_succ]
 refine wpAnyH_take (i:=11) (v:=?_) rfl (by kernel_rfl) (by kernel_rfl) (by kernel_rfl) (fun _ _ _ h=>h) (Or.inl ⟨by rfl,?_⟩) hHeld ?_
 rotate_left
 ·(intro v9 hS9;have z10:v9.cell? ⟨w.heap.size,10,none⟩=some (.slice (some ⟨mb,mo,none⟩) m.memo.length mc):=(by rw [hS9.cell (p:=⟨w.heap.size,10,none⟩) hm];exact m10);have zb:v9.cell? ⟨bx,0,none⟩=some (.int .i64 (k:Int)):=(by rw [hS9.cell (p:=⟨bx,0,none⟩) hbl];exact hbc);have zk:v9.cell? ⟨mb,mo+k*2,none⟩=some (.string xk):=(by rw [hS9.cell (p:=⟨mb,mo+k*2,none⟩) hml];exact hk0);have zr:v9.cell? ⟨mb,mo+k*2+1,none⟩=some (.int .i64 xr):=(by rw [hS9.cell (p:=⟨mb,mo+k*2+1,none⟩) hml];exact hk1);clear hS9;go_simp;try with_reducible rfl)
 try simp only [Act.put,List.setIfInBounds_toArray,List.set_cons_zero,List.set_cons_succ,List.getElem_toArray,List.getElem_cons_zero,List.getElem_cons_succ]
 refine wpAnyH_take (i:=12) (v:=?_) rfl (by kernel_rfl) (by kernel_rfl) (by kernel_rfl) (fun _ _ _ h=>h) (Or.inl ⟨by rfl,?_⟩) hHeld ?_
 rotate_left
 ·(intro v9 hS9;have z10:v9.cell? ⟨w.heap.size,10,none⟩=some (.slice (some ⟨mb,mo,none⟩) m.memo.length mc):=(by rw [hS9.cell (p:=⟨w.heap.size,10,none⟩) hm];exact m10);have zb:v9.cell? ⟨bx,0,none⟩=some (.int .i64 (k:Int)):=(by rw [hS9.cell (p:=⟨bx,0,none⟩) hbl];exact hbc);have zk:v9.cell? ⟨mb,mo+k*2,none⟩=some (.string xk):=(by rw [hS9.cell (p:=⟨mb,mo+k*2,none⟩) hml];exact hk0);have zr:v9.cell? ⟨mb,mo+k*2+1,none⟩=some (.int .i64 xr):=(by rw [hS9.cell (p:=⟨mb,mo+k*2+1,none⟩) hml];exact hk1);clear hS9;go_simp;try with_reducible rfl)
 try simp only [Act.put,List.setIfInBounds_toArray,List.set_cons_zero,List.set_cons_succ,List.getElem_toArray,List.getElem_cons_zero,List.getElem_cons_succ]
 refine wpAnyH_ready (rs:=[13]) (by kernel_rfl) (by simp) ?_
 refine AllReadyH.cons rfl (fun K hK=>?_) AllReadyH.nil
 go_simp
 refine hK.out _ _ (hHeld.alloc hHeld.size _) (fun hNext=>?_)
 clear hK K hHeld
 have hHeld:=hNext
 clear hNext
 refine wpAnyH_ready (rs:=[14]) (by kernel_rfl) (by simp) ?_
 refine AllReadyH.cons rfl (fun K hK=>?_) AllReadyH.nil
 go_simp
 go_wp2_with (go_at_call 132;refine (HNU.out _ HTD.out).mono ?_;rintro e wz ⟨rfl,hbz⟩;have HBZ:Hid (Below X0.heap.size X0 wz):=((Below.refl X0.heap.size X0).drew.alloc (Nat.le_refl _) _).trans (hbz.mono (by simp));clear hbz)
 refine hK.out _ _ HBZ.out (fun hNext=>?_)
 clear hK K hHeld
 have hHeld:=hNext
 clear hNext
 refine wpAnyH_take (i:=15) (v:=?_) rfl (by kernel_rfl) (by kernel_rfl) (by kernel_rfl) (fun _ _ _ h=>h) (Or.inl ⟨by rfl,?_⟩) hHeld ?_
 rotate_left
 ·(intro v9 hS9;clear hS9;go_simp;try with_reducible rfl)
 try simp only [Act.put,List.setIfInBounds_toArray,List.set_cons_zero,List.set_cons_succ,List.getElem_toArray,List.getElem_cons_zero,List.getElem_cons_succ]
 refine wpAnyH_take (i:=16) (v:=?_) rfl (by kernel_rfl) (by kernel_rfl) (by kernel_rfl) (fun _ _ _ h=>h) (Or.inl ⟨by rfl,?_⟩) hHeld ?_
 rotate_left
 ·(intro v9 hS9;clear hS9;go_simp;try with_reducible rfl)
 try simp only [Act.put,List.setIfInBounds_toArray,List.set_cons_zero,List.set_cons_succ,List.getElem_toArray,List.getElem_cons_zero,List.getElem_cons_succ]
 refine wpAnyH_done (by kernel_rfl) ?_ _
 go_wp2
 go_ret
 exact ⟨ret_str HE.out,HB.out.trans (hHeld.mono HB.out.size)⟩
/-- The line of row. -/
abbrev lv0:Value:=.agg #[.string ⟨#[114,111,119]⟩,.func (.func 127) #[] #[],.func (.func 128) #[] #[]]
theorem l0 (w:World):Calls Tryz.prog 99 #[] w fun e w'=>e=.returned lv0/\Below w.heap.size w w':=by
 go_enter Tryz.func99,Tryz.ntmps99
 go_wp2
 exact bodyPost_ret (v:=lv0) (by simp [results,Tryz.results99,go_sem]) rfl ⟨rfl,(Below.refl _ _).alloc (Nat.le_refl _) _⟩
/-- The line of table. -/
abbrev lv1:Value:=.agg #[.string ⟨#[116,97,98,108,101]⟩,.func (.func 129) #[] #[],.func (.func 130) #[] #[]]
theorem l1 (w:World):Calls Tryz.prog 100 #[] w fun e w'=>e=.returned lv1/\Below w.heap.size w w':=by
 go_enter Tryz.func100,Tryz.ntmps100
 go_wp2
 exact bodyPost_ret (v:=lv1) (by simp [results,Tryz.results100,go_sem]) rfl ⟨rfl,(Below.refl _ _).alloc (Nat.le_refl _) _⟩
/-- The line of room. -/
abbrev lv2:Value:=.agg #[.string ⟨#[114,111,111,109]⟩,.func (.func 131) #[] #[],.func (.func 133) #[] #[]]
theorem l2 (w:World):Calls Tryz.prog 101 #[] w fun e w'=>e=.returned lv2/\Below w.heap.size w w':=by
 go_enter Tryz.func101,Tryz.ntmps101
 go_wp2
 exact bodyPost_ret (v:=lv2) (by simp [results,Tryz.results101,go_sem]) rfl ⟨rfl,(Below.refl _ _).alloc (Nat.le_refl _) _⟩
/-- The line of vals. -/
abbrev lv3:Value:=.agg #[.string ⟨#[118,97,108,115]⟩,.func (.func 134) #[] #[],.func (.func 136) #[] #[]]
theorem l3 (w:World):Calls Tryz.prog 102 #[] w fun e w'=>e=.returned lv3/\Below w.heap.size w w':=by
 go_enter Tryz.func102,Tryz.ntmps102
 go_wp2
 exact bodyPost_ret (v:=lv3) (by simp [results,Tryz.results102,go_sem]) rfl ⟨rfl,(Below.refl _ _).alloc (Nat.le_refl _) _⟩
/-- The line of ret. -/
abbrev lv4:Value:=.agg #[.string ⟨#[114,101,116]⟩,.func (.func 138) #[] #[],.func (.func 139) #[] #[]]
theorem l4 (w:World):Calls Tryz.prog 103 #[] w fun e w'=>e=.returned lv4/\Below w.heap.size w w':=by
 go_enter Tryz.func103,Tryz.ntmps103
 go_wp2
 exact bodyPost_ret (v:=lv4) (by simp [results,Tryz.results103,go_sem]) rfl ⟨rfl,(Below.refl _ _).alloc (Nat.le_refl _) _⟩
/-- The line of over. -/
abbrev lv5:Value:=.agg #[.string ⟨#[111,118,101,114]⟩,.func (.func 140) #[] #[],.func (.func 141) #[] #[]]
theorem l5 (w:World):Calls Tryz.prog 104 #[] w fun e w'=>e=.returned lv5/\Below w.heap.size w w':=by
 go_enter Tryz.func104,Tryz.ntmps104
 go_wp2
 exact bodyPost_ret (v:=lv5) (by simp [results,Tryz.results104,go_sem]) rfl ⟨rfl,(Below.refl _ _).alloc (Nat.le_refl _) _⟩
/-- The line of counts. -/
abbrev lv6:Value:=.agg #[.string ⟨#[99,111,117,110,116,115]⟩,.func (.func 142) #[] #[],.func (.func 143) #[] #[]]
theorem l6 (w:World):Calls Tryz.prog 105 #[] w fun e w'=>e=.returned lv6/\Below w.heap.size w w':=by
 go_enter Tryz.func105,Tryz.ntmps105
 go_wp2
 exact bodyPost_ret (v:=lv6) (by simp [results,Tryz.results105,go_sem]) rfl ⟨rfl,(Below.refl _ _).alloc (Nat.le_refl _) _⟩
/-- A line of seen. -/
abbrev lv7 (bx:Nat):Value:=.agg #[.string ⟨#[115,101,101,110]⟩,.func (.func 145) #[] #[.pointer (some ⟨bx,0,none⟩)],.func (.func 146) #[] #[]]
theorem l7 (k:Int) (w:World):Calls Tryz.prog 106 #[.int .i64 k] w fun e w'=>∃ bx,e=.returned (lv7 bx)/\w'.cell? ⟨bx,0,none⟩=some (.int .i64 k)/\Below w.heap.size w w':=by
 go_enter Tryz.func106,Tryz.ntmps106
 go_wp2
 refine bodyPost_ret (v:=lv7 w.heap.size) (by simp [results,Tryz.results106,go_sem]) rfl ⟨w.heap.size,rfl,?_,((Below.refl _ _).alloc (Nat.le_refl _) _).alloc (by simp) _⟩
 simp
/-- The value v is line i. -/
def LV (W:World) (v:Value):Nat->Prop
 | 0=>v=lv0
 | 1=>v=lv1
 | 2=>v=lv2
 | 3=>v=lv3
 | 4=>v=lv4
 | 5=>v=lv5
 | 6=>v=lv6
 | k+7=>∃ bx,v=lv7 bx/\W.cell? ⟨bx,0,none⟩=some (.int .i64 (k:Int))
theorem LV.below {W W':World} {v:Value} {i:Nat} (h:LV W v i) (k:Below W.heap.size W W'):LV W' v i:=by
 match i,h with
 | 0,h=>exact h
 | 1,h=>exact h
 | 2,h=>exact h
 | 3,h=>exact h
 | 4,h=>exact h
 | 5,h=>exact h
 | 6,h=>exact h
 | _+7,h =>
   obtain ⟨bx,h1,h2⟩:=h
   exact ⟨bx,h1,by rw [k.cell (p:=⟨bx,0,none⟩) (lt_of_cell h2)];exact h2⟩
theorem at0 (w:World):Calls Tryz.prog 73 #[.int .i64 0] w fun e w'=>e=.returned lv0/\Below w.heap.size w w':=by
 obtain ⟨X1,hX1⟩:∃ X,X=(w.alloc (.cells #[.string ⟨#[]⟩,.nilFunc,.nilFunc] 112)).alloc (.cells #[.func (.func 99) #[] #[],.func (.func 100) #[] #[],.func (.func 101) #[] #[],.func (.func 102) #[] #[],.func (.func 103) #[] #[],.func (.func 104) #[] #[],.func (.func 105) #[] #[]] 138):=⟨_,rfl⟩
 have HB1:Hid (Below w.heap.size w X1):=by rw [hX1];exact ((Below.refl _ _).alloc (Nat.le_refl _) _).alloc (by simp) _
 have HL1:Hid (L3 X1 w.heap.size (.string ⟨#[]⟩) .nilFunc .nilFunc):=by rw [hX1];exact (L3.made _ _ _ _ _).alloc _
 have q0:X1.cell? ⟨w.heap.size+1,0,none⟩=some (.func (.func 99) #[] #[]):=by rw [hX1,World.cell?_alloc_at _ _ _ _ (by simp)];rfl
 have q1:X1.cell? ⟨w.heap.size+1,1,none⟩=some (.func (.func 100) #[] #[]):=by rw [hX1,World.cell?_alloc_at _ _ _ _ (by simp)];rfl
 have q2:X1.cell? ⟨w.heap.size+1,2,none⟩=some (.func (.func 101) #[] #[]):=by rw [hX1,World.cell?_alloc_at _ _ _ _ (by simp)];rfl
 have q3:X1.cell? ⟨w.heap.size+1,3,none⟩=some (.func (.func 102) #[] #[]):=by rw [hX1,World.cell?_alloc_at _ _ _ _ (by simp)];rfl
 have q4:X1.cell? ⟨w.heap.size+1,4,none⟩=some (.func (.func 103) #[] #[]):=by rw [hX1,World.cell?_alloc_at _ _ _ _ (by simp)];rfl
 have q5:X1.cell? ⟨w.heap.size+1,5,none⟩=some (.func (.func 104) #[] #[]):=by rw [hX1,World.cell?_alloc_at _ _ _ _ (by simp)];rfl
 have q6:X1.cell? ⟨w.heap.size+1,6,none⟩=some (.func (.func 105) #[] #[]):=by rw [hX1,World.cell?_alloc_at _ _ _ _ (by simp)];rfl
 have hE:(w.alloc (.cells #[.string ⟨#[]⟩,.nilFunc,.nilFunc] 112)).alloc (.cells #[.func (.func 99) #[] #[],.func (.func 100) #[] #[],.func (.func 101) #[] #[],.func (.func 102) #[] #[],.func (.func 103) #[] #[],.func (.func 104) #[] #[],.func (.func 105) #[] #[]] 138)=X1:=hX1.symm
 have hx1:w.heap.size+1 < X1.heap.size:=by rw [hX1];simp
 clear hX1
 go_enter Tryz.func73,Tryz.ntmps73
 go_upto_region 2 with fail
 clear hE
 go_wp2_with fail
 refine (l0 _).mono ?_
 rintro e w2 ⟨rfl,hb⟩
 have HB2:Hid (Below w.heap.size w w2):=HB1.out.trans (hb.mono HB1.out.size)
 have HL2:Hid (L3 w2 w.heap.size (.string ⟨#[]⟩) .nilFunc .nilFunc):=HL1.out.below hb
 clear hb q0 q1 q2 q3 q4 q5 q6 HB1 HL1
 have HFN:Hid _:=fin3 HL2.out HB2.out (Nat.le_refl _) (.string ⟨#[114,111,119]⟩) (.func (.func 127) #[] #[]) (.func (.func 128) #[] #[])
 obtain ⟨r0,r1,r2,r3,r4,r5⟩:=HL2.out
 go_wp2
 obtain ⟨W,hW,hz,hbz⟩:=HFN.out
 rw [<- hW]
 obtain ⟨z0,z1,z2,_,_,_⟩:=hz
 exact bodyPost_ret (v:=lv0) (by simp [results,Tryz.results73,go_sem,z0,z1,z2]) rfl ⟨rfl,hbz⟩
theorem at1 (w:World):Calls Tryz.prog 73 #[.int .i64 1] w fun e w'=>e=.returned lv1/\Below w.heap.size w w':=by
 obtain ⟨X1,hX1⟩:∃ X,X=(w.alloc (.cells #[.string ⟨#[]⟩,.nilFunc,.nilFunc] 112)).alloc (.cells #[.func (.func 99) #[] #[],.func (.func 100) #[] #[],.func (.func 101) #[] #[],.func (.func 102) #[] #[],.func (.func 103) #[] #[],.func (.func 104) #[] #[],.func (.func 105) #[] #[]] 138):=⟨_,rfl⟩
 have HB1:Hid (Below w.heap.size w X1):=by rw [hX1];exact ((Below.refl _ _).alloc (Nat.le_refl _) _).alloc (by simp) _
 have HL1:Hid (L3 X1 w.heap.size (.string ⟨#[]⟩) .nilFunc .nilFunc):=by rw [hX1];exact (L3.made _ _ _ _ _).alloc _
 have q0:X1.cell? ⟨w.heap.size+1,0,none⟩=some (.func (.func 99) #[] #[]):=by rw [hX1,World.cell?_alloc_at _ _ _ _ (by simp)];rfl
 have q1:X1.cell? ⟨w.heap.size+1,1,none⟩=some (.func (.func 100) #[] #[]):=by rw [hX1,World.cell?_alloc_at _ _ _ _ (by simp)];rfl
 have q2:X1.cell? ⟨w.heap.size+1,2,none⟩=some (.func (.func 101) #[] #[]):=by rw [hX1,World.cell?_alloc_at _ _ _ _ (by simp)];rfl
 have q3:X1.cell? ⟨w.heap.size+1,3,none⟩=some (.func (.func 102) #[] #[]):=by rw [hX1,World.cell?_alloc_at _ _ _ _ (by simp)];rfl
 have q4:X1.cell? ⟨w.heap.size+1,4,none⟩=some (.func (.func 103) #[] #[]):=by rw [hX1,World.cell?_alloc_at _ _ _ _ (by simp)];rfl
 have q5:X1.cell? ⟨w.heap.size+1,5,none⟩=some (.func (.func 104) #[] #[]):=by rw [hX1,World.cell?_alloc_at _ _ _ _ (by simp)];rfl
 have q6:X1.cell? ⟨w.heap.size+1,6,none⟩=some (.func (.func 105) #[] #[]):=by rw [hX1,World.cell?_alloc_at _ _ _ _ (by simp)];rfl
 have hE:(w.alloc (.cells #[.string ⟨#[]⟩,.nilFunc,.nilFunc] 112)).alloc (.cells #[.func (.func 99) #[] #[],.func (.func 100) #[] #[],.func (.func 101) #[] #[],.func (.func 102) #[] #[],.func (.func 103) #[] #[],.func (.func 104) #[] #[],.func (.func 105) #[] #[]] 138)=X1:=hX1.symm
 have hx1:w.heap.size+1 < X1.heap.size:=by rw [hX1];simp
 clear hX1
 go_enter Tryz.func73,Tryz.ntmps73
 go_upto_region 2 with fail
 clear hE
 go_wp2_with fail
 refine (l1 _).mono ?_
 rintro e w2 ⟨rfl,hb⟩
 have HB2:Hid (Below w.heap.size w w2):=HB1.out.trans (hb.mono HB1.out.size)
 have HL2:Hid (L3 w2 w.heap.size (.string ⟨#[]⟩) .nilFunc .nilFunc):=HL1.out.below hb
 clear hb q0 q1 q2 q3 q4 q5 q6 HB1 HL1
 have HFN:Hid _:=fin3 HL2.out HB2.out (Nat.le_refl _) (.string ⟨#[116,97,98,108,101]⟩) (.func (.func 129) #[] #[]) (.func (.func 130) #[] #[])
 obtain ⟨r0,r1,r2,r3,r4,r5⟩:=HL2.out
 go_wp2
 obtain ⟨W,hW,hz,hbz⟩:=HFN.out
 rw [<- hW]
 obtain ⟨z0,z1,z2,_,_,_⟩:=hz
 exact bodyPost_ret (v:=lv1) (by simp [results,Tryz.results73,go_sem,z0,z1,z2]) rfl ⟨rfl,hbz⟩
theorem at2 (w:World):Calls Tryz.prog 73 #[.int .i64 2] w fun e w'=>e=.returned lv2/\Below w.heap.size w w':=by
 obtain ⟨X1,hX1⟩:∃ X,X=(w.alloc (.cells #[.string ⟨#[]⟩,.nilFunc,.nilFunc] 112)).alloc (.cells #[.func (.func 99) #[] #[],.func (.func 100) #[] #[],.func (.func 101) #[] #[],.func (.func 102) #[] #[],.func (.func 103) #[] #[],.func (.func 104) #[] #[],.func (.func 105) #[] #[]] 138):=⟨_,rfl⟩
 have HB1:Hid (Below w.heap.size w X1):=by rw [hX1];exact ((Below.refl _ _).alloc (Nat.le_refl _) _).alloc (by simp) _
 have HL1:Hid (L3 X1 w.heap.size (.string ⟨#[]⟩) .nilFunc .nilFunc):=by rw [hX1];exact (L3.made _ _ _ _ _).alloc _
 have q0:X1.cell? ⟨w.heap.size+1,0,none⟩=some (.func (.func 99) #[] #[]):=by rw [hX1,World.cell?_alloc_at _ _ _ _ (by simp)];rfl
 have q1:X1.cell? ⟨w.heap.size+1,1,none⟩=some (.func (.func 100) #[] #[]):=by rw [hX1,World.cell?_alloc_at _ _ _ _ (by simp)];rfl
 have q2:X1.cell? ⟨w.heap.size+1,2,none⟩=some (.func (.func 101) #[] #[]):=by rw [hX1,World.cell?_alloc_at _ _ _ _ (by simp)];rfl
 have q3:X1.cell? ⟨w.heap.size+1,3,none⟩=some (.func (.func 102) #[] #[]):=by rw [hX1,World.cell?_alloc_at _ _ _ _ (by simp)];rfl
 have q4:X1.cell? ⟨w.heap.size+1,4,none⟩=some (.func (.func 103) #[] #[]):=by rw [hX1,World.cell?_alloc_at _ _ _ _ (by simp)];rfl
 have q5:X1.cell? ⟨w.heap.size+1,5,none⟩=some (.func (.func 104) #[] #[]):=by rw [hX1,World.cell?_alloc_at _ _ _ _ (by simp)];rfl
 have q6:X1.cell? ⟨w.heap.size+1,6,none⟩=some (.func (.func 105) #[] #[]):=by rw [hX1,World.cell?_alloc_at _ _ _ _ (by simp)];rfl
 have hE:(w.alloc (.cells #[.string ⟨#[]⟩,.nilFunc,.nilFunc] 112)).alloc (.cells #[.func (.func 99) #[] #[],.func (.func 100) #[] #[],.func (.func 101) #[] #[],.func (.func 102) #[] #[],.func (.func 103) #[] #[],.func (.func 104) #[] #[],.func (.func 105) #[] #[]] 138)=X1:=hX1.symm
 have hx1:w.heap.size+1 < X1.heap.size:=by rw [hX1];simp
 clear hX1
 go_enter Tryz.func73,Tryz.ntmps73
 go_upto_region 2 with fail
 clear hE
 go_wp2_with fail
 refine (l2 _).mono ?_
 rintro e w2 ⟨rfl,hb⟩
 have HB2:Hid (Below w.heap.size w w2):=HB1.out.trans (hb.mono HB1.out.size)
 have HL2:Hid (L3 w2 w.heap.size (.string ⟨#[]⟩) .nilFunc .nilFunc):=HL1.out.below hb
 clear hb q0 q1 q2 q3 q4 q5 q6 HB1 HL1
 have HFN:Hid _:=fin3 HL2.out HB2.out (Nat.le_refl _) (.string ⟨#[114,111,111,109]⟩) (.func (.func 131) #[] #[]) (.func (.func 133) #[] #[])
 obtain ⟨r0,r1,r2,r3,r4,r5⟩:=HL2.out
 go_wp2
 obtain ⟨W,hW,hz,hbz⟩:=HFN.out
 rw [<- hW]
 obtain ⟨z0,z1,z2,_,_,_⟩:=hz
 exact bodyPost_ret (v:=lv2) (by simp [results,Tryz.results73,go_sem,z0,z1,z2]) rfl ⟨rfl,hbz⟩
theorem at3 (w:World):Calls Tryz.prog 73 #[.int .i64 3] w fun e w'=>e=.returned lv3/\Below w.heap.size w w':=by
 obtain ⟨X1,hX1⟩:∃ X,X=(w.alloc (.cells #[.string ⟨#[]⟩,.nilFunc,.nilFunc] 112)).alloc (.cells #[.func (.func 99) #[] #[],.func (.func 100) #[] #[],.func (.func 101) #[] #[],.func (.func 102) #[] #[],.func (.func 103) #[] #[],.func (.func 104) #[] #[],.func (.func 105) #[] #[]] 138):=⟨_,rfl⟩
 have HB1:Hid (Below w.heap.size w X1):=by rw [hX1];exact ((Below.refl _ _).alloc (Nat.le_refl _) _).alloc (by simp) _
 have HL1:Hid (L3 X1 w.heap.size (.string ⟨#[]⟩) .nilFunc .nilFunc):=by rw [hX1];exact (L3.made _ _ _ _ _).alloc _
 have q0:X1.cell? ⟨w.heap.size+1,0,none⟩=some (.func (.func 99) #[] #[]):=by rw [hX1,World.cell?_alloc_at _ _ _ _ (by simp)];rfl
 have q1:X1.cell? ⟨w.heap.size+1,1,none⟩=some (.func (.func 100) #[] #[]):=by rw [hX1,World.cell?_alloc_at _ _ _ _ (by simp)];rfl
 have q2:X1.cell? ⟨w.heap.size+1,2,none⟩=some (.func (.func 101) #[] #[]):=by rw [hX1,World.cell?_alloc_at _ _ _ _ (by simp)];rfl
 have q3:X1.cell? ⟨w.heap.size+1,3,none⟩=some (.func (.func 102) #[] #[]):=by rw [hX1,World.cell?_alloc_at _ _ _ _ (by simp)];rfl
 have q4:X1.cell? ⟨w.heap.size+1,4,none⟩=some (.func (.func 103) #[] #[]):=by rw [hX1,World.cell?_alloc_at _ _ _ _ (by simp)];rfl
 have q5:X1.cell? ⟨w.heap.size+1,5,none⟩=some (.func (.func 104) #[] #[]):=by rw [hX1,World.cell?_alloc_at _ _ _ _ (by simp)];rfl
 have q6:X1.cell? ⟨w.heap.size+1,6,none⟩=some (.func (.func 105) #[] #[]):=by rw [hX1,World.cell?_alloc_at _ _ _ _ (by simp)];rfl
 have hE:(w.alloc (.cells #[.string ⟨#[]⟩,.nilFunc,.nilFunc] 112)).alloc (.cells #[.func (.func 99) #[] #[],.func (.func 100) #[] #[],.func (.func 101) #[] #[],.func (.func 102) #[] #[],.func (.func 103) #[] #[],.func (.func 104) #[] #[],.func (.func 105) #[] #[]] 138)=X1:=hX1.symm
 have hx1:w.heap.size+1 < X1.heap.size:=by rw [hX1];simp
 clear hX1
 go_enter Tryz.func73,Tryz.ntmps73
 go_upto_region 2 with fail
 clear hE
 go_wp2_with fail
 refine (l3 _).mono ?_
 rintro e w2 ⟨rfl,hb⟩
 have HB2:Hid (Below w.heap.size w w2):=HB1.out.trans (hb.mono HB1.out.size)
 have HL2:Hid (L3 w2 w.heap.size (.string ⟨#[]⟩) .nilFunc .nilFunc):=HL1.out.below hb
 clear hb q0 q1 q2 q3 q4 q5 q6 HB1 HL1
 have HFN:Hid _:=fin3 HL2.out HB2.out (Nat.le_refl _) (.string ⟨#[118,97,108,115]⟩) (.func (.func 134) #[] #[]) (.func (.func 136) #[] #[])
 obtain ⟨r0,r1,r2,r3,r4,r5⟩:=HL2.out
 go_wp2
 obtain ⟨W,hW,hz,hbz⟩:=HFN.out
 rw [<- hW]
 obtain ⟨z0,z1,z2,_,_,_⟩:=hz
 exact bodyPost_ret (v:=lv3) (by simp [results,Tryz.results73,go_sem,z0,z1,z2]) rfl ⟨rfl,hbz⟩
theorem at4 (w:World):Calls Tryz.prog 73 #[.int .i64 4] w fun e w'=>e=.returned lv4/\Below w.heap.size w w':=by
 obtain ⟨X1,hX1⟩:∃ X,X=(w.alloc (.cells #[.string ⟨#[]⟩,.nilFunc,.nilFunc] 112)).alloc (.cells #[.func (.func 99) #[] #[],.func (.func 100) #[] #[],.func (.func 101) #[] #[],.func (.func 102) #[] #[],.func (.func 103) #[] #[],.func (.func 104) #[] #[],.func (.func 105) #[] #[]] 138):=⟨_,rfl⟩
 have HB1:Hid (Below w.heap.size w X1):=by rw [hX1];exact ((Below.refl _ _).alloc (Nat.le_refl _) _).alloc (by simp) _
 have HL1:Hid (L3 X1 w.heap.size (.string ⟨#[]⟩) .nilFunc .nilFunc):=by rw [hX1];exact (L3.made _ _ _ _ _).alloc _
 have q0:X1.cell? ⟨w.heap.size+1,0,none⟩=some (.func (.func 99) #[] #[]):=by rw [hX1,World.cell?_alloc_at _ _ _ _ (by simp)];rfl
 have q1:X1.cell? ⟨w.heap.size+1,1,none⟩=some (.func (.func 100) #[] #[]):=by rw [hX1,World.cell?_alloc_at _ _ _ _ (by simp)];rfl
 have q2:X1.cell? ⟨w.heap.size+1,2,none⟩=some (.func (.func 101) #[] #[]):=by rw [hX1,World.cell?_alloc_at _ _ _ _ (by simp)];rfl
 have q3:X1.cell? ⟨w.heap.size+1,3,none⟩=some (.func (.func 102) #[] #[]):=by rw [hX1,World.cell?_alloc_at _ _ _ _ (by simp)];rfl
 have q4:X1.cell? ⟨w.heap.size+1,4,none⟩=some (.func (.func 103) #[] #[]):=by rw [hX1,World.cell?_alloc_at _ _ _ _ (by simp)];rfl
 have q5:X1.cell? ⟨w.heap.size+1,5,none⟩=some (.func (.func 104) #[] #[]):=by rw [hX1,World.cell?_alloc_at _ _ _ _ (by simp)];rfl
 have q6:X1.cell? ⟨w.heap.size+1,6,none⟩=some (.func (.func 105) #[] #[]):=by rw [hX1,World.cell?_alloc_at _ _ _ _ (by simp)];rfl
 have hE:(w.alloc (.cells #[.string ⟨#[]⟩,.nilFunc,.nilFunc] 112)).alloc (.cells #[.func (.func 99) #[] #[],.func (.func 100) #[] #[],.func (.func 101) #[] #[],.func (.func 102) #[] #[],.func (.func 103) #[] #[],.func (.func 104) #[] #[],.func (.func 105) #[] #[]] 138)=X1:=hX1.symm
 have hx1:w.heap.size+1 < X1.heap.size:=by rw [hX1];simp
 clear hX1
 go_enter Tryz.func73,Tryz.ntmps73
 go_upto_region 2 with fail
 clear hE
 go_wp2_with fail
 refine (l4 _).mono ?_
 rintro e w2 ⟨rfl,hb⟩
 have HB2:Hid (Below w.heap.size w w2):=HB1.out.trans (hb.mono HB1.out.size)
 have HL2:Hid (L3 w2 w.heap.size (.string ⟨#[]⟩) .nilFunc .nilFunc):=HL1.out.below hb
 clear hb q0 q1 q2 q3 q4 q5 q6 HB1 HL1
 have HFN:Hid _:=fin3 HL2.out HB2.out (Nat.le_refl _) (.string ⟨#[114,101,116]⟩) (.func (.func 138) #[] #[]) (.func (.func 139) #[] #[])
 obtain ⟨r0,r1,r2,r3,r4,r5⟩:=HL2.out
 go_wp2
 obtain ⟨W,hW,hz,hbz⟩:=HFN.out
 rw [<- hW]
 obtain ⟨z0,z1,z2,_,_,_⟩:=hz
 exact bodyPost_ret (v:=lv4) (by simp [results,Tryz.results73,go_sem,z0,z1,z2]) rfl ⟨rfl,hbz⟩
theorem at5 (w:World):Calls Tryz.prog 73 #[.int .i64 5] w fun e w'=>e=.returned lv5/\Below w.heap.size w w':=by
 obtain ⟨X1,hX1⟩:∃ X,X=(w.alloc (.cells #[.string ⟨#[]⟩,.nilFunc,.nilFunc] 112)).alloc (.cells #[.func (.func 99) #[] #[],.func (.func 100) #[] #[],.func (.func 101) #[] #[],.func (.func 102) #[] #[],.func (.func 103) #[] #[],.func (.func 104) #[] #[],.func (.func 105) #[] #[]] 138):=⟨_,rfl⟩
 have HB1:Hid (Below w.heap.size w X1):=by rw [hX1];exact ((Below.refl _ _).alloc (Nat.le_refl _) _).alloc (by simp) _
 have HL1:Hid (L3 X1 w.heap.size (.string ⟨#[]⟩) .nilFunc .nilFunc):=by rw [hX1];exact (L3.made _ _ _ _ _).alloc _
 have q0:X1.cell? ⟨w.heap.size+1,0,none⟩=some (.func (.func 99) #[] #[]):=by rw [hX1,World.cell?_alloc_at _ _ _ _ (by simp)];rfl
 have q1:X1.cell? ⟨w.heap.size+1,1,none⟩=some (.func (.func 100) #[] #[]):=by rw [hX1,World.cell?_alloc_at _ _ _ _ (by simp)];rfl
 have q2:X1.cell? ⟨w.heap.size+1,2,none⟩=some (.func (.func 101) #[] #[]):=by rw [hX1,World.cell?_alloc_at _ _ _ _ (by simp)];rfl
 have q3:X1.cell? ⟨w.heap.size+1,3,none⟩=some (.func (.func 102) #[] #[]):=by rw [hX1,World.cell?_alloc_at _ _ _ _ (by simp)];rfl
 have q4:X1.cell? ⟨w.heap.size+1,4,none⟩=some (.func (.func 103) #[] #[]):=by rw [hX1,World.cell?_alloc_at _ _ _ _ (by simp)];rfl
 have q5:X1.cell? ⟨w.heap.size+1,5,none⟩=some (.func (.func 104) #[] #[]):=by rw [hX1,World.cell?_alloc_at _ _ _ _ (by simp)];rfl
 have q6:X1.cell? ⟨w.heap.size+1,6,none⟩=some (.func (.func 105) #[] #[]):=by rw [hX1,World.cell?_alloc_at _ _ _ _ (by simp)];rfl
 have hE:(w.alloc (.cells #[.string ⟨#[]⟩,.nilFunc,.nilFunc] 112)).alloc (.cells #[.func (.func 99) #[] #[],.func (.func 100) #[] #[],.func (.func 101) #[] #[],.func (.func 102) #[] #[],.func (.func 103) #[] #[],.func (.func 104) #[] #[],.func (.func 105) #[] #[]] 138)=X1:=hX1.symm
 have hx1:w.heap.size+1 < X1.heap.size:=by rw [hX1];simp
 clear hX1
 go_enter Tryz.func73,Tryz.ntmps73
 go_upto_region 2 with fail
 clear hE
 go_wp2_with fail
 refine (l5 _).mono ?_
 rintro e w2 ⟨rfl,hb⟩
 have HB2:Hid (Below w.heap.size w w2):=HB1.out.trans (hb.mono HB1.out.size)
 have HL2:Hid (L3 w2 w.heap.size (.string ⟨#[]⟩) .nilFunc .nilFunc):=HL1.out.below hb
 clear hb q0 q1 q2 q3 q4 q5 q6 HB1 HL1
 have HFN:Hid _:=fin3 HL2.out HB2.out (Nat.le_refl _) (.string ⟨#[111,118,101,114]⟩) (.func (.func 140) #[] #[]) (.func (.func 141) #[] #[])
 obtain ⟨r0,r1,r2,r3,r4,r5⟩:=HL2.out
 go_wp2
 obtain ⟨W,hW,hz,hbz⟩:=HFN.out
 rw [<- hW]
 obtain ⟨z0,z1,z2,_,_,_⟩:=hz
 exact bodyPost_ret (v:=lv5) (by simp [results,Tryz.results73,go_sem,z0,z1,z2]) rfl ⟨rfl,hbz⟩
theorem at6 (w:World):Calls Tryz.prog 73 #[.int .i64 6] w fun e w'=>e=.returned lv6/\Below w.heap.size w w':=by
 obtain ⟨X1,hX1⟩:∃ X,X=(w.alloc (.cells #[.string ⟨#[]⟩,.nilFunc,.nilFunc] 112)).alloc (.cells #[.func (.func 99) #[] #[],.func (.func 100) #[] #[],.func (.func 101) #[] #[],.func (.func 102) #[] #[],.func (.func 103) #[] #[],.func (.func 104) #[] #[],.func (.func 105) #[] #[]] 138):=⟨_,rfl⟩
 have HB1:Hid (Below w.heap.size w X1):=by rw [hX1];exact ((Below.refl _ _).alloc (Nat.le_refl _) _).alloc (by simp) _
 have HL1:Hid (L3 X1 w.heap.size (.string ⟨#[]⟩) .nilFunc .nilFunc):=by rw [hX1];exact (L3.made _ _ _ _ _).alloc _
 have q0:X1.cell? ⟨w.heap.size+1,0,none⟩=some (.func (.func 99) #[] #[]):=by rw [hX1,World.cell?_alloc_at _ _ _ _ (by simp)];rfl
 have q1:X1.cell? ⟨w.heap.size+1,1,none⟩=some (.func (.func 100) #[] #[]):=by rw [hX1,World.cell?_alloc_at _ _ _ _ (by simp)];rfl
 have q2:X1.cell? ⟨w.heap.size+1,2,none⟩=some (.func (.func 101) #[] #[]):=by rw [hX1,World.cell?_alloc_at _ _ _ _ (by simp)];rfl
 have q3:X1.cell? ⟨w.heap.size+1,3,none⟩=some (.func (.func 102) #[] #[]):=by rw [hX1,World.cell?_alloc_at _ _ _ _ (by simp)];rfl
 have q4:X1.cell? ⟨w.heap.size+1,4,none⟩=some (.func (.func 103) #[] #[]):=by rw [hX1,World.cell?_alloc_at _ _ _ _ (by simp)];rfl
 have q5:X1.cell? ⟨w.heap.size+1,5,none⟩=some (.func (.func 104) #[] #[]):=by rw [hX1,World.cell?_alloc_at _ _ _ _ (by simp)];rfl
 have q6:X1.cell? ⟨w.heap.size+1,6,none⟩=some (.func (.func 105) #[] #[]):=by rw [hX1,World.cell?_alloc_at _ _ _ _ (by simp)];rfl
 have hE:(w.alloc (.cells #[.string ⟨#[]⟩,.nilFunc,.nilFunc] 112)).alloc (.cells #[.func (.func 99) #[] #[],.func (.func 100) #[] #[],.func (.func 101) #[] #[],.func (.func 102) #[] #[],.func (.func 103) #[] #[],.func (.func 104) #[] #[],.func (.func 105) #[] #[]] 138)=X1:=hX1.symm
 have hx1:w.heap.size+1 < X1.heap.size:=by rw [hX1];simp
 clear hX1
 go_enter Tryz.func73,Tryz.ntmps73
 go_upto_region 2 with fail
 clear hE
 go_wp2_with fail
 refine (l6 _).mono ?_
 rintro e w2 ⟨rfl,hb⟩
 have HB2:Hid (Below w.heap.size w w2):=HB1.out.trans (hb.mono HB1.out.size)
 have HL2:Hid (L3 w2 w.heap.size (.string ⟨#[]⟩) .nilFunc .nilFunc):=HL1.out.below hb
 clear hb q0 q1 q2 q3 q4 q5 q6 HB1 HL1
 have HFN:Hid _:=fin3 HL2.out HB2.out (Nat.le_refl _) (.string ⟨#[99,111,117,110,116,115]⟩) (.func (.func 142) #[] #[]) (.func (.func 143) #[] #[])
 obtain ⟨r0,r1,r2,r3,r4,r5⟩:=HL2.out
 go_wp2
 obtain ⟨W,hW,hz,hbz⟩:=HFN.out
 rw [<- hW]
 obtain ⟨z0,z1,z2,_,_,_⟩:=hz
 exact bodyPost_ret (v:=lv6) (by simp [results,Tryz.results73,go_sem,z0,z1,z2]) rfl ⟨rfl,hbz⟩
theorem at7 (k:Nat) (hk:k<=1048576) (w:World):Calls Tryz.prog 73 #[.int .i64 ((k+7:Nat):Int)] w fun e w'=>∃ bx,e=.returned (lv7 bx)/\w'.cell? ⟨bx,0,none⟩=some (.int .i64 (k:Int))/\Below w.heap.size w w':=by
 obtain ⟨z,hz⟩:∃ z:Int,z=((k+7:Nat):Int):=⟨_,rfl⟩
 rw [<- hz]
 have h7:¬ z < 7:=by omega
 have hzk:z - 7=(k:Int):=by omega
 have hwr:wrap64 (k:Int)=(k:Int):=by unfold wrap64;omega
 clear hz
 obtain ⟨X1,hX1⟩:∃ X,X=(w.alloc (.cells #[.string ⟨#[]⟩,.nilFunc,.nilFunc] 112)).alloc (.cells #[.func (.func 99) #[] #[],.func (.func 100) #[] #[],.func (.func 101) #[] #[],.func (.func 102) #[] #[],.func (.func 103) #[] #[],.func (.func 104) #[] #[],.func (.func 105) #[] #[]] 138):=⟨_,rfl⟩
 have HB1:Hid (Below w.heap.size w X1):=by rw [hX1];exact ((Below.refl _ _).alloc (Nat.le_refl _) _).alloc (by simp) _
 have HL1:Hid (L3 X1 w.heap.size (.string ⟨#[]⟩) .nilFunc .nilFunc):=by rw [hX1];exact (L3.made _ _ _ _ _).alloc _
 have q0:X1.cell? ⟨w.heap.size+1,0,none⟩=some (.func (.func 99) #[] #[]):=by rw [hX1,World.cell?_alloc_at _ _ _ _ (by simp)];rfl
 have q1:X1.cell? ⟨w.heap.size+1,1,none⟩=some (.func (.func 100) #[] #[]):=by rw [hX1,World.cell?_alloc_at _ _ _ _ (by simp)];rfl
 have q2:X1.cell? ⟨w.heap.size+1,2,none⟩=some (.func (.func 101) #[] #[]):=by rw [hX1,World.cell?_alloc_at _ _ _ _ (by simp)];rfl
 have q3:X1.cell? ⟨w.heap.size+1,3,none⟩=some (.func (.func 102) #[] #[]):=by rw [hX1,World.cell?_alloc_at _ _ _ _ (by simp)];rfl
 have q4:X1.cell? ⟨w.heap.size+1,4,none⟩=some (.func (.func 103) #[] #[]):=by rw [hX1,World.cell?_alloc_at _ _ _ _ (by simp)];rfl
 have q5:X1.cell? ⟨w.heap.size+1,5,none⟩=some (.func (.func 104) #[] #[]):=by rw [hX1,World.cell?_alloc_at _ _ _ _ (by simp)];rfl
 have q6:X1.cell? ⟨w.heap.size+1,6,none⟩=some (.func (.func 105) #[] #[]):=by rw [hX1,World.cell?_alloc_at _ _ _ _ (by simp)];rfl
 have hE:(w.alloc (.cells #[.string ⟨#[]⟩,.nilFunc,.nilFunc] 112)).alloc (.cells #[.func (.func 99) #[] #[],.func (.func 100) #[] #[],.func (.func 101) #[] #[],.func (.func 102) #[] #[],.func (.func 103) #[] #[],.func (.func 104) #[] #[],.func (.func 105) #[] #[]] 138)=X1:=hX1.symm
 have hx1:w.heap.size+1 < X1.heap.size:=by rw [hX1];simp
 clear hX1
 go_enter Tryz.func73,Tryz.ntmps73
 go_upto_region 2 with fail
 clear hE
 go_wp2_with fail
 clear q0 q1 q2 q3 q4 q5 q6
 refine (l7 (k:Int) _).mono ?_
 rintro e w2 ⟨bx,rfl,hbx,hb⟩
 have HB2:Hid (Below w.heap.size w w2):=HB1.out.trans (hb.mono HB1.out.size)
 have HL2:Hid (L3 w2 w.heap.size (.string ⟨#[]⟩) .nilFunc .nilFunc):=HL1.out.below hb
 have HBX:Hid (w2.cell? ⟨bx,0,none⟩=some (.int .i64 (k:Int))):=hbx
 have HNE:Hid (bx≠w.heap.size):=by
  intro e
  have:=HL2.out.c0
  rw [<- e,hbx] at this
  cases this
 clear hb hbx HB1 HL1
 have HFN:Hid _:=fin3 HL2.out HB2.out (Nat.le_refl _) (.string ⟨#[115,101,101,110]⟩) (.func (.func 145) #[] #[.pointer (some ⟨bx,0,none⟩)]) (.func (.func 146) #[] #[])
 obtain ⟨r0,r1,r2,r3,r4,r5⟩:=HL2.out
 go_wp2
 obtain ⟨W,hW,hz,hbz⟩:=HFN.out
 rw [<- hW]
 obtain ⟨z0,z1,z2,_,_,_⟩:=hz
 refine bodyPost_ret (v:=lv7 bx) (by simp [results,Tryz.results73,go_sem,z0,z1,z2]) rfl ⟨bx,rfl,?_,hbz⟩
 have hne:=HNE.out
 rw [hW,set_other (by simp),set_other (by simp),set_other (by simp)]
 exact HBX.out
theorem iLineAt (i:Nat) (hi:i<=1048576) (w:World):Calls Tryz.prog 73 #[.int .i64 (i:Int)] w fun e w'=>∃ v,e=.returned v/\LV w' v i/\Below w.heap.size w w':=by
 match i with
 | 0=>exact (at0 w).mono fun e w' h=>⟨lv0,h.1,rfl,h.2⟩
 | 1=>exact (at1 w).mono fun e w' h=>⟨lv1,h.1,rfl,h.2⟩
 | 2=>exact (at2 w).mono fun e w' h=>⟨lv2,h.1,rfl,h.2⟩
 | 3=>exact (at3 w).mono fun e w' h=>⟨lv3,h.1,rfl,h.2⟩
 | 4=>exact (at4 w).mono fun e w' h=>⟨lv4,h.1,rfl,h.2⟩
 | 5=>exact (at5 w).mono fun e w' h=>⟨lv5,h.1,rfl,h.2⟩
 | 6=>exact (at6 w).mono fun e w' h=>⟨lv6,h.1,rfl,h.2⟩
 | k+7 =>
   refine (at7 k (by omega) w).mono fun e w' h=>?_
   obtain ⟨bx,h1,h2,h3⟩:=h
   exact ⟨lv7 bx,h1,⟨bx,rfl,h2⟩,h3⟩
end Zs3
end Go.Proofs.YtjajkmdoggbicaaGreatDoor
