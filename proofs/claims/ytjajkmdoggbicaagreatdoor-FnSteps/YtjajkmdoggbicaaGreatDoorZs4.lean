import Derived.Test.YtjajkmdoggbicaaGreatDoorZs3
namespace Go.Proofs.YtjajkmdoggbicaaGreatDoor
set_option maxRecDepth 100000
set_option maxHeartbeats 8000000
set_option linter.unusedVariables false
namespace Zs4
open Go.RowKit
open Nd0 (Kept Ints lt_of_cell set_same set_other)
open Tc2 (tv)
open Ss0 (bs bs_size bs_app ret_str)
open Ss1 (tl tl_bs bs_tl)
open Tk0 (TabK keyL)
open Mm0 (Mc Mb Mr Mok mval)
open Qc0 (Sn SnAt Sns)
open Zs0 Zs1 Zs2 Zt0
open Zs3
theorem tx0 (m:Mc) (ra va ma:Option Addr) (rc vc mc:Nat) (w:World) (hR:Mr w m ra va ma) (hO:Mok m) (hK:∀ x∈m.memo,x.k.size<=1048576) (hT:TabZ w) :
 Calls Tryz.prog 74 #[lv0,mval m ra va ma rc vc mc] w fun e w'=>e=.returned (.string (bs (lin m 0)))/\Below w.heap.size w w':=by
 obtain ⟨X0,hX0⟩:∃ X,X=(w.alloc (.cells #[.string ⟨#[114,111,119]⟩,.func (.func 127) #[] #[],.func (.func 128) #[] #[]] 112)).alloc (.cells #[.slice ra m.row.length rc,.int .i64 m.N,.string m.S,.int .i64 m.room,.slice va m.vals.length vc,.int .i64 m.ret,.bool m.over,.int .i64 m.steps,.int .i64 m.looks,.int .i64 m.hits,.slice ma m.memo.length mc] 30):=⟨_,rfl⟩
 have b0:Below w.heap.size w X0:=by rw [hX0];exact ((Below.refl _ _).alloc (Nat.le_refl _) _).alloc (by simp) _
 have HB:Hid (Below w.heap.size w X0):=b0
 have HL:Hid (L3 X0 w.heap.size (.string ⟨#[114,111,119]⟩) (.func (.func 127) #[] #[]) (.func (.func 128) #[] #[])):=by rw [hX0];exact (L3.made _ _ _ _ _).alloc _
 have HM:Hid (Mb X0 (w.heap.size+1) m ra va ma rc vc mc):=by
  have h1:=Mb.made (w.alloc (.cells #[.string ⟨#[114,111,119]⟩,.func (.func 127) #[] #[],.func (.func 128) #[] #[]] 112)) m ra va ma rc vc mc 30
  rw [<- hX0] at h1
  show Mb _ _ _ _ _ _ _ _ _
  simpa using h1
 have hE:(w.alloc (.cells #[.string ⟨#[114,111,119]⟩,.func (.func 127) #[] #[],.func (.func 128) #[] #[]] 112)).alloc (.cells #[.slice ra m.row.length rc,.int .i64 m.N,.string m.S,.int .i64 m.room,.slice va m.vals.length vc,.int .i64 m.ret,.bool m.over,.int .i64 m.steps,.int .i64 m.looks,.int .i64 m.hits,.slice ma m.memo.length mc] 30)=X0:=hX0.symm
 have HTD:Hid (TabZ X0.drew):=(hT.below b0).below (Below.refl _ _).drew
 have HRD:Hid (Mr X0.drew m ra va ma):=(hR.below b0).below (Below.refl _ _).drew
 have HO:Hid (Mok m):=hO
 have HK:Hid (∀ x∈m.memo,x.k.size<=1048576):=hK
 have hbl:=bod_len hO hK 0
 obtain ⟨BO,hBO⟩:∃ B,B=bs (bod m 0):=⟨_,rfl⟩
 have HBO:Hid (bs (bod m 0)=BO):=hBO.symm
 have hbz:BO.size<=1048600:=by rw [hBO,bs_size];exact hbl
 have HE:Hid (⟨#[114,111,119]⟩++⟨#[32]⟩++BO++⟨#[10]⟩=bs (lin m 0)):=by
  show _=_
  rw [hBO,show (⟨#[114,111,119]⟩:ByteArray)=bs [114,111,119] from rfl,show (⟨#[32]⟩:ByteArray)=bs [32] from rfl,show (⟨#[10]⟩:ByteArray)=bs [10] from rfl,bs_app,bs_app,bs_app]
  unfold lin
  show _=bs ([114,111,119]++(32 :: (bod m 0++[10])))
  congr 1
  try simp
 have HE2:Hid (⟨#[114,111,119,32]⟩++BO++⟨#[10]⟩=bs (lin m 0)):=by rw [<- HE.out];rfl
 have hs2:¬ 9223372036854775807 < (⟨#[114,111,119]⟩++⟨#[32]⟩:ByteArray).size+BO.size:=by show ¬ 9223372036854775807 < 4+BO.size;omega
 have hs3:¬ 9223372036854775807 < 4+BO.size:=by omega
 have hs4:¬ 9223372036854775807 < 4+BO.size+1:=by omega
 have hs5:¬ 9223372036854775807 < (⟨#[114,111,119,32]⟩++BO:ByteArray).size+1:=by rw [ByteArray.size_append];show ¬ 9223372036854775807 < 4+BO.size+1;omega
 have hs6:¬ 9223372036854775807 < (⟨#[114,111,119]⟩++⟨#[32]⟩++BO:ByteArray).size+1:=by rw [ByteArray.size_append];show ¬ 9223372036854775807 < 4+BO.size+1;omega
 clear hX0 b0 hT hR hO hK hBO hbl
 go_enter Tryz.func74,Tryz.ntmps74
 go_upto_region 1 with fail
 clear hE
 refine wp_region_held_drew (S:=(fun v=>Below X0.heap.size X0 v)) (by kernel_rfl) ((Below.refl _ _).drew) (fun hHeld=>?_)
 refine wpAnyH_take (i:=0) (v:=?_) rfl (by kernel_rfl) (by kernel_rfl) (by kernel_rfl) (fun _ _ _ h=>h) (Or.inl ⟨by rfl,?_⟩) hHeld ?_
 rotate_left
 ·(intro v9 hS9;have hL9:=HL.out.below hS9;have hM9:=HM.out.below hS9;obtain ⟨y0,y1,y2,_,_,_⟩:=hL9;obtain ⟨z0,z1,z2,z3,z4,z5,z6,z7,z8,z9,z10⟩:=hM9;clear hS9;go_simp;try with_reducible rfl)
 try simp only [Act.put,List.setIfInBounds_toArray,List.set_cons_zero,List.set_cons_succ,List.getElem_toArray,List.getElem_cons_zero]
 refine wpAnyH_take (i:=1) (v:=?_) rfl (by kernel_rfl) (by kernel_rfl) (by kernel_rfl) (fun _ _ _ h=>h) (Or.inl ⟨by rfl,?_⟩) hHeld ?_
 rotate_left
 ·(intro v9 hS9;have hL9:=HL.out.below hS9;have hM9:=HM.out.below hS9;obtain ⟨y0,y1,y2,_,_,_⟩:=hL9;obtain ⟨z0,z1,z2,z3,z4,z5,z6,z7,z8,z9,z10⟩:=hM9;clear hS9;go_simp;try with_reducible rfl)
 try simp only [Act.put,List.setIfInBounds_toArray,List.set_cons_zero,List.set_cons_succ,List.getElem_toArray,List.getElem_cons_zero,List.getElem_cons_succ]
 refine wpAnyH_take (i:=2) (v:=?_) rfl (by kernel_rfl) (by kernel_rfl) (by kernel_rfl) (fun _ _ _ h=>h) (Or.inl ⟨by rfl,?_⟩) hHeld ?_
 rotate_left
 ·(intro v9 hS9;have hL9:=HL.out.below hS9;have hM9:=HM.out.below hS9;obtain ⟨y0,y1,y2,_,_,_⟩:=hL9;obtain ⟨z0,z1,z2,z3,z4,z5,z6,z7,z8,z9,z10⟩:=hM9;clear hS9;go_simp;try with_reducible rfl)
 try simp only [Act.put,List.setIfInBounds_toArray,List.set_cons_zero,List.set_cons_succ,List.getElem_toArray,List.getElem_cons_zero,List.getElem_cons_succ]
 refine wpAnyH_take (i:=3) (v:=?_) rfl (by kernel_rfl) (by kernel_rfl) (by kernel_rfl) (fun _ _ _ h=>h) (Or.inl ⟨by rfl,?_⟩) hHeld ?_
 rotate_left
 ·(intro v9 hS9;have hL9:=HL.out.below hS9;have hM9:=HM.out.below hS9;obtain ⟨y0,y1,y2,_,_,_⟩:=hL9;obtain ⟨z0,z1,z2,z3,z4,z5,z6,z7,z8,z9,z10⟩:=hM9;clear hS9;go_simp;try with_reducible rfl)
 try simp only [Act.put,List.setIfInBounds_toArray,List.set_cons_zero,List.set_cons_succ,List.getElem_toArray,List.getElem_cons_zero,List.getElem_cons_succ]
 refine wpAnyH_take (i:=4) (v:=?_) rfl (by kernel_rfl) (by kernel_rfl) (by kernel_rfl) (fun _ _ _ h=>h) (Or.inl ⟨by rfl,?_⟩) hHeld ?_
 rotate_left
 ·(intro v9 hS9;have hL9:=HL.out.below hS9;have hM9:=HM.out.below hS9;obtain ⟨y0,y1,y2,_,_,_⟩:=hL9;obtain ⟨z0,z1,z2,z3,z4,z5,z6,z7,z8,z9,z10⟩:=hM9;clear hS9;go_simp;try with_reducible rfl)
 try simp only [Act.put,List.setIfInBounds_toArray,List.set_cons_zero,List.set_cons_succ,List.getElem_toArray,List.getElem_cons_zero,List.getElem_cons_succ]
 refine wpAnyH_take (i:=5) (v:=?_) rfl (by kernel_rfl) (by kernel_rfl) (by kernel_rfl) (fun _ _ _ h=>h) (Or.inl ⟨by rfl,?_⟩) hHeld ?_
 rotate_left
 ·(intro v9 hS9;have hL9:=HL.out.below hS9;have hM9:=HM.out.below hS9;obtain ⟨y0,y1,y2,_,_,_⟩:=hL9;obtain ⟨z0,z1,z2,z3,z4,z5,z6,z7,z8,z9,z10⟩:=hM9;clear hS9;go_simp;try with_reducible rfl)
 try simp only [Act.put,List.setIfInBounds_toArray,List.set_cons_zero,List.set_cons_succ,List.getElem_toArray,List.getElem_cons_zero,List.getElem_cons_succ]
 refine wpAnyH_ready (rs:=[6]) (by kernel_rfl) (by simp) ?_
 refine AllReadyH.cons rfl (fun K hK=>?_) AllReadyH.nil
 go_simp
 go_wp2_with (go_at_call 127;refine (c0 m ra va ma rc vc mc X0.drew HRD.out HO.out HK.out HTD.out).mono ?_;rw [HBO.out];rintro e wz ⟨rfl,hbz⟩;have HBZ:Hid (Below X0.heap.size X0 wz):=(Below.refl X0.heap.size X0).drew.trans (hbz.mono (Nat.le_refl _));clear hbz)
 refine hK.out _ _ HBZ.out (fun hNext=>?_)
 clear hK K hHeld
 have hHeld:=hNext
 clear hNext
 refine wpAnyH_take (i:=7) (v:=?_) rfl (by kernel_rfl) (by kernel_rfl) (by kernel_rfl) (fun _ _ _ h=>h) (Or.inl ⟨by rfl,?_⟩) hHeld ?_
 rotate_left
 ·(intro v9 hS9;clear hS9;go_simp;try with_reducible rfl)
 try simp only [Act.put,List.setIfInBounds_toArray,List.set_cons_zero,List.set_cons_succ,List.getElem_toArray,List.getElem_cons_zero,List.getElem_cons_succ]
 refine wpAnyH_take (i:=8) (v:=?_) rfl (by kernel_rfl) (by kernel_rfl) (by kernel_rfl) (fun _ _ _ h=>h) (Or.inl ⟨by rfl,?_⟩) hHeld ?_
 rotate_left
 ·(intro v9 hS9;clear hS9;go_simp;try with_reducible rfl)
 try simp only [Act.put,List.setIfInBounds_toArray,List.set_cons_zero,List.set_cons_succ,List.getElem_toArray,List.getElem_cons_zero,List.getElem_cons_succ]
 refine wpAnyH_take (i:=9) (v:=?_) rfl (by kernel_rfl) (by kernel_rfl) (by kernel_rfl) (fun _ _ _ h=>h) (Or.inl ⟨by rfl,?_⟩) hHeld ?_
 rotate_left
 ·(intro v9 hS9;clear hS9;go_simp;try with_reducible rfl)
 try simp only [Act.put,List.setIfInBounds_toArray,List.set_cons_zero,List.set_cons_succ,List.getElem_toArray,List.getElem_cons_zero,List.getElem_cons_succ]
 refine wpAnyH_done (by kernel_rfl) ?_ _
 go_wp2
 go_ret
 exact ⟨ret_str (by first|exact HE.out|exact HE2.out),HB.out.trans (hHeld.mono HB.out.size)⟩
theorem tx1 (m:Mc) (ra va ma:Option Addr) (rc vc mc:Nat) (w:World) (hR:Mr w m ra va ma) (hO:Mok m) (hK:∀ x∈m.memo,x.k.size<=1048576) (hT:TabZ w) :
 Calls Tryz.prog 74 #[lv1,mval m ra va ma rc vc mc] w fun e w'=>e=.returned (.string (bs (lin m 1)))/\Below w.heap.size w w':=by
 obtain ⟨X0,hX0⟩:∃ X,X=(w.alloc (.cells #[.string ⟨#[116,97,98,108,101]⟩,.func (.func 129) #[] #[],.func (.func 130) #[] #[]] 112)).alloc (.cells #[.slice ra m.row.length rc,.int .i64 m.N,.string m.S,.int .i64 m.room,.slice va m.vals.length vc,.int .i64 m.ret,.bool m.over,.int .i64 m.steps,.int .i64 m.looks,.int .i64 m.hits,.slice ma m.memo.length mc] 30):=⟨_,rfl⟩
 have b0:Below w.heap.size w X0:=by rw [hX0];exact ((Below.refl _ _).alloc (Nat.le_refl _) _).alloc (by simp) _
 have HB:Hid (Below w.heap.size w X0):=b0
 have HL:Hid (L3 X0 w.heap.size (.string ⟨#[116,97,98,108,101]⟩) (.func (.func 129) #[] #[]) (.func (.func 130) #[] #[])):=by rw [hX0];exact (L3.made _ _ _ _ _).alloc _
 have HM:Hid (Mb X0 (w.heap.size+1) m ra va ma rc vc mc):=by
  have h1:=Mb.made (w.alloc (.cells #[.string ⟨#[116,97,98,108,101]⟩,.func (.func 129) #[] #[],.func (.func 130) #[] #[]] 112)) m ra va ma rc vc mc 30
  rw [<- hX0] at h1
  show Mb _ _ _ _ _ _ _ _ _
  simpa using h1
 have hE:(w.alloc (.cells #[.string ⟨#[116,97,98,108,101]⟩,.func (.func 129) #[] #[],.func (.func 130) #[] #[]] 112)).alloc (.cells #[.slice ra m.row.length rc,.int .i64 m.N,.string m.S,.int .i64 m.room,.slice va m.vals.length vc,.int .i64 m.ret,.bool m.over,.int .i64 m.steps,.int .i64 m.looks,.int .i64 m.hits,.slice ma m.memo.length mc] 30)=X0:=hX0.symm
 have HTD:Hid (TabZ X0.drew):=(hT.below b0).below (Below.refl _ _).drew
 have HRD:Hid (Mr X0.drew m ra va ma):=(hR.below b0).below (Below.refl _ _).drew
 have HO:Hid (Mok m):=hO
 have HK:Hid (∀ x∈m.memo,x.k.size<=1048576):=hK
 have hbl:=bod_len hO hK 1
 obtain ⟨BO,hBO⟩:∃ B,B=bs (bod m 1):=⟨_,rfl⟩
 have HBO:Hid (bs (bod m 1)=BO):=hBO.symm
 have hbz:BO.size<=1048600:=by rw [hBO,bs_size];exact hbl
 have HE:Hid (⟨#[116,97,98,108,101]⟩++⟨#[32]⟩++BO++⟨#[10]⟩=bs (lin m 1)):=by
  show _=_
  rw [hBO,show (⟨#[116,97,98,108,101]⟩:ByteArray)=bs [116,97,98,108,101] from rfl,show (⟨#[32]⟩:ByteArray)=bs [32] from rfl,show (⟨#[10]⟩:ByteArray)=bs [10] from rfl,bs_app,bs_app,bs_app]
  unfold lin
  show _=bs ([116,97,98,108,101]++(32 :: (bod m 1++[10])))
  congr 1
  try simp
 have HE2:Hid (⟨#[116,97,98,108,101,32]⟩++BO++⟨#[10]⟩=bs (lin m 1)):=by rw [<- HE.out];rfl
 have hs2:¬ 9223372036854775807 < (⟨#[116,97,98,108,101]⟩++⟨#[32]⟩:ByteArray).size+BO.size:=by show ¬ 9223372036854775807 < 6+BO.size;omega
 have hs3:¬ 9223372036854775807 < 6+BO.size:=by omega
 have hs4:¬ 9223372036854775807 < 6+BO.size+1:=by omega
 have hs5:¬ 9223372036854775807 < (⟨#[116,97,98,108,101,32]⟩++BO:ByteArray).size+1:=by rw [ByteArray.size_append];show ¬ 9223372036854775807 < 6+BO.size+1;omega
 have hs6:¬ 9223372036854775807 < (⟨#[116,97,98,108,101]⟩++⟨#[32]⟩++BO:ByteArray).size+1:=by rw [ByteArray.size_append];show ¬ 9223372036854775807 < 6+BO.size+1;omega
 clear hX0 b0 hT hR hO hK hBO hbl
 go_enter Tryz.func74,Tryz.ntmps74
 go_upto_region 1 with fail
 clear hE
 refine wp_region_held_drew (S:=(fun v=>Below X0.heap.size X0 v)) (by kernel_rfl) ((Below.refl _ _).drew) (fun hHeld=>?_)
 refine wpAnyH_take (i:=0) (v:=?_) rfl (by kernel_rfl) (by kernel_rfl) (by kernel_rfl) (fun _ _ _ h=>h) (Or.inl ⟨by rfl,?_⟩) hHeld ?_
 rotate_left
 ·(intro v9 hS9;have hL9:=HL.out.below hS9;have hM9:=HM.out.below hS9;obtain ⟨y0,y1,y2,_,_,_⟩:=hL9;obtain ⟨z0,z1,z2,z3,z4,z5,z6,z7,z8,z9,z10⟩:=hM9;clear hS9;go_simp;try with_reducible rfl)
 try simp only [Act.put,List.setIfInBounds_toArray,List.set_cons_zero,List.set_cons_succ,List.getElem_toArray,List.getElem_cons_zero]
 refine wpAnyH_take (i:=1) (v:=?_) rfl (by kernel_rfl) (by kernel_rfl) (by kernel_rfl) (fun _ _ _ h=>h) (Or.inl ⟨by rfl,?_⟩) hHeld ?_
 rotate_left
 ·(intro v9 hS9;have hL9:=HL.out.below hS9;have hM9:=HM.out.below hS9;obtain ⟨y0,y1,y2,_,_,_⟩:=hL9;obtain ⟨z0,z1,z2,z3,z4,z5,z6,z7,z8,z9,z10⟩:=hM9;clear hS9;go_simp;try with_reducible rfl)
 try simp only [Act.put,List.setIfInBounds_toArray,List.set_cons_zero,List.set_cons_succ,List.getElem_toArray,List.getElem_cons_zero,List.getElem_cons_succ]
 refine wpAnyH_take (i:=2) (v:=?_) rfl (by kernel_rfl) (by kernel_rfl) (by kernel_rfl) (fun _ _ _ h=>h) (Or.inl ⟨by rfl,?_⟩) hHeld ?_
 rotate_left
 ·(intro v9 hS9;have hL9:=HL.out.below hS9;have hM9:=HM.out.below hS9;obtain ⟨y0,y1,y2,_,_,_⟩:=hL9;obtain ⟨z0,z1,z2,z3,z4,z5,z6,z7,z8,z9,z10⟩:=hM9;clear hS9;go_simp;try with_reducible rfl)
 try simp only [Act.put,List.setIfInBounds_toArray,List.set_cons_zero,List.set_cons_succ,List.getElem_toArray,List.getElem_cons_zero,List.getElem_cons_succ]
 refine wpAnyH_take (i:=3) (v:=?_) rfl (by kernel_rfl) (by kernel_rfl) (by kernel_rfl) (fun _ _ _ h=>h) (Or.inl ⟨by rfl,?_⟩) hHeld ?_
 rotate_left
 ·(intro v9 hS9;have hL9:=HL.out.below hS9;have hM9:=HM.out.below hS9;obtain ⟨y0,y1,y2,_,_,_⟩:=hL9;obtain ⟨z0,z1,z2,z3,z4,z5,z6,z7,z8,z9,z10⟩:=hM9;clear hS9;go_simp;try with_reducible rfl)
 try simp only [Act.put,List.setIfInBounds_toArray,List.set_cons_zero,List.set_cons_succ,List.getElem_toArray,List.getElem_cons_zero,List.getElem_cons_succ]
 refine wpAnyH_take (i:=4) (v:=?_) rfl (by kernel_rfl) (by kernel_rfl) (by kernel_rfl) (fun _ _ _ h=>h) (Or.inl ⟨by rfl,?_⟩) hHeld ?_
 rotate_left
 ·(intro v9 hS9;have hL9:=HL.out.below hS9;have hM9:=HM.out.below hS9;obtain ⟨y0,y1,y2,_,_,_⟩:=hL9;obtain ⟨z0,z1,z2,z3,z4,z5,z6,z7,z8,z9,z10⟩:=hM9;clear hS9;go_simp;try with_reducible rfl)
 try simp only [Act.put,List.setIfInBounds_toArray,List.set_cons_zero,List.set_cons_succ,List.getElem_toArray,List.getElem_cons_zero,List.getElem_cons_succ]
 refine wpAnyH_take (i:=5) (v:=?_) rfl (by kernel_rfl) (by kernel_rfl) (by kernel_rfl) (fun _ _ _ h=>h) (Or.inl ⟨by rfl,?_⟩) hHeld ?_
 rotate_left
 ·(intro v9 hS9;have hL9:=HL.out.below hS9;have hM9:=HM.out.below hS9;obtain ⟨y0,y1,y2,_,_,_⟩:=hL9;obtain ⟨z0,z1,z2,z3,z4,z5,z6,z7,z8,z9,z10⟩:=hM9;clear hS9;go_simp;try with_reducible rfl)
 try simp only [Act.put,List.setIfInBounds_toArray,List.set_cons_zero,List.set_cons_succ,List.getElem_toArray,List.getElem_cons_zero,List.getElem_cons_succ]
 refine wpAnyH_ready (rs:=[6]) (by kernel_rfl) (by simp) ?_
 refine AllReadyH.cons rfl (fun K hK=>?_) AllReadyH.nil
 go_simp
 go_wp2_with (go_at_call 129;refine (c1 m ra va ma rc vc mc X0.drew HRD.out HO.out HK.out HTD.out).mono ?_;rw [HBO.out];rintro e wz ⟨rfl,hbz⟩;have HBZ:Hid (Below X0.heap.size X0 wz):=(Below.refl X0.heap.size X0).drew.trans (hbz.mono (Nat.le_refl _));clear hbz)
 refine hK.out _ _ HBZ.out (fun hNext=>?_)
 clear hK K hHeld
 have hHeld:=hNext
 clear hNext
 refine wpAnyH_take (i:=7) (v:=?_) rfl (by kernel_rfl) (by kernel_rfl) (by kernel_rfl) (fun _ _ _ h=>h) (Or.inl ⟨by rfl,?_⟩) hHeld ?_
 rotate_left
 ·(intro v9 hS9;clear hS9;go_simp;try with_reducible rfl)
 try simp only [Act.put,List.setIfInBounds_toArray,List.set_cons_zero,List.set_cons_succ,List.getElem_toArray,List.getElem_cons_zero,List.getElem_cons_succ]
 refine wpAnyH_take (i:=8) (v:=?_) rfl (by kernel_rfl) (by kernel_rfl) (by kernel_rfl) (fun _ _ _ h=>h) (Or.inl ⟨by rfl,?_⟩) hHeld ?_
 rotate_left
 ·(intro v9 hS9;clear hS9;go_simp;try with_reducible rfl)
 try simp only [Act.put,List.setIfInBounds_toArray,List.set_cons_zero,List.set_cons_succ,List.getElem_toArray,List.getElem_cons_zero,List.getElem_cons_succ]
 refine wpAnyH_take (i:=9) (v:=?_) rfl (by kernel_rfl) (by kernel_rfl) (by kernel_rfl) (fun _ _ _ h=>h) (Or.inl ⟨by rfl,?_⟩) hHeld ?_
 rotate_left
 ·(intro v9 hS9;clear hS9;go_simp;try with_reducible rfl)
 try simp only [Act.put,List.setIfInBounds_toArray,List.set_cons_zero,List.set_cons_succ,List.getElem_toArray,List.getElem_cons_zero,List.getElem_cons_succ]
 refine wpAnyH_done (by kernel_rfl) ?_ _
 go_wp2
 go_ret
 exact ⟨ret_str (by first|exact HE.out|exact HE2.out),HB.out.trans (hHeld.mono HB.out.size)⟩
theorem tx2 (m:Mc) (ra va ma:Option Addr) (rc vc mc:Nat) (w:World) (hR:Mr w m ra va ma) (hO:Mok m) (hK:∀ x∈m.memo,x.k.size<=1048576) (hT:TabZ w) :
 Calls Tryz.prog 74 #[lv2,mval m ra va ma rc vc mc] w fun e w'=>e=.returned (.string (bs (lin m 2)))/\Below w.heap.size w w':=by
 obtain ⟨X0,hX0⟩:∃ X,X=(w.alloc (.cells #[.string ⟨#[114,111,111,109]⟩,.func (.func 131) #[] #[],.func (.func 133) #[] #[]] 112)).alloc (.cells #[.slice ra m.row.length rc,.int .i64 m.N,.string m.S,.int .i64 m.room,.slice va m.vals.length vc,.int .i64 m.ret,.bool m.over,.int .i64 m.steps,.int .i64 m.looks,.int .i64 m.hits,.slice ma m.memo.length mc] 30):=⟨_,rfl⟩
 have b0:Below w.heap.size w X0:=by rw [hX0];exact ((Below.refl _ _).alloc (Nat.le_refl _) _).alloc (by simp) _
 have HB:Hid (Below w.heap.size w X0):=b0
 have HL:Hid (L3 X0 w.heap.size (.string ⟨#[114,111,111,109]⟩) (.func (.func 131) #[] #[]) (.func (.func 133) #[] #[])):=by rw [hX0];exact (L3.made _ _ _ _ _).alloc _
 have HM:Hid (Mb X0 (w.heap.size+1) m ra va ma rc vc mc):=by
  have h1:=Mb.made (w.alloc (.cells #[.string ⟨#[114,111,111,109]⟩,.func (.func 131) #[] #[],.func (.func 133) #[] #[]] 112)) m ra va ma rc vc mc 30
  rw [<- hX0] at h1
  show Mb _ _ _ _ _ _ _ _ _
  simpa using h1
 have hE:(w.alloc (.cells #[.string ⟨#[114,111,111,109]⟩,.func (.func 131) #[] #[],.func (.func 133) #[] #[]] 112)).alloc (.cells #[.slice ra m.row.length rc,.int .i64 m.N,.string m.S,.int .i64 m.room,.slice va m.vals.length vc,.int .i64 m.ret,.bool m.over,.int .i64 m.steps,.int .i64 m.looks,.int .i64 m.hits,.slice ma m.memo.length mc] 30)=X0:=hX0.symm
 have HTD:Hid (TabZ X0.drew):=(hT.below b0).below (Below.refl _ _).drew
 have HRD:Hid (Mr X0.drew m ra va ma):=(hR.below b0).below (Below.refl _ _).drew
 have HO:Hid (Mok m):=hO
 have HK:Hid (∀ x∈m.memo,x.k.size<=1048576):=hK
 have hbl:=bod_len hO hK 2
 obtain ⟨BO,hBO⟩:∃ B,B=bs (bod m 2):=⟨_,rfl⟩
 have HBO:Hid (bs (bod m 2)=BO):=hBO.symm
 have hbz:BO.size<=1048600:=by rw [hBO,bs_size];exact hbl
 have HE:Hid (⟨#[114,111,111,109]⟩++⟨#[32]⟩++BO++⟨#[10]⟩=bs (lin m 2)):=by
  show _=_
  rw [hBO,show (⟨#[114,111,111,109]⟩:ByteArray)=bs [114,111,111,109] from rfl,show (⟨#[32]⟩:ByteArray)=bs [32] from rfl,show (⟨#[10]⟩:ByteArray)=bs [10] from rfl,bs_app,bs_app,bs_app]
  unfold lin
  show _=bs ([114,111,111,109]++(32 :: (bod m 2++[10])))
  congr 1
  try simp
 have HE2:Hid (⟨#[114,111,111,109,32]⟩++BO++⟨#[10]⟩=bs (lin m 2)):=by rw [<- HE.out];rfl
 have hs2:¬ 9223372036854775807 < (⟨#[114,111,111,109]⟩++⟨#[32]⟩:ByteArray).size+BO.size:=by show ¬ 9223372036854775807 < 5+BO.size;omega
 have hs3:¬ 9223372036854775807 < 5+BO.size:=by omega
 have hs4:¬ 9223372036854775807 < 5+BO.size+1:=by omega
 have hs5:¬ 9223372036854775807 < (⟨#[114,111,111,109,32]⟩++BO:ByteArray).size+1:=by rw [ByteArray.size_append];show ¬ 9223372036854775807 < 5+BO.size+1;omega
 have hs6:¬ 9223372036854775807 < (⟨#[114,111,111,109]⟩++⟨#[32]⟩++BO:ByteArray).size+1:=by rw [ByteArray.size_append];show ¬ 9223372036854775807 < 5+BO.size+1;omega
 clear hX0 b0 hT hR hO hK hBO hbl
 go_enter Tryz.func74,Tryz.ntmps74
 go_upto_region 1 with fail
 clear hE
 refine wp_region_held_drew (S:=(fun v=>Below X0.heap.size X0 v)) (by kernel_rfl) ((Below.refl _ _).drew) (fun hHeld=>?_)
 refine wpAnyH_take (i:=0) (v:=?_) rfl (by kernel_rfl) (by kernel_rfl) (by kernel_rfl) (fun _ _ _ h=>h) (Or.inl ⟨by rfl,?_⟩) hHeld ?_
 rotate_left
 ·(intro v9 hS9;have hL9:=HL.out.below hS9;have hM9:=HM.out.below hS9;obtain ⟨y0,y1,y2,_,_,_⟩:=hL9;obtain ⟨z0,z1,z2,z3,z4,z5,z6,z7,z8,z9,z10⟩:=hM9;clear hS9;go_simp;try with_reducible rfl)
 try simp only [Act.put,List.setIfInBounds_toArray,List.set_cons_zero,List.set_cons_succ,List.getElem_toArray,List.getElem_cons_zero]
 refine wpAnyH_take (i:=1) (v:=?_) rfl (by kernel_rfl) (by kernel_rfl) (by kernel_rfl) (fun _ _ _ h=>h) (Or.inl ⟨by rfl,?_⟩) hHeld ?_
 rotate_left
 ·(intro v9 hS9;have hL9:=HL.out.below hS9;have hM9:=HM.out.below hS9;obtain ⟨y0,y1,y2,_,_,_⟩:=hL9;obtain ⟨z0,z1,z2,z3,z4,z5,z6,z7,z8,z9,z10⟩:=hM9;clear hS9;go_simp;try with_reducible rfl)
 try simp only [Act.put,List.setIfInBounds_toArray,List.set_cons_zero,List.set_cons_succ,List.getElem_toArray,List.getElem_cons_zero,List.getElem_cons_succ]
 refine wpAnyH_take (i:=2) (v:=?_) rfl (by kernel_rfl) (by kernel_rfl) (by kernel_rfl) (fun _ _ _ h=>h) (Or.inl ⟨by rfl,?_⟩) hHeld ?_
 rotate_left
 ·(intro v9 hS9;have hL9:=HL.out.below hS9;have hM9:=HM.out.below hS9;obtain ⟨y0,y1,y2,_,_,_⟩:=hL9;obtain ⟨z0,z1,z2,z3,z4,z5,z6,z7,z8,z9,z10⟩:=hM9;clear hS9;go_simp;try with_reducible rfl)
 try simp only [Act.put,List.setIfInBounds_toArray,List.set_cons_zero,List.set_cons_succ,List.getElem_toArray,List.getElem_cons_zero,List.getElem_cons_succ]
 refine wpAnyH_take (i:=3) (v:=?_) rfl (by kernel_rfl) (by kernel_rfl) (by kernel_rfl) (fun _ _ _ h=>h) (Or.inl ⟨by rfl,?_⟩) hHeld ?_
 rotate_left
 ·(intro v9 hS9;have hL9:=HL.out.below hS9;have hM9:=HM.out.below hS9;obtain ⟨y0,y1,y2,_,_,_⟩:=hL9;obtain ⟨z0,z1,z2,z3,z4,z5,z6,z7,z8,z9,z10⟩:=hM9;clear hS9;go_simp;try with_reducible rfl)
 try simp only [Act.put,List.setIfInBounds_toArray,List.set_cons_zero,List.set_cons_succ,List.getElem_toArray,List.getElem_cons_zero,List.getElem_cons_succ]
 refine wpAnyH_take (i:=4) (v:=?_) rfl (by kernel_rfl) (by kernel_rfl) (by kernel_rfl) (fun _ _ _ h=>h) (Or.inl ⟨by rfl,?_⟩) hHeld ?_
 rotate_left
 ·(intro v9 hS9;have hL9:=HL.out.below hS9;have hM9:=HM.out.below hS9;obtain ⟨y0,y1,y2,_,_,_⟩:=hL9;obtain ⟨z0,z1,z2,z3,z4,z5,z6,z7,z8,z9,z10⟩:=hM9;clear hS9;go_simp;try with_reducible rfl)
 try simp only [Act.put,List.setIfInBounds_toArray,List.set_cons_zero,List.set_cons_succ,List.getElem_toArray,List.getElem_cons_zero,List.getElem_cons_succ]
 refine wpAnyH_take (i:=5) (v:=?_) rfl (by kernel_rfl) (by kernel_rfl) (by kernel_rfl) (fun _ _ _ h=>h) (Or.inl ⟨by rfl,?_⟩) hHeld ?_
 rotate_left
 ·(intro v9 hS9;have hL9:=HL.out.below hS9;have hM9:=HM.out.below hS9;obtain ⟨y0,y1,y2,_,_,_⟩:=hL9;obtain ⟨z0,z1,z2,z3,z4,z5,z6,z7,z8,z9,z10⟩:=hM9;clear hS9;go_simp;try with_reducible rfl)
 try simp only [Act.put,List.setIfInBounds_toArray,List.set_cons_zero,List.set_cons_succ,List.getElem_toArray,List.getElem_cons_zero,List.getElem_cons_succ]
 refine wpAnyH_ready (rs:=[6]) (by kernel_rfl) (by simp) ?_
 refine AllReadyH.cons rfl (fun K hK=>?_) AllReadyH.nil
 go_simp
 go_wp2_with (go_at_call 131;refine (c2 m ra va ma rc vc mc X0.drew HRD.out HO.out HK.out HTD.out).mono ?_;rw [HBO.out];rintro e wz ⟨rfl,hbz⟩;have HBZ:Hid (Below X0.heap.size X0 wz):=(Below.refl X0.heap.size X0).drew.trans (hbz.mono (Nat.le_refl _));clear hbz)
 refine hK.out _ _ HBZ.out (fun hNext=>?_)
 clear hK K hHeld
 have hHeld:=hNext
 clear hNext
 refine wpAnyH_take (i:=7) (v:=?_) rfl (by kernel_rfl) (by kernel_rfl) (by kernel_rfl) (fun _ _ _ h=>h) (Or.inl ⟨by rfl,?_⟩) hHeld ?_
 rotate_left
 ·(intro v9 hS9;clear hS9;go_simp;try with_reducible rfl)
 try simp only [Act.put,List.setIfInBounds_toArray,List.set_cons_zero,List.set_cons_succ,List.getElem_toArray,List.getElem_cons_zero,List.getElem_cons_succ]
 refine wpAnyH_take (i:=8) (v:=?_) rfl (by kernel_rfl) (by kernel_rfl) (by kernel_rfl) (fun _ _ _ h=>h) (Or.inl ⟨by rfl,?_⟩) hHeld ?_
 rotate_left
 ·(intro v9 hS9;clear hS9;go_simp;try with_reducible rfl)
 try simp only [Act.put,List.setIfInBounds_toArray,List.set_cons_zero,List.set_cons_succ,List.getElem_toArray,List.getElem_cons_zero,List.getElem_cons_succ]
 refine wpAnyH_take (i:=9) (v:=?_) rfl (by kernel_rfl) (by kernel_rfl) (by kernel_rfl) (fun _ _ _ h=>h) (Or.inl ⟨by rfl,?_⟩) hHeld ?_
 rotate_left
 ·(intro v9 hS9;clear hS9;go_simp;try with_reducible rfl)
 try simp only [Act.put,List.setIfInBounds_toArray,List.set_cons_zero,List.set_cons_succ,List.getElem_toArray,List.getElem_cons_zero,List.getElem_cons_succ]
 refine wpAnyH_done (by kernel_rfl) ?_ _
 go_wp2
 go_ret
 exact ⟨ret_str (by first|exact HE.out|exact HE2.out),HB.out.trans (hHeld.mono HB.out.size)⟩
theorem tx3 (m:Mc) (ra va ma:Option Addr) (rc vc mc:Nat) (w:World) (hR:Mr w m ra va ma) (hO:Mok m) (hK:∀ x∈m.memo,x.k.size<=1048576) (hT:TabZ w) :
 Calls Tryz.prog 74 #[lv3,mval m ra va ma rc vc mc] w fun e w'=>e=.returned (.string (bs (lin m 3)))/\Below w.heap.size w w':=by
 obtain ⟨X0,hX0⟩:∃ X,X=(w.alloc (.cells #[.string ⟨#[118,97,108,115]⟩,.func (.func 134) #[] #[],.func (.func 136) #[] #[]] 112)).alloc (.cells #[.slice ra m.row.length rc,.int .i64 m.N,.string m.S,.int .i64 m.room,.slice va m.vals.length vc,.int .i64 m.ret,.bool m.over,.int .i64 m.steps,.int .i64 m.looks,.int .i64 m.hits,.slice ma m.memo.length mc] 30):=⟨_,rfl⟩
 have b0:Below w.heap.size w X0:=by rw [hX0];exact ((Below.refl _ _).alloc (Nat.le_refl _) _).alloc (by simp) _
 have HB:Hid (Below w.heap.size w X0):=b0
 have HL:Hid (L3 X0 w.heap.size (.string ⟨#[118,97,108,115]⟩) (.func (.func 134) #[] #[]) (.func (.func 136) #[] #[])):=by rw [hX0];exact (L3.made _ _ _ _ _).alloc _
 have HM:Hid (Mb X0 (w.heap.size+1) m ra va ma rc vc mc):=by
  have h1:=Mb.made (w.alloc (.cells #[.string ⟨#[118,97,108,115]⟩,.func (.func 134) #[] #[],.func (.func 136) #[] #[]] 112)) m ra va ma rc vc mc 30
  rw [<- hX0] at h1
  show Mb _ _ _ _ _ _ _ _ _
  simpa using h1
 have hE:(w.alloc (.cells #[.string ⟨#[118,97,108,115]⟩,.func (.func 134) #[] #[],.func (.func 136) #[] #[]] 112)).alloc (.cells #[.slice ra m.row.length rc,.int .i64 m.N,.string m.S,.int .i64 m.room,.slice va m.vals.length vc,.int .i64 m.ret,.bool m.over,.int .i64 m.steps,.int .i64 m.looks,.int .i64 m.hits,.slice ma m.memo.length mc] 30)=X0:=hX0.symm
 have HTD:Hid (TabZ X0.drew):=(hT.below b0).below (Below.refl _ _).drew
 have HRD:Hid (Mr X0.drew m ra va ma):=(hR.below b0).below (Below.refl _ _).drew
 have HO:Hid (Mok m):=hO
 have HK:Hid (∀ x∈m.memo,x.k.size<=1048576):=hK
 have hbl:=bod_len hO hK 3
 obtain ⟨BO,hBO⟩:∃ B,B=bs (bod m 3):=⟨_,rfl⟩
 have HBO:Hid (bs (bod m 3)=BO):=hBO.symm
 have hbz:BO.size<=1048600:=by rw [hBO,bs_size];exact hbl
 have HE:Hid (⟨#[118,97,108,115]⟩++⟨#[32]⟩++BO++⟨#[10]⟩=bs (lin m 3)):=by
  show _=_
  rw [hBO,show (⟨#[118,97,108,115]⟩:ByteArray)=bs [118,97,108,115] from rfl,show (⟨#[32]⟩:ByteArray)=bs [32] from rfl,show (⟨#[10]⟩:ByteArray)=bs [10] from rfl,bs_app,bs_app,bs_app]
  unfold lin
  show _=bs ([118,97,108,115]++(32 :: (bod m 3++[10])))
  congr 1
  try simp
 have HE2:Hid (⟨#[118,97,108,115,32]⟩++BO++⟨#[10]⟩=bs (lin m 3)):=by rw [<- HE.out];rfl
 have hs2:¬ 9223372036854775807 < (⟨#[118,97,108,115]⟩++⟨#[32]⟩:ByteArray).size+BO.size:=by show ¬ 9223372036854775807 < 5+BO.size;omega
 have hs3:¬ 9223372036854775807 < 5+BO.size:=by omega
 have hs4:¬ 9223372036854775807 < 5+BO.size+1:=by omega
 have hs5:¬ 9223372036854775807 < (⟨#[118,97,108,115,32]⟩++BO:ByteArray).size+1:=by rw [ByteArray.size_append];show ¬ 9223372036854775807 < 5+BO.size+1;omega
 have hs6:¬ 9223372036854775807 < (⟨#[118,97,108,115]⟩++⟨#[32]⟩++BO:ByteArray).size+1:=by rw [ByteArray.size_append];show ¬ 9223372036854775807 < 5+BO.size+1;omega
 clear hX0 b0 hT hR hO hK hBO hbl
 go_enter Tryz.func74,Tryz.ntmps74
 go_upto_region 1 with fail
 clear hE
 refine wp_region_held_drew (S:=(fun v=>Below X0.heap.size X0 v)) (by kernel_rfl) ((Below.refl _ _).drew) (fun hHeld=>?_)
 refine wpAnyH_take (i:=0) (v:=?_) rfl (by kernel_rfl) (by kernel_rfl) (by kernel_rfl) (fun _ _ _ h=>h) (Or.inl ⟨by rfl,?_⟩) hHeld ?_
 rotate_left
 ·(intro v9 hS9;have hL9:=HL.out.below hS9;have hM9:=HM.out.below hS9;obtain ⟨y0,y1,y2,_,_,_⟩:=hL9;obtain ⟨z0,z1,z2,z3,z4,z5,z6,z7,z8,z9,z10⟩:=hM9;clear hS9;go_simp;try with_reducible rfl)
 try simp only [Act.put,List.setIfInBounds_toArray,List.set_cons_zero,List.set_cons_succ,List.getElem_toArray,List.getElem_cons_zero]
 refine wpAnyH_take (i:=1) (v:=?_) rfl (by kernel_rfl) (by kernel_rfl) (by kernel_rfl) (fun _ _ _ h=>h) (Or.inl ⟨by rfl,?_⟩) hHeld ?_
 rotate_left
 ·(intro v9 hS9;have hL9:=HL.out.below hS9;have hM9:=HM.out.below hS9;obtain ⟨y0,y1,y2,_,_,_⟩:=hL9;obtain ⟨z0,z1,z2,z3,z4,z5,z6,z7,z8,z9,z10⟩:=hM9;clear hS9;go_simp;try with_reducible rfl)
 try simp only [Act.put,List.setIfInBounds_toArray,List.set_cons_zero,List.set_cons_succ,List.getElem_toArray,List.getElem_cons_zero,List.getElem_cons_succ]
 refine wpAnyH_take (i:=2) (v:=?_) rfl (by kernel_rfl) (by kernel_rfl) (by kernel_rfl) (fun _ _ _ h=>h) (Or.inl ⟨by rfl,?_⟩) hHeld ?_
 rotate_left
 ·(intro v9 hS9;have hL9:=HL.out.below hS9;have hM9:=HM.out.below hS9;obtain ⟨y0,y1,y2,_,_,_⟩:=hL9;obtain ⟨z0,z1,z2,z3,z4,z5,z6,z7,z8,z9,z10⟩:=hM9;clear hS9;go_simp;try with_reducible rfl)
 try simp only [Act.put,List.setIfInBounds_toArray,List.set_cons_zero,List.set_cons_succ,List.getElem_toArray,List.getElem_cons_zero,List.getElem_cons_succ]
 refine wpAnyH_take (i:=3) (v:=?_) rfl (by kernel_rfl) (by kernel_rfl) (by kernel_rfl) (fun _ _ _ h=>h) (Or.inl ⟨by rfl,?_⟩) hHeld ?_
 rotate_left
 ·(intro v9 hS9;have hL9:=HL.out.below hS9;have hM9:=HM.out.below hS9;obtain ⟨y0,y1,y2,_,_,_⟩:=hL9;obtain ⟨z0,z1,z2,z3,z4,z5,z6,z7,z8,z9,z10⟩:=hM9;clear hS9;go_simp;try with_reducible rfl)
 try simp only [Act.put,List.setIfInBounds_toArray,List.set_cons_zero,List.set_cons_succ,List.getElem_toArray,List.getElem_cons_zero,List.getElem_cons_succ]
 refine wpAnyH_take (i:=4) (v:=?_) rfl (by kernel_rfl) (by kernel_rfl) (by kernel_rfl) (fun _ _ _ h=>h) (Or.inl ⟨by rfl,?_⟩) hHeld ?_
 rotate_left
 ·(intro v9 hS9;have hL9:=HL.out.below hS9;have hM9:=HM.out.below hS9;obtain ⟨y0,y1,y2,_,_,_⟩:=hL9;obtain ⟨z0,z1,z2,z3,z4,z5,z6,z7,z8,z9,z10⟩:=hM9;clear hS9;go_simp;try with_reducible rfl)
 try simp only [Act.put,List.setIfInBounds_toArray,List.set_cons_zero,List.set_cons_succ,List.getElem_toArray,List.getElem_cons_zero,List.getElem_cons_succ]
 refine wpAnyH_take (i:=5) (v:=?_) rfl (by kernel_rfl) (by kernel_rfl) (by kernel_rfl) (fun _ _ _ h=>h) (Or.inl ⟨by rfl,?_⟩) hHeld ?_
 rotate_left
 ·(intro v9 hS9;have hL9:=HL.out.below hS9;have hM9:=HM.out.below hS9;obtain ⟨y0,y1,y2,_,_,_⟩:=hL9;obtain ⟨z0,z1,z2,z3,z4,z5,z6,z7,z8,z9,z10⟩:=hM9;clear hS9;go_simp;try with_reducible rfl)
 try simp only [Act.put,List.setIfInBounds_toArray,List.set_cons_zero,List.set_cons_succ,List.getElem_toArray,List.getElem_cons_zero,List.getElem_cons_succ]
 refine wpAnyH_ready (rs:=[6]) (by kernel_rfl) (by simp) ?_
 refine AllReadyH.cons rfl (fun K hK=>?_) AllReadyH.nil
 go_simp
 go_wp2_with (go_at_call 134;refine (c3 m ra va ma rc vc mc X0.drew HRD.out HO.out HK.out HTD.out).mono ?_;rw [HBO.out];rintro e wz ⟨rfl,hbz⟩;have HBZ:Hid (Below X0.heap.size X0 wz):=(Below.refl X0.heap.size X0).drew.trans (hbz.mono (Nat.le_refl _));clear hbz)
 refine hK.out _ _ HBZ.out (fun hNext=>?_)
 clear hK K hHeld
 have hHeld:=hNext
 clear hNext
 refine wpAnyH_take (i:=7) (v:=?_) rfl (by kernel_rfl) (by kernel_rfl) (by kernel_rfl) (fun _ _ _ h=>h) (Or.inl ⟨by rfl,?_⟩) hHeld ?_
 rotate_left
 ·(intro v9 hS9;clear hS9;go_simp;try with_reducible rfl)
 try simp only [Act.put,List.setIfInBounds_toArray,List.set_cons_zero,List.set_cons_succ,List.getElem_toArray,List.getElem_cons_zero,List.getElem_cons_succ]
 refine wpAnyH_take (i:=8) (v:=?_) rfl (by kernel_rfl) (by kernel_rfl) (by kernel_rfl) (fun _ _ _ h=>h) (Or.inl ⟨by rfl,?_⟩) hHeld ?_
 rotate_left
 ·(intro v9 hS9;clear hS9;go_simp;try with_reducible rfl)
 try simp only [Act.put,List.setIfInBounds_toArray,List.set_cons_zero,List.set_cons_succ,List.getElem_toArray,List.getElem_cons_zero,List.getElem_cons_succ]
 refine wpAnyH_take (i:=9) (v:=?_) rfl (by kernel_rfl) (by kernel_rfl) (by kernel_rfl) (fun _ _ _ h=>h) (Or.inl ⟨by rfl,?_⟩) hHeld ?_
 rotate_left
 ·(intro v9 hS9;clear hS9;go_simp;try with_reducible rfl)
 try simp only [Act.put,List.setIfInBounds_toArray,List.set_cons_zero,List.set_cons_succ,List.getElem_toArray,List.getElem_cons_zero,List.getElem_cons_succ]
 refine wpAnyH_done (by kernel_rfl) ?_ _
 go_wp2
 go_ret
 exact ⟨ret_str (by first|exact HE.out|exact HE2.out),HB.out.trans (hHeld.mono HB.out.size)⟩
theorem tx4 (m:Mc) (ra va ma:Option Addr) (rc vc mc:Nat) (w:World) (hR:Mr w m ra va ma) (hO:Mok m) (hK:∀ x∈m.memo,x.k.size<=1048576) (hT:TabZ w) :
 Calls Tryz.prog 74 #[lv4,mval m ra va ma rc vc mc] w fun e w'=>e=.returned (.string (bs (lin m 4)))/\Below w.heap.size w w':=by
 obtain ⟨X0,hX0⟩:∃ X,X=(w.alloc (.cells #[.string ⟨#[114,101,116]⟩,.func (.func 138) #[] #[],.func (.func 139) #[] #[]] 112)).alloc (.cells #[.slice ra m.row.length rc,.int .i64 m.N,.string m.S,.int .i64 m.room,.slice va m.vals.length vc,.int .i64 m.ret,.bool m.over,.int .i64 m.steps,.int .i64 m.looks,.int .i64 m.hits,.slice ma m.memo.length mc] 30):=⟨_,rfl⟩
 have b0:Below w.heap.size w X0:=by rw [hX0];exact ((Below.refl _ _).alloc (Nat.le_refl _) _).alloc (by simp) _
 have HB:Hid (Below w.heap.size w X0):=b0
 have HL:Hid (L3 X0 w.heap.size (.string ⟨#[114,101,116]⟩) (.func (.func 138) #[] #[]) (.func (.func 139) #[] #[])):=by rw [hX0];exact (L3.made _ _ _ _ _).alloc _
 have HM:Hid (Mb X0 (w.heap.size+1) m ra va ma rc vc mc):=by
  have h1:=Mb.made (w.alloc (.cells #[.string ⟨#[114,101,116]⟩,.func (.func 138) #[] #[],.func (.func 139) #[] #[]] 112)) m ra va ma rc vc mc 30
  rw [<- hX0] at h1
  show Mb _ _ _ _ _ _ _ _ _
  simpa using h1
 have hE:(w.alloc (.cells #[.string ⟨#[114,101,116]⟩,.func (.func 138) #[] #[],.func (.func 139) #[] #[]] 112)).alloc (.cells #[.slice ra m.row.length rc,.int .i64 m.N,.string m.S,.int .i64 m.room,.slice va m.vals.length vc,.int .i64 m.ret,.bool m.over,.int .i64 m.steps,.int .i64 m.looks,.int .i64 m.hits,.slice ma m.memo.length mc] 30)=X0:=hX0.symm
 have HTD:Hid (TabZ X0.drew):=(hT.below b0).below (Below.refl _ _).drew
 have HRD:Hid (Mr X0.drew m ra va ma):=(hR.below b0).below (Below.refl _ _).drew
 have HO:Hid (Mok m):=hO
 have HK:Hid (∀ x∈m.memo,x.k.size<=1048576):=hK
 have hbl:=bod_len hO hK 4
 obtain ⟨BO,hBO⟩:∃ B,B=bs (bod m 4):=⟨_,rfl⟩
 have HBO:Hid (bs (bod m 4)=BO):=hBO.symm
 have hbz:BO.size<=1048600:=by rw [hBO,bs_size];exact hbl
 have HE:Hid (⟨#[114,101,116]⟩++⟨#[32]⟩++BO++⟨#[10]⟩=bs (lin m 4)):=by
  show _=_
  rw [hBO,show (⟨#[114,101,116]⟩:ByteArray)=bs [114,101,116] from rfl,show (⟨#[32]⟩:ByteArray)=bs [32] from rfl,show (⟨#[10]⟩:ByteArray)=bs [10] from rfl,bs_app,bs_app,bs_app]
  unfold lin
  show _=bs ([114,101,116]++(32 :: (bod m 4++[10])))
  congr 1
  try simp
 have HE2:Hid (⟨#[114,101,116,32]⟩++BO++⟨#[10]⟩=bs (lin m 4)):=by rw [<- HE.out];rfl
 have hs2:¬ 9223372036854775807 < (⟨#[114,101,116]⟩++⟨#[32]⟩:ByteArray).size+BO.size:=by show ¬ 9223372036854775807 < 4+BO.size;omega
 have hs3:¬ 9223372036854775807 < 4+BO.size:=by omega
 have hs4:¬ 9223372036854775807 < 4+BO.size+1:=by omega
 have hs5:¬ 9223372036854775807 < (⟨#[114,101,116,32]⟩++BO:ByteArray).size+1:=by rw [ByteArray.size_append];show ¬ 9223372036854775807 < 4+BO.size+1;omega
 have hs6:¬ 9223372036854775807 < (⟨#[114,101,116]⟩++⟨#[32]⟩++BO:ByteArray).size+1:=by rw [ByteArray.size_append];show ¬ 9223372036854775807 < 4+BO.size+1;omega
 clear hX0 b0 hT hR hO hK hBO hbl
 go_enter Tryz.func74,Tryz.ntmps74
 go_upto_region 1 with fail
 clear hE
 refine wp_region_held_drew (S:=(fun v=>Below X0.heap.size X0 v)) (by kernel_rfl) ((Below.refl _ _).drew) (fun hHeld=>?_)
 refine wpAnyH_take (i:=0) (v:=?_) rfl (by kernel_rfl) (by kernel_rfl) (by kernel_rfl) (fun _ _ _ h=>h) (Or.inl ⟨by rfl,?_⟩) hHeld ?_
 rotate_left
 ·(intro v9 hS9;have hL9:=HL.out.below hS9;have hM9:=HM.out.below hS9;obtain ⟨y0,y1,y2,_,_,_⟩:=hL9;obtain ⟨z0,z1,z2,z3,z4,z5,z6,z7,z8,z9,z10⟩:=hM9;clear hS9;go_simp;try with_reducible rfl)
 try simp only [Act.put,List.setIfInBounds_toArray,List.set_cons_zero,List.set_cons_succ,List.getElem_toArray,List.getElem_cons_zero]
 refine wpAnyH_take (i:=1) (v:=?_) rfl (by kernel_rfl) (by kernel_rfl) (by kernel_rfl) (fun _ _ _ h=>h) (Or.inl ⟨by rfl,?_⟩) hHeld ?_
 rotate_left
 ·(intro v9 hS9;have hL9:=HL.out.below hS9;have hM9:=HM.out.below hS9;obtain ⟨y0,y1,y2,_,_,_⟩:=hL9;obtain ⟨z0,z1,z2,z3,z4,z5,z6,z7,z8,z9,z10⟩:=hM9;clear hS9;go_simp;try with_reducible rfl)
 try simp only [Act.put,List.setIfInBounds_toArray,List.set_cons_zero,List.set_cons_succ,List.getElem_toArray,List.getElem_cons_zero,List.getElem_cons_succ]
 refine wpAnyH_take (i:=2) (v:=?_) rfl (by kernel_rfl) (by kernel_rfl) (by kernel_rfl) (fun _ _ _ h=>h) (Or.inl ⟨by rfl,?_⟩) hHeld ?_
 rotate_left
 ·(intro v9 hS9;have hL9:=HL.out.below hS9;have hM9:=HM.out.below hS9;obtain ⟨y0,y1,y2,_,_,_⟩:=hL9;obtain ⟨z0,z1,z2,z3,z4,z5,z6,z7,z8,z9,z10⟩:=hM9;clear hS9;go_simp;try with_reducible rfl)
 try simp only [Act.put,List.setIfInBounds_toArray,List.set_cons_zero,List.set_cons_succ,List.getElem_toArray,List.getElem_cons_zero,List.getElem_cons_succ]
 refine wpAnyH_take (i:=3) (v:=?_) rfl (by kernel_rfl) (by kernel_rfl) (by kernel_rfl) (fun _ _ _ h=>h) (Or.inl ⟨by rfl,?_⟩) hHeld ?_
 rotate_left
 ·(intro v9 hS9;have hL9:=HL.out.below hS9;have hM9:=HM.out.below hS9;obtain ⟨y0,y1,y2,_,_,_⟩:=hL9;obtain ⟨z0,z1,z2,z3,z4,z5,z6,z7,z8,z9,z10⟩:=hM9;clear hS9;go_simp;try with_reducible rfl)
 try simp only [Act.put,List.setIfInBounds_toArray,List.set_cons_zero,List.set_cons_succ,List.getElem_toArray,List.getElem_cons_zero,List.getElem_cons_succ]
 refine wpAnyH_take (i:=4) (v:=?_) rfl (by kernel_rfl) (by kernel_rfl) (by kernel_rfl) (fun _ _ _ h=>h) (Or.inl ⟨by rfl,?_⟩) hHeld ?_
 rotate_left
 ·(intro v9 hS9;have hL9:=HL.out.below hS9;have hM9:=HM.out.below hS9;obtain ⟨y0,y1,y2,_,_,_⟩:=hL9;obtain ⟨z0,z1,z2,z3,z4,z5,z6,z7,z8,z9,z10⟩:=hM9;clear hS9;go_simp;try with_reducible rfl)
 try simp only [Act.put,List.setIfInBounds_toArray,List.set_cons_zero,List.set_cons_succ,List.getElem_toArray,List.getElem_cons_zero,List.getElem_cons_succ]
 refine wpAnyH_take (i:=5) (v:=?_) rfl (by kernel_rfl) (by kernel_rfl) (by kernel_rfl) (fun _ _ _ h=>h) (Or.inl ⟨by rfl,?_⟩) hHeld ?_
 rotate_left
 ·(intro v9 hS9;have hL9:=HL.out.below hS9;have hM9:=HM.out.below hS9;obtain ⟨y0,y1,y2,_,_,_⟩:=hL9;obtain ⟨z0,z1,z2,z3,z4,z5,z6,z7,z8,z9,z10⟩:=hM9;clear hS9;go_simp;try with_reducible rfl)
 try simp only [Act.put,List.setIfInBounds_toArray,List.set_cons_zero,List.set_cons_succ,List.getElem_toArray,List.getElem_cons_zero,List.getElem_cons_succ]
 refine wpAnyH_ready (rs:=[6]) (by kernel_rfl) (by simp) ?_
 refine AllReadyH.cons rfl (fun K hK=>?_) AllReadyH.nil
 go_simp
 go_wp2_with (go_at_call 138;refine (c4 m ra va ma rc vc mc X0.drew HRD.out HO.out HK.out HTD.out).mono ?_;rw [HBO.out];rintro e wz ⟨rfl,hbz⟩;have HBZ:Hid (Below X0.heap.size X0 wz):=(Below.refl X0.heap.size X0).drew.trans (hbz.mono (Nat.le_refl _));clear hbz)
 refine hK.out _ _ HBZ.out (fun hNext=>?_)
 clear hK K hHeld
 have hHeld:=hNext
 clear hNext
 refine wpAnyH_take (i:=7) (v:=?_) rfl (by kernel_rfl) (by kernel_rfl) (by kernel_rfl) (fun _ _ _ h=>h) (Or.inl ⟨by rfl,?_⟩) hHeld ?_
 rotate_left
 ·(intro v9 hS9;clear hS9;go_simp;try with_reducible rfl)
 try simp only [Act.put,List.setIfInBounds_toArray,List.set_cons_zero,List.set_cons_succ,List.getElem_toArray,List.getElem_cons_zero,List.getElem_cons_succ]
 refine wpAnyH_take (i:=8) (v:=?_) rfl (by kernel_rfl) (by kernel_rfl) (by kernel_rfl) (fun _ _ _ h=>h) (Or.inl ⟨by rfl,?_⟩) hHeld ?_
 rotate_left
 ·(intro v9 hS9;clear hS9;go_simp;try with_reducible rfl)
 try simp only [Act.put,List.setIfInBounds_toArray,List.set_cons_zero,List.set_cons_succ,List.getElem_toArray,List.getElem_cons_zero,List.getElem_cons_succ]
 refine wpAnyH_take (i:=9) (v:=?_) rfl (by kernel_rfl) (by kernel_rfl) (by kernel_rfl) (fun _ _ _ h=>h) (Or.inl ⟨by rfl,?_⟩) hHeld ?_
 rotate_left
 ·(intro v9 hS9;clear hS9;go_simp;try with_reducible rfl)
 try simp only [Act.put,List.setIfInBounds_toArray,List.set_cons_zero,List.set_cons_succ,List.getElem_toArray,List.getElem_cons_zero,List.getElem_cons_succ]
 refine wpAnyH_done (by kernel_rfl) ?_ _
 go_wp2
 go_ret
 exact ⟨ret_str (by first|exact HE.out|exact HE2.out),HB.out.trans (hHeld.mono HB.out.size)⟩
theorem tx5 (m:Mc) (ra va ma:Option Addr) (rc vc mc:Nat) (w:World) (hR:Mr w m ra va ma) (hO:Mok m) (hK:∀ x∈m.memo,x.k.size<=1048576) (hT:TabZ w) :
 Calls Tryz.prog 74 #[lv5,mval m ra va ma rc vc mc] w fun e w'=>e=.returned (.string (bs (lin m 5)))/\Below w.heap.size w w':=by
 obtain ⟨X0,hX0⟩:∃ X,X=(w.alloc (.cells #[.string ⟨#[111,118,101,114]⟩,.func (.func 140) #[] #[],.func (.func 141) #[] #[]] 112)).alloc (.cells #[.slice ra m.row.length rc,.int .i64 m.N,.string m.S,.int .i64 m.room,.slice va m.vals.length vc,.int .i64 m.ret,.bool m.over,.int .i64 m.steps,.int .i64 m.looks,.int .i64 m.hits,.slice ma m.memo.length mc] 30):=⟨_,rfl⟩
 have b0:Below w.heap.size w X0:=by rw [hX0];exact ((Below.refl _ _).alloc (Nat.le_refl _) _).alloc (by simp) _
 have HB:Hid (Below w.heap.size w X0):=b0
 have HL:Hid (L3 X0 w.heap.size (.string ⟨#[111,118,101,114]⟩) (.func (.func 140) #[] #[]) (.func (.func 141) #[] #[])):=by rw [hX0];exact (L3.made _ _ _ _ _).alloc _
 have HM:Hid (Mb X0 (w.heap.size+1) m ra va ma rc vc mc):=by
  have h1:=Mb.made (w.alloc (.cells #[.string ⟨#[111,118,101,114]⟩,.func (.func 140) #[] #[],.func (.func 141) #[] #[]] 112)) m ra va ma rc vc mc 30
  rw [<- hX0] at h1
  show Mb _ _ _ _ _ _ _ _ _
  simpa using h1
 have hE:(w.alloc (.cells #[.string ⟨#[111,118,101,114]⟩,.func (.func 140) #[] #[],.func (.func 141) #[] #[]] 112)).alloc (.cells #[.slice ra m.row.length rc,.int .i64 m.N,.string m.S,.int .i64 m.room,.slice va m.vals.length vc,.int .i64 m.ret,.bool m.over,.int .i64 m.steps,.int .i64 m.looks,.int .i64 m.hits,.slice ma m.memo.length mc] 30)=X0:=hX0.symm
 have HTD:Hid (TabZ X0.drew):=(hT.below b0).below (Below.refl _ _).drew
 have HRD:Hid (Mr X0.drew m ra va ma):=(hR.below b0).below (Below.refl _ _).drew
 have HO:Hid (Mok m):=hO
 have HK:Hid (∀ x∈m.memo,x.k.size<=1048576):=hK
 have hbl:=bod_len hO hK 5
 obtain ⟨BO,hBO⟩:∃ B,B=bs (bod m 5):=⟨_,rfl⟩
 have HBO:Hid (bs (bod m 5)=BO):=hBO.symm
 have hbz:BO.size<=1048600:=by rw [hBO,bs_size];exact hbl
 have HE:Hid (⟨#[111,118,101,114]⟩++⟨#[32]⟩++BO++⟨#[10]⟩=bs (lin m 5)):=by
  show _=_
  rw [hBO,show (⟨#[111,118,101,114]⟩:ByteArray)=bs [111,118,101,114] from rfl,show (⟨#[32]⟩:ByteArray)=bs [32] from rfl,show (⟨#[10]⟩:ByteArray)=bs [10] from rfl,bs_app,bs_app,bs_app]
  unfold lin
  show _=bs ([111,118,101,114]++(32 :: (bod m 5++[10])))
  congr 1
  try simp
 have HE2:Hid (⟨#[111,118,101,114,32]⟩++BO++⟨#[10]⟩=bs (lin m 5)):=by rw [<- HE.out];rfl
 have hs2:¬ 9223372036854775807 < (⟨#[111,118,101,114]⟩++⟨#[32]⟩:ByteArray).size+BO.size:=by show ¬ 9223372036854775807 < 5+BO.size;omega
 have hs3:¬ 9223372036854775807 < 5+BO.size:=by omega
 have hs4:¬ 9223372036854775807 < 5+BO.size+1:=by omega
 have hs5:¬ 9223372036854775807 < (⟨#[111,118,101,114,32]⟩++BO:ByteArray).size+1:=by rw [ByteArray.size_append];show ¬ 9223372036854775807 < 5+BO.size+1;omega
 have hs6:¬ 9223372036854775807 < (⟨#[111,118,101,114]⟩++⟨#[32]⟩++BO:ByteArray).size+1:=by rw [ByteArray.size_append];show ¬ 9223372036854775807 < 5+BO.size+1;omega
 clear hX0 b0 hT hR hO hK hBO hbl
 go_enter Tryz.func74,Tryz.ntmps74
 go_upto_region 1 with fail
 clear hE
 refine wp_region_held_drew (S:=(fun v=>Below X0.heap.size X0 v)) (by kernel_rfl) ((Below.refl _ _).drew) (fun hHeld=>?_)
 refine wpAnyH_take (i:=0) (v:=?_) rfl (by kernel_rfl) (by kernel_rfl) (by kernel_rfl) (fun _ _ _ h=>h) (Or.inl ⟨by rfl,?_⟩) hHeld ?_
 rotate_left
 ·(intro v9 hS9;have hL9:=HL.out.below hS9;have hM9:=HM.out.below hS9;obtain ⟨y0,y1,y2,_,_,_⟩:=hL9;obtain ⟨z0,z1,z2,z3,z4,z5,z6,z7,z8,z9,z10⟩:=hM9;clear hS9;go_simp;try with_reducible rfl)
 try simp only [Act.put,List.setIfInBounds_toArray,List.set_cons_zero,List.set_cons_succ,List.getElem_toArray,List.getElem_cons_zero]
 refine wpAnyH_take (i:=1) (v:=?_) rfl (by kernel_rfl) (by kernel_rfl) (by kernel_rfl) (fun _ _ _ h=>h) (Or.inl ⟨by rfl,?_⟩) hHeld ?_
 rotate_left
 ·(intro v9 hS9;have hL9:=HL.out.below hS9;have hM9:=HM.out.below hS9;obtain ⟨y0,y1,y2,_,_,_⟩:=hL9;obtain ⟨z0,z1,z2,z3,z4,z5,z6,z7,z8,z9,z10⟩:=hM9;clear hS9;go_simp;try with_reducible rfl)
 try simp only [Act.put,List.setIfInBounds_toArray,List.set_cons_zero,List.set_cons_succ,List.getElem_toArray,List.getElem_cons_zero,List.getElem_cons_succ]
 refine wpAnyH_take (i:=2) (v:=?_) rfl (by kernel_rfl) (by kernel_rfl) (by kernel_rfl) (fun _ _ _ h=>h) (Or.inl ⟨by rfl,?_⟩) hHeld ?_
 rotate_left
 ·(intro v9 hS9;have hL9:=HL.out.below hS9;have hM9:=HM.out.below hS9;obtain ⟨y0,y1,y2,_,_,_⟩:=hL9;obtain ⟨z0,z1,z2,z3,z4,z5,z6,z7,z8,z9,z10⟩:=hM9;clear hS9;go_simp;try with_reducible rfl)
 try simp only [Act.put,List.setIfInBounds_toArray,List.set_cons_zero,List.set_cons_succ,List.getElem_toArray,List.getElem_cons_zero,List.getElem_cons_succ]
 refine wpAnyH_take (i:=3) (v:=?_) rfl (by kernel_rfl) (by kernel_rfl) (by kernel_rfl) (fun _ _ _ h=>h) (Or.inl ⟨by rfl,?_⟩) hHeld ?_
 rotate_left
 ·(intro v9 hS9;have hL9:=HL.out.below hS9;have hM9:=HM.out.below hS9;obtain ⟨y0,y1,y2,_,_,_⟩:=hL9;obtain ⟨z0,z1,z2,z3,z4,z5,z6,z7,z8,z9,z10⟩:=hM9;clear hS9;go_simp;try with_reducible rfl)
 try simp only [Act.put,List.setIfInBounds_toArray,List.set_cons_zero,List.set_cons_succ,List.getElem_toArray,List.getElem_cons_zero,List.getElem_cons_succ]
 refine wpAnyH_take (i:=4) (v:=?_) rfl (by kernel_rfl) (by kernel_rfl) (by kernel_rfl) (fun _ _ _ h=>h) (Or.inl ⟨by rfl,?_⟩) hHeld ?_
 rotate_left
 ·(intro v9 hS9;have hL9:=HL.out.below hS9;have hM9:=HM.out.below hS9;obtain ⟨y0,y1,y2,_,_,_⟩:=hL9;obtain ⟨z0,z1,z2,z3,z4,z5,z6,z7,z8,z9,z10⟩:=hM9;clear hS9;go_simp;try with_reducible rfl)
 try simp only [Act.put,List.setIfInBounds_toArray,List.set_cons_zero,List.set_cons_succ,List.getElem_toArray,List.getElem_cons_zero,List.getElem_cons_succ]
 refine wpAnyH_take (i:=5) (v:=?_) rfl (by kernel_rfl) (by kernel_rfl) (by kernel_rfl) (fun _ _ _ h=>h) (Or.inl ⟨by rfl,?_⟩) hHeld ?_
 rotate_left
 ·(intro v9 hS9;have hL9:=HL.out.below hS9;have hM9:=HM.out.below hS9;obtain ⟨y0,y1,y2,_,_,_⟩:=hL9;obtain ⟨z0,z1,z2,z3,z4,z5,z6,z7,z8,z9,z10⟩:=hM9;clear hS9;go_simp;try with_reducible rfl)
 try simp only [Act.put,List.setIfInBounds_toArray,List.set_cons_zero,List.set_cons_succ,List.getElem_toArray,List.getElem_cons_zero,List.getElem_cons_succ]
 refine wpAnyH_ready (rs:=[6]) (by kernel_rfl) (by simp) ?_
 refine AllReadyH.cons rfl (fun K hK=>?_) AllReadyH.nil
 go_simp
 go_wp2_with (go_at_call 140;refine (c5 m ra va ma rc vc mc X0.drew HRD.out HO.out HK.out HTD.out).mono ?_;rw [HBO.out];rintro e wz ⟨rfl,hbz⟩;have HBZ:Hid (Below X0.heap.size X0 wz):=(Below.refl X0.heap.size X0).drew.trans (hbz.mono (Nat.le_refl _));clear hbz)
 refine hK.out _ _ HBZ.out (fun hNext=>?_)
 clear hK K hHeld
 have hHeld:=hNext
 clear hNext
 refine wpAnyH_take (i:=7) (v:=?_) rfl (by kernel_rfl) (by kernel_rfl) (by kernel_rfl) (fun _ _ _ h=>h) (Or.inl ⟨by rfl,?_⟩) hHeld ?_
 rotate_left
 ·(intro v9 hS9;clear hS9;go_simp;try with_reducible rfl)
 try simp only [Act.put,List.setIfInBounds_toArray,List.set_cons_zero,List.set_cons_succ,List.getElem_toArray,List.getElem_cons_zero,List.getElem_cons_succ]
 refine wpAnyH_take (i:=8) (v:=?_) rfl (by kernel_rfl) (by kernel_rfl) (by kernel_rfl) (fun _ _ _ h=>h) (Or.inl ⟨by rfl,?_⟩) hHeld ?_
 rotate_left
 ·(intro v9 hS9;clear hS9;go_simp;try with_reducible rfl)
 try simp only [Act.put,List.setIfInBounds_toArray,List.set_cons_zero,List.set_cons_succ,List.getElem_toArray,List.getElem_cons_zero,List.getElem_cons_succ]
 refine wpAnyH_take (i:=9) (v:=?_) rfl (by kernel_rfl) (by kernel_rfl) (by kernel_rfl) (fun _ _ _ h=>h) (Or.inl ⟨by rfl,?_⟩) hHeld ?_
 rotate_left
 ·(intro v9 hS9;clear hS9;go_simp;try with_reducible rfl)
 try simp only [Act.put,List.setIfInBounds_toArray,List.set_cons_zero,List.set_cons_succ,List.getElem_toArray,List.getElem_cons_zero,List.getElem_cons_succ]
 refine wpAnyH_done (by kernel_rfl) ?_ _
 go_wp2
 go_ret
 exact ⟨ret_str (by first|exact HE.out|exact HE2.out),HB.out.trans (hHeld.mono HB.out.size)⟩
theorem tx6 (m:Mc) (ra va ma:Option Addr) (rc vc mc:Nat) (w:World) (hR:Mr w m ra va ma) (hO:Mok m) (hK:∀ x∈m.memo,x.k.size<=1048576) (hT:TabZ w) :
 Calls Tryz.prog 74 #[lv6,mval m ra va ma rc vc mc] w fun e w'=>e=.returned (.string (bs (lin m 6)))/\Below w.heap.size w w':=by
 obtain ⟨X0,hX0⟩:∃ X,X=(w.alloc (.cells #[.string ⟨#[99,111,117,110,116,115]⟩,.func (.func 142) #[] #[],.func (.func 143) #[] #[]] 112)).alloc (.cells #[.slice ra m.row.length rc,.int .i64 m.N,.string m.S,.int .i64 m.room,.slice va m.vals.length vc,.int .i64 m.ret,.bool m.over,.int .i64 m.steps,.int .i64 m.looks,.int .i64 m.hits,.slice ma m.memo.length mc] 30):=⟨_,rfl⟩
 have b0:Below w.heap.size w X0:=by rw [hX0];exact ((Below.refl _ _).alloc (Nat.le_refl _) _).alloc (by simp) _
 have HB:Hid (Below w.heap.size w X0):=b0
 have HL:Hid (L3 X0 w.heap.size (.string ⟨#[99,111,117,110,116,115]⟩) (.func (.func 142) #[] #[]) (.func (.func 143) #[] #[])):=by rw [hX0];exact (L3.made _ _ _ _ _).alloc _
 have HM:Hid (Mb X0 (w.heap.size+1) m ra va ma rc vc mc):=by
  have h1:=Mb.made (w.alloc (.cells #[.string ⟨#[99,111,117,110,116,115]⟩,.func (.func 142) #[] #[],.func (.func 143) #[] #[]] 112)) m ra va ma rc vc mc 30
  rw [<- hX0] at h1
  show Mb _ _ _ _ _ _ _ _ _
  simpa using h1
 have hE:(w.alloc (.cells #[.string ⟨#[99,111,117,110,116,115]⟩,.func (.func 142) #[] #[],.func (.func 143) #[] #[]] 112)).alloc (.cells #[.slice ra m.row.length rc,.int .i64 m.N,.string m.S,.int .i64 m.room,.slice va m.vals.length vc,.int .i64 m.ret,.bool m.over,.int .i64 m.steps,.int .i64 m.looks,.int .i64 m.hits,.slice ma m.memo.length mc] 30)=X0:=hX0.symm
 have HTD:Hid (TabZ X0.drew):=(hT.below b0).below (Below.refl _ _).drew
 have HRD:Hid (Mr X0.drew m ra va ma):=(hR.below b0).below (Below.refl _ _).drew
 have HO:Hid (Mok m):=hO
 have HK:Hid (∀ x∈m.memo,x.k.size<=1048576):=hK
 have hbl:=bod_len hO hK 6
 obtain ⟨BO,hBO⟩:∃ B,B=bs (bod m 6):=⟨_,rfl⟩
 have HBO:Hid (bs (bod m 6)=BO):=hBO.symm
 have hbz:BO.size<=1048600:=by rw [hBO,bs_size];exact hbl
 have HE:Hid (⟨#[99,111,117,110,116,115]⟩++⟨#[32]⟩++BO++⟨#[10]⟩=bs (lin m 6)):=by
  show _=_
  rw [hBO,show (⟨#[99,111,117,110,116,115]⟩:ByteArray)=bs [99,111,117,110,116,115] from rfl,show (⟨#[32]⟩:ByteArray)=bs [32] from rfl,show (⟨#[10]⟩:ByteArray)=bs [10] from rfl,bs_app,bs_app,bs_app]
  unfold lin
  show _=bs ([99,111,117,110,116,115]++(32 :: (bod m 6++[10])))
  congr 1
  try simp
 have HE2:Hid (⟨#[99,111,117,110,116,115,32]⟩++BO++⟨#[10]⟩=bs (lin m 6)):=by rw [<- HE.out];rfl
 have hs2:¬ 9223372036854775807 < (⟨#[99,111,117,110,116,115]⟩++⟨#[32]⟩:ByteArray).size+BO.size:=by show ¬ 9223372036854775807 < 7+BO.size;omega
 have hs3:¬ 9223372036854775807 < 7+BO.size:=by omega
 have hs4:¬ 9223372036854775807 < 7+BO.size+1:=by omega
 have hs5:¬ 9223372036854775807 < (⟨#[99,111,117,110,116,115,32]⟩++BO:ByteArray).size+1:=by rw [ByteArray.size_append];show ¬ 9223372036854775807 < 7+BO.size+1;omega
 have hs6:¬ 9223372036854775807 < (⟨#[99,111,117,110,116,115]⟩++⟨#[32]⟩++BO:ByteArray).size+1:=by rw [ByteArray.size_append];show ¬ 9223372036854775807 < 7+BO.size+1;omega
 clear hX0 b0 hT hR hO hK hBO hbl
 go_enter Tryz.func74,Tryz.ntmps74
 go_upto_region 1 with fail
 clear hE
 refine wp_region_held_drew (S:=(fun v=>Below X0.heap.size X0 v)) (by kernel_rfl) ((Below.refl _ _).drew) (fun hHeld=>?_)
 refine wpAnyH_take (i:=0) (v:=?_) rfl (by kernel_rfl) (by kernel_rfl) (by kernel_rfl) (fun _ _ _ h=>h) (Or.inl ⟨by rfl,?_⟩) hHeld ?_
 rotate_left
 ·(intro v9 hS9;have hL9:=HL.out.below hS9;have hM9:=HM.out.below hS9;obtain ⟨y0,y1,y2,_,_,_⟩:=hL9;obtain ⟨z0,z1,z2,z3,z4,z5,z6,z7,z8,z9,z10⟩:=hM9;clear hS9;go_simp;try with_reducible rfl)
 try simp only [Act.put,List.setIfInBounds_toArray,List.set_cons_zero,List.set_cons_succ,List.getElem_toArray,List.getElem_cons_zero]
 refine wpAnyH_take (i:=1) (v:=?_) rfl (by kernel_rfl) (by kernel_rfl) (by kernel_rfl) (fun _ _ _ h=>h) (Or.inl ⟨by rfl,?_⟩) hHeld ?_
 rotate_left
 ·(intro v9 hS9;have hL9:=HL.out.below hS9;have hM9:=HM.out.below hS9;obtain ⟨y0,y1,y2,_,_,_⟩:=hL9;obtain ⟨z0,z1,z2,z3,z4,z5,z6,z7,z8,z9,z10⟩:=hM9;clear hS9;go_simp;try with_reducible rfl)
 try simp only [Act.put,List.setIfInBounds_toArray,List.set_cons_zero,List.set_cons_succ,List.getElem_toArray,List.getElem_cons_zero,List.getElem_cons_succ]
 refine wpAnyH_take (i:=2) (v:=?_) rfl (by kernel_rfl) (by kernel_rfl) (by kernel_rfl) (fun _ _ _ h=>h) (Or.inl ⟨by rfl,?_⟩) hHeld ?_
 rotate_left
 ·(intro v9 hS9;have hL9:=HL.out.below hS9;have hM9:=HM.out.below hS9;obtain ⟨y0,y1,y2,_,_,_⟩:=hL9;obtain ⟨z0,z1,z2,z3,z4,z5,z6,z7,z8,z9,z10⟩:=hM9;clear hS9;go_simp;try with_reducible rfl)
 try simp only [Act.put,List.setIfInBounds_toArray,List.set_cons_zero,List.set_cons_succ,List.getElem_toArray,List.getElem_cons_zero,List.getElem_cons_succ]
 refine wpAnyH_take (i:=3) (v:=?_) rfl (by kernel_rfl) (by kernel_rfl) (by kernel_rfl) (fun _ _ _ h=>h) (Or.inl ⟨by rfl,?_⟩) hHeld ?_
 rotate_left
 ·(intro v9 hS9;have hL9:=HL.out.below hS9;have hM9:=HM.out.below hS9;obtain ⟨y0,y1,y2,_,_,_⟩:=hL9;obtain ⟨z0,z1,z2,z3,z4,z5,z6,z7,z8,z9,z10⟩:=hM9;clear hS9;go_simp;try with_reducible rfl)
 try simp only [Act.put,List.setIfInBounds_toArray,List.set_cons_zero,List.set_cons_succ,List.getElem_toArray,List.getElem_cons_zero,List.getElem_cons_succ]
 refine wpAnyH_take (i:=4) (v:=?_) rfl (by kernel_rfl) (by kernel_rfl) (by kernel_rfl) (fun _ _ _ h=>h) (Or.inl ⟨by rfl,?_⟩) hHeld ?_
 rotate_left
 ·(intro v9 hS9;have hL9:=HL.out.below hS9;have hM9:=HM.out.below hS9;obtain ⟨y0,y1,y2,_,_,_⟩:=hL9;obtain ⟨z0,z1,z2,z3,z4,z5,z6,z7,z8,z9,z10⟩:=hM9;clear hS9;go_simp;try with_reducible rfl)
 try simp only [Act.put,List.setIfInBounds_toArray,List.set_cons_zero,List.set_cons_succ,List.getElem_toArray,List.getElem_cons_zero,List.getElem_cons_succ]
 refine wpAnyH_take (i:=5) (v:=?_) rfl (by kernel_rfl) (by kernel_rfl) (by kernel_rfl) (fun _ _ _ h=>h) (Or.inl ⟨by rfl,?_⟩) hHeld ?_
 rotate_left
 ·(intro v9 hS9;have hL9:=HL.out.below hS9;have hM9:=HM.out.below hS9;obtain ⟨y0,y1,y2,_,_,_⟩:=hL9;obtain ⟨z0,z1,z2,z3,z4,z5,z6,z7,z8,z9,z10⟩:=hM9;clear hS9;go_simp;try with_reducible rfl)
 try simp only [Act.put,List.setIfInBounds_toArray,List.set_cons_zero,List.set_cons_succ,List.getElem_toArray,List.getElem_cons_zero,List.getElem_cons_succ]
 refine wpAnyH_ready (rs:=[6]) (by kernel_rfl) (by simp) ?_
 refine AllReadyH.cons rfl (fun K hK=>?_) AllReadyH.nil
 go_simp
 go_wp2_with (go_at_call 142;refine (c6 m ra va ma rc vc mc X0.drew HRD.out HO.out HK.out HTD.out).mono ?_;rw [HBO.out];rintro e wz ⟨rfl,hbz⟩;have HBZ:Hid (Below X0.heap.size X0 wz):=(Below.refl X0.heap.size X0).drew.trans (hbz.mono (Nat.le_refl _));clear hbz)
 refine hK.out _ _ HBZ.out (fun hNext=>?_)
 clear hK K hHeld
 have hHeld:=hNext
 clear hNext
 refine wpAnyH_take (i:=7) (v:=?_) rfl (by kernel_rfl) (by kernel_rfl) (by kernel_rfl) (fun _ _ _ h=>h) (Or.inl ⟨by rfl,?_⟩) hHeld ?_
 rotate_left
 ·(intro v9 hS9;clear hS9;go_simp;try with_reducible rfl)
 try simp only [Act.put,List.setIfInBounds_toArray,List.set_cons_zero,List.set_cons_succ,List.getElem_toArray,List.getElem_cons_zero,List.getElem_cons_succ]
 refine wpAnyH_take (i:=8) (v:=?_) rfl (by kernel_rfl) (by kernel_rfl) (by kernel_rfl) (fun _ _ _ h=>h) (Or.inl ⟨by rfl,?_⟩) hHeld ?_
 rotate_left
 ·(intro v9 hS9;clear hS9;go_simp;try with_reducible rfl)
 try simp only [Act.put,List.setIfInBounds_toArray,List.set_cons_zero,List.set_cons_succ,List.getElem_toArray,List.getElem_cons_zero,List.getElem_cons_succ]
 refine wpAnyH_take (i:=9) (v:=?_) rfl (by kernel_rfl) (by kernel_rfl) (by kernel_rfl) (fun _ _ _ h=>h) (Or.inl ⟨by rfl,?_⟩) hHeld ?_
 rotate_left
 ·(intro v9 hS9;clear hS9;go_simp;try with_reducible rfl)
 try simp only [Act.put,List.setIfInBounds_toArray,List.set_cons_zero,List.set_cons_succ,List.getElem_toArray,List.getElem_cons_zero,List.getElem_cons_succ]
 refine wpAnyH_done (by kernel_rfl) ?_ _
 go_wp2
 go_ret
 exact ⟨ret_str (by first|exact HE.out|exact HE2.out),HB.out.trans (hHeld.mono HB.out.size)⟩
theorem tx7 (m:Mc) (ra va ma:Option Addr) (rc vc mc:Nat) (w:World) (hR:Mr w m ra va ma) (hO:Mok m) (hK:∀ x∈m.memo,x.k.size<=1048576) (hT:TabZ w) (k bx:Nat) (hk:k < m.memo.length) (hbx:w.cell? ⟨bx,0,none⟩=some (.int .i64 (k:Int))) :
 Calls Tryz.prog 74 #[(lv7 bx),mval m ra va ma rc vc mc] w fun e w'=>e=.returned (.string (bs (lin m (k+7))))/\Below w.heap.size w w':=by
 obtain ⟨X0,hX0⟩:∃ X,X=(w.alloc (.cells #[.string ⟨#[115,101,101,110]⟩,.func (.func 145) #[] #[.pointer (some ⟨bx,0,none⟩)],.func (.func 146) #[] #[]] 112)).alloc (.cells #[.slice ra m.row.length rc,.int .i64 m.N,.string m.S,.int .i64 m.room,.slice va m.vals.length vc,.int .i64 m.ret,.bool m.over,.int .i64 m.steps,.int .i64 m.looks,.int .i64 m.hits,.slice ma m.memo.length mc] 30):=⟨_,rfl⟩
 have b0:Below w.heap.size w X0:=by rw [hX0];exact ((Below.refl _ _).alloc (Nat.le_refl _) _).alloc (by simp) _
 have HB:Hid (Below w.heap.size w X0):=b0
 have HL:Hid (L3 X0 w.heap.size (.string ⟨#[115,101,101,110]⟩) (.func (.func 145) #[] #[.pointer (some ⟨bx,0,none⟩)]) (.func (.func 146) #[] #[])):=by rw [hX0];exact (L3.made _ _ _ _ _).alloc _
 have HM:Hid (Mb X0 (w.heap.size+1) m ra va ma rc vc mc):=by
  have h1:=Mb.made (w.alloc (.cells #[.string ⟨#[115,101,101,110]⟩,.func (.func 145) #[] #[.pointer (some ⟨bx,0,none⟩)],.func (.func 146) #[] #[]] 112)) m ra va ma rc vc mc 30
  rw [<- hX0] at h1
  show Mb _ _ _ _ _ _ _ _ _
  simpa using h1
 have hE:(w.alloc (.cells #[.string ⟨#[115,101,101,110]⟩,.func (.func 145) #[] #[.pointer (some ⟨bx,0,none⟩)],.func (.func 146) #[] #[]] 112)).alloc (.cells #[.slice ra m.row.length rc,.int .i64 m.N,.string m.S,.int .i64 m.room,.slice va m.vals.length vc,.int .i64 m.ret,.bool m.over,.int .i64 m.steps,.int .i64 m.looks,.int .i64 m.hits,.slice ma m.memo.length mc] 30)=X0:=hX0.symm
 have HTD:Hid (TabZ X0.drew):=(hT.below b0).below (Below.refl _ _).drew
 have HRD:Hid (Mr X0.drew m ra va ma):=(hR.below b0).below (Below.refl _ _).drew
 have HXD:Hid (X0.drew.cell? ⟨bx,0,none⟩=some (.int .i64 (k:Int))):=by
  have h1:X0.cell? ⟨bx,0,none⟩=some (.int .i64 (k:Int)):=by rw [b0.cell (p:=⟨bx,0,none⟩) (lt_of_cell hbx)];exact hbx
  exact h1
 clear hbx
 have HO:Hid (Mok m):=hO
 have HK:Hid (∀ x∈m.memo,x.k.size<=1048576):=hK
 have hbl:=bod_len hO hK (k+7)
 obtain ⟨BO,hBO⟩:∃ B,B=bs (bod m (k+7)):=⟨_,rfl⟩
 have HBO:Hid (bs (bod m (k+7))=BO):=hBO.symm
 have hbz:BO.size<=1048600:=by rw [hBO,bs_size];exact hbl
 have HE:Hid (⟨#[115,101,101,110]⟩++⟨#[32]⟩++BO++⟨#[10]⟩=bs (lin m (k+7))):=by
  show _=_
  rw [hBO,show (⟨#[115,101,101,110]⟩:ByteArray)=bs [115,101,101,110] from rfl,show (⟨#[32]⟩:ByteArray)=bs [32] from rfl,show (⟨#[10]⟩:ByteArray)=bs [10] from rfl,bs_app,bs_app,bs_app]
  unfold lin
  show _=bs ([115,101,101,110]++(32 :: (bod m (k+7)++[10])))
  congr 1
  try simp
 have HE2:Hid (⟨#[115,101,101,110,32]⟩++BO++⟨#[10]⟩=bs (lin m (k+7))):=by rw [<- HE.out];rfl
 have hs2:¬ 9223372036854775807 < (⟨#[115,101,101,110]⟩++⟨#[32]⟩:ByteArray).size+BO.size:=by show ¬ 9223372036854775807 < 5+BO.size;omega
 have hs3:¬ 9223372036854775807 < 5+BO.size:=by omega
 have hs4:¬ 9223372036854775807 < 5+BO.size+1:=by omega
 have hs5:¬ 9223372036854775807 < (⟨#[115,101,101,110,32]⟩++BO:ByteArray).size+1:=by rw [ByteArray.size_append];show ¬ 9223372036854775807 < 5+BO.size+1;omega
 have hs6:¬ 9223372036854775807 < (⟨#[115,101,101,110]⟩++⟨#[32]⟩++BO:ByteArray).size+1:=by rw [ByteArray.size_append];show ¬ 9223372036854775807 < 5+BO.size+1;omega
 clear hX0 b0 hT hR hO hK hBO hbl
 go_enter Tryz.func74,Tryz.ntmps74
 go_upto_region 1 with fail
 clear hE
 refine wp_region_held_drew (S:=(fun v=>Below X0.heap.size X0 v)) (by kernel_rfl) ((Below.refl _ _).drew) (fun hHeld=>?_)
 refine wpAnyH_take (i:=0) (v:=?_) rfl (by kernel_rfl) (by kernel_rfl) (by kernel_rfl) (fun _ _ _ h=>h) (Or.inl ⟨by rfl,?_⟩) hHeld ?_
 rotate_left
 ·(intro v9 hS9;have hL9:=HL.out.below hS9;have hM9:=HM.out.below hS9;obtain ⟨y0,y1,y2,_,_,_⟩:=hL9;obtain ⟨z0,z1,z2,z3,z4,z5,z6,z7,z8,z9,z10⟩:=hM9;clear hS9;go_simp;try with_reducible rfl)
 try simp only [Act.put,List.setIfInBounds_toArray,List.set_cons_zero,List.set_cons_succ,List.getElem_toArray,List.getElem_cons_zero]
 refine wpAnyH_take (i:=1) (v:=?_) rfl (by kernel_rfl) (by kernel_rfl) (by kernel_rfl) (fun _ _ _ h=>h) (Or.inl ⟨by rfl,?_⟩) hHeld ?_
 rotate_left
 ·(intro v9 hS9;have hL9:=HL.out.below hS9;have hM9:=HM.out.below hS9;obtain ⟨y0,y1,y2,_,_,_⟩:=hL9;obtain ⟨z0,z1,z2,z3,z4,z5,z6,z7,z8,z9,z10⟩:=hM9;clear hS9;go_simp;try with_reducible rfl)
 try simp only [Act.put,List.setIfInBounds_toArray,List.set_cons_zero,List.set_cons_succ,List.getElem_toArray,List.getElem_cons_zero,List.getElem_cons_succ]
 refine wpAnyH_take (i:=2) (v:=?_) rfl (by kernel_rfl) (by kernel_rfl) (by kernel_rfl) (fun _ _ _ h=>h) (Or.inl ⟨by rfl,?_⟩) hHeld ?_
 rotate_left
 ·(intro v9 hS9;have hL9:=HL.out.below hS9;have hM9:=HM.out.below hS9;obtain ⟨y0,y1,y2,_,_,_⟩:=hL9;obtain ⟨z0,z1,z2,z3,z4,z5,z6,z7,z8,z9,z10⟩:=hM9;clear hS9;go_simp;try with_reducible rfl)
 try simp only [Act.put,List.setIfInBounds_toArray,List.set_cons_zero,List.set_cons_succ,List.getElem_toArray,List.getElem_cons_zero,List.getElem_cons_succ]
 refine wpAnyH_take (i:=3) (v:=?_) rfl (by kernel_rfl) (by kernel_rfl) (by kernel_rfl) (fun _ _ _ h=>h) (Or.inl ⟨by rfl,?_⟩) hHeld ?_
 rotate_left
 ·(intro v9 hS9;have hL9:=HL.out.below hS9;have hM9:=HM.out.below hS9;obtain ⟨y0,y1,y2,_,_,_⟩:=hL9;obtain ⟨z0,z1,z2,z3,z4,z5,z6,z7,z8,z9,z10⟩:=hM9;clear hS9;go_simp;try with_reducible rfl)
 try simp only [Act.put,List.setIfInBounds_toArray,List.set_cons_zero,List.set_cons_succ,List.getElem_toArray,List.getElem_cons_zero,List.getElem_cons_succ]
 refine wpAnyH_take (i:=4) (v:=?_) rfl (by kernel_rfl) (by kernel_rfl) (by kernel_rfl) (fun _ _ _ h=>h) (Or.inl ⟨by rfl,?_⟩) hHeld ?_
 rotate_left
 ·(intro v9 hS9;have hL9:=HL.out.below hS9;have hM9:=HM.out.below hS9;obtain ⟨y0,y1,y2,_,_,_⟩:=hL9;obtain ⟨z0,z1,z2,z3,z4,z5,z6,z7,z8,z9,z10⟩:=hM9;clear hS9;go_simp;try with_reducible rfl)
 try simp only [Act.put,List.setIfInBounds_toArray,List.set_cons_zero,List.set_cons_succ,List.getElem_toArray,List.getElem_cons_zero,List.getElem_cons_succ]
 refine wpAnyH_take (i:=5) (v:=?_) rfl (by kernel_rfl) (by kernel_rfl) (by kernel_rfl) (fun _ _ _ h=>h) (Or.inl ⟨by rfl,?_⟩) hHeld ?_
 rotate_left
 ·(intro v9 hS9;have hL9:=HL.out.below hS9;have hM9:=HM.out.below hS9;obtain ⟨y0,y1,y2,_,_,_⟩:=hL9;obtain ⟨z0,z1,z2,z3,z4,z5,z6,z7,z8,z9,z10⟩:=hM9;clear hS9;go_simp;try with_reducible rfl)
 try simp only [Act.put,List.setIfInBounds_toArray,List.set_cons_zero,List.set_cons_succ,List.getElem_toArray,List.getElem_cons_zero,List.getElem_cons_succ]
 refine wpAnyH_ready (rs:=[6]) (by kernel_rfl) (by simp) ?_
 refine AllReadyH.cons rfl (fun K hK=>?_) AllReadyH.nil
 go_simp
 go_wp2_with (go_at_call 145;refine (c7 m ra va ma rc vc mc X0.drew HRD.out HO.out HK.out HTD.out k bx hk HXD.out).mono ?_;rw [HBO.out];rintro e wz ⟨rfl,hbz⟩;have HBZ:Hid (Below X0.heap.size X0 wz):=(Below.refl X0.heap.size X0).drew.trans (hbz.mono (Nat.le_refl _));clear hbz)
 refine hK.out _ _ HBZ.out (fun hNext=>?_)
 clear hK K hHeld
 have hHeld:=hNext
 clear hNext
 refine wpAnyH_take (i:=7) (v:=?_) rfl (by kernel_rfl) (by kernel_rfl) (by kernel_rfl) (fun _ _ _ h=>h) (Or.inl ⟨by rfl,?_⟩) hHeld ?_
 rotate_left
 ·(intro v9 hS9;clear hS9;go_simp;try with_reducible rfl)
 try simp only [Act.put,List.setIfInBounds_toArray,List.set_cons_zero,List.set_cons_succ,List.getElem_toArray,List.getElem_cons_zero,List.getElem_cons_succ]
 refine wpAnyH_take (i:=8) (v:=?_) rfl (by kernel_rfl) (by kernel_rfl) (by kernel_rfl) (fun _ _ _ h=>h) (Or.inl ⟨by rfl,?_⟩) hHeld ?_
 rotate_left
 ·(intro v9 hS9;clear hS9;go_simp;try with_reducible rfl)
 try simp only [Act.put,List.setIfInBounds_toArray,List.set_cons_zero,List.set_cons_succ,List.getElem_toArray,List.getElem_cons_zero,List.getElem_cons_succ]
 refine wpAnyH_take (i:=9) (v:=?_) rfl (by kernel_rfl) (by kernel_rfl) (by kernel_rfl) (fun _ _ _ h=>h) (Or.inl ⟨by rfl,?_⟩) hHeld ?_
 rotate_left
 ·(intro v9 hS9;clear hS9;go_simp;try with_reducible rfl)
 try simp only [Act.put,List.setIfInBounds_toArray,List.set_cons_zero,List.set_cons_succ,List.getElem_toArray,List.getElem_cons_zero,List.getElem_cons_succ]
 refine wpAnyH_done (by kernel_rfl) ?_ _
 go_wp2
 go_ret
 exact ⟨ret_str (by first|exact HE.out|exact HE2.out),HB.out.trans (hHeld.mono HB.out.size)⟩
theorem iText (m:Mc) (ra va ma:Option Addr) (rc vc mc:Nat) (w:World) (hR:Mr w m ra va ma) (hO:Mok m) (hK:∀ x∈m.memo,x.k.size<=1048576) (hT:TabZ w) (v:Value) (i:Nat) (hi:i < 7+m.memo.length) (hv:LV w v i) :
 Calls Tryz.prog 74 #[v,mval m ra va ma rc vc mc] w fun e w'=>e=.returned (.string (bs (lin m i)))/\Below w.heap.size w w':=by
 match i,hv with
 | 0,hv=>obtain rfl:=hv;exact tx0 m ra va ma rc vc mc w hR hO hK hT
 | 1,hv=>obtain rfl:=hv;exact tx1 m ra va ma rc vc mc w hR hO hK hT
 | 2,hv=>obtain rfl:=hv;exact tx2 m ra va ma rc vc mc w hR hO hK hT
 | 3,hv=>obtain rfl:=hv;exact tx3 m ra va ma rc vc mc w hR hO hK hT
 | 4,hv=>obtain rfl:=hv;exact tx4 m ra va ma rc vc mc w hR hO hK hT
 | 5,hv=>obtain rfl:=hv;exact tx5 m ra va ma rc vc mc w hR hO hK hT
 | 6,hv=>obtain rfl:=hv;exact tx6 m ra va ma rc vc mc w hR hO hK hT
 | k+7,hv =>
   obtain ⟨bx,rfl,hbx⟩:=hv
   exact tx7 m ra va ma rc vc mc w hR hO hK hT k bx (by omega) hbx
end Zs4
end Go.Proofs.YtjajkmdoggbicaaGreatDoor
