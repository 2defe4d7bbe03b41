import Derived.Test.YtladjpombohpaaaGreatDoorPkJE7
namespace Go.Proofs.YtladjpombohpaaaGreatDoor
set_option maxRecDepth 100000
set_option maxHeartbeats 8000000
set_option linter.unusedVariables false
namespace Jb0
open Go.RowKit
open Nd0 (Kept set_other set_same)
open Mm0 Mx0
/-- Its value. -/
abbrev jval (st:Int) (m:Mc) (jr:ByteArray) (sy:Int) (ra va ma:Option Addr) (rc vc mc:Nat):Value:=.agg #[.int .i64 st,.slice ra m.row.length rc,.int .i64 m.N,.string m.S,.int .i64 m.room,.slice va m.vals.length vc,.int .i64 m.ret,.bool m.over,.int .i64 m.steps,.int .i64 m.looks,.int .i64 m.hits,.slice ma m.memo.length mc,.string jr,.int .i64 sy]
/-- It lies in block b. -/
structure Jb (W:World) (b:Nat) (st:Int) (m:Mc) (jr:ByteArray) (sy:Int) (ra va ma:Option Addr) (rc vc mc:Nat):Prop where
 c0:W.cell? ⟨b,0,none⟩=some (.int .i64 st)
 c1:W.cell? ⟨b,1,none⟩=some (.slice ra m.row.length rc)
 c2:W.cell? ⟨b,2,none⟩=some (.int .i64 m.N)
 c3:W.cell? ⟨b,3,none⟩=some (.string m.S)
 c4:W.cell? ⟨b,4,none⟩=some (.int .i64 m.room)
 c5:W.cell? ⟨b,5,none⟩=some (.slice va m.vals.length vc)
 c6:W.cell? ⟨b,6,none⟩=some (.int .i64 m.ret)
 c7:W.cell? ⟨b,7,none⟩=some (.bool m.over)
 c8:W.cell? ⟨b,8,none⟩=some (.int .i64 m.steps)
 c9:W.cell? ⟨b,9,none⟩=some (.int .i64 m.looks)
 c10:W.cell? ⟨b,10,none⟩=some (.int .i64 m.hits)
 c11:W.cell? ⟨b,11,none⟩=some (.slice ma m.memo.length mc)
 c12:W.cell? ⟨b,12,none⟩=some (.string jr)
 c13:W.cell? ⟨b,13,none⟩=some (.int .i64 sy)
theorem Jb.lt {W:World} {b:Nat} {st:Int} {m:Mc} {jr:ByteArray} {sy:Int} {ra va ma:Option Addr} {rc vc mc:Nat} (h:Jb W b st m jr sy ra va ma rc vc mc):b < W.heap.size:=World.block_lt_of_cell? _ _ h.c0
theorem Jb.kept {W W':World} {b:Nat} {st:Int} {m:Mc} {jr:ByteArray} {sy:Int} {ra va ma:Option Addr} {rc vc mc:Nat} (h:Jb W b st m jr sy ra va ma rc vc mc) {S:Nat->Prop} (k:Kept S W W') (hs:¬ S b):Jb W' b st m jr sy ra va ma rc vc mc :=
 ⟨by rw [k.cell (p:=⟨b,0,none⟩) h.lt hs];exact h.c0,by rw [k.cell (p:=⟨b,1,none⟩) h.lt hs];exact h.c1,by rw [k.cell (p:=⟨b,2,none⟩) h.lt hs];exact h.c2,by rw [k.cell (p:=⟨b,3,none⟩) h.lt hs];exact h.c3,by rw [k.cell (p:=⟨b,4,none⟩) h.lt hs];exact h.c4,by rw [k.cell (p:=⟨b,5,none⟩) h.lt hs];exact h.c5,by rw [k.cell (p:=⟨b,6,none⟩) h.lt hs];exact h.c6,by rw [k.cell (p:=⟨b,7,none⟩) h.lt hs];exact h.c7,by rw [k.cell (p:=⟨b,8,none⟩) h.lt hs];exact h.c8,by rw [k.cell (p:=⟨b,9,none⟩) h.lt hs];exact h.c9,by rw [k.cell (p:=⟨b,10,none⟩) h.lt hs];exact h.c10,by rw [k.cell (p:=⟨b,11,none⟩) h.lt hs];exact h.c11,by rw [k.cell (p:=⟨b,12,none⟩) h.lt hs];exact h.c12,by rw [k.cell (p:=⟨b,13,none⟩) h.lt hs];exact h.c13⟩
theorem Jb.below {W W':World} {b:Nat} {st:Int} {m:Mc} {jr:ByteArray} {sy:Int} {ra va ma:Option Addr} {rc vc mc:Nat} (h:Jb W b st m jr sy ra va ma rc vc mc) (k:Below W.heap.size W W'):Jb W' b st m jr sy ra va ma rc vc mc:=h.kept (S:=fun _=>False) (Kept.ofBelow k) (fun h=>h)
theorem Jb.alloc {W:World} {b:Nat} {st:Int} {m:Mc} {jr:ByteArray} {sy:Int} {ra va ma:Option Addr} {rc vc mc:Nat} (h:Jb W b st m jr sy ra va ma rc vc mc) (o:Obj):Jb (W.alloc o) b st m jr sy ra va ma rc vc mc:=h.kept (S:=fun _=>False) ((Kept.refl _ _).alloc _) (fun h=>h)
theorem Jb.made (W:World) (st:Int) (m:Mc) (jr:ByteArray) (sy:Int) (ra va ma:Option Addr) (rc vc mc:Nat) (T:Nat):Jb (W.alloc (.cells #[.int .i64 st,.slice ra m.row.length rc,.int .i64 m.N,.string m.S,.int .i64 m.room,.slice va m.vals.length vc,.int .i64 m.ret,.bool m.over,.int .i64 m.steps,.int .i64 m.looks,.int .i64 m.hits,.slice ma m.memo.length mc,.string jr,.int .i64 sy] T)) W.heap.size st m jr sy ra va ma rc vc mc:=⟨by simp,by simp,by simp,by simp,by simp,by simp,by simp,by simp,by simp,by simp,by simp,by simp,by simp,by simp⟩
/-- The block cell by cell, and that it may be written. -/
structure Jz (W:World) (b:Nat) (v0 v1 v2 v3 v4 v5 v6 v7 v8 v9 v10 v11 v12 v13:Value):Prop where
 c0:W.cell? ⟨b,0,none⟩=some v0
 c1:W.cell? ⟨b,1,none⟩=some v1
 c2:W.cell? ⟨b,2,none⟩=some v2
 c3:W.cell? ⟨b,3,none⟩=some v3
 c4:W.cell? ⟨b,4,none⟩=some v4
 c5:W.cell? ⟨b,5,none⟩=some v5
 c6:W.cell? ⟨b,6,none⟩=some v6
 c7:W.cell? ⟨b,7,none⟩=some v7
 c8:W.cell? ⟨b,8,none⟩=some v8
 c9:W.cell? ⟨b,9,none⟩=some v9
 c10:W.cell? ⟨b,10,none⟩=some v10
 c11:W.cell? ⟨b,11,none⟩=some v11
 c12:W.cell? ⟨b,12,none⟩=some v12
 c13:W.cell? ⟨b,13,none⟩=some v13
 z0:W.frozen? ⟨b,0,none⟩=false
 z1:W.frozen? ⟨b,1,none⟩=false
 z2:W.frozen? ⟨b,2,none⟩=false
 z3:W.frozen? ⟨b,3,none⟩=false
 z4:W.frozen? ⟨b,4,none⟩=false
 z5:W.frozen? ⟨b,5,none⟩=false
 z6:W.frozen? ⟨b,6,none⟩=false
 z7:W.frozen? ⟨b,7,none⟩=false
 z8:W.frozen? ⟨b,8,none⟩=false
 z9:W.frozen? ⟨b,9,none⟩=false
 z10:W.frozen? ⟨b,10,none⟩=false
 z11:W.frozen? ⟨b,11,none⟩=false
 z12:W.frozen? ⟨b,12,none⟩=false
 z13:W.frozen? ⟨b,13,none⟩=false
theorem Jz.of {W:World} {b:Nat} {v0 v1 v2 v3 v4 v5 v6 v7 v8 v9 v10 v11 v12 v13:Value} (h:Mf W b [v0,v1,v2,v3,v4,v5,v6,v7,v8,v9,v10,v11,v12,v13]):Jz W b v0 v1 v2 v3 v4 v5 v6 v7 v8 v9 v10 v11 v12 v13 :=
 ⟨(h 0 (by simp)).1,(h 1 (by simp)).1,(h 2 (by simp)).1,(h 3 (by simp)).1,(h 4 (by simp)).1,(h 5 (by simp)).1,(h 6 (by simp)).1,(h 7 (by simp)).1,(h 8 (by simp)).1,(h 9 (by simp)).1,(h 10 (by simp)).1,(h 11 (by simp)).1,(h 12 (by simp)).1,(h 13 (by simp)).1,(h 0 (by simp)).2,(h 1 (by simp)).2,(h 2 (by simp)).2,(h 3 (by simp)).2,(h 4 (by simp)).2,(h 5 (by simp)).2,(h 6 (by simp)).2,(h 7 (by simp)).2,(h 8 (by simp)).2,(h 9 (by simp)).2,(h 10 (by simp)).2,(h 11 (by simp)).2,(h 12 (by simp)).2,(h 13 (by simp)).2⟩
end Jb0
namespace Mx1
open Go.RowKit
open Nd0 (Kept Ints WInts set_other set_same lt_of_cell)
open Nd6 (Bools toIntS)
open Dqa (toBoolS)
open Qc0 (Sn Sns WSns)
open Qc1 (toSeenS)
open Tc2 (tv)
open Tc3 (toTable)
open Mm0 Mx0
theorem wb_mono {w:World} {B B' U U':Nat} {a:Option Addr} {l:List Bool} (h:Nd6.BoolsIn w B U a l) (hB:B'<=B) (hU:U<=U'):Nd6.BoolsIn w B' U' a l:=by
 refine ⟨h.1,?_⟩
 rcases h.2 with e|⟨b,o,ha,hb,hu,r⟩
 ·exact .inl e
 ·exact .inr ⟨b,o,ha,by omega,by omega,r⟩
theorem wi_mono {w:World} {B B' U U':Nat} {a:Option Addr} {l:List Int} (h:Nd0.IntsIn w B U a l) (hB:B'<=B) (hU:U<=U'):Nd0.IntsIn w B' U' a l:=by
 refine ⟨h.1,?_⟩
 rcases h.2 with e|⟨b,o,ha,hb,hu,r⟩
 ·exact .inl e
 ·exact .inr ⟨b,o,ha,by omega,by omega,r⟩
theorem ws_mono {w:World} {B B' U U':Nat} {a:Option Addr} {l:List Sn} (h:Qc0.SnsIn w B U a l) (hB:B'<=B) (hU:U<=U'):Qc0.SnsIn w B' U' a l:=by
 refine ⟨h.1,?_⟩
 rcases h.2 with e|⟨b,o,ha,hb,hu,r⟩
 ·exact .inl e
 ·exact .inr ⟨b,o,ha,by omega,by omega,r⟩
theorem toMachine (w:World) (m:Mc) (ra va ma:Option Addr) (rc vc mc:Nat) (h:Mr w m ra va ma) (hr:m.row.length<=1048576) (hv:m.vals.length<=1048576) (hm:m.memo.length<=1048576) :
 Calls Tryz.prog 13 #[mval m ra va ma rc vc mc] w fun e w'=>∃ b0 b4 b10:Nat,e=.returned (mval m (some ⟨b0,0,none⟩) (some ⟨b4,0,none⟩) (some ⟨b10,0,none⟩) m.row.length m.vals.length m.memo.length)/\Mr w' m (some ⟨b0,0,none⟩) (some ⟨b4,0,none⟩) (some ⟨b10,0,none⟩)/\(∃ U1 U2,w.heap.size<=U1/\U1<=U2/\U2<=w'.heap.size/\Nd6.BoolsIn w' w.heap.size U1 (some ⟨b0,0,none⟩) m.row/\Nd0.IntsIn w' U1 U2 (some ⟨b4,0,none⟩) m.vals/\Qc0.SnsIn w' U2 w'.heap.size (some ⟨b10,0,none⟩) m.memo)/\Below w.heap.size w w':=by
 have H:Hid (Mr w m ra va ma):=h
 clear h
 obtain ⟨W0,hW0⟩:∃ W0,W0=(((w.alloc (.cells #[.slice ra m.row.length rc,.int .i64 m.N,.string m.S,.int .i64 m.room,.slice va m.vals.length vc,.int .i64 m.ret,.bool m.over,.int .i64 m.steps,.int .i64 m.looks,.int .i64 m.hits,.slice ma m.memo.length mc] 28)).alloc (.cells #[.slice none 0 0,.int .i64 0,.string ⟨#[]⟩,.int .i64 0,.slice none 0 0,.int .i64 0,.bool false,.int .i64 0,.int .i64 0,.int .i64 0,.slice none 0 0] 35)).alloc (.cells #[.slice none 0 0,.int .i64 0,.string ⟨#[]⟩,.int .i64 0,.slice none 0 0,.int .i64 0,.bool false,.int .i64 0,.int .i64 0,.int .i64 0,.slice none 0 0] 35)):=⟨_,rfl⟩
 have HE0:Hid ((((w.alloc (.cells #[.slice ra m.row.length rc,.int .i64 m.N,.string m.S,.int .i64 m.room,.slice va m.vals.length vc,.int .i64 m.ret,.bool m.over,.int .i64 m.steps,.int .i64 m.looks,.int .i64 m.hits,.slice ma m.memo.length mc] 28)).alloc (.cells #[.slice none 0 0,.int .i64 0,.string ⟨#[]⟩,.int .i64 0,.slice none 0 0,.int .i64 0,.bool false,.int .i64 0,.int .i64 0,.int .i64 0,.slice none 0 0] 35)).alloc (.cells #[.slice none 0 0,.int .i64 0,.string ⟨#[]⟩,.int .i64 0,.slice none 0 0,.int .i64 0,.bool false,.int .i64 0,.int .i64 0,.int .i64 0,.slice none 0 0] 35))=W0):=hW0.symm
 have hsA:(w.alloc (.cells #[.slice ra m.row.length rc,.int .i64 m.N,.string m.S,.int .i64 m.room,.slice va m.vals.length vc,.int .i64 m.ret,.bool m.over,.int .i64 m.steps,.int .i64 m.looks,.int .i64 m.hits,.slice ma m.memo.length mc] 28)).heap.size=w.heap.size+1:=by simp
 have hsB:((w.alloc (.cells #[.slice ra m.row.length rc,.int .i64 m.N,.string m.S,.int .i64 m.room,.slice va m.vals.length vc,.int .i64 m.ret,.bool m.over,.int .i64 m.steps,.int .i64 m.looks,.int .i64 m.hits,.slice ma m.memo.length mc] 28)).alloc (.cells #[.slice none 0 0,.int .i64 0,.string ⟨#[]⟩,.int .i64 0,.slice none 0 0,.int .i64 0,.bool false,.int .i64 0,.int .i64 0,.int .i64 0,.slice none 0 0] 35)).heap.size=w.heap.size+1+1:=by simp
 have HS0:Hid (W0.heap.size=w.heap.size+3):=by show _=_;rw [hW0];simp
 have HA0:Hid (Mb W0 w.heap.size m ra va ma rc vc mc):=by rw [hW0];exact ((Mb.made _ _ _ _ _ _ _ _ _).alloc _).alloc _
 have HR0:Hid (Mf W0 (w.heap.size+1) [.slice none 0 0,.int .i64 0,.string ⟨#[]⟩,.int .i64 0,.slice none 0 0,.int .i64 0,.bool false,.int .i64 0,.int .i64 0,.int .i64 0,.slice none 0 0]):=by
  have h1:=(Mf.made (w.alloc (.cells #[.slice ra m.row.length rc,.int .i64 m.N,.string m.S,.int .i64 m.room,.slice va m.vals.length vc,.int .i64 m.ret,.bool m.over,.int .i64 m.steps,.int .i64 m.looks,.int .i64 m.hits,.slice ma m.memo.length mc] 28)) #[.slice none 0 0,.int .i64 0,.string ⟨#[]⟩,.int .i64 0,.slice none 0 0,.int .i64 0,.bool false,.int .i64 0,.int .i64 0,.int .i64 0,.slice none 0 0] 35).alloc (.cells #[.slice none 0 0,.int .i64 0,.string ⟨#[]⟩,.int .i64 0,.slice none 0 0,.int .i64 0,.bool false,.int .i64 0,.int .i64 0,.int .i64 0,.slice none 0 0] 35)
  rw [hsA,<- hW0] at h1
  exact h1
 have HO0:Hid (Mf W0 (w.heap.size+1+1) [.slice none 0 0,.int .i64 0,.string ⟨#[]⟩,.int .i64 0,.slice none 0 0,.int .i64 0,.bool false,.int .i64 0,.int .i64 0,.int .i64 0,.slice none 0 0]):=by
  have h1:=Mf.made ((w.alloc (.cells #[.slice ra m.row.length rc,.int .i64 m.N,.string m.S,.int .i64 m.room,.slice va m.vals.length vc,.int .i64 m.ret,.bool m.over,.int .i64 m.steps,.int .i64 m.looks,.int .i64 m.hits,.slice ma m.memo.length mc] 28)).alloc (.cells #[.slice none 0 0,.int .i64 0,.string ⟨#[]⟩,.int .i64 0,.slice none 0 0,.int .i64 0,.bool false,.int .i64 0,.int .i64 0,.int .i64 0,.slice none 0 0] 35)) #[.slice none 0 0,.int .i64 0,.string ⟨#[]⟩,.int .i64 0,.slice none 0 0,.int .i64 0,.bool false,.int .i64 0,.int .i64 0,.int .i64 0,.slice none 0 0] 35
  rw [hsB,<- hW0] at h1
  exact h1
 have HB0:Hid (Below w.heap.size w W0):=by rw [hW0];exact (((Below.refl _ _).alloc (Nat.le_refl _) _).alloc (by simp) _).alloc (by simp<;>omega) _
 clear hW0 hsA hsB
 go_enter Tryz.func13,Tryz.ntmps13
 go_wp2_with fail
 rw [HE0.out]
 clear HE0
 refine (toBoolS _ ra m.row rc (H.out.row.below HB0.out) hr).mono ?_
 rintro e w1 ⟨rfl,hx1,hb1⟩
 obtain ⟨b0,hb0⟩:∃ b0,b0=W0.heap.size:=⟨_,rfl⟩
 rw [<- hb0] at hx1 ⊢
 have HP0:Hid (b0=w.heap.size+3):=by show _=_;rw [hb0,HS0.out]
 have HX1:Hid (Nd6.BoolsIn w1 b0 w1.heap.size (some ⟨b0,0,none⟩) m.row):=Nd6.WBools.within hx1
 have HB1:Hid (Below w.heap.size w w1):=HB0.out.trans (hb1.mono HB0.out.size)
 have HA1:Hid (Mb w1 w.heap.size m ra va ma rc vc mc):=HA0.out.below hb1
 have HR1:Hid (Mf w1 (w.heap.size+1) [.slice none 0 0,.int .i64 0,.string ⟨#[]⟩,.int .i64 0,.slice none 0 0,.int .i64 0,.bool false,.int .i64 0,.int .i64 0,.int .i64 0,.slice none 0 0]):=HR0.out.below hb1
 have HO1:Hid (Mf w1 (w.heap.size+1+1) [.slice none 0 0,.int .i64 0,.string ⟨#[]⟩,.int .i64 0,.slice none 0 0,.int .i64 0,.bool false,.int .i64 0,.int .i64 0,.int .i64 0,.slice none 0 0]):=HO0.out.below hb1
 have HG1:Hid (b0<=w1.heap.size):=by rw [hb0];exact hb1.size
 clear hb1 hx1 hb0 HA0 HR0 HO0 HB0 HS0
 obtain ⟨m0,m1,m2,m3,m4,m5,m6,m7,m8,m9,m10⟩:=HA1.out
 obtain ⟨o0,o1,o2,o3,o4,o5,o6,o7,o8,o9,o10,y0,y1,y2,y3,y4,y5,y6,y7,y8,y9,y10⟩:=HO1.out.all
 obtain ⟨r0,r1,r2,r3,r4,r5,r6,r7,r8,r9,r10,x0,x1,x2,x3,x4,x5,x6,x7,x8,x9,x10⟩:=HR1.out.all
 go_wp2_with fail
 clear m0 o0 y0 r0 x0 m1 o1 y1 r1 x1 m2 o2 y2 r2 x2 m3 o3 y3 r3 x3 m4 o4 y4 r4 x4 m5 o5 y5 r5 x5 m6 o6 y6 r6 x6 m7 o7 y7 r7 x7 m8 o8 y8 r8 x8 m9 o9 y9 r9 x9 m10 o10 y10 r10 x10
 obtain ⟨W1,hW1⟩:∃ W1,W1=w1.setCell ⟨w.heap.size+1+1,0,none⟩ (.slice (some ⟨b0,0,none⟩) m.row.length m.row.length):=⟨_,rfl⟩
 rw [<- hW1]
 have K1:Kept (fun b=>b=w.heap.size+1+1) w1 W1:=by rw [hW1];exact (Kept.refl (fun b=>b=w.heap.size+1+1) w1).setCell (p:=⟨w.heap.size+1+1,0,none⟩) rfl _
 have HB1b:Hid (Below w.heap.size w W1):=HB1.out.trans (K1.below (fun b hb=>by omega) HB1.out.size)
 have HA1b:Hid (Mb W1 w.heap.size m ra va ma rc vc mc):=HA1.out.kept K1 (by omega)
 have HR1b:Hid (Mf W1 (w.heap.size+1) [.slice none 0 0,.int .i64 0,.string ⟨#[]⟩,.int .i64 0,.slice none 0 0,.int .i64 0,.bool false,.int .i64 0,.int .i64 0,.int .i64 0,.slice none 0 0]):=HR1.out.kept K1 (by omega)
 have HO1b:Hid (Mf W1 (w.heap.size+1+1) [.slice (some ⟨b0,0,none⟩) m.row.length m.row.length,.int .i64 0,.string ⟨#[]⟩,.int .i64 0,.slice none 0 0,.int .i64 0,.bool false,.int .i64 0,.int .i64 0,.int .i64 0,.slice none 0 0]):=by
  rw [hW1]
  exact HO1.out.set 0 (.slice (some ⟨b0,0,none⟩) m.row.length m.row.length)
 have HX1b:Hid (Nd6.BoolsIn W1 b0 w1.heap.size (some ⟨b0,0,none⟩) m.row):=HX1.out.kept K1 (fun b h1 h2 h3=>by have:=HP0.out;omega)
 have HG1b:Hid (w1.heap.size<=W1.heap.size):=K1.size
 clear K1 hW1 HB1 HA1 HR1 HO1 HX1
 refine (toTable m.N m.S _).mono ?_
 rintro e w2 ⟨rfl,hb2⟩
 have HB2:Hid (Below w.heap.size w w2):=HB1b.out.trans (hb2.mono HB1b.out.size)
 have HA2:Hid (Mb w2 w.heap.size m ra va ma rc vc mc):=HA1b.out.below hb2
 have HR2:Hid (Mf w2 (w.heap.size+1) [.slice none 0 0,.int .i64 0,.string ⟨#[]⟩,.int .i64 0,.slice none 0 0,.int .i64 0,.bool false,.int .i64 0,.int .i64 0,.int .i64 0,.slice none 0 0]):=HR1b.out.below hb2
 have HO2:Hid (Mf w2 (w.heap.size+1+1) [.slice (some ⟨b0,0,none⟩) m.row.length m.row.length,.int .i64 0,.string ⟨#[]⟩,.int .i64 0,.slice none 0 0,.int .i64 0,.bool false,.int .i64 0,.int .i64 0,.int .i64 0,.slice none 0 0]):=HO1b.out.below hb2
 have HX2:Hid (Nd6.BoolsIn w2 b0 w1.heap.size (some ⟨b0,0,none⟩) m.row):=HX1b.out.below hb2
 have HG2:Hid (w1.heap.size<=w2.heap.size):=Nat.le_trans HG1b.out hb2.size
 clear hb2 HB1b HA1b HR1b HO1b HX1b HG1b
 obtain ⟨m0,m1,m2,m3,m4,m5,m6,m7,m8,m9,m10⟩:=HA2.out
 obtain ⟨o0,o1,o2,o3,o4,o5,o6,o7,o8,o9,o10,y0,y1,y2,y3,y4,y5,y6,y7,y8,y9,y10⟩:=HO2.out.all
 obtain ⟨r0,r1,r2,r3,r4,r5,r6,r7,r8,r9,r10,x0,x1,x2,x3,x4,x5,x6,x7,x8,x9,x10⟩:=HR2.out.all
 go_wp2_with fail
 clear m0 o0 y0 r0 x0 m1 o1 y1 r1 x1 m2 o2 y2 r2 x2 m3 o3 y3 r3 x3 m4 o4 y4 r4 x4 m5 o5 y5 r5 x5 m6 o6 y6 r6 x6 m7 o7 y7 r7 x7 m8 o8 y8 r8 x8 m9 o9 y9 r9 x9 m10 o10 y10 r10 x10
 obtain ⟨W2,hW2⟩:∃ W2,W2=((w2.setCell ⟨w.heap.size+1+1,1,none⟩ (.int .i64 m.N)).setCell ⟨w.heap.size+1+1,2,none⟩ (.string m.S)).setCell ⟨w.heap.size+1+1,3,none⟩ (.int .i64 m.room):=⟨_,rfl⟩
 rw [<- hW2]
 have K2:Kept (fun b=>b=w.heap.size+1+1) w2 W2:=by
  rw [hW2]
  exact (((Kept.refl (fun b=>b=w.heap.size+1+1) w2).setCell (p:=⟨w.heap.size+1+1,1,none⟩) rfl _).setCell (p:=⟨w.heap.size+1+1,2,none⟩) rfl _).setCell (p:=⟨w.heap.size+1+1,3,none⟩) rfl _
 have HB2b:Hid (Below w.heap.size w W2):=HB2.out.trans (K2.below (fun b hb=>by omega) HB2.out.size)
 have HA2b:Hid (Mb W2 w.heap.size m ra va ma rc vc mc):=HA2.out.kept K2 (by omega)
 have HR2b:Hid (Mf W2 (w.heap.size+1) [.slice none 0 0,.int .i64 0,.string ⟨#[]⟩,.int .i64 0,.slice none 0 0,.int .i64 0,.bool false,.int .i64 0,.int .i64 0,.int .i64 0,.slice none 0 0]):=HR2.out.kept K2 (by omega)
 have HO2b:Hid (Mf W2 (w.heap.size+1+1) [.slice (some ⟨b0,0,none⟩) m.row.length m.row.length,.int .i64 m.N,.string m.S,.int .i64 m.room,.slice none 0 0,.int .i64 0,.bool false,.int .i64 0,.int .i64 0,.int .i64 0,.slice none 0 0]):=by
  rw [hW2]
  exact ((HO2.out.set 1 (.int .i64 m.N)).set 2 (.string m.S)).set 3 (.int .i64 m.room)
 have HX2b:Hid (Nd6.BoolsIn W2 b0 w1.heap.size (some ⟨b0,0,none⟩) m.row):=HX2.out.kept K2 (fun b h1 h2 h3=>by have:=HP0.out;omega)
 have HG2b:Hid (w1.heap.size<=W2.heap.size):=Nat.le_trans HG2.out K2.size
 clear K2 hW2 HB2 HA2 HR2 HO2 HX2 HG2
 refine (toIntS _ va m.vals vc (H.out.vals.below HB2b.out) hv).mono ?_
 rintro e w3 ⟨rfl,hx3,hb3⟩
 obtain ⟨b4,hb4⟩:∃ b4,b4=W2.heap.size:=⟨_,rfl⟩
 rw [<- hb4] at hx3 ⊢
 have HP4:Hid (w1.heap.size<=b4):=by rw [hb4];exact HG2b.out
 have HX3:Hid (Nd0.IntsIn w3 b4 w3.heap.size (some ⟨b4,0,none⟩) m.vals):=hx3.within
 have HB3:Hid (Below w.heap.size w w3):=HB2b.out.trans (hb3.mono HB2b.out.size)
 have HA3:Hid (Mb w3 w.heap.size m ra va ma rc vc mc):=HA2b.out.below hb3
 have HR3:Hid (Mf w3 (w.heap.size+1) [.slice none 0 0,.int .i64 0,.string ⟨#[]⟩,.int .i64 0,.slice none 0 0,.int .i64 0,.bool false,.int .i64 0,.int .i64 0,.int .i64 0,.slice none 0 0]):=HR2b.out.below hb3
 have HO3:Hid (Mf w3 (w.heap.size+1+1) [.slice (some ⟨b0,0,none⟩) m.row.length m.row.length,.int .i64 m.N,.string m.S,.int .i64 m.room,.slice none 0 0,.int .i64 0,.bool false,.int .i64 0,.int .i64 0,.int .i64 0,.slice none 0 0]):=HO2b.out.below hb3
 have HY3:Hid (Nd6.BoolsIn w3 b0 w1.heap.size (some ⟨b0,0,none⟩) m.row):=HX2b.out.below hb3
 have HG3:Hid (b4<=w3.heap.size):=by rw [hb4];exact hb3.size
 clear hb3 hx3 hb4 HB2b HA2b HR2b HO2b HX2b HG2b
 obtain ⟨m0,m1,m2,m3,m4,m5,m6,m7,m8,m9,m10⟩:=HA3.out
 obtain ⟨o0,o1,o2,o3,o4,o5,o6,o7,o8,o9,o10,y0,y1,y2,y3,y4,y5,y6,y7,y8,y9,y10⟩:=HO3.out.all
 obtain ⟨r0,r1,r2,r3,r4,r5,r6,r7,r8,r9,r10,x0,x1,x2,x3,x4,x5,x6,x7,x8,x9,x10⟩:=HR3.out.all
 go_wp2_with fail
 clear m0 o0 y0 r0 x0 m1 o1 y1 r1 x1 m2 o2 y2 r2 x2 m3 o3 y3 r3 x3 m4 o4 y4 r4 x4 m5 o5 y5 r5 x5 m6 o6 y6 r6 x6 m7 o7 y7 r7 x7 m8 o8 y8 r8 x8 m9 o9 y9 r9 x9 m10 o10 y10 r10 x10
 obtain ⟨W3,hW3⟩:∃ W3,W3=(((((w3.setCell ⟨w.heap.size+1+1,4,none⟩ (.slice (some ⟨b4,0,none⟩) m.vals.length m.vals.length)).setCell ⟨w.heap.size+1+1,5,none⟩ (.int .i64 m.ret)).setCell ⟨w.heap.size+1+1,6,none⟩ (.bool m.over)).setCell ⟨w.heap.size+1+1,7,none⟩ (.int .i64 m.steps)).setCell ⟨w.heap.size+1+1,8,none⟩ (.int .i64 m.looks)).setCell ⟨w.heap.size+1+1,9,none⟩ (.int .i64 m.hits):=⟨_,rfl⟩
 rw [<- hW3]
 have K3:Kept (fun b=>b=w.heap.size+1+1) w3 W3:=by
  rw [hW3]
  exact ((((((Kept.refl (fun b=>b=w.heap.size+1+1) w3).setCell (p:=⟨w.heap.size+1+1,4,none⟩) rfl _).setCell (p:=⟨w.heap.size+1+1,5,none⟩) rfl _).setCell (p:=⟨w.heap.size+1+1,6,none⟩) rfl _).setCell (p:=⟨w.heap.size+1+1,7,none⟩) rfl _).setCell (p:=⟨w.heap.size+1+1,8,none⟩) rfl _).setCell (p:=⟨w.heap.size+1+1,9,none⟩) rfl _
 have HB3b:Hid (Below w.heap.size w W3):=HB3.out.trans (K3.below (fun b hb=>by omega) HB3.out.size)
 have HR3b:Hid (Mf W3 (w.heap.size+1) [.slice none 0 0,.int .i64 0,.string ⟨#[]⟩,.int .i64 0,.slice none 0 0,.int .i64 0,.bool false,.int .i64 0,.int .i64 0,.int .i64 0,.slice none 0 0]):=HR3.out.kept K3 (by omega)
 have HO3b:Hid (Mf W3 (w.heap.size+1+1) [.slice (some ⟨b0,0,none⟩) m.row.length m.row.length,.int .i64 m.N,.string m.S,.int .i64 m.room,.slice (some ⟨b4,0,none⟩) m.vals.length m.vals.length,.int .i64 m.ret,.bool m.over,.int .i64 m.steps,.int .i64 m.looks,.int .i64 m.hits,.slice none 0 0]):=by
  rw [hW3]
  exact (((((HO3.out.set 4 (.slice (some ⟨b4,0,none⟩) m.vals.length m.vals.length)).set 5 (.int .i64 m.ret)).set 6 (.bool m.over)).set 7 (.int .i64 m.steps)).set 8 (.int .i64 m.looks)).set 9 (.int .i64 m.hits)
 have hp0:=HP0.out
 have hp1:=HG1.out
 have hp4:=HP4.out
 have HY3b:Hid (Nd6.BoolsIn W3 b0 w1.heap.size (some ⟨b0,0,none⟩) m.row):=HY3.out.kept K3 (fun b h1 h2 h3=>by omega)
 have HX3b:Hid (Nd0.IntsIn W3 b4 w3.heap.size (some ⟨b4,0,none⟩) m.vals):=HX3.out.kept K3 (fun b h1 h2 h3=>by omega)
 have HG3b:Hid (w3.heap.size<=W3.heap.size):=K3.size
 clear K3 hW3 HB3 HA3 HR3 HO3 HX3 HY3 hp0 hp1 hp4
 refine (toSeenS _ ma m.memo mc (H.out.memo.below HB3b.out) hm).mono ?_
 rintro e w4 ⟨rfl,hx4,hb4⟩
 obtain ⟨b10,hb10⟩:∃ b10,b10=W3.heap.size:=⟨_,rfl⟩
 rw [<- hb10] at hx4 ⊢
 have HP10:Hid (w3.heap.size<=b10):=by rw [hb10];exact HG3b.out
 have HX4:Hid (Qc0.SnsIn w4 b10 w4.heap.size (some ⟨b10,0,none⟩) m.memo):=hx4.within
 have HB4:Hid (Below w.heap.size w w4):=HB3b.out.trans (hb4.mono HB3b.out.size)
 have HR4:Hid (Mf w4 (w.heap.size+1) [.slice none 0 0,.int .i64 0,.string ⟨#[]⟩,.int .i64 0,.slice none 0 0,.int .i64 0,.bool false,.int .i64 0,.int .i64 0,.int .i64 0,.slice none 0 0]):=HR3b.out.below hb4
 have HO4:Hid (Mf w4 (w.heap.size+1+1) [.slice (some ⟨b0,0,none⟩) m.row.length m.row.length,.int .i64 m.N,.string m.S,.int .i64 m.room,.slice (some ⟨b4,0,none⟩) m.vals.length m.vals.length,.int .i64 m.ret,.bool m.over,.int .i64 m.steps,.int .i64 m.looks,.int .i64 m.hits,.slice none 0 0]):=HO3b.out.below hb4
 have HY4:Hid (Nd6.BoolsIn w4 b0 w1.heap.size (some ⟨b0,0,none⟩) m.row):=HY3b.out.below hb4
 have HZ4:Hid (Nd0.IntsIn w4 b4 w3.heap.size (some ⟨b4,0,none⟩) m.vals):=HX3b.out.below hb4
 have HG4:Hid (b10<=w4.heap.size):=by rw [hb10];exact hb4.size
 clear hb4 hx4 hb10 HB3b HR3b HO3b HX3b HY3b HG3b
 obtain ⟨o0,o1,o2,o3,o4,o5,o6,o7,o8,o9,o10,y0,y1,y2,y3,y4,y5,y6,y7,y8,y9,y10⟩:=HO4.out.all
 obtain ⟨r0,r1,r2,r3,r4,r5,r6,r7,r8,r9,r10,x0,x1,x2,x3,x4,x5,x6,x7,x8,x9,x10⟩:=HR4.out.all
 go_wp2
 clear o0 y0 r0 x0 o1 y1 r1 x1 o2 y2 r2 x2 o3 y3 r3 x3 o4 y4 r4 x4 o5 y5 r5 x5 o6 y6 r6 x6 o7 y7 r7 x7 o8 y8 r8 x8 o9 y9 r9 x9 o10 y10 r10 x10
 obtain ⟨WF,hWF⟩:∃ WF,WF=(((((((((((w4.setCell ⟨w.heap.size+1+1,10,none⟩ (.slice (some ⟨b10,0,none⟩) m.memo.length m.memo.length)).setCell ⟨w.heap.size+1,0,none⟩ (.slice (some ⟨b0,0,none⟩) m.row.length m.row.length)).setCell ⟨w.heap.size+1,1,none⟩ (.int .i64 m.N)).setCell ⟨w.heap.size+1,2,none⟩ (.string m.S)).setCell ⟨w.heap.size+1,3,none⟩ (.int .i64 m.room)).setCell ⟨w.heap.size+1,4,none⟩ (.slice (some ⟨b4,0,none⟩) m.vals.length m.vals.length)).setCell ⟨w.heap.size+1,5,none⟩ (.int .i64 m.ret)).setCell ⟨w.heap.size+1,6,none⟩ (.bool m.over)).setCell ⟨w.heap.size+1,7,none⟩ (.int .i64 m.steps)).setCell ⟨w.heap.size+1,8,none⟩ (.int .i64 m.looks)).setCell ⟨w.heap.size+1,9,none⟩ (.int .i64 m.hits)).setCell ⟨w.heap.size+1,10,none⟩ (.slice (some ⟨b10,0,none⟩) m.memo.length m.memo.length):=⟨_,rfl⟩
 rw [<- hWF]
 have KF:Kept (fun b=>b=w.heap.size+1\/b=w.heap.size+1+1) w4 WF:=by
  rw [hWF]
  exact ((((((((((((Kept.refl (fun b=>b=w.heap.size+1\/b=w.heap.size+1+1) w4).setCell (p:=⟨w.heap.size+1+1,10,none⟩) (.inr rfl) _).setCell (p:=⟨w.heap.size+1,0,none⟩) (.inl rfl) _).setCell (p:=⟨w.heap.size+1,1,none⟩) (.inl rfl) _).setCell (p:=⟨w.heap.size+1,2,none⟩) (.inl rfl) _).setCell (p:=⟨w.heap.size+1,3,none⟩) (.inl rfl) _).setCell (p:=⟨w.heap.size+1,4,none⟩) (.inl rfl) _).setCell (p:=⟨w.heap.size+1,5,none⟩) (.inl rfl) _).setCell (p:=⟨w.heap.size+1,6,none⟩) (.inl rfl) _).setCell (p:=⟨w.heap.size+1,7,none⟩) (.inl rfl) _).setCell (p:=⟨w.heap.size+1,8,none⟩) (.inl rfl) _).setCell (p:=⟨w.heap.size+1,9,none⟩) (.inl rfl) _).setCell (p:=⟨w.heap.size+1,10,none⟩) (.inl rfl) _
 have HF:Mf WF (w.heap.size+1) [.slice (some ⟨b0,0,none⟩) m.row.length m.row.length,.int .i64 m.N,.string m.S,.int .i64 m.room,.slice (some ⟨b4,0,none⟩) m.vals.length m.vals.length,.int .i64 m.ret,.bool m.over,.int .i64 m.steps,.int .i64 m.looks,.int .i64 m.hits,.slice (some ⟨b10,0,none⟩) m.memo.length m.memo.length]:=by
  rw [hWF]
  exact ((((((((((((HR4.out.other (by omega) 10 (.slice (some ⟨b10,0,none⟩) m.memo.length m.memo.length)).set 0 (.slice (some ⟨b0,0,none⟩) m.row.length m.row.length)).set 1 (.int .i64 m.N)).set 2 (.string m.S)).set 3 (.int .i64 m.room)).set 4 (.slice (some ⟨b4,0,none⟩) m.vals.length m.vals.length)).set 5 (.int .i64 m.ret)).set 6 (.bool m.over)).set 7 (.int .i64 m.steps)).set 8 (.int .i64 m.looks)).set 9 (.int .i64 m.hits)).set 10 (.slice (some ⟨b10,0,none⟩) m.memo.length m.memo.length))
 obtain ⟨r0,r1,r2,r3,r4,r5,r6,r7,r8,r9,r10,x0,x1,x2,x3,x4,x5,x6,x7,x8,x9,x10⟩:=HF.all
 have hp0:=HP0.out
 have hp1:=HG1.out
 have hp4:=HP4.out
 have hp3:=HG3.out
 have hp10:=HP10.out
 have f1:=HY4.out.kept KF (fun b h1 h2 h3=>by omega)
 have f2:=HZ4.out.kept KF (fun b h1 h2 h3=>by omega)
 have f3:=HX4.out.kept KF (fun b h1 h2 h3=>by omega)
 have fb:Below w.heap.size w WF:=HB4.out.trans (KF.below (fun b hb=>by omega) HB4.out.size)
 refine bodyPost_ret (v:=mval m (some ⟨b0,0,none⟩) (some ⟨b4,0,none⟩) (some ⟨b10,0,none⟩) m.row.length m.vals.length m.memo.length) (by simp [results,Tryz.results13,go_sem,r0,r1,r2,r3,r4,r5,r6,r7,r8,r9,r10]) rfl ⟨b0,b4,b10,rfl,⟨f1.plain,f2.ints,f3.plain⟩,⟨w1.heap.size,w3.heap.size,by omega,by omega,?_,wb_mono f1 (by omega) (Nat.le_refl _),wi_mono f2 (by omega) (Nat.le_refl _),ws_mono f3 (by omega) KF.size⟩,fb⟩
 have hs4:=KF.size
 have hg4:=HG4.out
 omega
end Mx1
end Go.Proofs.YtladjpombohpaaaGreatDoor
