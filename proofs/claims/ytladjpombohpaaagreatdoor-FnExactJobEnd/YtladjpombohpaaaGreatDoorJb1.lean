import Derived.Deep.CutBlock
import Derived.Deep.CutRange
import Derived.Deep.RegionHeld3
import Derived.Test.YtladjpombohpaaaGreatDoorPkJE8
namespace Go.Proofs.YtladjpombohpaaaGreatDoor
set_option maxRecDepth 100000
set_option maxHeartbeats 8000000
set_option linter.unusedVariables false
namespace Jb1
open Go.RowKit
open Nd0 (Kept set_other set_same)
open Mm0 Mx0 Mx1 Jb0
theorem eqJob (w:World) (st:Int) (m:Mc) (jr:ByteArray) (sy:Int) (ra va ma:Option Addr) (rc vc mc:Nat) (ra' va' ma':Option Addr) (rc' vc' mc':Nat) (h:Mr w m ra va ma) (h':Mr w m ra' va' ma') :
 Calls Tryz.prog 8 #[jval st m jr sy ra va ma rc vc mc,jval st m jr sy ra' va' ma' rc' vc' mc'] w fun e w'=>e=.returned (.bool true)/\Below w.heap.size w w':=by
 have H:Hid (Mr w m ra va ma):=h
 have H':Hid (Mr w m ra' va' ma'):=h'
 clear h h'
 have hne_st:(st != st)=false:=by simp
 have hne_jr:(jr.toList==jr.toList)=true:=by simp
 have hne_sy:(sy != sy)=false:=by simp
 obtain ⟨W0,hW0⟩:∃ W0,W0=(w.alloc (.cells #[.int .i64 st,.slice ra m.row.length rc,.int .i64 m.N,.string m.S,.int .i64 m.room,.slice va m.vals.length vc,.int .i64 m.ret,.bool m.over,.int .i64 m.steps,.int .i64 m.looks,.int .i64 m.hits,.slice ma m.memo.length mc,.string jr,.int .i64 sy] 37)).alloc (.cells #[.int .i64 st,.slice ra' m.row.length rc',.int .i64 m.N,.string m.S,.int .i64 m.room,.slice va' m.vals.length vc',.int .i64 m.ret,.bool m.over,.int .i64 m.steps,.int .i64 m.looks,.int .i64 m.hits,.slice ma' m.memo.length mc',.string jr,.int .i64 sy] 37):=⟨_,rfl⟩
 have HE0:Hid ((w.alloc (.cells #[.int .i64 st,.slice ra m.row.length rc,.int .i64 m.N,.string m.S,.int .i64 m.room,.slice va m.vals.length vc,.int .i64 m.ret,.bool m.over,.int .i64 m.steps,.int .i64 m.looks,.int .i64 m.hits,.slice ma m.memo.length mc,.string jr,.int .i64 sy] 37)).alloc (.cells #[.int .i64 st,.slice ra' m.row.length rc',.int .i64 m.N,.string m.S,.int .i64 m.room,.slice va' m.vals.length vc',.int .i64 m.ret,.bool m.over,.int .i64 m.steps,.int .i64 m.looks,.int .i64 m.hits,.slice ma' m.memo.length mc',.string jr,.int .i64 sy] 37)=W0):=hW0.symm
 have HA:Hid (Jb W0 w.heap.size st m jr sy ra va ma rc vc mc):=by rw [hW0];exact (Jb.made _ _ _ _ _ _ _ _ _ _ _ _).alloc _
 have HA':Hid (Jb W0 (w.heap.size+1) st m jr sy ra' va' ma' rc' vc' mc'):=by
  rw [hW0]
  have:=Jb.made (w.alloc (.cells #[.int .i64 st,.slice ra m.row.length rc,.int .i64 m.N,.string m.S,.int .i64 m.room,.slice va m.vals.length vc,.int .i64 m.ret,.bool m.over,.int .i64 m.steps,.int .i64 m.looks,.int .i64 m.hits,.slice ma m.memo.length mc,.string jr,.int .i64 sy] 37)) st m jr sy ra' va' ma' rc' vc' mc' 37
  show Jb _ _ _ _ _ _ _ _ _ _ _ _
  simpa using this
 have HB0:Hid (Below w.heap.size w W0):=by rw [hW0];exact ((Below.refl _ _).alloc (Nat.le_refl _) _).alloc (by simp) _
 clear hW0
 go_enter Tryz.func8,Tryz.ntmps8
 go_upto_region 1 with fail
 rw [HE0.out]
 clear HE0
 obtain ⟨m0,m1,m2,m3,m4,m5,m6,m7,m8,m9,m10,m11,m12,m13⟩:=HA.out
 obtain ⟨n0,n1,n2,n3,n4,n5,n6,n7,n8,n9,n10,n11,n12,n13⟩:=HA'.out
 go_wp2_with fail
 clear m0 m1 m2 m3 m4 m5 m6 m7 m8 m9 m10 m11 m12 m13 n0 n1 n2 n3 n4 n5 n6 n7 n8 n9 n10 n11 n12 n13
 refine (eqMachine _ m _ _ _ _ _ _ _ _ _ _ _ _ (H.out.below HB0.out) (H'.out.below HB0.out)).mono ?_
 rintro e w1 ⟨rfl,hb1⟩
 have HB1:Hid (Below w.heap.size w w1):=HB0.out.trans (hb1.mono HB0.out.size)
 have HA1:Hid (Jb w1 w.heap.size st m jr sy ra va ma rc vc mc):=HA.out.below hb1
 have HA1':Hid (Jb w1 (w.heap.size+1) st m jr sy ra' va' ma' rc' vc' mc'):=HA'.out.below hb1
 clear hb1 HA HA' HB0
 obtain ⟨m0,m1,m2,m3,m4,m5,m6,m7,m8,m9,m10,m11,m12,m13⟩:=HA1.out
 obtain ⟨n0,n1,n2,n3,n4,n5,n6,n7,n8,n9,n10,n11,n12,n13⟩:=HA1'.out
 go_wp2
 go_ret
 exact ⟨rfl,HB1.out⟩
theorem szJob (w:World) (st:Int) (m:Mc) (jr:ByteArray) (sy:Int) (ra va ma:Option Addr) (rc vc mc:Nat) (h:Mr w m ra va ma) (hS:m.S.size<=maxLen) (hk:∀ x∈m.memo,x.k.size<=maxLen) (hJ:jr.size<=maxLen) :
 Calls Tryz.prog 4 #[jval st m jr sy ra va ma rc vc mc,.int .i64 1048576] w fun e w'=>∃ r:Int,e=.returned (.int .i64 r) /\ -1<=r/\r<=1048576/\(0<=r->m.row.length<=1048576/\m.S.size<=1048576/\m.vals.length<=1048576/\m.memo.length<=1048576/\jr.size<=1048576)/\Below w.heap.size w w':=by
 have H:Hid (Mr w m ra va ma):=h
 have HS:Hid (m.S.size<=maxLen):=hS
 have HK:Hid (∀ x∈m.memo,x.k.size<=maxLen):=hk
 unfold maxLen at hJ
 clear h hS hk
 obtain ⟨W0,hW0⟩:∃ W0,W0=w.alloc (.cells #[.int .i64 st,.slice ra m.row.length rc,.int .i64 m.N,.string m.S,.int .i64 m.room,.slice va m.vals.length vc,.int .i64 m.ret,.bool m.over,.int .i64 m.steps,.int .i64 m.looks,.int .i64 m.hits,.slice ma m.memo.length mc,.string jr,.int .i64 sy] 30):=⟨_,rfl⟩
 have HE0:Hid (w.alloc (.cells #[.int .i64 st,.slice ra m.row.length rc,.int .i64 m.N,.string m.S,.int .i64 m.room,.slice va m.vals.length vc,.int .i64 m.ret,.bool m.over,.int .i64 m.steps,.int .i64 m.looks,.int .i64 m.hits,.slice ma m.memo.length mc,.string jr,.int .i64 sy] 30)=W0):=hW0.symm
 have HA:Hid (Jb W0 w.heap.size st m jr sy ra va ma rc vc mc):=by rw [hW0];exact Jb.made _ _ _ _ _ _ _ _ _ _ _ _
 have HB0:Hid (Below w.heap.size w W0):=by rw [hW0];exact (Below.refl _ _).alloc (Nat.le_refl _) _
 clear hW0
 go_enter Tryz.func4,Tryz.ntmps4
 go_upto_region 1 with fail
 rw [HE0.out]
 clear HE0
 obtain ⟨m0,m1,m2,m3,m4,m5,m6,m7,m8,m9,m10,m11,m12,m13⟩:=HA.out
 go_wp2_with fail
 clear m0 m1 m2 m3 m4 m5 m6 m7 m8 m9 m10 m11 m12 m13
 refine (szMachine _ m _ _ _ _ _ _ (H.out.below HB0.out) HS.out HK.out).mono ?_
 rintro e w1 ⟨r,rfl,hr0,hr1,hr2,hb1⟩
 have HB1:Hid (Below w.heap.size w w1):=HB0.out.trans (hb1.mono HB0.out.size)
 have HA1:Hid (Jb w1 w.heap.size st m jr sy ra va ma rc vc mc):=HA.out.below hb1
 have HR:Hid (0<=r->m.row.length<=1048576/\m.S.size<=1048576/\m.vals.length<=1048576/\m.memo.length<=1048576):=hr2
 clear hb1 HA HB0 hr2
 by_cases hneg:r < 0
 ·go_wp2
  go_ret
  exact ⟨-1,rfl,by omega,by omega,fun h=>absurd h (by omega),HB1.out⟩
 have hwr:IntKind.wrap .i64 (r - (jr.size:Int))=r - (jr.size:Int):=by rw [IntKind.wrap_i64];omega
 obtain ⟨m0,m1,m2,m3,m4,m5,m6,m7,m8,m9,m10,m11,m12,m13⟩:=HA1.out
 by_cases hneg2:r - (jr.size:Int) < 0
 ·go_wp2
  go_ret
  exact ⟨-1,rfl,by omega,by omega,fun h=>absurd h (by omega),HB1.out⟩
 ·go_wp2
  go_ret
  have g:=HR.out (by omega)
  exact ⟨_,rfl,by omega,by omega,fun _=>⟨g.1,g.2.1,g.2.2.1,g.2.2.2,by omega⟩,HB1.out⟩
theorem toJob (w:World) (st:Int) (m:Mc) (jr:ByteArray) (sy:Int) (ra va ma:Option Addr) (rc vc mc:Nat) (h:Mr w m ra va ma) (hr:m.row.length<=1048576) (hv:m.vals.length<=1048576) (hm:m.memo.length<=1048576) :
 Calls Tryz.prog 6 #[jval st m jr sy ra va ma rc vc mc] w fun e w'=>∃ b0 b4 b10:Nat,e=.returned (jval st m jr sy (some ⟨b0,0,none⟩) (some ⟨b4,0,none⟩) (some ⟨b10,0,none⟩) m.row.length m.vals.length m.memo.length)/\Mr w' m (some ⟨b0,0,none⟩) (some ⟨b4,0,none⟩) (some ⟨b10,0,none⟩)/\(∃ U1 U2,w.heap.size<=U1/\U1<=U2/\U2<=w'.heap.size/\Nd6.BoolsIn w' w.heap.size U1 (some ⟨b0,0,none⟩) m.row/\Nd0.IntsIn w' U1 U2 (some ⟨b4,0,none⟩) m.vals/\Qc0.SnsIn w' U2 w'.heap.size (some ⟨b10,0,none⟩) m.memo)/\Below w.heap.size w w':=by
 have H:Hid (Mr w m ra va ma):=h
 clear h
 obtain ⟨W0,hW0⟩:∃ W0,W0=((w.alloc (.cells #[.int .i64 st,.slice ra m.row.length rc,.int .i64 m.N,.string m.S,.int .i64 m.room,.slice va m.vals.length vc,.int .i64 m.ret,.bool m.over,.int .i64 m.steps,.int .i64 m.looks,.int .i64 m.hits,.slice ma m.memo.length mc,.string jr,.int .i64 sy] 30)).alloc (.cells #[.int .i64 0,.slice none 0 0,.int .i64 0,.string ⟨#[]⟩,.int .i64 0,.slice none 0 0,.int .i64 0,.bool false,.int .i64 0,.int .i64 0,.int .i64 0,.slice none 0 0,.string ⟨#[]⟩,.int .i64 0] 37)).alloc (.cells #[.int .i64 0,.slice none 0 0,.int .i64 0,.string ⟨#[]⟩,.int .i64 0,.slice none 0 0,.int .i64 0,.bool false,.int .i64 0,.int .i64 0,.int .i64 0,.slice none 0 0,.string ⟨#[]⟩,.int .i64 0] 37):=⟨_,rfl⟩
 have HE0:Hid (((w.alloc (.cells #[.int .i64 st,.slice ra m.row.length rc,.int .i64 m.N,.string m.S,.int .i64 m.room,.slice va m.vals.length vc,.int .i64 m.ret,.bool m.over,.int .i64 m.steps,.int .i64 m.looks,.int .i64 m.hits,.slice ma m.memo.length mc,.string jr,.int .i64 sy] 30)).alloc (.cells #[.int .i64 0,.slice none 0 0,.int .i64 0,.string ⟨#[]⟩,.int .i64 0,.slice none 0 0,.int .i64 0,.bool false,.int .i64 0,.int .i64 0,.int .i64 0,.slice none 0 0,.string ⟨#[]⟩,.int .i64 0] 37)).alloc (.cells #[.int .i64 0,.slice none 0 0,.int .i64 0,.string ⟨#[]⟩,.int .i64 0,.slice none 0 0,.int .i64 0,.bool false,.int .i64 0,.int .i64 0,.int .i64 0,.slice none 0 0,.string ⟨#[]⟩,.int .i64 0] 37)=W0):=hW0.symm
 have hsA:(w.alloc (.cells #[.int .i64 st,.slice ra m.row.length rc,.int .i64 m.N,.string m.S,.int .i64 m.room,.slice va m.vals.length vc,.int .i64 m.ret,.bool m.over,.int .i64 m.steps,.int .i64 m.looks,.int .i64 m.hits,.slice ma m.memo.length mc,.string jr,.int .i64 sy] 30)).heap.size=w.heap.size+1:=by simp
 have hsB:((w.alloc (.cells #[.int .i64 st,.slice ra m.row.length rc,.int .i64 m.N,.string m.S,.int .i64 m.room,.slice va m.vals.length vc,.int .i64 m.ret,.bool m.over,.int .i64 m.steps,.int .i64 m.looks,.int .i64 m.hits,.slice ma m.memo.length mc,.string jr,.int .i64 sy] 30)).alloc (.cells #[.int .i64 0,.slice none 0 0,.int .i64 0,.string ⟨#[]⟩,.int .i64 0,.slice none 0 0,.int .i64 0,.bool false,.int .i64 0,.int .i64 0,.int .i64 0,.slice none 0 0,.string ⟨#[]⟩,.int .i64 0] 37)).heap.size=w.heap.size+1+1:=by simp
 have HS0:Hid (W0.heap.size=w.heap.size+3):=by show _=_;rw [hW0];simp
 have HA0:Hid (Jb W0 w.heap.size st m jr sy ra va ma rc vc mc):=by rw [hW0];exact ((Jb.made _ _ _ _ _ _ _ _ _ _ _ _).alloc _).alloc _
 have HR0:Hid (Mf W0 (w.heap.size+1) [.int .i64 0,.slice none 0 0,.int .i64 0,.string ⟨#[]⟩,.int .i64 0,.slice none 0 0,.int .i64 0,.bool false,.int .i64 0,.int .i64 0,.int .i64 0,.slice none 0 0,.string ⟨#[]⟩,.int .i64 0]):=by
  have h1:=(Mf.made (w.alloc (.cells #[.int .i64 st,.slice ra m.row.length rc,.int .i64 m.N,.string m.S,.int .i64 m.room,.slice va m.vals.length vc,.int .i64 m.ret,.bool m.over,.int .i64 m.steps,.int .i64 m.looks,.int .i64 m.hits,.slice ma m.memo.length mc,.string jr,.int .i64 sy] 30)) #[.int .i64 0,.slice none 0 0,.int .i64 0,.string ⟨#[]⟩,.int .i64 0,.slice none 0 0,.int .i64 0,.bool false,.int .i64 0,.int .i64 0,.int .i64 0,.slice none 0 0,.string ⟨#[]⟩,.int .i64 0] 37).alloc (.cells #[.int .i64 0,.slice none 0 0,.int .i64 0,.string ⟨#[]⟩,.int .i64 0,.slice none 0 0,.int .i64 0,.bool false,.int .i64 0,.int .i64 0,.int .i64 0,.slice none 0 0,.string ⟨#[]⟩,.int .i64 0] 37)
  rw [hsA,<- hW0] at h1
  exact h1
 have HO0:Hid (Mf W0 (w.heap.size+1+1) [.int .i64 0,.slice none 0 0,.int .i64 0,.string ⟨#[]⟩,.int .i64 0,.slice none 0 0,.int .i64 0,.bool false,.int .i64 0,.int .i64 0,.int .i64 0,.slice none 0 0,.string ⟨#[]⟩,.int .i64 0]):=by
  have h1:=Mf.made ((w.alloc (.cells #[.int .i64 st,.slice ra m.row.length rc,.int .i64 m.N,.string m.S,.int .i64 m.room,.slice va m.vals.length vc,.int .i64 m.ret,.bool m.over,.int .i64 m.steps,.int .i64 m.looks,.int .i64 m.hits,.slice ma m.memo.length mc,.string jr,.int .i64 sy] 30)).alloc (.cells #[.int .i64 0,.slice none 0 0,.int .i64 0,.string ⟨#[]⟩,.int .i64 0,.slice none 0 0,.int .i64 0,.bool false,.int .i64 0,.int .i64 0,.int .i64 0,.slice none 0 0,.string ⟨#[]⟩,.int .i64 0] 37)) #[.int .i64 0,.slice none 0 0,.int .i64 0,.string ⟨#[]⟩,.int .i64 0,.slice none 0 0,.int .i64 0,.bool false,.int .i64 0,.int .i64 0,.int .i64 0,.slice none 0 0,.string ⟨#[]⟩,.int .i64 0] 37
  rw [hsB,<- hW0] at h1
  exact h1
 have HB0:Hid (Below w.heap.size w W0):=by rw [hW0];exact (((Below.refl _ _).alloc (Nat.le_refl _) _).alloc (by simp) _).alloc (by simp<;>omega) _
 clear hW0 hsA hsB
 go_enter Tryz.func6,Tryz.ntmps6
 go_upto_region 2 with fail
 rw [HE0.out]
 clear HE0
 obtain ⟨m0,m1,m2,m3,m4,m5,m6,m7,m8,m9,m10,m11,m12,m13⟩:=HA0.out
 obtain ⟨o0,o1,o2,o3,o4,o5,o6,o7,o8,o9,o10,o11,o12,o13,y0,y1,y2,y3,y4,y5,y6,y7,y8,y9,y10,y11,y12,y13⟩:=Jz.of HO0.out
 go_wp2_with fail
 clear m0 m1 m2 m3 m4 m5 m6 m7 m8 m9 m10 m11 m12 m13 o0 o1 o2 o3 o4 o5 o6 o7 o8 o9 o10 o11 o12 o13 y0 y1 y2 y3 y4 y5 y6 y7 y8 y9 y10 y11 y12 y13
 obtain ⟨W1,hW1⟩:∃ W1,W1=(W0).setCell ⟨w.heap.size+1+1,0,none⟩ (.int .i64 st):=⟨_,rfl⟩
 rw [<- hW1]
 have K1:Kept (fun b=>b=w.heap.size+1+1) W0 W1:=by rw [hW1];exact (Kept.refl (fun b=>b=w.heap.size+1+1) W0).setCell (p:=⟨w.heap.size+1+1,0,none⟩) rfl _
 have HB1:Hid (Below w.heap.size w W1):=HB0.out.trans (K1.below (fun b hb=>by omega) HB0.out.size)
 have HA1:Hid (Jb W1 w.heap.size st m jr sy ra va ma rc vc mc):=HA0.out.kept K1 (by omega)
 have HR1:Hid (Mf W1 (w.heap.size+1) [.int .i64 0,.slice none 0 0,.int .i64 0,.string ⟨#[]⟩,.int .i64 0,.slice none 0 0,.int .i64 0,.bool false,.int .i64 0,.int .i64 0,.int .i64 0,.slice none 0 0,.string ⟨#[]⟩,.int .i64 0]):=HR0.out.kept K1 (by omega)
 have HO1:Hid (Mf W1 (w.heap.size+1+1) [.int .i64 st,.slice none 0 0,.int .i64 0,.string ⟨#[]⟩,.int .i64 0,.slice none 0 0,.int .i64 0,.bool false,.int .i64 0,.int .i64 0,.int .i64 0,.slice none 0 0,.string ⟨#[]⟩,.int .i64 0]):=by rw [hW1];exact (HO0.out).set 0 (.int .i64 st)
 have HS1:Hid (W1.heap.size=w.heap.size+3):=by show _=_;rw [hW1];simpa using HS0.out
 clear K1 hW1 HB0 HA0 HR0 HO0 HS0
 refine (toMachine _ m _ _ _ _ _ _ (H.out.below HB1.out) hr hv hm).mono ?_
 rintro e w2 ⟨b0,b4,b10,rfl,_,⟨U1,U2,hu1,hu2,hu3,f1,f2,f3⟩,hb2⟩
 have HS2:Hid (w.heap.size+3<=U1):=by show _<=_;rw [<- HS1.out];exact hu1
 have F1:Hid (Nd6.BoolsIn w2 W1.heap.size U1 (some ⟨b0,0,none⟩) m.row):=f1
 have F2:Hid (Nd0.IntsIn w2 U1 U2 (some ⟨b4,0,none⟩) m.vals):=f2
 have F3:Hid (Qc0.SnsIn w2 U2 w2.heap.size (some ⟨b10,0,none⟩) m.memo):=f3
 have HU1:Hid (W1.heap.size<=U1):=hu1
 have HU2:Hid (U1<=U2):=hu2
 have HU3:Hid (U2<=w2.heap.size):=hu3
 have HB2:Hid (Below w.heap.size w w2):=HB1.out.trans (hb2.mono HB1.out.size)
 have HA2:Hid (Jb w2 w.heap.size st m jr sy ra va ma rc vc mc):=HA1.out.below hb2
 have HR2:Hid (Mf w2 (w.heap.size+1) [.int .i64 0,.slice none 0 0,.int .i64 0,.string ⟨#[]⟩,.int .i64 0,.slice none 0 0,.int .i64 0,.bool false,.int .i64 0,.int .i64 0,.int .i64 0,.slice none 0 0,.string ⟨#[]⟩,.int .i64 0]):=HR1.out.below hb2
 have HO2:Hid (Mf w2 (w.heap.size+1+1) [.int .i64 st,.slice none 0 0,.int .i64 0,.string ⟨#[]⟩,.int .i64 0,.slice none 0 0,.int .i64 0,.bool false,.int .i64 0,.int .i64 0,.int .i64 0,.slice none 0 0,.string ⟨#[]⟩,.int .i64 0]):=HO1.out.below hb2
 clear hb2 f1 f2 f3 hu1 hu2 hu3 HB1 HA1 HR1 HO1
 obtain ⟨m0,m1,m2,m3,m4,m5,m6,m7,m8,m9,m10,m11,m12,m13⟩:=HA2.out
 obtain ⟨o0,o1,o2,o3,o4,o5,o6,o7,o8,o9,o10,o11,o12,o13,y0,y1,y2,y3,y4,y5,y6,y7,y8,y9,y10,y11,y12,y13⟩:=Jz.of HO2.out
 obtain ⟨r0,r1,r2,r3,r4,r5,r6,r7,r8,r9,r10,r11,r12,r13,x0,x1,x2,x3,x4,x5,x6,x7,x8,x9,x10,x11,x12,x13⟩:=Jz.of HR2.out
 go_wp2
 clear m0 m1 m2 m3 m4 m5 m6 m7 m8 m9 m10 m11 m12 m13 o0 o1 o2 o3 o4 o5 o6 o7 o8 o9 o10 o11 o12 o13 y0 y1 y2 y3 y4 y5 y6 y7 y8 y9 y10 y11 y12 y13 r0 r1 r2 r3 r4 r5 r6 r7 r8 r9 r10 r11 r12 r13 x0 x1 x2 x3 x4 x5 x6 x7 x8 x9 x10 x11 x12 x13
 obtain ⟨WF,hWF⟩:∃ WF,WF=(((((((((((((((((((((((((((w2).setCell ⟨w.heap.size+1+1,1,none⟩ (.slice (some ⟨b0,0,none⟩) m.row.length m.row.length)).setCell ⟨w.heap.size+1+1,2,none⟩ (.int .i64 m.N)).setCell ⟨w.heap.size+1+1,3,none⟩ (.string m.S)).setCell ⟨w.heap.size+1+1,4,none⟩ (.int .i64 m.room)).setCell ⟨w.heap.size+1+1,5,none⟩ (.slice (some ⟨b4,0,none⟩) m.vals.length m.vals.length)).setCell ⟨w.heap.size+1+1,6,none⟩ (.int .i64 m.ret)).setCell ⟨w.heap.size+1+1,7,none⟩ (.bool m.over)).setCell ⟨w.heap.size+1+1,8,none⟩ (.int .i64 m.steps)).setCell ⟨w.heap.size+1+1,9,none⟩ (.int .i64 m.looks)).setCell ⟨w.heap.size+1+1,10,none⟩ (.int .i64 m.hits)).setCell ⟨w.heap.size+1+1,11,none⟩ (.slice (some ⟨b10,0,none⟩) m.memo.length m.memo.length)).setCell ⟨w.heap.size+1+1,12,none⟩ (.string jr)).setCell ⟨w.heap.size+1+1,13,none⟩ (.int .i64 sy)).setCell ⟨w.heap.size+1,0,none⟩ (.int .i64 st)).setCell ⟨w.heap.size+1,1,none⟩ (.slice (some ⟨b0,0,none⟩) m.row.length m.row.length)).setCell ⟨w.heap.size+1,2,none⟩ (.int .i64 m.N)).setCell ⟨w.heap.size+1,3,none⟩ (.string m.S)).setCell ⟨w.heap.size+1,4,none⟩ (.int .i64 m.room)).setCell ⟨w.heap.size+1,5,none⟩ (.slice (some ⟨b4,0,none⟩) m.vals.length m.vals.length)).setCell ⟨w.heap.size+1,6,none⟩ (.int .i64 m.ret)).setCell ⟨w.heap.size+1,7,none⟩ (.bool m.over)).setCell ⟨w.heap.size+1,8,none⟩ (.int .i64 m.steps)).setCell ⟨w.heap.size+1,9,none⟩ (.int .i64 m.looks)).setCell ⟨w.heap.size+1,10,none⟩ (.int .i64 m.hits)).setCell ⟨w.heap.size+1,11,none⟩ (.slice (some ⟨b10,0,none⟩) m.memo.length m.memo.length)).setCell ⟨w.heap.size+1,12,none⟩ (.string jr)).setCell ⟨w.heap.size+1,13,none⟩ (.int .i64 sy):=⟨_,rfl⟩
 rw [<- hWF]
 have KF:Kept (fun b=>b=w.heap.size+1\/b=w.heap.size+1+1) w2 WF:=by
  rw [hWF]
  exact (((((((((((((((((((((((((((Kept.refl (fun b=>b=w.heap.size+1\/b=w.heap.size+1+1) w2).setCell (p:=⟨w.heap.size+1+1,1,none⟩) (.inr rfl) _).setCell (p:=⟨w.heap.size+1+1,2,none⟩) (.inr rfl) _).setCell (p:=⟨w.heap.size+1+1,3,none⟩) (.inr rfl) _).setCell (p:=⟨w.heap.size+1+1,4,none⟩) (.inr rfl) _).setCell (p:=⟨w.heap.size+1+1,5,none⟩) (.inr rfl) _).setCell (p:=⟨w.heap.size+1+1,6,none⟩) (.inr rfl) _).setCell (p:=⟨w.heap.size+1+1,7,none⟩) (.inr rfl) _).setCell (p:=⟨w.heap.size+1+1,8,none⟩) (.inr rfl) _).setCell (p:=⟨w.heap.size+1+1,9,none⟩) (.inr rfl) _).setCell (p:=⟨w.heap.size+1+1,10,none⟩) (.inr rfl) _).setCell (p:=⟨w.heap.size+1+1,11,none⟩) (.inr rfl) _).setCell (p:=⟨w.heap.size+1+1,12,none⟩) (.inr rfl) _).setCell (p:=⟨w.heap.size+1+1,13,none⟩) (.inr rfl) _).setCell (p:=⟨w.heap.size+1,0,none⟩) (.inl rfl) _).setCell (p:=⟨w.heap.size+1,1,none⟩) (.inl rfl) _).setCell (p:=⟨w.heap.size+1,2,none⟩) (.inl rfl) _).setCell (p:=⟨w.heap.size+1,3,none⟩) (.inl rfl) _).setCell (p:=⟨w.heap.size+1,4,none⟩) (.inl rfl) _).setCell (p:=⟨w.heap.size+1,5,none⟩) (.inl rfl) _).setCell (p:=⟨w.heap.size+1,6,none⟩) (.inl rfl) _).setCell (p:=⟨w.heap.size+1,7,none⟩) (.inl rfl) _).setCell (p:=⟨w.heap.size+1,8,none⟩) (.inl rfl) _).setCell (p:=⟨w.heap.size+1,9,none⟩) (.inl rfl) _).setCell (p:=⟨w.heap.size+1,10,none⟩) (.inl rfl) _).setCell (p:=⟨w.heap.size+1,11,none⟩) (.inl rfl) _).setCell (p:=⟨w.heap.size+1,12,none⟩) (.inl rfl) _).setCell (p:=⟨w.heap.size+1,13,none⟩) (.inl rfl) _
 have HF:Mf WF (w.heap.size+1) [.int .i64 st,.slice (some ⟨b0,0,none⟩) m.row.length m.row.length,.int .i64 m.N,.string m.S,.int .i64 m.room,.slice (some ⟨b4,0,none⟩) m.vals.length m.vals.length,.int .i64 m.ret,.bool m.over,.int .i64 m.steps,.int .i64 m.looks,.int .i64 m.hits,.slice (some ⟨b10,0,none⟩) m.memo.length m.memo.length,.string jr,.int .i64 sy]:=by
  rw [hWF]
  have hO:Mf ((((((((((((((w2).setCell ⟨w.heap.size+1+1,1,none⟩ (.slice (some ⟨b0,0,none⟩) m.row.length m.row.length)).setCell ⟨w.heap.size+1+1,2,none⟩ (.int .i64 m.N)).setCell ⟨w.heap.size+1+1,3,none⟩ (.string m.S)).setCell ⟨w.heap.size+1+1,4,none⟩ (.int .i64 m.room)).setCell ⟨w.heap.size+1+1,5,none⟩ (.slice (some ⟨b4,0,none⟩) m.vals.length m.vals.length)).setCell ⟨w.heap.size+1+1,6,none⟩ (.int .i64 m.ret)).setCell ⟨w.heap.size+1+1,7,none⟩ (.bool m.over)).setCell ⟨w.heap.size+1+1,8,none⟩ (.int .i64 m.steps)).setCell ⟨w.heap.size+1+1,9,none⟩ (.int .i64 m.looks)).setCell ⟨w.heap.size+1+1,10,none⟩ (.int .i64 m.hits)).setCell ⟨w.heap.size+1+1,11,none⟩ (.slice (some ⟨b10,0,none⟩) m.memo.length m.memo.length)).setCell ⟨w.heap.size+1+1,12,none⟩ (.string jr)).setCell ⟨w.heap.size+1+1,13,none⟩ (.int .i64 sy)) (w.heap.size+1) [.int .i64 0,.slice none 0 0,.int .i64 0,.string ⟨#[]⟩,.int .i64 0,.slice none 0 0,.int .i64 0,.bool false,.int .i64 0,.int .i64 0,.int .i64 0,.slice none 0 0,.string ⟨#[]⟩,.int .i64 0]:=HR2.out.kept (S:=fun b=>b=w.heap.size+1+1) ((((((((((((((Kept.refl (fun b=>b=w.heap.size+1+1) w2).setCell (p:=⟨w.heap.size+1+1,1,none⟩) rfl _).setCell (p:=⟨w.heap.size+1+1,2,none⟩) rfl _).setCell (p:=⟨w.heap.size+1+1,3,none⟩) rfl _).setCell (p:=⟨w.heap.size+1+1,4,none⟩) rfl _).setCell (p:=⟨w.heap.size+1+1,5,none⟩) rfl _).setCell (p:=⟨w.heap.size+1+1,6,none⟩) rfl _).setCell (p:=⟨w.heap.size+1+1,7,none⟩) rfl _).setCell (p:=⟨w.heap.size+1+1,8,none⟩) rfl _).setCell (p:=⟨w.heap.size+1+1,9,none⟩) rfl _).setCell (p:=⟨w.heap.size+1+1,10,none⟩) rfl _).setCell (p:=⟨w.heap.size+1+1,11,none⟩) rfl _).setCell (p:=⟨w.heap.size+1+1,12,none⟩) rfl _).setCell (p:=⟨w.heap.size+1+1,13,none⟩) rfl _) (by omega)
  exact ((((((((((((((hO).set 0 (.int .i64 st)).set 1 (.slice (some ⟨b0,0,none⟩) m.row.length m.row.length)).set 2 (.int .i64 m.N)).set 3 (.string m.S)).set 4 (.int .i64 m.room)).set 5 (.slice (some ⟨b4,0,none⟩) m.vals.length m.vals.length)).set 6 (.int .i64 m.ret)).set 7 (.bool m.over)).set 8 (.int .i64 m.steps)).set 9 (.int .i64 m.looks)).set 10 (.int .i64 m.hits)).set 11 (.slice (some ⟨b10,0,none⟩) m.memo.length m.memo.length)).set 12 (.string jr)).set 13 (.int .i64 sy)
 obtain ⟨r0,r1,r2,r3,r4,r5,r6,r7,r8,r9,r10,r11,r12,r13,x0,x1,x2,x3,x4,x5,x6,x7,x8,x9,x10,x11,x12,x13⟩:=Jz.of HF
 have s1:=HS1.out
 have s2:=HS2.out
 have hu1:=HU1.out
 have hu2:=HU2.out
 have hu3:=HU3.out
 have g1:=F1.out.kept KF (fun b h1 h2 h3=>by omega)
 have g2:=F2.out.kept KF (fun b h1 h2 h3=>by omega)
 have g3:=F3.out.kept KF (fun b h1 h2 h3=>by omega)
 have fb:Below w.heap.size w WF:=HB2.out.trans (KF.below (fun b hb=>by omega) HB2.out.size)
 refine bodyPost_ret (v:=jval st m jr sy (some ⟨b0,0,none⟩) (some ⟨b4,0,none⟩) (some ⟨b10,0,none⟩) m.row.length m.vals.length m.memo.length) (by simp [results,Tryz.results6,go_sem,r0,r1,r2,r3,r4,r5,r6,r7,r8,r9,r10,r11,r12,r13]) rfl ⟨b0,b4,b10,rfl,⟨g1.plain,g2.ints,g3.plain⟩,⟨U1,U2,by omega,by omega,?_,wb_mono g1 (by omega) (Nat.le_refl _),g2,ws_mono g3 (Nat.le_refl _) KF.size⟩,fb⟩
 have hs4:=KF.size
 omega
end Jb1
end Go.Proofs.YtladjpombohpaaaGreatDoor
