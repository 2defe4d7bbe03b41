import Derived.Test.YtladjpombohpaaaGreatDoorPkJN4
import Derived.Test.YtladjpombohpaaaGreatDoorJb1
namespace Go.Proofs.YtladjpombohpaaaGreatDoor
set_option maxRecDepth 100000
set_option maxHeartbeats 8000000
set_option linter.unusedVariables false
namespace Lx72
open Go.RowKit
open Nd0 (Kept)
open Mm0 Mx0 Mx1 Mk3 Mw21 Jb0 Jb1 Jk1 Je4 Je8 Tk0
theorem exJobEnd (w:World) (st:Int) (m:Mc) (jr:ByteArray) (sy:Int) (ra va ma:Option Addr) (rc vc mc:Nat) (hR:Mr w m ra va ma) (hS:m.S.size<=maxLen) (hk:∀ x∈m.memo,x.k.size<=maxLen) (hJ:jr.size<=maxLen) (hT:TabK w) :
 Calls Tryz.prog 3 #[jval st m jr sy ra va ma rc vc mc] w fun e w'=>e=.returned (.bool true)/\Below w.heap.size w w':=by
 have HR:Hid (Mr w m ra va ma):=hR
 have HK:Hid (∀ x∈m.memo,x.k.size<=maxLen):=hk
 have HSM:Hid (m.S.size<=maxLen):=hS
 have HTK:Hid (TabK w):=hT
 have HJM:Hid (jr.size<=maxLen):=hJ
 clear hR hk hS hT hJ
 obtain ⟨y0,hy0⟩:∃ y0,y0=w.alloc (.cells #[.int .i64 st,.slice ra m.row.length rc,.int .i64 m.N,.string m.S,.int .i64 m.room,.slice va m.vals.length vc,.int .i64 m.ret,.bool m.over,.int .i64 m.steps,.int .i64 m.looks,.int .i64 m.hits,.slice ma m.memo.length mc,.string jr,.int .i64 sy] 30):=⟨_,rfl⟩
 have HE0:Hid (w.alloc (.cells #[.int .i64 st,.slice ra m.row.length rc,.int .i64 m.N,.string m.S,.int .i64 m.room,.slice va m.vals.length vc,.int .i64 m.ret,.bool m.over,.int .i64 m.steps,.int .i64 m.looks,.int .i64 m.hits,.slice ma m.memo.length mc,.string jr,.int .i64 sy] 30)=y0):=hy0.symm
 have HB0:Hid (Below w.heap.size w y0):=by rw [hy0];exact (Below.refl _ _).alloc (Nat.le_refl _) _
 have HA0:Hid (Jb y0 w.heap.size st m jr sy ra va ma rc vc mc):=by rw [hy0];exact Jb.made _ _ _ _ _ _ _ _ _ _ _ _
 clear hy0
 go_enter Tryz.func3,Tryz.ntmps3
 go_upto_region 2 with fail
 rw [HE0.out]
 clear HE0
 obtain ⟨a0,a1,a2,a3,a4,a5,a6,a7,a8,a9,a10,a11,a12,a13⟩:=HA0.out
 go_wp2_with fail
 clear a0 a1 a2 a3 a4 a5 a6 a7 a8 a9 a10 a11 a12 a13
 refine (szJob _ st m jr sy ra va ma rc vc mc (HR.out.below HB0.out) HSM.out HK.out HJM.out).mono ?_
 rintro e y1 ⟨r,rfl,hr0,hr1,hr2,hb⟩
 have HB1:Hid (Below w.heap.size w y1):=HB0.out.trans (hb.mono HB0.out.size)
 have HA1:Hid (Jb y1 w.heap.size st m jr sy ra va ma rc vc mc):=HA0.out.below hb
 clear hb HA0
 by_cases hneg:r < 0
 ·clear hr2
  go_wp2
  go_ret
  exact ⟨rfl,HB1.out⟩
 obtain ⟨g1,g2,g3,g4,g5⟩:=hr2 (by omega)
 have G1:Hid (m.row.length<=1048576):=g1
 have G3:Hid (m.vals.length<=1048576):=g3
 have G4:Hid (m.memo.length<=1048576):=g4
 obtain ⟨s1,M,cd,hsh,hsp,him⟩:=bEnd st m jr sy g1 g2 g3 g4 HK.out g5
 have HSH:Hid (Short M):=hsh
 have HSP:Hid _:=hsp
 have HIM:Hid _:=him
 clear hsh hsp him g1 g2 g3 g4 g5 hr2
 have hne1:(cd != cd)=false:=by simp
 have hws:w.heap.size < y1.heap.size:=HA1.out.lt
 obtain ⟨a0,a1,a2,a3,a4,a5,a6,a7,a8,a9,a10,a11,a12,a13⟩:=HA1.out
 go_wp2_with fail
 clear a0 a1 a2 a3 a4 a5 a6 a7 a8 a9 a10 a11 a12 a13
 refine (toJob _ st m jr sy ra va ma rc vc mc (HR.out.below HB1.out) G1.out G3.out G4.out).mono ?_
 rintro e y2 ⟨s0,s4,s10,rfl,hs,⟨u1,u2,hu0,hu1,hu2,hbo,hio,hso⟩,hb⟩
 have HRN:Hid (Rg y2 y1.heap.size y2.heap.size m (some ⟨s0,0,none⟩) (some ⟨s4,0,none⟩) (some ⟨s10,0,none⟩)):=Rg.of_to hu0 hu1 hu2 hbo hio hso
 clear hs hu0 hu1 hu2 hbo hio hso
 have HB2:Hid (Below w.heap.size w y2):=HB1.out.trans (hb.mono HB1.out.size)
 have HA2:Hid (Jb y2 w.heap.size st m jr sy ra va ma rc vc mc):=HA1.out.below hb
 clear hb HA1
 have HS2:Hid (Mr y2 m (some ⟨s0,0,none⟩) (some ⟨s4,0,none⟩) (some ⟨s10,0,none⟩)):=HRN.out.wm.mr
 clear HRN
 have hw2:w.heap.size < y2.heap.size:=HA2.out.lt
 go_wp2_with fail
 refine (HSP.out _ _ _ _ _ _ _ HS2.out).mono ?_
 rintro e y3 ⟨wra,wva,wma,wrc,wvc,wmc,rfl,hrg,hb⟩
 have HRN:Hid (Rg y3 y2.heap.size y3.heap.size M wra wva wma):=hrg
 clear hrg
 obtain ⟨U2,hB⟩:∃ q,q=y2.heap.size:=⟨_,rfl⟩
 obtain ⟨U3,hU⟩:∃ q,q=y3.heap.size:=⟨_,rfl⟩
 rw [<- hB,<- hU] at HRN
 have hU2U3:U2<=U3:=by rw [hB,hU];exact hb.size
 have HU2:Hid (U2=y2.heap.size):=hB
 have HU3:Hid (U3=y3.heap.size):=hU
 clear hB hU
 have HB3:Hid (Below w.heap.size w y3):=HB2.out.trans (hb.mono HB2.out.size)
 have HA3:Hid (Jb y3 w.heap.size st m jr sy ra va ma rc vc mc):=HA2.out.below hb
 clear hb HA2
 have RW3:Hid (Rg y3 U2 U3 M wra wva wma):=HRN.out
 clear HRN
 clear HS2
 go_upto_region 6 with fail
 obtain ⟨y4,hy⟩:∃ y,y=y3.alloc (.cells #[.int .i64 s1,.slice wra M.row.length wrc,.int .i64 M.N,.string M.S,.int .i64 M.room,.slice wva M.vals.length wvc,.int .i64 M.ret,.bool M.over,.int .i64 M.steps,.int .i64 M.looks,.int .i64 M.hits,.slice wma M.memo.length wmc,.string jr,.int .i64 sy] 37):=⟨_,rfl⟩
 obtain ⟨qw,hq⟩:∃ q,q=y3.heap.size:=⟨_,rfl⟩
 rw [<- hy,<- hq]
 have HNB:Hid (Jb y4 qw s1 M jr sy wra wva wma wrc wvc wmc):=by rw [hy,hq];exact Jb.made _ _ _ _ _ _ _ _ _ _ _ _
 have hsz4:y4.heap.size=qw+1:=by rw [hy,hq];simp
 have HQqw:Hid (qw=y3.heap.size):=hq
 have hb:Below y3.heap.size y3 y4:=by rw [hy];exact (Below.refl _ _).alloc (Nat.le_refl _) _
 clear hy hq
 have HB4:Hid (Below w.heap.size w y4):=HB3.out.trans (hb.mono HB3.out.size)
 have HA4:Hid (Jb y4 w.heap.size st m jr sy ra va ma rc vc mc):=HA3.out.below hb
 have RW4:Hid (Rg y4 U2 U3 M wra wva wma):=RW3.out.below hb
 clear hb HA3 RW3
 have HQ4:Hid (Jb y4 qw s1 M jr sy wra wva wma wrc wvc wmc):=HNB.out
 clear HNB
 obtain ⟨a0,a1,a2,a3,a4,a5,a6,a7,a8,a9,a10,a11,a12,a13⟩:=HA4.out
 go_wp2_with fail
 clear a0 a1 a2 a3 a4 a5 a6 a7 a8 a9 a10 a11 a12 a13
 refine (toJob _ st m jr sy ra va ma rc vc mc (HR.out.below HB4.out) G1.out G3.out G4.out).mono ?_
 rintro e y5 ⟨x0,x4,x10,rfl,hs,⟨u1,u2,hu0,hu1,hu2,hbo,hio,hso⟩,hb⟩
 have HRN:Hid (Rg y5 y4.heap.size y5.heap.size m (some ⟨x0,0,none⟩) (some ⟨x4,0,none⟩) (some ⟨x10,0,none⟩)):=Rg.of_to hu0 hu1 hu2 hbo hio hso
 clear hs hu0 hu1 hu2 hbo hio hso
 obtain ⟨U4,hB⟩:∃ q,q=y4.heap.size:=⟨_,rfl⟩
 obtain ⟨U5,hU⟩:∃ q,q=y5.heap.size:=⟨_,rfl⟩
 rw [<- hB,<- hU] at HRN
 have hU4U5:U4<=U5:=by rw [hB,hU];exact hb.size
 have HU4:Hid (U4=y4.heap.size):=hB
 have HU5:Hid (U5=y5.heap.size):=hU
 clear hB hU
 have HB5:Hid (Below w.heap.size w y5):=HB4.out.trans (hb.mono HB4.out.size)
 have HA5:Hid (Jb y5 w.heap.size st m jr sy ra va ma rc vc mc):=HA4.out.below hb
 have HQ5:Hid (Jb y5 qw s1 M jr sy wra wva wma wrc wvc wmc):=HQ4.out.below hb
 have RW5:Hid (Rg y5 U2 U3 M wra wva wma):=RW4.out.below hb
 clear hb HA4 HQ4 RW4
 have RX5:Hid (Rg y5 U4 U5 m (some ⟨x0,0,none⟩) (some ⟨x4,0,none⟩) (some ⟨x10,0,none⟩)):=HRN.out
 clear HRN
 go_upto_region 7 with fail
 obtain ⟨y6,hy⟩:∃ y,y=y5.alloc (.cells #[.int .i64 st,.slice (some ⟨x0,0,none⟩) m.row.length m.row.length,.int .i64 m.N,.string m.S,.int .i64 m.room,.slice (some ⟨x4,0,none⟩) m.vals.length m.vals.length,.int .i64 m.ret,.bool m.over,.int .i64 m.steps,.int .i64 m.looks,.int .i64 m.hits,.slice (some ⟨x10,0,none⟩) m.memo.length m.memo.length,.string jr,.int .i64 sy] 37):=⟨_,rfl⟩
 obtain ⟨qx,hq⟩:∃ q,q=y5.heap.size:=⟨_,rfl⟩
 rw [<- hy,<- hq]
 have HNB:Hid (Jb y6 qx st m jr sy (some ⟨x0,0,none⟩) (some ⟨x4,0,none⟩) (some ⟨x10,0,none⟩) m.row.length m.vals.length m.memo.length):=by rw [hy,hq];exact Jb.made _ _ _ _ _ _ _ _ _ _ _ _
 have hsz6:y6.heap.size=qx+1:=by rw [hy,hq];simp
 have HQqx:Hid (qx=y5.heap.size):=hq
 have hb:Below y5.heap.size y5 y6:=by rw [hy];exact (Below.refl _ _).alloc (Nat.le_refl _) _
 clear hy hq
 have HB6:Hid (Below w.heap.size w y6):=HB5.out.trans (hb.mono HB5.out.size)
 have HA6:Hid (Jb y6 w.heap.size st m jr sy ra va ma rc vc mc):=HA5.out.below hb
 have HQ6:Hid (Jb y6 qw s1 M jr sy wra wva wma wrc wvc wmc):=HQ5.out.below hb
 have RW6:Hid (Rg y6 U2 U3 M wra wva wma):=RW5.out.below hb
 have RX6:Hid (Rg y6 U4 U5 m (some ⟨x0,0,none⟩) (some ⟨x4,0,none⟩) (some ⟨x10,0,none⟩)):=RX5.out.below hb
 clear hb HA5 HQ5 RW5 RX5
 have HX6:Hid (Jb y6 qx st m jr sy (some ⟨x0,0,none⟩) (some ⟨x4,0,none⟩) (some ⟨x10,0,none⟩) m.row.length m.vals.length m.memo.length):=HNB.out
 clear HNB
 as_aux_lemma =>
  obtain ⟨a0,a1,a2,a3,a4,a5,a6,a7,a8,a9,a10,a11,a12,a13⟩:=HX6.out
  go_wp2_with fail
  clear a0 a1 a2 a3 a4 a5 a6 a7 a8 a9 a10 a11 a12 a13
  refine (HIM.out _ _ _ _ _ _ _ (HTK.out.below HB6.out) RX6.out.wm.mr).mono ?_
  rintro e y7 ⟨gra,gva,gma,grc,gvc,gmc,rfl,hrg,hb⟩
  have HRN:Hid (Rg y7 y6.heap.size y7.heap.size M gra gva gma):=hrg
  clear hrg
  obtain ⟨U6,hB⟩:∃ q,q=y6.heap.size:=⟨_,rfl⟩
  obtain ⟨U7,hU⟩:∃ q,q=y7.heap.size:=⟨_,rfl⟩
  rw [<- hB,<- hU] at HRN
  have hU6U7:U6<=U7:=by rw [hB,hU];exact hb.size
  have HU6:Hid (U6=y6.heap.size):=hB
  have HU7:Hid (U7=y7.heap.size):=hU
  clear hB hU
  have HB7:Hid (Below w.heap.size w y7):=HB6.out.trans (hb.mono HB6.out.size)
  have HA7:Hid (Jb y7 w.heap.size st m jr sy ra va ma rc vc mc):=HA6.out.below hb
  have HQ7:Hid (Jb y7 qw s1 M jr sy wra wva wma wrc wvc wmc):=HQ6.out.below hb
  have HX7:Hid (Jb y7 qx st m jr sy (some ⟨x0,0,none⟩) (some ⟨x4,0,none⟩) (some ⟨x10,0,none⟩) m.row.length m.vals.length m.memo.length):=HX6.out.below hb
  have RW7:Hid (Rg y7 U2 U3 M wra wva wma):=RW6.out.below hb
  have RX7:Hid (Rg y7 U4 U5 m (some ⟨x0,0,none⟩) (some ⟨x4,0,none⟩) (some ⟨x10,0,none⟩)):=RX6.out.below hb
  clear hb HA6 HQ6 HX6 RW6 RX6
  have RG7:Hid (Rg y7 U6 U7 M gra gva gma):=HRN.out
  clear HRN
  go_upto_region 8 with fail
  obtain ⟨y8,hy⟩:∃ y,y=y7.alloc (.cells #[.int .i64 s1,.slice gra M.row.length grc,.int .i64 M.N,.string M.S,.int .i64 M.room,.slice gva M.vals.length gvc,.int .i64 M.ret,.bool M.over,.int .i64 M.steps,.int .i64 M.looks,.int .i64 M.hits,.slice gma M.memo.length gmc,.string jr,.int .i64 sy] 37):=⟨_,rfl⟩
  obtain ⟨qg,hq⟩:∃ q,q=y7.heap.size:=⟨_,rfl⟩
  rw [<- hy,<- hq]
  have HNB:Hid (Jb y8 qg s1 M jr sy gra gva gma grc gvc gmc):=by rw [hy,hq];exact Jb.made _ _ _ _ _ _ _ _ _ _ _ _
  have hsz8:y8.heap.size=qg+1:=by rw [hy,hq];simp
  have HQqg:Hid (qg=y7.heap.size):=hq
  have hb:Below y7.heap.size y7 y8:=by rw [hy];exact (Below.refl _ _).alloc (Nat.le_refl _) _
  clear hy hq
  have HB8:Hid (Below w.heap.size w y8):=HB7.out.trans (hb.mono HB7.out.size)
  have HA8:Hid (Jb y8 w.heap.size st m jr sy ra va ma rc vc mc):=HA7.out.below hb
  have HQ8:Hid (Jb y8 qw s1 M jr sy wra wva wma wrc wvc wmc):=HQ7.out.below hb
  have HX8:Hid (Jb y8 qx st m jr sy (some ⟨x0,0,none⟩) (some ⟨x4,0,none⟩) (some ⟨x10,0,none⟩) m.row.length m.vals.length m.memo.length):=HX7.out.below hb
  have RW8:Hid (Rg y8 U2 U3 M wra wva wma):=RW7.out.below hb
  have RX8:Hid (Rg y8 U4 U5 m (some ⟨x0,0,none⟩) (some ⟨x4,0,none⟩) (some ⟨x10,0,none⟩)):=RX7.out.below hb
  have RG8:Hid (Rg y8 U6 U7 M gra gva gma):=RG7.out.below hb
  clear hb HA7 HQ7 HX7 RW7 RX7 RG7
  have HG8:Hid (Jb y8 qg s1 M jr sy gra gva gma grc gvc gmc):=HNB.out
  clear HNB
  have hn1:w.heap.size < U2:=by rw [HU2.out];exact hw2
  have hn2:U3=qw:=by rw [HU3.out,HQqw.out]
  have hn3:U4=qw+1:=by rw [HU4.out];exact hsz4
  have hn4:U5=qx:=by rw [HU5.out,HQqx.out]
  have hn5:U6=qx+1:=by rw [HU6.out];exact hsz6
  have hn6:U7=qg:=by rw [HU7.out,HQqg.out]
  clear hws hw2 hsz4 hsz6 hsz8 HU2 HU3 HU4 HU5 HU6 HU7 HQqw HQqx HQqg
  as_aux_lemma =>
   obtain ⟨a0,a1,a2,a3,a4,a5,a6,a7,a8,a9,a10,a11,a12,a13⟩:=HG8.out
   obtain ⟨b0,b1,b2,b3,b4,b5,b6,b7,b8,b9,b10,b11,b12,b13⟩:=HQ8.out
   go_wp2_with fail
   clear a0 a1 a2 a3 a4 a5 a6 a7 a8 a9 a10 a11 a12 a13 b0 b1 b2 b3 b4 b5 b6 b7 b8 b9 b10 b11 b12 b13
   refine (eqJob _ s1 M jr sy _ _ _ _ _ _ _ _ _ _ _ _ RG8.out.wm.mr RW8.out.wm.mr).mono ?_
   rintro e y9 ⟨rfl,hb⟩
   have HB9:Hid (Below w.heap.size w y9):=HB8.out.trans (hb.mono HB8.out.size)
   have HA9:Hid (Jb y9 w.heap.size st m jr sy ra va ma rc vc mc):=HA8.out.below hb
   have HQ9:Hid (Jb y9 qw s1 M jr sy wra wva wma wrc wvc wmc):=HQ8.out.below hb
   have HX9:Hid (Jb y9 qx st m jr sy (some ⟨x0,0,none⟩) (some ⟨x4,0,none⟩) (some ⟨x10,0,none⟩) m.row.length m.vals.length m.memo.length):=HX8.out.below hb
   have HG9:Hid (Jb y9 qg s1 M jr sy gra gva gma grc gvc gmc):=HG8.out.below hb
   have RW9:Hid (Rg y9 U2 U3 M wra wva wma):=RW8.out.below hb
   have RX9:Hid (Rg y9 U4 U5 m (some ⟨x0,0,none⟩) (some ⟨x4,0,none⟩) (some ⟨x10,0,none⟩)):=RX8.out.below hb
   have RG9:Hid (Rg y9 U6 U7 M gra gva gma):=RG8.out.below hb
   clear hb HA8 HQ8 HX8 HG8 RW8 RX8 RG8
   as_aux_lemma =>
    obtain ⟨c0,c1,c2,c3,c4,c5,c6,c7,c8,c9,c10,c11,c12,c13⟩:=HX9.out
    obtain ⟨a0,a1,a2,a3,a4,a5,a6,a7,a8,a9,a10,a11,a12,a13⟩:=HA9.out
    go_wp2_with fail
    clear c0 a0 c1 a1 c2 a2 c3 a3 c4 a4 c5 a5 c6 a6 c7 a7 c8 a8 c9 a9 c10 a10 c11 a11 c12 a12 c13 a13
    have dd:Below y9.heap.size y9 y9.drew:=(Below.refl _ _).drew
    have HBD:Hid (Below w.heap.size w y9.drew):=HB9.out.drew
    have LX:=HX9.out.below dd
    have LA:=HA9.out.below dd
    have SX0:Hid (Mr y9.drew m (some ⟨x0,0,none⟩) (some ⟨x4,0,none⟩) (some ⟨x10,0,none⟩)):=RX9.out.wm.mr.below dd
    clear dd
    go_region_held3 (fun w'=>w'.cell? ⟨qx,0,none⟩=some (.int .i64 st)/\w'.cell? ⟨qx,1,none⟩=some (.slice (some ⟨x0,0,none⟩) m.row.length m.row.length)/\w'.cell? ⟨qx,2,none⟩=some (.int .i64 m.N)/\w'.cell? ⟨qx,3,none⟩=some (.string m.S)/\w'.cell? ⟨qx,4,none⟩=some (.int .i64 m.room)/\w'.cell? ⟨qx,5,none⟩=some (.slice (some ⟨x4,0,none⟩) m.vals.length m.vals.length)/\w'.cell? ⟨qx,6,none⟩=some (.int .i64 m.ret)/\w'.cell? ⟨qx,7,none⟩=some (.bool m.over)/\w'.cell? ⟨qx,8,none⟩=some (.int .i64 m.steps)/\w'.cell? ⟨qx,9,none⟩=some (.int .i64 m.looks)/\w'.cell? ⟨qx,10,none⟩=some (.int .i64 m.hits)/\w'.cell? ⟨qx,11,none⟩=some (.slice (some ⟨x10,0,none⟩) m.memo.length m.memo.length)/\w'.cell? ⟨qx,12,none⟩=some (.string jr)/\w'.cell? ⟨qx,13,none⟩=some (.int .i64 sy)/\w'.cell? ⟨w.heap.size,0,none⟩=some (.int .i64 st)/\w'.cell? ⟨w.heap.size,1,none⟩=some (.slice ra m.row.length rc)/\w'.cell? ⟨w.heap.size,2,none⟩=some (.int .i64 m.N)/\w'.cell? ⟨w.heap.size,3,none⟩=some (.string m.S)/\w'.cell? ⟨w.heap.size,4,none⟩=some (.int .i64 m.room)/\w'.cell? ⟨w.heap.size,5,none⟩=some (.slice va m.vals.length vc)/\w'.cell? ⟨w.heap.size,6,none⟩=some (.int .i64 m.ret)/\w'.cell? ⟨w.heap.size,7,none⟩=some (.bool m.over)/\w'.cell? ⟨w.heap.size,8,none⟩=some (.int .i64 m.steps)/\w'.cell? ⟨w.heap.size,9,none⟩=some (.int .i64 m.looks)/\w'.cell? ⟨w.heap.size,10,none⟩=some (.int .i64 m.hits)/\w'.cell? ⟨w.heap.size,11,none⟩=some (.slice ma m.memo.length mc)/\w'.cell? ⟨w.heap.size,12,none⟩=some (.string jr)/\w'.cell? ⟨w.heap.size,13,none⟩=some (.int .i64 sy)) ((first|(with_reducible exact ⟨LX.c0,LX.c1,LX.c2,LX.c3,LX.c4,LX.c5,LX.c6,LX.c7,LX.c8,LX.c9,LX.c10,LX.c11,LX.c12,LX.c13,LA.c0,LA.c1,LA.c2,LA.c3,LA.c4,LA.c5,LA.c6,LA.c7,LA.c8,LA.c9,LA.c10,LA.c11,LA.c12,LA.c13⟩)|(with_reducible exact ⟨KX.c0,KX.c1,KX.c2,KX.c3,KX.c4,KX.c5,KX.c6,KX.c7,KX.c8,KX.c9,KX.c10,KX.c11,KX.c12,KX.c13,KA.c0,KA.c1,KA.c2,KA.c3,KA.c4,KA.c5,KA.c6,KA.c7,KA.c8,KA.c9,KA.c10,KA.c11,KA.c12,KA.c13⟩)|(with_reducible exact ⟨EX.c0,EX.c1,EX.c2,EX.c3,EX.c4,EX.c5,EX.c6,EX.c7,EX.c8,EX.c9,EX.c10,EX.c11,EX.c12,EX.c13,EA.c0,EA.c1,EA.c2,EA.c3,EA.c4,EA.c5,EA.c6,EA.c7,EA.c8,EA.c9,EA.c10,EA.c11,EA.c12,EA.c13⟩))) ((first|(go_at_call 6;(with_reducible refine (toJob _ st m jr sy ra va ma rc vc mc (HR.out.below HBD.out) G1.out G3.out G4.out).mono ?_);rintro e xT ⟨t0,t4,t10,rfl,hsT,_,hbT⟩;have KX:=LX.below hbT;have KA:=LA.below hbT;have SX:Hid (Mr xT m (some ⟨x0,0,none⟩) (some ⟨x4,0,none⟩) (some ⟨x10,0,none⟩)):=SX0.out.below hbT;have hWT:Hid (Mr xT m (some ⟨t0,0,none⟩) (some ⟨t4,0,none⟩) (some ⟨t10,0,none⟩)):=hsT;have HBT:Hid (Below y9.drew.heap.size y9.drew xT):=hbT;clear hsT hbT)|(go_at_call 8;(with_reducible refine (eqJob _ st m jr sy _ _ _ _ _ _ _ _ _ _ _ _ SX.out hWT.out).mono ?_);rintro e xE ⟨rfl,hbE⟩;have EX:=KX.below hbE;have EA:=KA.below hbE;have HBE:Hid (Below xT.heap.size xT xE):=hbE;clear hbE)))
    have hb:Below y9.heap.size y9 xE:=((Below.refl _ _).drew.trans HBT.out).trans (HBE.out.mono HBT.out.size)
    clear KX KA SX hWT EX EA LX LA HBD SX0 HBT HBE
    generalize xE=y10 at *
    have HB10:Hid (Below w.heap.size w y10):=HB9.out.trans (hb.mono HB9.out.size)
    have HA10:Hid (Jb y10 w.heap.size st m jr sy ra va ma rc vc mc):=HA9.out.below hb
    have HQ10:Hid (Jb y10 qw s1 M jr sy wra wva wma wrc wvc wmc):=HQ9.out.below hb
    have HX10:Hid (Jb y10 qx st m jr sy (some ⟨x0,0,none⟩) (some ⟨x4,0,none⟩) (some ⟨x10,0,none⟩) m.row.length m.vals.length m.memo.length):=HX9.out.below hb
    have HG10:Hid (Jb y10 qg s1 M jr sy gra gva gma grc gvc gmc):=HG9.out.below hb
    have RW10:Hid (Rg y10 U2 U3 M wra wva wma):=RW9.out.below hb
    have RX10:Hid (Rg y10 U4 U5 m (some ⟨x0,0,none⟩) (some ⟨x4,0,none⟩) (some ⟨x10,0,none⟩)):=RX9.out.below hb
    have RG10:Hid (Rg y10 U6 U7 M gra gva gma):=RG9.out.below hb
    clear hb HA9 HQ9 HX9 HG9 RW9 RX9 RG9
    as_aux_lemma =>
     obtain ⟨a0,a1,a2,a3,a4,a5,a6,a7,a8,a9,a10,a11,a12,a13⟩:=HX10.out
     go_wp2_with fail
     clear a0 a1 a2 a3 a4 a5 a6 a7 a8 a9 a10 a11 a12 a13
     refine (markJob _ st m jr sy _ _ _ _ _ _ _ RX10.out.wm RX10.out.ax G1.out G3.out G4.out).mono ?_
     rintro e y11 ⟨rfl,_,hk⟩
     have hin:∀ b,anyAt m.row.length m.vals.length m.memo.length (some ⟨x0,0,none⟩) (some ⟨x4,0,none⟩) (some ⟨x10,0,none⟩) b->U4<=b/\b < U5:=fun b hb=>⟨(RX10.out.wm.ge hb).1,RX10.out.lt b hb⟩
     have HB11:Hid (Below w.heap.size w y11):=HB10.out.trans (hk.below (fun b hb=>by have:=hin b hb;omega) HB10.out.size)
     have HA11:Hid (Jb y11 w.heap.size st m jr sy ra va ma rc vc mc):=HA10.out.kept hk (fun hb=>by have:=hin _ hb;omega)
     have HQ11:Hid (Jb y11 qw s1 M jr sy wra wva wma wrc wvc wmc):=HQ10.out.kept hk (fun hb=>by have:=hin _ hb;omega)
     have HX11:Hid (Jb y11 qx st m jr sy (some ⟨x0,0,none⟩) (some ⟨x4,0,none⟩) (some ⟨x10,0,none⟩) m.row.length m.vals.length m.memo.length):=HX10.out.kept hk (fun hb=>by have:=hin _ hb;omega)
     have HG11:Hid (Jb y11 qg s1 M jr sy gra gva gma grc gvc gmc):=HG10.out.kept hk (fun hb=>by have:=hin _ hb;omega)
     have RW11:Hid (Rg y11 U2 U3 M wra wva wma):=RW10.out.kept hk (fun b h1 h2 h3=>by have:=hin b h3;omega)
     have RG11:Hid (Rg y11 U6 U7 M gra gva gma):=RG10.out.kept hk (fun b h1 h2 h3=>by have:=hin b h3;omega)
     clear hin
     clear hk HA10 HQ10 HX10 HG10 RW10 RX10 RG10
     have hq1:¬ (lastM m:Int) < 0:=by omega
     obtain ⟨a0,a1,a2,a3,a4,a5,a6,a7,a8,a9,a10,a11,a12,a13⟩:=HG11.out
     obtain ⟨b0,b1,b2,b3,b4,b5,b6,b7,b8,b9,b10,b11,b12,b13⟩:=HQ11.out
     go_wp2_with fail
     clear a0 a1 a2 a3 a4 a5 a6 a7 a8 a9 a10 a11 a12 a13 b0 b1 b2 b3 b4 b5 b6 b7 b8 b9 b10 b11 b12 b13
     refine (eqJob _ s1 M jr sy _ _ _ _ _ _ _ _ _ _ _ _ RG11.out.wm.mr RW11.out.wm.mr).mono ?_
     rintro e y12 ⟨rfl,hb⟩
     have HB12:Hid (Below w.heap.size w y12):=HB11.out.trans (hb.mono HB11.out.size)
     have HA12:Hid (Jb y12 w.heap.size st m jr sy ra va ma rc vc mc):=HA11.out.below hb
     have HQ12:Hid (Jb y12 qw s1 M jr sy wra wva wma wrc wvc wmc):=HQ11.out.below hb
     have HX12:Hid (Jb y12 qx st m jr sy (some ⟨x0,0,none⟩) (some ⟨x4,0,none⟩) (some ⟨x10,0,none⟩) m.row.length m.vals.length m.memo.length):=HX11.out.below hb
     have HG12:Hid (Jb y12 qg s1 M jr sy gra gva gma grc gvc gmc):=HG11.out.below hb
     have RW12:Hid (Rg y12 U2 U3 M wra wva wma):=RW11.out.below hb
     have RG12:Hid (Rg y12 U6 U7 M gra gva gma):=RG11.out.below hb
     clear hb HA11 HQ11 HX11 HG11 RW11 RG11
     as_aux_lemma =>
      obtain ⟨a0,a1,a2,a3,a4,a5,a6,a7,a8,a9,a10,a11,a12,a13⟩:=HG12.out
      go_wp2_with fail
      clear a0 a1 a2 a3 a4 a5 a6 a7 a8 a9 a10 a11 a12 a13
      refine (markJob _ s1 M jr sy _ _ _ _ _ _ _ RG12.out.wm RG12.out.ax HSH.out.1 HSH.out.2.1 HSH.out.2.2).mono ?_
      rintro e y13 ⟨rfl,hwm,hk⟩
      have HMW:Hid (Wm y13 U6 (Nd6.markB M.row.length 1) (Nd0.marks M.vals.length ((1+M.row.length:Nat):Int)) (Mk2.markS M.memo.length (1+M.row.length+M.vals.length)) gra gva gma):=hwm
      clear hwm
      have hin:∀ b,anyAt M.row.length M.vals.length M.memo.length gra gva gma b->U6<=b/\b < U7:=fun b hb=>⟨(RG12.out.wm.ge hb).1,RG12.out.lt b hb⟩
      have HB13:Hid (Below w.heap.size w y13):=HB12.out.trans (hk.below (fun b hb=>by have:=hin b hb;omega) HB12.out.size)
      have HA13:Hid (Jb y13 w.heap.size st m jr sy ra va ma rc vc mc):=HA12.out.kept hk (fun hb=>by have:=hin _ hb;omega)
      have HQ13:Hid (Jb y13 qw s1 M jr sy wra wva wma wrc wvc wmc):=HQ12.out.kept hk (fun hb=>by have:=hin _ hb;omega)
      have HX13:Hid (Jb y13 qx st m jr sy (some ⟨x0,0,none⟩) (some ⟨x4,0,none⟩) (some ⟨x10,0,none⟩) m.row.length m.vals.length m.memo.length):=HX12.out.kept hk (fun hb=>by have:=hin _ hb;omega)
      have HG13:Hid (Jb y13 qg s1 M jr sy gra gva gma grc gvc gmc):=HG12.out.kept hk (fun hb=>by have:=hin _ hb;omega)
      have RW13:Hid (Rg y13 U2 U3 M wra wva wma):=RW12.out.kept hk (fun b h1 h2 h3=>by have:=hin b h3;omega)
      clear hin
      clear hk HA12 HQ12 HX12 HG12 RW12 RG12
      have MK13:Hid (Wm y13 U6 (Nd6.markB M.row.length 1) (Nd0.marks M.vals.length ((1+M.row.length:Nat):Int)) (Mk2.markS M.memo.length (1+M.row.length+M.vals.length)) gra gva gma):=HMW.out
      clear HMW
      have hq2:¬ (lastM M:Int) < 0:=by omega
      have hq3:((lastM M:Int) != (lastM M:Int))=false:=by simp
      obtain ⟨a0,a1,a2,a3,a4,a5,a6,a7,a8,a9,a10,a11,a12,a13⟩:=HG13.out
      go_wp2_with fail
      clear a0 a1 a2 a3 a4 a5 a6 a7 a8 a9 a10 a11 a12 a13
      refine (heldJob _ s1 M jr sy _ _ _ _ _ _ (Nd6.WBools.plain MK13.out.row) MK13.out.vals.ints MK13.out.memo.plain HSH.out.1 HSH.out.2.1 HSH.out.2.2).mono ?_
      rintro e y14 ⟨rfl,hb⟩
      have HB14:Hid (Below w.heap.size w y14):=HB13.out.trans (hb.mono HB13.out.size)
      have HA14:Hid (Jb y14 w.heap.size st m jr sy ra va ma rc vc mc):=HA13.out.below hb
      have HQ14:Hid (Jb y14 qw s1 M jr sy wra wva wma wrc wvc wmc):=HQ13.out.below hb
      have HX14:Hid (Jb y14 qx st m jr sy (some ⟨x0,0,none⟩) (some ⟨x4,0,none⟩) (some ⟨x10,0,none⟩) m.row.length m.vals.length m.memo.length):=HX13.out.below hb
      have HG14:Hid (Jb y14 qg s1 M jr sy gra gva gma grc gvc gmc):=HG13.out.below hb
      have RW14:Hid (Rg y14 U2 U3 M wra wva wma):=RW13.out.below hb
      have MK14:Hid (Wm y14 U6 (Nd6.markB M.row.length 1) (Nd0.marks M.vals.length ((1+M.row.length:Nat):Int)) (Mk2.markS M.memo.length (1+M.row.length+M.vals.length)) gra gva gma):=MK13.out.below hb
      clear hb HA13 HQ13 HX13 HG13 RW13 MK13
      as_aux_lemma =>
       obtain ⟨a0,a1,a2,a3,a4,a5,a6,a7,a8,a9,a10,a11,a12,a13⟩:=HA14.out
       go_wp2_with fail
       clear a0 a1 a2 a3 a4 a5 a6 a7 a8 a9 a10 a11 a12 a13
       refine (toJob _ st m jr sy ra va ma rc vc mc (HR.out.below HB14.out) G1.out G3.out G4.out).mono ?_
       rintro e y15 ⟨h0,h4,h10,rfl,hs,⟨u1,u2,hu0,hu1,hu2,hbo,hio,hso⟩,hb⟩
       have HRN:Hid (Rg y15 y14.heap.size y15.heap.size m (some ⟨h0,0,none⟩) (some ⟨h4,0,none⟩) (some ⟨h10,0,none⟩)):=Rg.of_to hu0 hu1 hu2 hbo hio hso
       clear hs hu0 hu1 hu2 hbo hio hso
       have HB15:Hid (Below w.heap.size w y15):=HB14.out.trans (hb.mono HB14.out.size)
       have HA15:Hid (Jb y15 w.heap.size st m jr sy ra va ma rc vc mc):=HA14.out.below hb
       have HQ15:Hid (Jb y15 qw s1 M jr sy wra wva wma wrc wvc wmc):=HQ14.out.below hb
       have HX15:Hid (Jb y15 qx st m jr sy (some ⟨x0,0,none⟩) (some ⟨x4,0,none⟩) (some ⟨x10,0,none⟩) m.row.length m.vals.length m.memo.length):=HX14.out.below hb
       have HG15:Hid (Jb y15 qg s1 M jr sy gra gva gma grc gvc gmc):=HG14.out.below hb
       have RW15:Hid (Rg y15 U2 U3 M wra wva wma):=RW14.out.below hb
       have MK15:Hid (Wm y15 U6 (Nd6.markB M.row.length 1) (Nd0.marks M.vals.length ((1+M.row.length:Nat):Int)) (Mk2.markS M.memo.length (1+M.row.length+M.vals.length)) gra gva gma):=MK14.out.below hb
       clear hb HA14 HQ14 HX14 HG14 RW14 MK14
       have HS3:Hid (Mr y15 m (some ⟨h0,0,none⟩) (some ⟨h4,0,none⟩) (some ⟨h10,0,none⟩)):=HRN.out.wm.mr
       clear HRN
       go_wp2_with fail
       refine (HIM.out _ _ _ _ _ _ _ (HTK.out.below HB15.out) HS3.out).mono ?_
       rintro e y16 ⟨hra,hva,hma,hrc,hvc,hmc,rfl,hrg,hb⟩
       have HRN:Hid (Rg y16 y15.heap.size y16.heap.size M hra hva hma):=hrg
       clear hrg
       obtain ⟨U8,hB⟩:∃ q,q=y15.heap.size:=⟨_,rfl⟩
       obtain ⟨U9,hU⟩:∃ q,q=y16.heap.size:=⟨_,rfl⟩
       rw [<- hB,<- hU] at HRN
       have hU8U9:U8<=U9:=by rw [hB,hU];exact hb.size
       have HU8:Hid (U8=y15.heap.size):=hB
       have HU9:Hid (U9=y16.heap.size):=hU
       clear hB hU
       have HB16:Hid (Below w.heap.size w y16):=HB15.out.trans (hb.mono HB15.out.size)
       have HA16:Hid (Jb y16 w.heap.size st m jr sy ra va ma rc vc mc):=HA15.out.below hb
       have HQ16:Hid (Jb y16 qw s1 M jr sy wra wva wma wrc wvc wmc):=HQ15.out.below hb
       have HX16:Hid (Jb y16 qx st m jr sy (some ⟨x0,0,none⟩) (some ⟨x4,0,none⟩) (some ⟨x10,0,none⟩) m.row.length m.vals.length m.memo.length):=HX15.out.below hb
       have HG16:Hid (Jb y16 qg s1 M jr sy gra gva gma grc gvc gmc):=HG15.out.below hb
       have RW16:Hid (Rg y16 U2 U3 M wra wva wma):=RW15.out.below hb
       have MK16:Hid (Wm y16 U6 (Nd6.markB M.row.length 1) (Nd0.marks M.vals.length ((1+M.row.length:Nat):Int)) (Mk2.markS M.memo.length (1+M.row.length+M.vals.length)) gra gva gma):=MK15.out.below hb
       clear hb HA15 HQ15 HX15 HG15 RW15 MK15
       have RH16:Hid (Rg y16 U8 U9 M hra hva hma):=HRN.out
       clear HRN
       clear HS3
       go_upto_region 25 with fail
       obtain ⟨y17,hy⟩:∃ y,y=y16.alloc (.cells #[.int .i64 s1,.slice hra M.row.length hrc,.int .i64 M.N,.string M.S,.int .i64 M.room,.slice hva M.vals.length hvc,.int .i64 M.ret,.bool M.over,.int .i64 M.steps,.int .i64 M.looks,.int .i64 M.hits,.slice hma M.memo.length hmc,.string jr,.int .i64 sy] 37):=⟨_,rfl⟩
       obtain ⟨qh,hq⟩:∃ q,q=y16.heap.size:=⟨_,rfl⟩
       rw [<- hy,<- hq]
       have HNB:Hid (Jb y17 qh s1 M jr sy hra hva hma hrc hvc hmc):=by rw [hy,hq];exact Jb.made _ _ _ _ _ _ _ _ _ _ _ _
       have hsz17:y17.heap.size=qh+1:=by rw [hy,hq];simp
       have HQqh:Hid (qh=y16.heap.size):=hq
       have hb:Below y16.heap.size y16 y17:=by rw [hy];exact (Below.refl _ _).alloc (Nat.le_refl _) _
       clear hy hq
       have HB17:Hid (Below w.heap.size w y17):=HB16.out.trans (hb.mono HB16.out.size)
       have HA17:Hid (Jb y17 w.heap.size st m jr sy ra va ma rc vc mc):=HA16.out.below hb
       have HQ17:Hid (Jb y17 qw s1 M jr sy wra wva wma wrc wvc wmc):=HQ16.out.below hb
       have HX17:Hid (Jb y17 qx st m jr sy (some ⟨x0,0,none⟩) (some ⟨x4,0,none⟩) (some ⟨x10,0,none⟩) m.row.length m.vals.length m.memo.length):=HX16.out.below hb
       have HG17:Hid (Jb y17 qg s1 M jr sy gra gva gma grc gvc gmc):=HG16.out.below hb
       have RW17:Hid (Rg y17 U2 U3 M wra wva wma):=RW16.out.below hb
       have RH17:Hid (Rg y17 U8 U9 M hra hva hma):=RH16.out.below hb
       have MK17:Hid (Wm y17 U6 (Nd6.markB M.row.length 1) (Nd0.marks M.vals.length ((1+M.row.length:Nat):Int)) (Mk2.markS M.memo.length (1+M.row.length+M.vals.length)) gra gva gma):=MK16.out.below hb
       clear hb HA16 HQ16 HX16 HG16 RW16 RH16 MK16
       have HH17:Hid (Jb y17 qh s1 M jr sy hra hva hma hrc hvc hmc):=HNB.out
       clear HNB
       as_aux_lemma =>
        obtain ⟨a0,a1,a2,a3,a4,a5,a6,a7,a8,a9,a10,a11,a12,a13⟩:=HH17.out
        obtain ⟨b0,b1,b2,b3,b4,b5,b6,b7,b8,b9,b10,b11,b12,b13⟩:=HQ17.out
        go_wp2_with fail
        clear a0 a1 a2 a3 a4 a5 a6 a7 a8 a9 a10 a11 a12 a13 b0 b1 b2 b3 b4 b5 b6 b7 b8 b9 b10 b11 b12 b13
        refine (eqJob _ s1 M jr sy _ _ _ _ _ _ _ _ _ _ _ _ RH17.out.wm.mr RW17.out.wm.mr).mono ?_
        rintro e y18 ⟨rfl,hb⟩
        have HB18:Hid (Below w.heap.size w y18):=HB17.out.trans (hb.mono HB17.out.size)
        have HA18:Hid (Jb y18 w.heap.size st m jr sy ra va ma rc vc mc):=HA17.out.below hb
        have HQ18:Hid (Jb y18 qw s1 M jr sy wra wva wma wrc wvc wmc):=HQ17.out.below hb
        have HX18:Hid (Jb y18 qx st m jr sy (some ⟨x0,0,none⟩) (some ⟨x4,0,none⟩) (some ⟨x10,0,none⟩) m.row.length m.vals.length m.memo.length):=HX17.out.below hb
        have HG18:Hid (Jb y18 qg s1 M jr sy gra gva gma grc gvc gmc):=HG17.out.below hb
        have HH18:Hid (Jb y18 qh s1 M jr sy hra hva hma hrc hvc hmc):=HH17.out.below hb
        have RW18:Hid (Rg y18 U2 U3 M wra wva wma):=RW17.out.below hb
        have RH18:Hid (Rg y18 U8 U9 M hra hva hma):=RH17.out.below hb
        have MK18:Hid (Wm y18 U6 (Nd6.markB M.row.length 1) (Nd0.marks M.vals.length ((1+M.row.length:Nat):Int)) (Mk2.markS M.memo.length (1+M.row.length+M.vals.length)) gra gva gma):=MK17.out.below hb
        clear hb HA17 HQ17 HX17 HG17 HH17 RW17 RH17 MK17
        obtain ⟨a0,a1,a2,a3,a4,a5,a6,a7,a8,a9,a10,a11,a12,a13⟩:=HG18.out
        go_wp2_with fail
        clear a0 a1 a2 a3 a4 a5 a6 a7 a8 a9 a10 a11 a12 a13
        refine (heldJob _ s1 M jr sy _ _ _ _ _ _ (Nd6.WBools.plain MK18.out.row) MK18.out.vals.ints MK18.out.memo.plain HSH.out.1 HSH.out.2.1 HSH.out.2.2).mono ?_
        rintro e y19 ⟨rfl,hb⟩
        have HB19:Hid (Below w.heap.size w y19):=HB18.out.trans (hb.mono HB18.out.size)
        have HA19:Hid (Jb y19 w.heap.size st m jr sy ra va ma rc vc mc):=HA18.out.below hb
        have HQ19:Hid (Jb y19 qw s1 M jr sy wra wva wma wrc wvc wmc):=HQ18.out.below hb
        have HX19:Hid (Jb y19 qx st m jr sy (some ⟨x0,0,none⟩) (some ⟨x4,0,none⟩) (some ⟨x10,0,none⟩) m.row.length m.vals.length m.memo.length):=HX18.out.below hb
        have HG19:Hid (Jb y19 qg s1 M jr sy gra gva gma grc gvc gmc):=HG18.out.below hb
        have HH19:Hid (Jb y19 qh s1 M jr sy hra hva hma hrc hvc hmc):=HH18.out.below hb
        have RW19:Hid (Rg y19 U2 U3 M wra wva wma):=RW18.out.below hb
        have RH19:Hid (Rg y19 U8 U9 M hra hva hma):=RH18.out.below hb
        have MK19:Hid (Wm y19 U6 (Nd6.markB M.row.length 1) (Nd0.marks M.vals.length ((1+M.row.length:Nat):Int)) (Mk2.markS M.memo.length (1+M.row.length+M.vals.length)) gra gva gma):=MK18.out.below hb
        clear hb HA18 HQ18 HX18 HG18 HH18 RW18 RH18 MK18
        go_wp2
        go_ret
        exact ⟨rfl,HB19.out⟩
end Lx72
end Go.Proofs.YtladjpombohpaaaGreatDoor
