import Derived.Test.YtladjpombohpaaaGreatDoorPkJE8
import Derived.Test.YtladjpombohpaaaGreatDoorJb2p
namespace Go.Proofs.YtladjpombohpaaaGreatDoor
set_option maxRecDepth 100000
set_option maxHeartbeats 8000000
set_option linter.unusedVariables false
namespace Jb3
open Go.RowKit
open Nd0 (Kept)
open Mm0 Mm2 Mx0 Mi4 Jb0 Jb2 Jb2p
open Tc2 (ret_bool sInT sInF)
/-- A right job. -/
noncomputable def jokB (st:Int) (m:Mc) (jr:ByteArray) (sy:Int):Bool :=
 if (jr.size:Int)<=2000000/\0<=sy/\sy<=(jr.size:Int) then
  (if st=0 then bareB m else if st=1 then mokB m && !m.over else if st=2 then mokB m&&m.over else false)
 else false
/-- What JobVerdict tells. -/
noncomputable def jverV (st:Int) (m:Mc) (jr:ByteArray) (sy:Int):Int × Bool:=if jokB st m jr sy=true/\st=2 then verV m else (0,false)
theorem ret_pair {a b:Int} {c d:Bool} (h:a=b) (k:c=d):Ending.returned (.tuple #[.int .i64 a,.bool c])=.returned (.tuple #[.int .i64 b,.bool d]):=by rw [h,k]
theorem iJobOk (w:World) (st:Int) (m:Mc) (jr:ByteArray) (sy:Int) (ra va ma:Option Addr) (rc vc mc:Nat) (hR:Mr w m ra va ma) (hS:m.S.size<=1048576) (hk:∀ x∈m.memo,x.k.size<=maxLen) (hJ:jr.size<=1048576) :
 Calls Tryz.prog 68 #[jval st m jr sy ra va ma rc vc mc] w fun e w'=>e=.returned (.bool (jokB st m jr sy))/\Below w.heap.size w w':=by
 obtain ⟨W0,hW0⟩:∃ W0,W0=w.alloc (.cells #[.int .i64 st,.slice ra m.row.length rc,.int .i64 m.N,.string m.S,.int .i64 m.room,.slice va m.vals.length vc,.int .i64 m.ret,.bool m.over,.int .i64 m.steps,.int .i64 m.looks,.int .i64 m.hits,.slice ma m.memo.length mc,.string jr,.int .i64 sy] 37):=⟨_,rfl⟩
 have HE0:Hid (w.alloc (.cells #[.int .i64 st,.slice ra m.row.length rc,.int .i64 m.N,.string m.S,.int .i64 m.room,.slice va m.vals.length vc,.int .i64 m.ret,.bool m.over,.int .i64 m.steps,.int .i64 m.looks,.int .i64 m.hits,.slice ma m.memo.length mc,.string jr,.int .i64 sy] 37)=W0):=hW0.symm
 have HA:Hid (Jb W0 w.heap.size st m jr sy ra va ma rc vc mc):=by rw [hW0];exact Jb.made _ _ _ _ _ _ _ _ _ _ _ _
 have HB0:Hid (Below w.heap.size w W0):=by rw [hW0];exact (Below.refl _ _).alloc (Nat.le_refl _) _
 clear hW0
 have HM:Hid (∀ W,Below w.heap.size w W->Calls Tryz.prog 111 #[mval m ra va ma rc vc mc] W fun e w'=>e=.returned (.bool (mokB m))/\Below W.heap.size W w'):=fun W hb=>iMachineOk m ra va ma rc vc mc W hS (hR.below hb) hk
 have HN:Hid (∀ W,Below w.heap.size w W->Calls Tryz.prog 110 #[mval m ra va ma rc vc mc] W fun e w'=>e=.returned (.bool (bareB m))/\Below W.heap.size W w'):=fun W hb=>iBare m ra va ma rc vc mc W (hR.below hb)
 have h1:(jr.size:Int)<=2000000:=by omega
 have hg:¬ (jr.size:Int) > 2000000:=by omega
 clear hR hS hk hJ
 by_cases h2:sy < 0
 ·have HF:Hid (jokB st m jr sy=false):=if_neg (fun h=>by omega)
  go_enter Tryz.func68,Tryz.ntmps68
  go_upto_region 1 with fail
  rw [HE0.out]
  clear HE0
  obtain ⟨m0,m1,m2,m3,m4,m5,m6,m7,m8,m9,m10,m11,m12,m13⟩:=HA.out
  go_wp2
  go_ret
  exact ⟨ret_bool HF.out.symm,HB0.out⟩
 by_cases h3:sy > (jr.size:Int)
 ·have HF:Hid (jokB st m jr sy=false):=if_neg (fun h=>by omega)
  go_enter Tryz.func68,Tryz.ntmps68
  go_upto_region 1 with fail
  rw [HE0.out]
  clear HE0
  obtain ⟨m0,m1,m2,m3,m4,m5,m6,m7,m8,m9,m10,m11,m12,m13⟩:=HA.out
  go_wp2
  go_ret
  exact ⟨ret_bool HF.out.symm,HB0.out⟩
 have HJ:Hid (jokB st m jr sy=(if st=0 then bareB m else if st=1 then mokB m && !m.over else if st=2 then mokB m&&m.over else false)):=if_pos ⟨h1,by omega,by omega⟩
 by_cases e0:st=0
 ·have HF:Hid (jokB st m jr sy=bareB m):=HJ.out.trans (if_pos e0)
  have hb0:(st==0)=true:=beq_iff_eq.2 e0
  clear e0
  go_enter Tryz.func68,Tryz.ntmps68
  go_upto_region 1 with fail
  rw [HE0.out]
  clear HE0
  obtain ⟨m0,m1,m2,m3,m4,m5,m6,m7,m8,m9,m10,m11,m12,m13⟩:=HA.out
  go_wp2_with fail
  refine (HN.out _ HB0.out).mono ?_
  rintro e w1 ⟨rfl,hb1⟩
  have HB1:Hid (Below w.heap.size w w1):=HB0.out.trans (hb1.mono HB0.out.size)
  clear hb1
  go_wp2
  go_ret
  exact ⟨ret_bool HF.out.symm,HB1.out⟩
 have hb0:(st==0)=false:=beq_eq_false_iff_ne.2 e0
 by_cases e1:st=1
 ·have HF0:Hid (jokB st m jr sy=(mokB m && !m.over)):=HJ.out.trans <| (if_neg e0).trans <| if_pos e1
  have hb1:(st==1)=true:=beq_iff_eq.2 e1
  clear e0 e1
  cases hm:mokB m
  ·have HF:Hid (jokB st m jr sy=false):=HF0.out.trans (by rw [hm];rfl)
   rw [hm] at HM
   clear hm
   go_enter Tryz.func68,Tryz.ntmps68
   go_upto_region 1 with fail
   rw [HE0.out]
   clear HE0
   obtain ⟨m0,m1,m2,m3,m4,m5,m6,m7,m8,m9,m10,m11,m12,m13⟩:=HA.out
   go_wp2_with fail
   refine (HM.out _ HB0.out).mono ?_
   rintro e w1 ⟨rfl,hb1⟩
   have HB1:Hid (Below w.heap.size w w1):=HB0.out.trans (hb1.mono HB0.out.size)
   have HA1:Hid (Jb w1 w.heap.size st m jr sy ra va ma rc vc mc):=HA.out.below hb1
   clear hb1
   clear m0 m1 m2 m3 m4 m5 m6 m7 m8 m9 m10 m11 m12 m13
   obtain ⟨m0,m1,m2,m3,m4,m5,m6,m7,m8,m9,m10,m11,m12,m13⟩:=HA1.out
   go_wp2
   go_ret
   exact ⟨ret_bool HF.out.symm,HB1.out⟩
  ·have HF:Hid (jokB st m jr sy=(!m.over)):=HF0.out.trans (by rw [hm];rfl)
   rw [hm] at HM
   clear hm
   go_enter Tryz.func68,Tryz.ntmps68
   go_upto_region 1 with fail
   rw [HE0.out]
   clear HE0
   obtain ⟨m0,m1,m2,m3,m4,m5,m6,m7,m8,m9,m10,m11,m12,m13⟩:=HA.out
   go_wp2_with fail
   refine (HM.out _ HB0.out).mono ?_
   rintro e w1 ⟨rfl,hb1⟩
   have HB1:Hid (Below w.heap.size w w1):=HB0.out.trans (hb1.mono HB0.out.size)
   have HA1:Hid (Jb w1 w.heap.size st m jr sy ra va ma rc vc mc):=HA.out.below hb1
   clear hb1
   clear m0 m1 m2 m3 m4 m5 m6 m7 m8 m9 m10 m11 m12 m13
   obtain ⟨m0,m1,m2,m3,m4,m5,m6,m7,m8,m9,m10,m11,m12,m13⟩:=HA1.out
   go_wp2
   go_ret
   exact ⟨ret_bool HF.out.symm,HB1.out⟩
 have hb1:(st==1)=false:=beq_eq_false_iff_ne.2 e1
 by_cases e2:st=2
 ·have HF0:Hid (jokB st m jr sy=(mokB m&&m.over)):=HJ.out.trans <| (if_neg e0).trans <| (if_neg e1).trans <| if_pos e2
  have hb2:(st==2)=true:=beq_iff_eq.2 e2
  clear e0 e1 e2
  cases hm:mokB m
  ·have HF:Hid (jokB st m jr sy=false):=HF0.out.trans (by rw [hm];rfl)
   rw [hm] at HM
   clear hm
   go_enter Tryz.func68,Tryz.ntmps68
   go_upto_region 1 with fail
   rw [HE0.out]
   clear HE0
   obtain ⟨m0,m1,m2,m3,m4,m5,m6,m7,m8,m9,m10,m11,m12,m13⟩:=HA.out
   go_wp2_with fail
   refine (HM.out _ HB0.out).mono ?_
   rintro e w1 ⟨rfl,hb1⟩
   have HB1:Hid (Below w.heap.size w w1):=HB0.out.trans (hb1.mono HB0.out.size)
   have HA1:Hid (Jb w1 w.heap.size st m jr sy ra va ma rc vc mc):=HA.out.below hb1
   clear hb1
   clear m0 m1 m2 m3 m4 m5 m6 m7 m8 m9 m10 m11 m12 m13
   obtain ⟨m0,m1,m2,m3,m4,m5,m6,m7,m8,m9,m10,m11,m12,m13⟩:=HA1.out
   go_wp2
   go_ret
   exact ⟨ret_bool HF.out.symm,HB1.out⟩
  ·have HF:Hid (jokB st m jr sy=(m.over)):=HF0.out.trans (by rw [hm];rfl)
   rw [hm] at HM
   clear hm
   go_enter Tryz.func68,Tryz.ntmps68
   go_upto_region 1 with fail
   rw [HE0.out]
   clear HE0
   obtain ⟨m0,m1,m2,m3,m4,m5,m6,m7,m8,m9,m10,m11,m12,m13⟩:=HA.out
   go_wp2_with fail
   refine (HM.out _ HB0.out).mono ?_
   rintro e w1 ⟨rfl,hb1⟩
   have HB1:Hid (Below w.heap.size w w1):=HB0.out.trans (hb1.mono HB0.out.size)
   have HA1:Hid (Jb w1 w.heap.size st m jr sy ra va ma rc vc mc):=HA.out.below hb1
   clear hb1
   clear m0 m1 m2 m3 m4 m5 m6 m7 m8 m9 m10 m11 m12 m13
   obtain ⟨m0,m1,m2,m3,m4,m5,m6,m7,m8,m9,m10,m11,m12,m13⟩:=HA1.out
   go_wp2
   go_ret
   exact ⟨ret_bool HF.out.symm,HB1.out⟩
 have hb2:(st==2)=false:=beq_eq_false_iff_ne.2 e2
 have HF:Hid (jokB st m jr sy=false):=HJ.out.trans <| (if_neg e0).trans <| (if_neg e1).trans <| if_neg e2
 clear e0 e1 e2
 go_enter Tryz.func68,Tryz.ntmps68
 go_upto_region 1 with fail
 rw [HE0.out]
 clear HE0
 obtain ⟨m0,m1,m2,m3,m4,m5,m6,m7,m8,m9,m10,m11,m12,m13⟩:=HA.out
 go_wp2
 go_ret
 exact ⟨ret_bool HF.out.symm,HB0.out⟩
theorem sJobOk (w:World) (st:Int) (m:Mc) (jr:ByteArray) (sy:Int) (ra va ma:Option Addr) (rc vc mc:Nat) (hR:Mr w m ra va ma) (hS:m.S.size<=1048576) (hJ:jr.size<=1048576) :
 Calls Tryz.prog 23 #[jval st m jr sy ra va ma rc vc mc] w fun e w'=>e=.returned (.bool (jokB st m jr sy))/\Below w.heap.size w w':=by
 obtain ⟨W0,hW0⟩:∃ W0,W0=w.alloc (.cells #[.int .i64 st,.slice ra m.row.length rc,.int .i64 m.N,.string m.S,.int .i64 m.room,.slice va m.vals.length vc,.int .i64 m.ret,.bool m.over,.int .i64 m.steps,.int .i64 m.looks,.int .i64 m.hits,.slice ma m.memo.length mc,.string jr,.int .i64 sy] 37):=⟨_,rfl⟩
 have HE0:Hid (w.alloc (.cells #[.int .i64 st,.slice ra m.row.length rc,.int .i64 m.N,.string m.S,.int .i64 m.room,.slice va m.vals.length vc,.int .i64 m.ret,.bool m.over,.int .i64 m.steps,.int .i64 m.looks,.int .i64 m.hits,.slice ma m.memo.length mc,.string jr,.int .i64 sy] 37)=W0):=hW0.symm
 have HA:Hid (Jb W0 w.heap.size st m jr sy ra va ma rc vc mc):=by rw [hW0];exact Jb.made _ _ _ _ _ _ _ _ _ _ _ _
 have HB0:Hid (Below w.heap.size w W0):=by rw [hW0];exact (Below.refl _ _).alloc (Nat.le_refl _) _
 clear hW0
 have HM:Hid (∀ W,Below w.heap.size w W->Calls Tryz.prog 51 #[mval m ra va ma rc vc mc] W fun e w'=>e=.returned (.bool (mokB m))/\Below W.heap.size W w'):=fun W hb=>sMachineOk m ra va ma rc vc mc W hS (hR.below hb)
 have HN:Hid (∀ W,Below w.heap.size w W->Calls Tryz.prog 50 #[mval m ra va ma rc vc mc] W fun e w'=>e=.returned (.bool (bareB m))/\Below W.heap.size W w'):=fun W hb=>sBare m ra va ma rc vc mc W (hR.below hb)
 have h1:(jr.size:Int)<=2000000:=by omega
 have hg:¬ (jr.size:Int) > 2000000:=by omega
 clear hR hS hJ
 by_cases hin:0<=sy/\sy<=(jr.size:Int)
 rotate_left
 ·have HF:Hid (jokB st m jr sy=false):=if_neg (fun h=>hin h.2)
  have HIN:Hid (∀ W,Calls Tryz.prog 25 #[.int .i64 sy,.int .i64 0,.int .i64 (jr.size:Int)] W fun e w'=>e=.returned (.bool false)/\w'=W):=fun W=>sInF W (by omega)
  clear hin
  go_enter Tryz.func23,Tryz.ntmps23
  go_upto_region 1 with fail
  rw [HE0.out]
  clear HE0
  obtain ⟨m0,m1,m2,m3,m4,m5,m6,m7,m8,m9,m10,m11,m12,m13⟩:=HA.out
  go_wp2_with fail
  refine (HIN.out _).mono ?_
  rintro e w9 ⟨rfl,hw9⟩
  have hw8:=hw9.symm
  clear hw9
  subst hw8
  go_wp2
  go_ret
  exact ⟨ret_bool HF.out.symm,HB0.out⟩
 have HIN:Hid (∀ W,Calls Tryz.prog 25 #[.int .i64 sy,.int .i64 0,.int .i64 (jr.size:Int)] W fun e w'=>e=.returned (.bool true)/\w'=W):=fun W=>sInT W (by omega)
 have h2:¬ sy < 0:=by omega
 have h3:¬ sy > (jr.size:Int):=by omega
 clear hin
 have HJ:Hid (jokB st m jr sy=(if st=0 then bareB m else if st=1 then mokB m && !m.over else if st=2 then mokB m&&m.over else false)):=if_pos ⟨h1,by omega,by omega⟩
 clear h2 h3
 by_cases e0:st=0
 ·have HF:Hid (jokB st m jr sy=bareB m):=HJ.out.trans (if_pos e0)
  have hb0:(st==0)=true:=beq_iff_eq.2 e0
  clear e0
  go_enter Tryz.func23,Tryz.ntmps23
  go_upto_region 1 with fail
  rw [HE0.out]
  clear HE0
  obtain ⟨m0,m1,m2,m3,m4,m5,m6,m7,m8,m9,m10,m11,m12,m13⟩:=HA.out
  go_wp2_with fail
  refine (HIN.out _).mono ?_
  rintro e w9 ⟨rfl,hw9⟩
  have hw8:=hw9.symm
  clear hw9
  subst hw8
  go_wp2_with fail
  refine (HN.out _ HB0.out).mono ?_
  rintro e w1 ⟨rfl,hb1⟩
  have HB1:Hid (Below w.heap.size w w1):=HB0.out.trans (hb1.mono HB0.out.size)
  clear hb1
  go_wp2
  go_ret
  exact ⟨ret_bool HF.out.symm,HB1.out⟩
 have hb0:(st==0)=false:=beq_eq_false_iff_ne.2 e0
 by_cases e1:st=1
 ·have HF0:Hid (jokB st m jr sy=(mokB m && !m.over)):=HJ.out.trans <| (if_neg e0).trans <| if_pos e1
  have hb1:(st==1)=true:=beq_iff_eq.2 e1
  clear e0 e1
  cases hm:mokB m
  ·have HF:Hid (jokB st m jr sy=false):=HF0.out.trans (by rw [hm];rfl)
   rw [hm] at HM
   clear hm
   go_enter Tryz.func23,Tryz.ntmps23
   go_upto_region 1 with fail
   rw [HE0.out]
   clear HE0
   obtain ⟨m0,m1,m2,m3,m4,m5,m6,m7,m8,m9,m10,m11,m12,m13⟩:=HA.out
   go_wp2_with fail
   refine (HIN.out _).mono ?_
   rintro e w9 ⟨rfl,hw9⟩
   have hw8:=hw9.symm
   clear hw9
   subst hw8
   go_wp2_with fail
   refine (HM.out _ HB0.out).mono ?_
   rintro e w1 ⟨rfl,hb1⟩
   have HB1:Hid (Below w.heap.size w w1):=HB0.out.trans (hb1.mono HB0.out.size)
   have HA1:Hid (Jb w1 w.heap.size st m jr sy ra va ma rc vc mc):=HA.out.below hb1
   clear hb1
   clear m0 m1 m2 m3 m4 m5 m6 m7 m8 m9 m10 m11 m12 m13
   obtain ⟨m0,m1,m2,m3,m4,m5,m6,m7,m8,m9,m10,m11,m12,m13⟩:=HA1.out
   go_wp2
   go_ret
   exact ⟨ret_bool HF.out.symm,HB1.out⟩
  ·have HF:Hid (jokB st m jr sy=(!m.over)):=HF0.out.trans (by rw [hm];rfl)
   rw [hm] at HM
   clear hm
   go_enter Tryz.func23,Tryz.ntmps23
   go_upto_region 1 with fail
   rw [HE0.out]
   clear HE0
   obtain ⟨m0,m1,m2,m3,m4,m5,m6,m7,m8,m9,m10,m11,m12,m13⟩:=HA.out
   go_wp2_with fail
   refine (HIN.out _).mono ?_
   rintro e w9 ⟨rfl,hw9⟩
   have hw8:=hw9.symm
   clear hw9
   subst hw8
   go_wp2_with fail
   refine (HM.out _ HB0.out).mono ?_
   rintro e w1 ⟨rfl,hb1⟩
   have HB1:Hid (Below w.heap.size w w1):=HB0.out.trans (hb1.mono HB0.out.size)
   have HA1:Hid (Jb w1 w.heap.size st m jr sy ra va ma rc vc mc):=HA.out.below hb1
   clear hb1
   clear m0 m1 m2 m3 m4 m5 m6 m7 m8 m9 m10 m11 m12 m13
   obtain ⟨m0,m1,m2,m3,m4,m5,m6,m7,m8,m9,m10,m11,m12,m13⟩:=HA1.out
   go_wp2
   go_ret
   exact ⟨ret_bool HF.out.symm,HB1.out⟩
 have hb1:(st==1)=false:=beq_eq_false_iff_ne.2 e1
 by_cases e2:st=2
 ·have HF0:Hid (jokB st m jr sy=(mokB m&&m.over)):=HJ.out.trans <| (if_neg e0).trans <| (if_neg e1).trans <| if_pos e2
  have hb2:(st==2)=true:=beq_iff_eq.2 e2
  clear e0 e1 e2
  cases hm:mokB m
  ·have HF:Hid (jokB st m jr sy=false):=HF0.out.trans (by rw [hm];rfl)
   rw [hm] at HM
   clear hm
   go_enter Tryz.func23,Tryz.ntmps23
   go_upto_region 1 with fail
   rw [HE0.out]
   clear HE0
   obtain ⟨m0,m1,m2,m3,m4,m5,m6,m7,m8,m9,m10,m11,m12,m13⟩:=HA.out
   go_wp2_with fail
   refine (HIN.out _).mono ?_
   rintro e w9 ⟨rfl,hw9⟩
   have hw8:=hw9.symm
   clear hw9
   subst hw8
   go_wp2_with fail
   refine (HM.out _ HB0.out).mono ?_
   rintro e w1 ⟨rfl,hb1⟩
   have HB1:Hid (Below w.heap.size w w1):=HB0.out.trans (hb1.mono HB0.out.size)
   have HA1:Hid (Jb w1 w.heap.size st m jr sy ra va ma rc vc mc):=HA.out.below hb1
   clear hb1
   clear m0 m1 m2 m3 m4 m5 m6 m7 m8 m9 m10 m11 m12 m13
   obtain ⟨m0,m1,m2,m3,m4,m5,m6,m7,m8,m9,m10,m11,m12,m13⟩:=HA1.out
   go_wp2
   go_ret
   exact ⟨ret_bool HF.out.symm,HB1.out⟩
  ·have HF:Hid (jokB st m jr sy=(m.over)):=HF0.out.trans (by rw [hm];rfl)
   rw [hm] at HM
   clear hm
   go_enter Tryz.func23,Tryz.ntmps23
   go_upto_region 1 with fail
   rw [HE0.out]
   clear HE0
   obtain ⟨m0,m1,m2,m3,m4,m5,m6,m7,m8,m9,m10,m11,m12,m13⟩:=HA.out
   go_wp2_with fail
   refine (HIN.out _).mono ?_
   rintro e w9 ⟨rfl,hw9⟩
   have hw8:=hw9.symm
   clear hw9
   subst hw8
   go_wp2_with fail
   refine (HM.out _ HB0.out).mono ?_
   rintro e w1 ⟨rfl,hb1⟩
   have HB1:Hid (Below w.heap.size w w1):=HB0.out.trans (hb1.mono HB0.out.size)
   have HA1:Hid (Jb w1 w.heap.size st m jr sy ra va ma rc vc mc):=HA.out.below hb1
   clear hb1
   clear m0 m1 m2 m3 m4 m5 m6 m7 m8 m9 m10 m11 m12 m13
   obtain ⟨m0,m1,m2,m3,m4,m5,m6,m7,m8,m9,m10,m11,m12,m13⟩:=HA1.out
   go_wp2
   go_ret
   exact ⟨ret_bool HF.out.symm,HB1.out⟩
 have hb2:(st==2)=false:=beq_eq_false_iff_ne.2 e2
 have HF:Hid (jokB st m jr sy=false):=HJ.out.trans <| (if_neg e0).trans <| (if_neg e1).trans <| if_neg e2
 clear e0 e1 e2
 go_enter Tryz.func23,Tryz.ntmps23
 go_upto_region 1 with fail
 rw [HE0.out]
 clear HE0
 obtain ⟨m0,m1,m2,m3,m4,m5,m6,m7,m8,m9,m10,m11,m12,m13⟩:=HA.out
 go_wp2_with fail
 refine (HIN.out _).mono ?_
 rintro e w9 ⟨rfl,hw9⟩
 have hw8:=hw9.symm
 clear hw9
 subst hw8
 go_wp2
 go_ret
 exact ⟨ret_bool HF.out.symm,HB0.out⟩
end Jb3
namespace Mi5
open Go.RowKit
open Ta0 Ta1 Ta2 Ta3 Tc2 Tc5 Td2 Te1 Te3 Mc0 Mm0 Mm1 Mm2 Mx0 Mi4
open Nd0 (Kept Ints set_other set_same lt_of_cell)
open Ss0 (bs bs_size bs_ext)
open Ss1 (tl bs_tl)
theorem plc_pl (vb:List Bool):∀ k,k<=vb.length->plc (vb.map bi) k=pl (vb.take k):=by
 intro k
 induction k with
 | zero=>intro _;simp [plc,pl]
 | succ k ih =>
   intro h
   have hk:k < vb.length:=by omega
   show 2*plc (vb.map bi) k+((vb.map bi).getD k 0).toNat=_
   rw [ih (by omega),take_bit hk,pl_snoc]
   have:(vb.map bi).getD k 0=bi vb[k]:=by simp [List.getD,hk]
   rw [this]
   simp [bi]
theorem bits_ok (vb:List Bool):∀ i,i < (vb.map bi).length->bitB ((vb.map bi).getD i 0)=true:=fun i hi=>by
 have hi2:i < vb.length:=by simpa using hi
 have:(vb.map bi).getD i 0=bi vb[i]:=by simp [List.getD,hi2]
 rw [this]
 cases vb[i]<;>rfl
theorem pl_lt (vb:List Bool):pl vb < 2 ^ vb.length:=by
 have h:=plc_lt (l:=vb.map bi) (k:=vb.length) (fun i hi=>bits_ok vb i (by rw [List.length_map];exact hi))
 rw [plc_pl vb _ (Nat.le_refl _),List.take_length] at h
 exact h
theorem cut_tab {n:Nat} (F:Nat->Bool) (vb:List Bool) (hk:vb.length<=n):((tab n F).take ((pl vb+1)*2 ^ (n - vb.length))).drop (pl vb*2 ^ (n - vb.length))=tab (n - vb.length) (lft n F vb):=by
 have hp:=pl_lt vb
 have hle:(pl vb+1)*2 ^ (n - vb.length)<=2 ^ n:=by
  rw [show n=vb.length+(n - vb.length) by omega,Nat.pow_add,show vb.length+(n - vb.length) - vb.length=n - vb.length by omega]
  exact Nat.mul_le_mul_right _ hp
 have h1:(pl vb+1)*2 ^ (n - vb.length)=pl vb*2 ^ (n - vb.length)+2 ^ (n - vb.length):=by rw [Nat.add_mul,Nat.one_mul]
 apply List.ext_getElem
 ·rw [List.length_drop,List.length_take,tab_length,tab_length,Nat.min_eq_left hle,h1,Nat.add_sub_cancel_left]
 ·intro i h2 h3
  rw [List.getElem_drop,List.getElem_take,tab_get,tab_get]
  rfl
theorem cut_le {n:Nat} (vb:List Bool) (hk:vb.length<=n):(pl vb+1)*2 ^ (n - vb.length)<=2 ^ n:=by
 rw [show n=vb.length+(n - vb.length) by omega,Nat.pow_add,show vb.length+(n - vb.length) - vb.length=n - vb.length by omega]
 exact Nat.mul_le_mul_right _ (pl_lt vb)
theorem iLeft (n:Nat) (F:Nat->Bool) (vb:List Bool) (m:Mc) (ra va ma:Option Addr) (rc vc mc:Nat) (w:World) (hn:n<=12) (hN:m.N=(n:Int)) (hS:m.S=bs (tab n F)) (hv:m.vals=vb.map bi) (hk:vb.length<=n) (hI:Ints w va m.vals) :
 Calls Tryz.prog 258 #[mval m ra va ma rc vc mc] w fun e w'=>e=.returned (tv ((n - vb.length:Nat):Int) (bs (tab (n - vb.length) (lft n F vb))))/\Below w.heap.size w w':=by
 have hlv:m.vals.length=vb.length:=by rw [hv,List.length_map]
 have HPL:Hid (∀ W,Below w.heap.size w W->Calls Tryz.prog 183 #[.slice va m.vals.length vc] W fun e w'=>e=.returned (.tuple #[.int .i64 ((pl vb:Nat):Int),.bool true])/\w'=W):=fun W hb=>by
  refine (iPlaceOf va m.vals vc W (by omega) (hI.below hb)).mono ?_
  rintro e w' ⟨h,rfl⟩
  refine ⟨?_,rfl⟩
  rcases h with ⟨_,rfl⟩|⟨⟨i,hi,hb⟩,_⟩
  ·rw [hlv,hv,plc_pl vb _ (Nat.le_refl _),List.take_length]
  ·rw [hv] at hi hb
   rw [bits_ok vb i hi] at hb
   cases hb
 have HEX:Hid (m.S.extract (pl vb*2 ^ (n - vb.length)) ((pl vb+1)*2 ^ (n - vb.length))=bs (tab (n - vb.length) (lft n F vb))):=by
  show _=_
  rw [hS,bs_ext,cut_tab F vb hk]
 have hp1:=pl_lt vb
 have hp2:=cut_le vb hk
 have hp3:=(p12 hn).2
 have hp4:pl vb < 4096:=by
  have:=Nat.pow_le_pow_right (n:=2) (by omega) hk
  omega
 have hsz:m.S.size=2 ^ n:=by rw [hS,bs_size,tab_length]
 have hmul:pl vb*2 ^ (n - vb.length)<=(pl vb+1)*2 ^ (n - vb.length):=Nat.mul_le_mul_right _ (by omega)
 have hw1:IntKind.i64.wrap ((pl vb:Int)*2 ^ (n - vb.length))=((pl vb*2 ^ (n - vb.length):Nat):Int):=by
  rw [show (pl vb:Int)*2 ^ (n - vb.length)=((pl vb*2 ^ (n - vb.length):Nat):Int) by push_cast;rfl,IntKind.wrap_i64]<;>omega
 have hw2:IntKind.i64.wrap (((pl vb:Int)+1)*2 ^ (n - vb.length))=(((pl vb+1)*2 ^ (n - vb.length):Nat):Int):=by
  rw [show ((pl vb:Int)+1)*2 ^ (n - vb.length)=(((pl vb+1)*2 ^ (n - vb.length):Nat):Int) by push_cast;rfl,IntKind.wrap_i64]<;>omega
 have hsub:m.N - (m.vals.length:Int)=((n - vb.length:Nat):Int):=by rw [hN,hlv];omega
 have HSUB:Hid (m.N - (m.vals.length:Int)=((n - vb.length:Nat):Int)):=hsub
 have hN0:0<=m.N:=by omega
 have hN1:m.N<=12:=by omega
 have hv1:m.vals.length<=12:=by omega
 have he12:n - vb.length<=12:=by omega
 have hA2:pl vb*2 ^ (n - vb.length)<=m.S.size:=by omega
 have hB2:(pl vb+1)*2 ^ (n - vb.length)<=m.S.size:=by omega
 have hsz2:m.S.size<=4096:=by omega
 clear hsz hp1 hp2 hp3 hI hv hS hN hlv
 generalize n - vb.length=e at *
 generalize bs (tab e (lft n F vb))=T at *
 generalize pl vb=y at *
 generalize hA:y*2 ^ e=A at *
 generalize hB:(y+1)*2 ^ e=B at *
 clear hA hB
 obtain ⟨W0,hW0⟩:∃ W0,W0=((w.alloc (.cells #[.slice ra m.row.length rc,.int .i64 m.N,.string m.S,.int .i64 m.room,.slice va m.vals.length vc,.int .i64 m.ret,.bool m.over,.int .i64 m.steps,.int .i64 m.looks,.int .i64 m.hits,.slice ma m.memo.length mc] 35)).alloc (.cells #[.int .i64 0,.string ⟨#[]⟩] 32)):=⟨_,rfl⟩
 have HE0:Hid (((w.alloc (.cells #[.slice ra m.row.length rc,.int .i64 m.N,.string m.S,.int .i64 m.room,.slice va m.vals.length vc,.int .i64 m.ret,.bool m.over,.int .i64 m.steps,.int .i64 m.looks,.int .i64 m.hits,.slice ma m.memo.length mc] 35)).alloc (.cells #[.int .i64 0,.string ⟨#[]⟩] 32))=W0):=hW0.symm
 have HB0:Hid (Below w.heap.size w W0):=by rw [hW0];exact ((Below.refl _ _).alloc (Nat.le_refl _) _).alloc (by simp) _
 have HA0:Hid (Mb W0 w.heap.size m ra va ma rc vc mc):=by rw [hW0];exact (Mb.made _ _ _ _ _ _ _ _ _).alloc _
 have HL0:Hid (Lay W0 (w.heap.size+1) (.int .i64 0) (.string ⟨#[]⟩)):=by
  rw [hW0]
  have h1:=Lay.made (w.alloc (.cells #[.slice ra m.row.length rc,.int .i64 m.N,.string m.S,.int .i64 m.room,.slice va m.vals.length vc,.int .i64 m.ret,.bool m.over,.int .i64 m.steps,.int .i64 m.looks,.int .i64 m.hits,.slice ma m.memo.length mc] 35)) (.int .i64 0) (.string ⟨#[]⟩) 32
  have h2:(w.alloc (.cells #[.slice ra m.row.length rc,.int .i64 m.N,.string m.S,.int .i64 m.room,.slice va m.vals.length vc,.int .i64 m.ret,.bool m.over,.int .i64 m.steps,.int .i64 m.looks,.int .i64 m.hits,.slice ma m.memo.length mc] 35)).heap.size=w.heap.size+1:=by simp
  rw [h2] at h1
  exact h1
 clear hW0
 go_enter Tryz.func258,Tryz.ntmps258
 go_upto_region 1 with fail
 rw [HE0.out]
 clear HE0
 obtain ⟨m0,m1,m2,m3,m4,m5,m6,m7,m8,m9,m10⟩:=HA0.out
 obtain ⟨y0,y1,z0,z1⟩:=HL0.out
 go_wp2_with fail
 refine (HPL.out _ HB0.out).mono ?_
 rintro _ w2 ⟨rfl,hw⟩
 have hw':=hw.symm
 clear hw
 subst hw'
 go_wp2_with fail
 go_region
 rw [HEX.out]
 obtain ⟨W2,hW2,hL2,hB2'⟩:=finT HL0.out HB0.out (Nat.le_succ _) (.int .i64 (e:Int)) (.string T)
 rw [<- hW2]
 have u0:=hL2.c0
 have u1:=hL2.c1
 clear m0 m1 m2 m3 m4 m5 m6 m7 m8 m9 m10 y0 y1 z0 z1 hW2
 go_wp2
 exact bodyPost_ret (v:=tv (e:Int) T) (by simp [results,Tryz.results258,go_sem,u0,u1]) rfl ⟨rfl,hB2'.drew⟩
/-- A row of bits as flags. -/
theorem bits_of (l:List Int) (h:∀ x∈l,0<=x/\x<=1):∃ vb:List Bool,l=vb.map bi:=by
 refine ⟨l.map (fun x=>decide (x=1)),?_⟩
 rw [List.map_map]
 conv=>lhs;rw [<- List.map_id l]
 apply List.map_congr_left
 intro x hx
 have:=h x hx
 have hx2:x=0\/x=1:=by omega
 rcases hx2 with rfl|rfl<;>rfl
end Mi5
namespace Ap0
open Go.RowKit
open Nd0
theorem infoInt:(Tryz.prog.info? 3).map (fun i=>(i.zero,i.size,i.bytes))=some (some (.int .i64 0),1,8):=by kernel_rfl
/-- The slice v, in a block from B on, is the numbers l and may be appended to. -/
def Ows (w:World) (B:Nat) (v:Value) (l:List Int):Prop:=w.ownsRow B 3 1 v l.length (l.map fun x=>.int .i64 x)
theorem Ows.form {w:World} {B:Nat} {v:Value} {l:List Int} (h:Ows w B v l):∃ a c,v=.slice a l.length c/\WInts w B a l:=by
 obtain ⟨h1,h2⟩:=h
 rcases h2 with ⟨rfl,h0⟩|⟨g,cap,cur,rfl,hb,hg,hn,hm,hs,ht⟩
 ·have:l=[]:=List.eq_nil_of_length_eq_zero h0
  subst this
  exact ⟨none,0,rfl,Nat.zero_le _,.inl rfl⟩
 ·refine ⟨_,_,rfl,by omega,.inr ⟨g,0,rfl,hb,fun i hi=>⟨?_,?_⟩⟩⟩
  ·rw [Nat.zero_add,cell_of_row w g i cur _ _ hg]
   have e:(cur.toList.take (l.length*1))[i]? = some (.int .i64 l[i]):=by rw [ht];simp [hi]
   rw [List.getElem?_take_of_lt (by omega)] at e
   simpa using e
  ·rw [Nat.zero_add]
   simp [World.frozen?,hg]
theorem Ows.lit (w:World) (B:Nat) (hB:B<=w.heap.size):Ows (w.alloc (.cells #[] 3)) B (.slice (some ⟨w.heap.size,0,none⟩) 0 0) [] :=
 World.ownsRow_lit w #[] 0 hB (Nat.zero_le _) rfl
theorem Ows.lt {w:World} {B:Nat} {v:Value} {l:List Int} (h:Ows w B v l):∀ k,v.ownBlock=some k->B<=k/\k < w.heap.size:=World.ownsRow.lt h
theorem Ows.kept {w w':World} {B:Nat} {v:Value} {l:List Int} (h:Ows w B v l) {S:Nat->Prop} (k:Kept S w w') (hs:∀ i,v.ownBlock=some i->¬ S i):Ows w' B v l:=by
 refine ⟨h.1,?_⟩
 rcases h.2 with hn|⟨g,cap,cur,rfl,hb,hgg,rest⟩
 ·exact .inl hn
 ·refine .inr ⟨g,cap,cur,rfl,hb,?_,rest⟩
  rw [k.block g (Array.getElem?_eq_some_iff.1 hgg).1 (hs g rfl)]
  exact hgg
/-- One number more. -/
theorem app_int {ops:Array Oper} {rest:List Oper} {o:Oper} {a:Act} {Q:Exit->Act->World->Prop} (W:World) (hgd:o.guard=none) (s x:Operand)
 (ho:o.op=.call { callee:=.builtin .append,args := #[s,x],argTypes := #[25,25] })
 (B:Nat) (v:Value) (l:List Int) (y:Int) (hs:a.eval s=v) (hx:a.eval x=.slice (some ⟨W.heap.size,0,none⟩) 1 1)
 (hown:Ows W B v l) (hB:B<=W.heap.size) (hlen:l.length<=1048576)
 (h:∀ g cap w',Ows w' B (.slice (some ⟨g,0,none⟩) (l.length+1) cap) (l++[y])->Kept (fun k=>v.ownBlock=some k) W w'->(v.ownBlock=some g\/W.heap.size<=g)->wpList Tryz.prog ops Q rest (a.put o.dst (.slice (some ⟨g,0,none⟩) (l.length+1) cap)) w') :
 wpList Tryz.prog ops Q (o :: rest) a (W.alloc (.cells #[.int .i64 y] 3)):=by
 obtain ⟨i,hi,hzz⟩:=Option.map_eq_some_iff.1 infoInt
 simp only [Prod.mk.injEq] at hzz
 obtain ⟨hz,hsz,hb⟩:=hzz
 refine wpList_append_lies (W.alloc (.cells #[.int .i64 y] 3)) hgd s x 25 ho B 3 i (.int .i64 0) 1 8 Tryz.underlying25 hi hz hsz hb rfl (by omega) v l.length (l.map fun x=>.int .i64 x) hs (World.ownsRow.alloc hown _)
  ⟨W.heap.size,0,none⟩ 1 1 [.int .i64 y] hx rfl ?_ ?_ (by omega) (by unfold maxLen;omega) (by omega) (by simp;omega) _ rfl ?_
 ·intro j u hu
  exact World.news_of_block (heap_alloc_new W _) j u hu
 ·intro u hu
  simp at hu
  subst hu
  rfl
 ·intro g cap w' h1 h2 h3 h4
  refine h g cap w' ?_ ?_ ?_
  ·unfold Ows
   simpa using h1
  ·have k1:Kept (fun k=>v.ownBlock=some k) W (W.alloc (.cells #[.int .i64 y] 3)):=(Kept.refl _ W).alloc _
   exact k1.trans ⟨h2.os,h2.tape,h2.output,h2.size,fun k hk hn=>h2.block k hk (fun e=>hn e.symm)⟩
  ·rcases h3 with h3|h3
   ·exact .inl h3
   ·exact .inr (by rw [h3];simp)
end Ap0
end Go.Proofs.YtladjpombohpaaaGreatDoor
