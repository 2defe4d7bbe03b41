import Derived.Test.YtjajkmdoggbicaaGreatDoorRows
import Derived.WalkKit
import Derived.WalkSpells
import Derived.WalkLawsBesides
import Derived.Deep.QuietTactic
import Derived.BigQuiet
import Derived.Test.YtjajkmdoggbicaaGreatDoorPkSV51
import Derived.Test.YtjajkmdoggbicaaGreatDoorPkSV45
import Derived.Test.YtjajkmdoggbicaaGreatDoorPkSV31
import Derived.Test.YtjajkmdoggbicaaGreatDoorPkSV4
import Derived.Test.YtjajkmdoggbicaaGreatDoorPkSV0
import Derived.Test.YtjajkmdoggbicaaGreatDoorPkSV3
namespace Go.Proofs.YtjajkmdoggbicaaGreatDoor
set_option maxRecDepth 100000
set_option maxHeartbeats 8000000
set_option linter.unusedVariables false
namespace Zl11
open Go.RowKit
open Nd0 (Kept At lt_of_cell)
open Mm0 (Mc Mb Mr Mok mval)
open Mx0 (Mf Mz)
open Ss0 (bs bs_size)
open Ss1 (tl tl_bs bs_tl tl_length)
open Zs5 (rfv)
open Zs6 (iRefusal iRefusal0)
open Zs7 (TabE)
open Zl0 Zl1 Zl2 Zl10
/-- What LoadMachine comes to. -/
def LmP (s:List UInt8) (B:Nat) (e:Ending) (w':World):Prop :=
 (∀ m,ldP s=some m->∃ q ra va ma rc vc mc u1 u2,e=.returned (.tuple #[mval m ra va ma rc vc mc,.bool true])/\B<=q/\Ld w' q m ra va ma rc vc mc u1 u2)/\(ldP s=none->e=.returned (.tuple #[mval mc0 none none none 0 0 0,.bool false]))
theorem LmP.no {s:List UInt8} {B:Nat} {w':World} (h:ldP s=none):LmP s B (.returned (.tuple #[mval mc0 none none none 0 0 0,.bool false])) w' :=
 ⟨fun m hm=>(by rw [h] at hm;cases hm),fun _=>rfl⟩
theorem LmP.yes {s:List UInt8} {B:Nat} {w':World} {q:Nat} {m:Mc} {ra va ma:Option Addr} {rc vc mc u1 u2:Nat} (h:ldP s=some m) (hq:B<=q) (hl:Ld w' q m ra va ma rc vc mc u1 u2):LmP s B (.returned (.tuple #[mval m ra va ma rc vc mc,.bool true])) w' :=
 ⟨fun m' hm=>(by rw [h] at hm;cases hm;exact ⟨q,ra,va,ma,rc,vc,mc,u1,u2,rfl,hq,hl⟩),fun e=>(by rw [h] at e;cases e)⟩
theorem iLoad (s:List UInt8) (w:World) (hs:s.length<=1048576) (hT:TabE w) :
 Calls Tryz.prog 17 #[.string (bs s)] w fun e w'=>LmP s w.heap.size e w'/\Below w.heap.size w w':=by
 obtain ⟨X0,hX0⟩:∃ X,X=w.alloc (.cells #[.slice none 0 0,.int .i64 0,.string ⟨#[]⟩,.int .i64 0,.slice none 0 0,.int .i64 0,.bool false,.int .i64 0,.int .i64 0,.int .i64 0,.slice none 0 0] 30):=⟨_,rfl⟩
 have hE:w.alloc (.cells #[.slice none 0 0,.int .i64 0,.string ⟨#[]⟩,.int .i64 0,.slice none 0 0,.int .i64 0,.bool false,.int .i64 0,.int .i64 0,.int .i64 0,.slice none 0 0] 30)=X0:=hX0.symm
 have HB0:Hid (Below w.heap.size w X0):=by rw [hX0];exact (Below.refl _ _).alloc (Nat.le_refl _) _
 have HZ0:Hid (Mf X0 w.heap.size [.slice none 0 0,.int .i64 0,.string ⟨#[]⟩,.int .i64 0,.slice none 0 0,.int .i64 0,.bool false,.int .i64 0,.int .i64 0,.int .i64 0,.slice none 0 0]):=by rw [hX0];exact Mf.made _ _ _
 have HX0:Hid (X0.heap.size=w.heap.size+1):=by rw [hX0];show _=_;simp
 have HT:Hid (TabE w):=hT
 have HSM:Hid _:=iSavedMachine s X0 hs (hT.tab.below HB0.out)
 obtain ⟨S,hS⟩:∃ S,S=bs s:=⟨_,rfl⟩
 rw [<- hS] at HSM
 rw [<- hS]
 clear hX0 hT hS hs
 go_enter Tryz.func17,Tryz.ntmps17
 go_upto_region 1 with fail
 clear hE
 go_wp2_with fail
 refine Calls.mono HSM.out ?_
 rintro e w1 ⟨⟨hyes,hno⟩,hb1⟩
 have HB1:Hid (Below w.heap.size w w1):=HB0.out.trans (hb1.mono HB0.out.size)
 have HZ1:Hid (Mf w1 w.heap.size [.slice none 0 0,.int .i64 0,.string ⟨#[]⟩,.int .i64 0,.slice none 0 0,.int .i64 0,.bool false,.int .i64 0,.int .i64 0,.int .i64 0,.slice none 0 0]):=HZ0.out.below hb1
 clear hb1 HSM
 cases hl:ldP s with
 | none =>
   have HP:Hid (ldP s=none):=hl
   obtain ⟨m,ra,va,ma,rc,vc,mc,x,rfl⟩:=hno hl
   clear hyes hno hl
   obtain ⟨X2,hX2⟩:∃ X,X=w1.alloc (.cells #[.slice ra m.row.length rc,.int .i64 m.N,.string m.S,.int .i64 m.room,.slice va m.vals.length vc,.int .i64 m.ret,.bool m.over,.int .i64 m.steps,.int .i64 m.looks,.int .i64 m.hits,.slice ma m.memo.length mc] 30):=⟨_,rfl⟩
   have HE2:Hid (w1.alloc (.cells #[.slice ra m.row.length rc,.int .i64 m.N,.string m.S,.int .i64 m.room,.slice va m.vals.length vc,.int .i64 m.ret,.bool m.over,.int .i64 m.steps,.int .i64 m.looks,.int .i64 m.hits,.slice ma m.memo.length mc] 30)=X2):=hX2.symm
   have HB2:Hid (Below w.heap.size w X2):=by rw [hX2];exact HB1.out.alloc HB1.out.size _
   have HZ2:Hid (Mf X2 w.heap.size [.slice none 0 0,.int .i64 0,.string ⟨#[]⟩,.int .i64 0,.slice none 0 0,.int .i64 0,.bool false,.int .i64 0,.int .i64 0,.int .i64 0,.slice none 0 0]):=by rw [hX2];exact HZ1.out.alloc _
   clear hX2
   go_upto_region 2 with fail
   rw [HE2.out]
   clear HE2
   go_wp2_with fail
   refine (iRefusal x _ (HT.out.below HB2.out).ety).mono ?_
   rintro e w3 ⟨rfl,hb3⟩
   have HB3:Hid (Below w.heap.size w w3):=HB2.out.trans (hb3.mono HB2.out.size)
   have HZ3:Hid (Mf w3 w.heap.size [.slice none 0 0,.int .i64 0,.string ⟨#[]⟩,.int .i64 0,.slice none 0 0,.int .i64 0,.bool false,.int .i64 0,.int .i64 0,.int .i64 0,.slice none 0 0]):=HZ2.out.below hb3
   clear hb3
   obtain ⟨d0,d1,d2,d3,d4,d5,d6,d7,d8,d9,d10,z0,z1,z2,z3,z4,z5,z6,z7,z8,z9,z10⟩:=HZ3.out.all
   go_wp2
   clear d0 d1 d2 d3 d4 d5 d6 d7 d8 d9 d10 z0 z1 z2 z3 z4 z5 z6 z7 z8 z9 z10
   obtain ⟨WF,hWF⟩:∃ WF,WF=(((((((((((w3).setCell ⟨w.heap.size,0,none⟩ (.slice none 0 0)).setCell ⟨w.heap.size,1,none⟩ (.int .i64 0)).setCell ⟨w.heap.size,2,none⟩ (.string ⟨#[]⟩)).setCell ⟨w.heap.size,3,none⟩ (.int .i64 0)).setCell ⟨w.heap.size,4,none⟩ (.slice none 0 0)).setCell ⟨w.heap.size,5,none⟩ (.int .i64 0)).setCell ⟨w.heap.size,6,none⟩ (.bool false)).setCell ⟨w.heap.size,7,none⟩ (.int .i64 0)).setCell ⟨w.heap.size,8,none⟩ (.int .i64 0)).setCell ⟨w.heap.size,9,none⟩ (.int .i64 0)).setCell ⟨w.heap.size,10,none⟩ (.slice none 0 0):=⟨_,rfl⟩
   rw [<- hWF]
   have KF:Kept (fun b=>b=w.heap.size) w3 WF:=by rw [hWF];exact ((((((((((((Kept.refl (fun b=>b=w.heap.size) w3).setCell (p:=⟨w.heap.size,0,none⟩) rfl _).setCell (p:=⟨w.heap.size,1,none⟩) rfl _).setCell (p:=⟨w.heap.size,2,none⟩) rfl _).setCell (p:=⟨w.heap.size,3,none⟩) rfl _).setCell (p:=⟨w.heap.size,4,none⟩) rfl _).setCell (p:=⟨w.heap.size,5,none⟩) rfl _).setCell (p:=⟨w.heap.size,6,none⟩) rfl _).setCell (p:=⟨w.heap.size,7,none⟩) rfl _).setCell (p:=⟨w.heap.size,8,none⟩) rfl _).setCell (p:=⟨w.heap.size,9,none⟩) rfl _).setCell (p:=⟨w.heap.size,10,none⟩) rfl _)
   have HF:Mf WF w.heap.size [.slice none 0 0,.int .i64 0,.string ⟨#[]⟩,.int .i64 0,.slice none 0 0,.int .i64 0,.bool false,.int .i64 0,.int .i64 0,.int .i64 0,.slice none 0 0]:=by
    rw [hWF]
    exact (((((((((((HZ3.out.set 0 (.slice none 0 0)).set 1 (.int .i64 0)).set 2 (.string ⟨#[]⟩)).set 3 (.int .i64 0)).set 4 (.slice none 0 0)).set 5 (.int .i64 0)).set 6 (.bool false)).set 7 (.int .i64 0)).set 8 (.int .i64 0)).set 9 (.int .i64 0)).set 10 (.slice none 0 0))
   obtain ⟨e0,e1,e2,e3,e4,e5,e6,e7,e8,e9,e10,f0,f1,f2,f3,f4,f5,f6,f7,f8,f9,f10⟩:=HF.all
   exact bodyPost_ret (v:=.tuple #[mval mc0 none none none 0 0 0,.bool false]) (by simp [results,Tryz.results17,go_sem,mc0,e0,e1,e2,e3,e4,e5,e6,e7,e8,e9,e10]) rfl ⟨LmP.no HP.out,HB3.out.trans (KF.below (fun b hb=>by omega) HB3.out.size)⟩
 | some m =>
   have HP:Hid (ldP s=some m):=hl
   obtain ⟨q,ra,va,ma,rc,vc,mc,u1,u2,rfl,hq,hld⟩:=hyes m hl
   clear hyes hno hl
   obtain ⟨X2,hX2⟩:∃ X,X=w1.alloc (.cells #[.slice ra m.row.length rc,.int .i64 m.N,.string m.S,.int .i64 m.room,.slice va m.vals.length vc,.int .i64 m.ret,.bool m.over,.int .i64 m.steps,.int .i64 m.looks,.int .i64 m.hits,.slice ma m.memo.length mc] 30):=⟨_,rfl⟩
   have HE2:Hid (w1.alloc (.cells #[.slice ra m.row.length rc,.int .i64 m.N,.string m.S,.int .i64 m.room,.slice va m.vals.length vc,.int .i64 m.ret,.bool m.over,.int .i64 m.steps,.int .i64 m.looks,.int .i64 m.hits,.slice ma m.memo.length mc] 30)=X2):=hX2.symm
   have b2:Below w1.heap.size w1 X2:=by rw [hX2];exact (Below.refl _ _).alloc (Nat.le_refl _) _
   have HB2:Hid (Below w.heap.size w X2):=HB1.out.trans (b2.mono HB1.out.size)
   have HZ2:Hid (Mf X2 w.heap.size [.slice none 0 0,.int .i64 0,.string ⟨#[]⟩,.int .i64 0,.slice none 0 0,.int .i64 0,.bool false,.int .i64 0,.int .i64 0,.int .i64 0,.slice none 0 0]):=HZ1.out.below b2
   have HD2:Hid (Ld X2 q m ra va ma rc vc mc u1 u2):=hld.below b2
   have HM2:Hid (Mf X2 w1.heap.size [.slice ra m.row.length rc,.int .i64 m.N,.string m.S,.int .i64 m.room,.slice va m.vals.length vc,.int .i64 m.ret,.bool m.over,.int .i64 m.steps,.int .i64 m.looks,.int .i64 m.hits,.slice ma m.memo.length mc]):=by rw [hX2];exact Mf.made _ _ _
   have HQ:Hid (w.heap.size < q):=by show _ < _;have:=HX0.out;omega
   clear hX2 b2 hq hld
   go_upto_region 2 with fail
   rw [HE2.out]
   clear HE2
   go_wp2_with fail
   refine (iRefusal0 _).mono ?_
   rintro e w3 ⟨rfl,hb3⟩
   have HB3:Hid (Below w.heap.size w w3):=HB2.out.trans (hb3.mono HB2.out.size)
   have HZ3:Hid (Mf w3 w.heap.size [.slice none 0 0,.int .i64 0,.string ⟨#[]⟩,.int .i64 0,.slice none 0 0,.int .i64 0,.bool false,.int .i64 0,.int .i64 0,.int .i64 0,.slice none 0 0]):=HZ2.out.below hb3
   have HD3:Hid (Ld w3 q m ra va ma rc vc mc u1 u2):=HD2.out.below hb3
   have HM3:Hid (Mf w3 w1.heap.size [.slice ra m.row.length rc,.int .i64 m.N,.string m.S,.int .i64 m.room,.slice va m.vals.length vc,.int .i64 m.ret,.bool m.over,.int .i64 m.steps,.int .i64 m.looks,.int .i64 m.hits,.slice ma m.memo.length mc]):=HM2.out.below hb3
   clear hb3
   obtain ⟨d0,d1,d2,d3,d4,d5,d6,d7,d8,d9,d10,z0,z1,z2,z3,z4,z5,z6,z7,z8,z9,z10⟩:=HZ3.out.all
   obtain ⟨a0,a1,a2,a3,a4,a5,a6,a7,a8,a9,a10,y0,y1,y2,y3,y4,y5,y6,y7,y8,y9,y10⟩:=HM3.out.all
   go_wp2
   clear d0 d1 d2 d3 d4 d5 d6 d7 d8 d9 d10 z0 z1 z2 z3 z4 z5 z6 z7 z8 z9 z10 a0 a1 a2 a3 a4 a5 a6 a7 a8 a9 a10 y0 y1 y2 y3 y4 y5 y6 y7 y8 y9 y10
   obtain ⟨WF,hWF⟩:∃ WF,WF=(((((((((((w3).setCell ⟨w.heap.size,0,none⟩ (.slice ra m.row.length rc)).setCell ⟨w.heap.size,1,none⟩ (.int .i64 m.N)).setCell ⟨w.heap.size,2,none⟩ (.string m.S)).setCell ⟨w.heap.size,3,none⟩ (.int .i64 m.room)).setCell ⟨w.heap.size,4,none⟩ (.slice va m.vals.length vc)).setCell ⟨w.heap.size,5,none⟩ (.int .i64 m.ret)).setCell ⟨w.heap.size,6,none⟩ (.bool m.over)).setCell ⟨w.heap.size,7,none⟩ (.int .i64 m.steps)).setCell ⟨w.heap.size,8,none⟩ (.int .i64 m.looks)).setCell ⟨w.heap.size,9,none⟩ (.int .i64 m.hits)).setCell ⟨w.heap.size,10,none⟩ (.slice ma m.memo.length mc):=⟨_,rfl⟩
   rw [<- hWF]
   have KF:Kept (fun b=>b=w.heap.size) w3 WF:=by rw [hWF];exact ((((((((((((Kept.refl (fun b=>b=w.heap.size) w3).setCell (p:=⟨w.heap.size,0,none⟩) rfl _).setCell (p:=⟨w.heap.size,1,none⟩) rfl _).setCell (p:=⟨w.heap.size,2,none⟩) rfl _).setCell (p:=⟨w.heap.size,3,none⟩) rfl _).setCell (p:=⟨w.heap.size,4,none⟩) rfl _).setCell (p:=⟨w.heap.size,5,none⟩) rfl _).setCell (p:=⟨w.heap.size,6,none⟩) rfl _).setCell (p:=⟨w.heap.size,7,none⟩) rfl _).setCell (p:=⟨w.heap.size,8,none⟩) rfl _).setCell (p:=⟨w.heap.size,9,none⟩) rfl _).setCell (p:=⟨w.heap.size,10,none⟩) rfl _)
   have HF:Mf WF w.heap.size [.slice ra m.row.length rc,.int .i64 m.N,.string m.S,.int .i64 m.room,.slice va m.vals.length vc,.int .i64 m.ret,.bool m.over,.int .i64 m.steps,.int .i64 m.looks,.int .i64 m.hits,.slice ma m.memo.length mc]:=by
    rw [hWF]
    exact (((((((((((HZ3.out.set 0 (.slice ra m.row.length rc)).set 1 (.int .i64 m.N)).set 2 (.string m.S)).set 3 (.int .i64 m.room)).set 4 (.slice va m.vals.length vc)).set 5 (.int .i64 m.ret)).set 6 (.bool m.over)).set 7 (.int .i64 m.steps)).set 8 (.int .i64 m.looks)).set 9 (.int .i64 m.hits)).set 10 (.slice ma m.memo.length mc))
   obtain ⟨e0,e1,e2,e3,e4,e5,e6,e7,e8,e9,e10,f0,f1,f2,f3,f4,f5,f6,f7,f8,f9,f10⟩:=HF.all
   exact bodyPost_ret (v:=.tuple #[mval m ra va ma rc vc mc,.bool true]) (by simp [results,Tryz.results17,go_sem,e0,e1,e2,e3,e4,e5,e6,e7,e8,e9,e10]) rfl ⟨LmP.yes HP.out (Nat.le_of_lt HQ.out) (HD3.out.kept KF (fun b h1 h2 h3=>by have:=HQ.out;omega)),HB3.out.trans (KF.below (fun b hb=>by omega) HB3.out.size)⟩
end Zl11
namespace Lw4
open Go.RowKit
open Dr0 Dr1
open Ws1 (ret_int ret_bool)
theorem lat (w:World) (a:Option Addr) (len cap:Nat) (i:Int) (h0:0<=i) (hk:i<=1000) (hb:Bytes w a len) (hs:len<=1048576) :
 Calls Tryz.prog 7 #[.slice a len cap,.int .i64 i] w fun e w'=>(∃ x:Int,e=.returned (.int .i64 x)/\0<=x/\x<=255)/\w'=w:=by
 obtain ⟨k,rfl⟩:=Int.eq_ofNat_of_zero_le h0
 by_cases hlt:k < len
 ·rcases hb.2 with h0|⟨xb,xo,rfl,hcell⟩
  ·omega
  obtain ⟨v,hv0,hv1,hv⟩:=hcell k hlt
  clear hcell hb
  go_enter Tryz.func7,Tryz.ntmps7
  go_wp2
  go_ret
  exact ⟨⟨_,rfl,by omega,by omega⟩,rfl⟩
 ·clear hb
  go_enter Tryz.func7,Tryz.ntmps7
  go_wp2
  go_ret
  exact ⟨⟨_,rfl,by omega,by omega⟩,rfl⟩
theorem lbig (w:World) (a:Option Addr) (len cap:Nat) (b:Bool) (hb:b=decide (1048576 < len)) :
 Calls Tryz.prog 5 #[.slice a len cap] w fun e w'=>e=.returned (.bool b)/\w'=w:=by
 subst hb
 go_enter Tryz.func5,Tryz.ntmps5
 go_wp2
 go_ret
 exact ⟨ret_bool (by rw [Bool.eq_iff_iff];simp;omega),rfl⟩
end Lw4
namespace Lat
open Go.RowKit
open Nd0
open Dr0 (Bytes)
open Ws1 (ret_int ret_bool)
theorem lat3 (w:World) (a:Option Addr) (len cap:Nat) (i:Int) (h0:0<=i) (hk:i<=1000) (hb:Bytes w a len) (hs:len<=1048576) :
 ∃ x:Int,0<=x/\x<=255/\∀ W:World,Below w.heap.size w W->Calls Tryz.prog 7 #[.slice a len cap,.int .i64 i] W fun e w'=>e=.returned (.int .i64 x)/\w'=W:=by
 obtain ⟨k,rfl⟩:=Int.eq_ofNat_of_zero_le h0
 by_cases hlt:k < len
 ·rcases hb.2 with h0|⟨xb,xo,rfl,hcell⟩
  ·omega
  obtain ⟨v,hv0,hv1,hv⟩:=hcell k hlt
  refine ⟨v,by omega,by omega,fun W hW=>?_⟩
  have hv2:W.cell? ⟨xb,xo+k,none⟩=some (.int .u8 v):=(hW.cell (p:=⟨xb,xo+k,none⟩) (lt_of_cell hv)).trans hv
  clear hcell hb hW hv
  go_enter Tryz.func7,Tryz.ntmps7
  go_wp2
  go_ret
  exact ⟨ret_int (by omega),rfl⟩
 ·refine ⟨((k:Int)*7+(len:Int)) % 256,by omega,by omega,fun W hW=>?_⟩
  clear hb hW
  go_enter Tryz.func7,Tryz.ntmps7
  go_wp2
  go_ret
  exact ⟨rfl,rfl⟩
end Lat
namespace Wd1
open Go.RowKit
open Pl1
theorem ret_int {k:IntKind} {a b:Int} (h:a=b):Ending.returned (.int k a)=.returned (.int k b):=by rw [h]
theorem ret_bool {a b:Bool} (h:a=b):Ending.returned (.bool a)=.returned (.bool b):=by rw [h]
theorem spow (m:Int) (w:World) (h0:0<=m) (h1:m<=8) :
 Calls Tryz.prog 89 #[.int .i64 m] w fun e w'=>e=.returned (.int .i64 (p2 m.toNat))/\w'=w:=by
 obtain ⟨n,rfl⟩:=Int.eq_ofNat_of_zero_le h0
 rw [Int.toNat_natCast]
 go_enter Tryz.func89,Tryz.ntmps89
 go_wp2
 go_loop [3,4] (fun x i=>∃ k:Nat,k<=n/\i=.int .i64 k/\x=.int .i64 (p2 k)) (fun _ i=>n - (intOf i).toNat)
 case atStart=>exact ⟨0,Nat.zero_le _,rfl,rfl⟩
 case round =>
  obtain ⟨k,hk,rfl,rfl⟩:=hrel
  have hp:=p2_pos k
  have hl:=p2_le k (by omega)
  by_cases hlt:k < n
  ·go_wp2
   go_round
   case rel=>exact ⟨k+1,by omega,by go_num,by rw [p2_succ]⟩
   case measure=>simp [intOf];omega
  ·go_wp2
   go_ret
   have:k=n:=by omega
   subst this
   exact ⟨rfl,rfl⟩
theorem sIn (x a b:Int) (w:World) :
 Calls Tryz.prog 29 #[.int .i64 x,.int .i64 a,.int .i64 b] w fun e w'=>e=.returned (.bool (decide (a<=x/\x<=b)))/\w'=w:=by
 by_cases h1:a<=x<;>by_cases h2:x<=b
 all_goals
  go_enter Tryz.func29,Tryz.ntmps29
  go_wp2
  go_ret
  exact ⟨ret_bool (by simp<;>omega),rfl⟩
end Wd1
namespace Dr2
open Go.RowKit
open Dr0 Dr1 Pl1 Wd1
theorem belowBig (w:World) (b:Nat) (a:Option Addr) (len cap:Nat) (n:Int) (h0:257<=n) (hc:Cur w b a len cap) :
 Calls Tryz.prog 22 #[.pointer (some ⟨b,0,none⟩),.int .i64 n] w fun e w'=>(∃ x:Int,e=.returned (.int .i64 x)/\0<=x/\x < n)/\Cur w' b a len cap/\Only b w w':=by
 have HC:Hid (Cur w b a len cap):=hc
 clear hc
 go_enter Tryz.func22,Tryz.ntmps22
 go_wp2_with fail
 refine (byte _ b a len cap HC.out).mono ?_
 rintro e w1 ⟨⟨x,rfl,hx0,hx1⟩,hc',ho'⟩
 have HC1:Hid (Cur w1 b a len cap):=hc'
 have HO1:Hid (Only b w w1):=ho'
 clear hc' ho'
 go_wp2_with fail
 refine (byte _ b a len cap HC1.out).mono ?_
 rintro e w2 ⟨⟨y,rfl,hy0,hy1⟩,hc',ho'⟩
 have HC2:Hid (Cur w2 b a len cap):=hc'
 have HO2:Hid (Only b w w2):=HO1.out.trans ho'
 clear hc' ho'
 go_wp2_with fail
 refine (byte _ b a len cap HC2.out).mono ?_
 rintro e w3 ⟨⟨z,rfl,hz0,hz1⟩,hc',ho'⟩
 have HC3:Hid (Cur w3 b a len cap):=hc'
 have HO3:Hid (Only b w w3):=HO2.out.trans ho'
 clear hc' ho'
 go_wp2_with fail
 refine (byte _ b a len cap HC3.out).mono ?_
 rintro e w4 ⟨⟨u,rfl,hu0,hu1⟩,hc',ho'⟩
 have HC4:Hid (Cur w4 b a len cap):=hc'
 have HO4:Hid (Only b w w4):=HO3.out.trans ho'
 clear hc' ho'
 go_wp2
 go_ret
 exact ⟨⟨_,rfl,Int.emod_nonneg _ (by omega),Int.emod_lt_of_pos _ (by omega)⟩,HC4.out,HO4.out⟩
theorem pickNew (w:World) (b:Nat) (a:Option Addr) (len cap:Nat) (c:Array Value) (T n:Nat) (h0:1<=n) (h1:n<=256) (hC:∀ i,i < n->∃ v:Int,c[i]? = some (.int .i64 v)) (hc:Cur w b a len cap) :
 Calls Tryz.prog 54 #[.pointer (some ⟨b,0,none⟩),.slice (some ⟨w.heap.size,0,none⟩) n n] (w.alloc (.cells c T)) fun e w'=>(∃ x:Int,e=.returned (.int .i64 x))/\Cur w' b a len cap/\Only b w w':=by
 have hb:=hc.lt
 refine (pickInt _ b a len cap w.heap.size n n h0 h1 (by omega) ?_ (hc.alloc _)).mono ?_
 ·intro i hi
  obtain ⟨v,hv⟩:=hC i hi
  exact ⟨v,by rw [World.cell?_alloc_new];exact hv⟩
 ·rintro e w' ⟨h1,h2,h3⟩
  exact ⟨h1,h2,((Only.refl b w).alloc _).trans h3⟩
theorem new (w:World) (a:Option Addr) (len cap:Nat) (hb:Bytes w a len) :
 Calls Tryz.prog 20 #[.slice a len cap] w fun e w'=>e=.returned (.pointer (some ⟨w.heap.size,0,none⟩))/\Cur w' w.heap.size a len cap/\Below w.heap.size w w':=by
 have hm:=hb.1
 unfold maxLen at hm
 have HB:Hid (Bytes w a len):=hb
 clear hb
 go_enter Tryz.func20,Tryz.ntmps20
 go_wp2
 go_loop [3,4] (fun h i=>∃ (k:Nat) (x:Int),k<=len/\i=.int .i64 k/\h=.int .i64 x) (fun _ i=>len - (intOf i).toNat)
 case atStart=>exact ⟨0,_,Nat.zero_le _,rfl,rfl⟩
 case round =>
  obtain ⟨k,x,hk,rfl,rfl⟩:=hrel
  by_cases hlt:k < len/\k < 4000
  ·obtain ⟨hlt,hl4⟩:=hlt
   rcases HB.out.2 with h0|⟨xb,xo,rfl,hcell⟩
   ·omega
   obtain ⟨v,hv0,hv1,hv⟩:=hcell k hlt
   clear hcell
   go_wp2
   go_round
   case rel=>exact ⟨k+1,_,by omega,by go_num,rfl⟩
   case measure=>simp [intOf];omega
  ·have hd:(decide ((k:Int) < (len:Int))&&decide ((k:Int) < 4000))=false:=by simp;omega
   by_cases hlt:k < len
   ·have hl4:¬ (k:Int) < 4000:=by omega
    clear hd
    go_wp2
    go_ret
    exact ⟨rfl,Cur.made HB.out x _,(Below.refl _ w).alloc (Nat.le_refl _) _⟩
   ·have hl4:¬ (k:Int) < (len:Int):=by omega
    clear hd
    go_wp2
    go_ret
    exact ⟨rfl,Cur.made HB.out x _,(Below.refl _ w).alloc (Nat.le_refl _) _⟩
end Dr2
namespace Dr3
open Go.RowKit
open Dr0 Dr1 Dr2 Pl1 Wd1
theorem belowAny (w:World) (b:Nat) (a:Option Addr) (len cap:Nat) (n:Int) (h0:1<=n) (hc:Cur w b a len cap) :
 Calls Tryz.prog 22 #[.pointer (some ⟨b,0,none⟩),.int .i64 n] w fun e w'=>(∃ x:Int,e=.returned (.int .i64 x)/\0<=x/\x < n)/\Cur w' b a len cap/\Only b w w':=by
 by_cases h:n<=256
 ·exact below w b a len cap n h0 h hc
 ·exact belowBig w b a len cap n (by omega) hc
end Dr3
namespace Wd2
open Go.RowKit
open Pl1 Wd1
theorem two_iff {m a b:Int} (h:(wok m a&&wok m b)=true):1<=m/\m<=8/\0<=a/\a < p2 m.toNat/\0<=b/\b < p2 m.toNat/\p2 m.toNat<=256:=by
 rw [Bool.and_eq_true] at h
 obtain ⟨h1,h2,h3,h4⟩:=wok_iff.1 h.1
 obtain ⟨_,_,h5,h6⟩:=wok_iff.1 h.2
 exact ⟨h1,h2,h3,h4,h5,h6,p2_le _ (by omega)⟩
theorem one_iff {m a:Int} (h:wok m a=true):1<=m/\m<=8/\0<=a/\a < p2 m.toNat/\p2 m.toNat<=256:=by
 obtain ⟨h1,h2,h3,h4⟩:=wok_iff.1 h
 exact ⟨h1,h2,h3,h4,p2_le _ (by omega)⟩
end Wd2
namespace Wd3
open Go.RowKit
open Pl1 Wd1 Wd2
theorem div_bd {a b:Int} (ha:0<=a) (hb:0<=b):0<=a / b/\a / b<=a:=⟨Int.ediv_nonneg ha hb,Int.ediv_le_self _ ha⟩
theorem rem_bd {a b:Int} (ha:0<=a) (hb:0<=b) (hz:¬ b=0):0<=a % b/\a % b < b:=⟨Int.emod_nonneg _ hz,Int.emod_lt_of_pos _ (by omega)⟩
end Wd3
namespace Wd4
open Go.RowKit
open Pl1 Wd1 Wd2 Wd3
theorem shl_zero (a:Int) {m b:Int} (h1:1<=m) (h:m<=b):a*p2 b.toNat % p2 m.toNat=0:=by
 have e:p2 b.toNat=p2 m.toNat*p2 (b - m).toNat:=by
  unfold p2;rw [<- Int.pow_add,show m.toNat+(b - m).toNat=b.toNat by omega]
 rw [e,<- Int.mul_assoc,Int.mul_comm a,Int.mul_assoc]
 exact Int.mul_emod_right _ _
theorem shr_zero {a m b:Int} (h0:0<=a) (h:m<=b) (ha:a < p2 m.toNat):a / p2 b.toNat=0:=by
 have:=p2_mono (show m.toNat<=b.toNat by omega)
 exact Int.ediv_eq_zero_of_lt h0 (by omega)
theorem iOne (b:Bool) (w:World) :
 Calls Tryz.prog 125 #[.bool b] w fun e w'=>e=.returned (.int .i64 (if b then 1 else 0))/\w'=w:=by
 cases b
 all_goals
  go_enter Tryz.func125,Tryz.ntmps125
  go_wp2
  go_ret
  exact ⟨rfl,rfl⟩
theorem sOne (b:Bool) (w:World) :
 Calls Tryz.prog 37 #[.bool b] w fun e w'=>e=.returned (.int .i64 (if b then 1 else 0))/\w'=w:=by
 cases b
 all_goals
  go_enter Tryz.func37,Tryz.ntmps37
  go_wp2
  go_ret
  exact ⟨rfl,rfl⟩
end Wd4
namespace Wd5
open Go.RowKit
open Pl1 Wd1 Wd2 Wd3 Wd4
theorem less_of {p q:Bool} {x y:Int} (h:(p&&decide (x < y))=q):(if p&&decide (x < y) then (1:Int) else 0)=if q then 1 else 0:=by rw [h]
theorem wrap_sub {m n:Int} (h1:1<=m) (h2:m<=8) (hn:0<=n) (hw:(Lit.int .i64 n).wf=true):wrap64 (m - n)=m - n:=by
 have:n<=9223372036854775807:=by
  simp [Lit.wf,IntKind.min,IntKind.max,IntKind.signed,IntKind.bits] at hw;omega
 unfold wrap64;omega
end Wd5
namespace Lw0
open Go.RowKit
open Dr0 Dr1 Dr2 Dr3 Pl1 Wd1
theorem lat (w:World) (a:Option Addr) (len cap:Nat) (i:Int) (h0:0<=i) (hk:i<=1000) (hb:Bytes w a len) (hs:len<=1048576) :
 Calls Tryz.prog 7 #[.slice a len cap,.int .i64 i] w fun e w'=>(∃ x:Int,e=.returned (.int .i64 x)/\0<=x/\x<=255)/\w'=w:=by
 obtain ⟨k,rfl⟩:=Int.eq_ofNat_of_zero_le h0
 by_cases hlt:k < len
 ·rcases hb.2 with h0|⟨xb,xo,rfl,hcell⟩
  ·omega
  obtain ⟨v,hv0,hv1,hv⟩:=hcell k hlt
  clear hcell hb
  go_enter Tryz.func7,Tryz.ntmps7
  go_wp2
  go_ret
  exact ⟨⟨_,rfl,by omega,by omega⟩,rfl⟩
 ·clear hb
  go_enter Tryz.func7,Tryz.ntmps7
  go_wp2
  go_ret
  exact ⟨⟨_,rfl,by omega,by omega⟩,rfl⟩
theorem lbig (w:World) (a:Option Addr) (len cap:Nat) (b:Bool) (hb:b=decide (1048576 < len)) :
 Calls Tryz.prog 5 #[.slice a len cap] w fun e w'=>e=.returned (.bool b)/\w'=w:=by
 subst hb
 go_enter Tryz.func5,Tryz.ntmps5
 go_wp2
 go_ret
 exact ⟨ret_bool (by rw [Bool.eq_iff_iff];simp;omega),rfl⟩
end Lw0
end Go.Proofs.YtjajkmdoggbicaaGreatDoor
