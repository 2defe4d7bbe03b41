import Derived.Maps.AppendAt
import Derived.Deep.RegionHeld
import Derived.Deep.CutBlock
import Derived.Test.YtjajkmdoggbicaaGreatDoorPkST0
import Derived.Test.YtjajkmdoggbicaaGreatDoorMm2
import Derived.Test.YtjajkmdoggbicaaGreatDoorPkST5
namespace Go.Proofs.YtjajkmdoggbicaaGreatDoor
set_option maxRecDepth 100000
set_option maxHeartbeats 8000000
set_option linter.unusedVariables false
namespace Ap11
open Go.RowKit
open Nd0 Ap1
def bv (l:List Bool):List Value:=l.map fun x=>.bool x
theorem bv_len (l:List Bool):(bv l).length=l.length:=by simp [bv]
theorem one_b (l:List Bool):∀ u∈bv l,u.oneCell'=true:=by
 intro u hu
 obtain ⟨n,_,rfl⟩:=List.mem_map.1 hu
 rfl
theorem step_bs {ops:Array Oper} {o:Oper} {a:Act} {K:Act->World->Prop} {Q:Exit->Act->World->Prop} {E:Prop} (W:World) (hgd:o.guard=none) (s x:Operand)
 (ho:o.op=.call { callee:=.builtin .append,args := #[s,x],argTypes := #[24,24] })
 (B g cp gx ox cx:Nat) (l ys:List Bool) (hs:a.eval s=.slice (some ⟨g,0,none⟩) l.length cp) (hx:a.eval x=.slice (some ⟨gx,ox,none⟩) ys.length cx)
 (hown:Owb W B (.slice (some ⟨g,0,none⟩) l.length cp) l) (hy:∀ j (h:j < ys.length),W.cell? ⟨gx,ox+j,none⟩=some (.bool ys[j])) (hB:B<=W.heap.size) (hlen:l.length+ys.length<=1048577) (L:List Bool) (hL:l++ys=L)
 (h:∀ g' cp' w',Owb w' B (.slice (some ⟨g',0,none⟩) L.length cp') L->Kept (fun k=>k=g) W w'->(g'=g\/W.heap.size<=g')->K (a.put o.dst (.slice (some ⟨g',0,none⟩) L.length cp')) w') :
 if Region.wanted o (yielded ops a.tmps)=true then Oper.wp Tryz.prog o a W K Q else E:=by
 subst hL
 have hw:Region.wanted o (yielded ops a.tmps)=true:=by simp [Region.wanted,hgd]
 rw [if_pos hw]
 obtain ⟨i,hi,hzz⟩:=Option.map_eq_some_iff.1 infoBool
 simp only [Prod.mk.injEq] at hzz
 obtain ⟨hz,hsz,hb⟩:=hzz
 obtain ⟨v',w',hr,h1,h2,h3,h4⟩:=run_append_own_at (P:=Tryz.prog) W B 24 o.type 4 i _ 1 1 Tryz.underlying24 hi hz hsz hb rfl (by omega) _ l.length (bv l) hown ⟨gx,ox,none⟩ ys.length cx (bv ys) (by rw [bv_len];omega) (fun j u hu=>by
  have hj:j < ys.length:=by have:=(List.getElem?_eq_some_iff.1 hu).1;rw [bv_len] at this;exact this
  have hadd:(⟨gx,ox,none⟩:Addr).add j=⟨gx,ox+j,none⟩:=by unfold Addr.add;split<;>simp_all
  rw [hadd,hy j hj,<- hu]
  simp [bv,hj]) (one_b ys) (by unfold maxLen;omega) (by omega) hB
 have h5:Owb w' B v' (l++ys):=by unfold Owb;rw [List.map_append,List.length_append];exact h1
 have h6:∃ g' cp',v'=.slice (some ⟨g',0,none⟩) (l++ys).length cp':=by
  rcases h5.2 with ⟨h0,_⟩|⟨g',cap',cur,he,_⟩
  ·exact absurd (h3.1 h0).1 (by simp)
  ·exact ⟨g',cap',he⟩
 obtain ⟨g',cp',rfl⟩:=h6
 have hK:=h g' cp' w' h5 ⟨h2.os,h2.tape,h2.output,h2.size,fun k hk hn=>h2.block k hk (fun e=>hn (by simpa [Value.ownBlock] using e))⟩ (by
  rcases h4 with e|e
  ·exact .inl (by simpa [Value.ownBlock] using e)
  ·exact .inr (by have e':g'=W.heap.size:=(by simpa [Value.ownBlock] using e);omega))
 unfold Oper.wp execOp
 simp only [ho,resolve,invoke,builtin,Sem.run_bind,Sem.run_pure,Result.andThen_ok,List.map_toArray,List.map_cons,List.map_nil,hs,hx,hr]
 exact hK
end Ap11
namespace Sa0
open Go.RowKit
open Ta0 Ta1 Ta2 Ta3 Tc2 Tc5 Td2 Td4 Mm0 Mm1 Mm2 Mx0 Dm1
open Nd0 (Kept Ints lt_of_cell)
open Nd6 (Bools BoolsIn)
open Ap1 (Owb)
open Ap11 (step_bs)
open Ss0 (bs bs_size)
open Ss1 (tl bs_tl)
/-- A machine at its start; none. -/
def startM (row:List Bool) (N:Int) (S:ByteArray) (room:Int):Mc:=⟨row,N,S,room,[], -1,false,0,0,0,[]⟩
def zeroM:Mc:=⟨[],0,⟨#[]⟩,0,[],0,false,0,0,0,[]⟩
theorem sStart0 (a:Option Addr) (len c:Nat) (N:Int) (S:ByteArray) (room:Int) (w:World) (hS:S.size<=1048576) (h:¬ ((tokB N (tl S)=true/\(len:Int)=N)/\0<=room/\room<=40)) :
 Calls Tryz.prog 52 #[.slice a len c,tv N S,.int .i64 room] w fun e w'=>e=.returned (.tuple #[mval zeroM none none none 0 0 0,.bool false])/\Below w.heap.size w w':=by
 obtain ⟨b1,hb1,hok⟩:=okAny a len c N S hS
 have HOK:Hid _:=hok
 clear hok
 obtain ⟨W0,hW0⟩:∃ W0,W0=((w.alloc (.cells #[.int .i64 N,.string S] 26)).alloc (.cells #[.slice none 0 0,.int .i64 0,.string ⟨#[]⟩,.int .i64 0,.slice none 0 0,.int .i64 0,.bool false,.int .i64 0,.int .i64 0,.int .i64 0,.slice none 0 0] 30)):=⟨_,rfl⟩
 have HE0:Hid (((w.alloc (.cells #[.int .i64 N,.string S] 26)).alloc (.cells #[.slice none 0 0,.int .i64 0,.string ⟨#[]⟩,.int .i64 0,.slice none 0 0,.int .i64 0,.bool false,.int .i64 0,.int .i64 0,.int .i64 0,.slice none 0 0] 30))=W0):=hW0.symm
 have HB0:Hid (Below w.heap.size w W0):=by rw [hW0];exact ((Below.refl _ _).alloc (Nat.le_refl _) _).alloc (by simp) _
 have HT0:Hid (Lay W0 w.heap.size (.int .i64 N) (.string S)):=by rw [hW0];exact (Lay.made _ _ _ _).alloc _
 have HZ0:Hid (Mf W0 (w.heap.size+1) [.slice none 0 0,.int .i64 0,.string ⟨#[]⟩,.int .i64 0,.slice none 0 0,.int .i64 0,.bool false,.int .i64 0,.int .i64 0,.int .i64 0,.slice none 0 0]):=by
  have h1:=Mf.made (w.alloc (.cells #[.int .i64 N,.string S] 26)) #[.slice none 0 0,.int .i64 0,.string ⟨#[]⟩,.int .i64 0,.slice none 0 0,.int .i64 0,.bool false,.int .i64 0,.int .i64 0,.int .i64 0,.slice none 0 0] 30
  have h2:(w.alloc (.cells #[.int .i64 N,.string S] 26)).heap.size=w.heap.size+1:=by simp
  rw [h2,<- hW0] at h1
  exact h1
 have HS0:Hid (W0.heap.size=w.heap.size+2):=by show _=_;rw [hW0];simp
 clear hW0
 cases b1
 ·clear hb1
  go_enter Tryz.func52,Tryz.ntmps52
  go_upto_region 1 with fail
  rw [HE0.out]
  clear HE0
  have t0:=HT0.out.c0
  have t1:=HT0.out.c1
  go_wp2_with fail
  refine (HOK.out _).mono ?_
  rintro e w1 ⟨rfl,hb⟩
  have HB1:Hid (Below w.heap.size w w1):=HB0.out.trans (hb.mono HB0.out.size)
  have HZ1:Hid (Mf w1 (w.heap.size+1) [.slice none 0 0,.int .i64 0,.string ⟨#[]⟩,.int .i64 0,.slice none 0 0,.int .i64 0,.bool false,.int .i64 0,.int .i64 0,.int .i64 0,.slice none 0 0]):=HZ0.out.below hb
  clear hb t0 t1
  obtain ⟨d0,d1,d2,d3,d4,d5,d6,d7,d8,d9,d10,z0,z1,z2,z3,z4,z5,z6,z7,z8,z9,z10⟩:=HZ1.out.all
  go_wp2
  clear d0 z0 d1 z1 d2 z2 d3 z3 d4 z4 d5 z5 d6 z6 d7 z7 d8 z8 d9 z9 d10 z10
  obtain ⟨WF,hWF⟩:∃ WF,WF=(((((((((((w1).setCell ⟨w.heap.size+1,0,none⟩ (.slice none 0 0)).setCell ⟨w.heap.size+1,1,none⟩ (.int .i64 0)).setCell ⟨w.heap.size+1,2,none⟩ (.string ⟨#[]⟩)).setCell ⟨w.heap.size+1,3,none⟩ (.int .i64 0)).setCell ⟨w.heap.size+1,4,none⟩ (.slice none 0 0)).setCell ⟨w.heap.size+1,5,none⟩ (.int .i64 0)).setCell ⟨w.heap.size+1,6,none⟩ (.bool false)).setCell ⟨w.heap.size+1,7,none⟩ (.int .i64 0)).setCell ⟨w.heap.size+1,8,none⟩ (.int .i64 0)).setCell ⟨w.heap.size+1,9,none⟩ (.int .i64 0)).setCell ⟨w.heap.size+1,10,none⟩ (.slice none 0 0):=⟨_,rfl⟩
  rw [<- hWF]
  have KF:Kept (fun b=>b=w.heap.size+1) w1 WF:=by rw [hWF];exact ((((((((((((Kept.refl (fun b=>b=w.heap.size+1) w1)).setCell (p:=⟨w.heap.size+1,0,none⟩) rfl _).setCell (p:=⟨w.heap.size+1,1,none⟩) rfl _).setCell (p:=⟨w.heap.size+1,2,none⟩) rfl _).setCell (p:=⟨w.heap.size+1,3,none⟩) rfl _).setCell (p:=⟨w.heap.size+1,4,none⟩) rfl _).setCell (p:=⟨w.heap.size+1,5,none⟩) rfl _).setCell (p:=⟨w.heap.size+1,6,none⟩) rfl _).setCell (p:=⟨w.heap.size+1,7,none⟩) rfl _).setCell (p:=⟨w.heap.size+1,8,none⟩) rfl _).setCell (p:=⟨w.heap.size+1,9,none⟩) rfl _).setCell (p:=⟨w.heap.size+1,10,none⟩) rfl _
  have HF:Mf WF (w.heap.size+1) [.slice none 0 0,.int .i64 0,.string ⟨#[]⟩,.int .i64 0,.slice none 0 0,.int .i64 0,.bool false,.int .i64 0,.int .i64 0,.int .i64 0,.slice none 0 0]:=by
   rw [hWF]
   exact (((((((((((HZ1.out.set 0 (.slice none 0 0)).set 1 (.int .i64 0)).set 2 (.string ⟨#[]⟩)).set 3 (.int .i64 0)).set 4 (.slice none 0 0)).set 5 (.int .i64 0)).set 6 (.bool false)).set 7 (.int .i64 0)).set 8 (.int .i64 0)).set 9 (.int .i64 0)).set 10 (.slice none 0 0))
  obtain ⟨e0,e1,e2,e3,e4,e5,e6,e7,e8,e9,e10,f0,f1,f2,f3,f4,f5,f6,f7,f8,f9,f10⟩:=HF.all
  exact bodyPost_ret (v:=.tuple #[mval zeroM none none none 0 0 0,.bool false]) (by simp [results,Tryz.results52,go_sem,zeroM,e0,e1,e2,e3,e4,e5,e6,e7,e8,e9,e10]) rfl ⟨rfl,HB1.out.trans (KF.below (fun b hb=>by omega) HB1.out.size)⟩
 ·have h2:¬ (0<=room/\room<=40):=fun k=>h ⟨hb1.1 rfl,k⟩
  have H2:Hid (∀ W:World,Calls Tryz.prog 29 #[.int .i64 room,.int .i64 0,.int .i64 40] W fun e w'=>e=.returned (.bool false)/\w'=W):=fun W=>sInF W (by omega)
  clear hb1 h2 h
  go_enter Tryz.func52,Tryz.ntmps52
  go_upto_region 1 with fail
  rw [HE0.out]
  clear HE0
  have t0:=HT0.out.c0
  have t1:=HT0.out.c1
  go_wp2_with fail
  refine (HOK.out _).mono ?_
  rintro e w1 ⟨rfl,hb⟩
  have HB1:Hid (Below w.heap.size w w1):=HB0.out.trans (hb.mono HB0.out.size)
  have HZ1:Hid (Mf w1 (w.heap.size+1) [.slice none 0 0,.int .i64 0,.string ⟨#[]⟩,.int .i64 0,.slice none 0 0,.int .i64 0,.bool false,.int .i64 0,.int .i64 0,.int .i64 0,.slice none 0 0]):=HZ0.out.below hb
  clear hb t0 t1
  obtain ⟨d0,d1,d2,d3,d4,d5,d6,d7,d8,d9,d10,z0,z1,z2,z3,z4,z5,z6,z7,z8,z9,z10⟩:=HZ1.out.all
  go_wp2_with (go_at_call 29;refine (H2.out _).mono ?_;rintro e w9 ⟨rfl,hw9⟩;(have hw8:=hw9.symm);clear hw9;subst hw8)
  clear d0 z0 d1 z1 d2 z2 d3 z3 d4 z4 d5 z5 d6 z6 d7 z7 d8 z8 d9 z9 d10 z10
  obtain ⟨WF,hWF⟩:∃ WF,WF=(((((((((((w1).setCell ⟨w.heap.size+1,0,none⟩ (.slice none 0 0)).setCell ⟨w.heap.size+1,1,none⟩ (.int .i64 0)).setCell ⟨w.heap.size+1,2,none⟩ (.string ⟨#[]⟩)).setCell ⟨w.heap.size+1,3,none⟩ (.int .i64 0)).setCell ⟨w.heap.size+1,4,none⟩ (.slice none 0 0)).setCell ⟨w.heap.size+1,5,none⟩ (.int .i64 0)).setCell ⟨w.heap.size+1,6,none⟩ (.bool false)).setCell ⟨w.heap.size+1,7,none⟩ (.int .i64 0)).setCell ⟨w.heap.size+1,8,none⟩ (.int .i64 0)).setCell ⟨w.heap.size+1,9,none⟩ (.int .i64 0)).setCell ⟨w.heap.size+1,10,none⟩ (.slice none 0 0):=⟨_,rfl⟩
  rw [<- hWF]
  have KF:Kept (fun b=>b=w.heap.size+1) w1 WF:=by rw [hWF];exact ((((((((((((Kept.refl (fun b=>b=w.heap.size+1) w1)).setCell (p:=⟨w.heap.size+1,0,none⟩) rfl _).setCell (p:=⟨w.heap.size+1,1,none⟩) rfl _).setCell (p:=⟨w.heap.size+1,2,none⟩) rfl _).setCell (p:=⟨w.heap.size+1,3,none⟩) rfl _).setCell (p:=⟨w.heap.size+1,4,none⟩) rfl _).setCell (p:=⟨w.heap.size+1,5,none⟩) rfl _).setCell (p:=⟨w.heap.size+1,6,none⟩) rfl _).setCell (p:=⟨w.heap.size+1,7,none⟩) rfl _).setCell (p:=⟨w.heap.size+1,8,none⟩) rfl _).setCell (p:=⟨w.heap.size+1,9,none⟩) rfl _).setCell (p:=⟨w.heap.size+1,10,none⟩) rfl _
  have HF:Mf WF (w.heap.size+1) [.slice none 0 0,.int .i64 0,.string ⟨#[]⟩,.int .i64 0,.slice none 0 0,.int .i64 0,.bool false,.int .i64 0,.int .i64 0,.int .i64 0,.slice none 0 0]:=by
   rw [hWF]
   exact (((((((((((HZ1.out.set 0 (.slice none 0 0)).set 1 (.int .i64 0)).set 2 (.string ⟨#[]⟩)).set 3 (.int .i64 0)).set 4 (.slice none 0 0)).set 5 (.int .i64 0)).set 6 (.bool false)).set 7 (.int .i64 0)).set 8 (.int .i64 0)).set 9 (.int .i64 0)).set 10 (.slice none 0 0))
  obtain ⟨e0,e1,e2,e3,e4,e5,e6,e7,e8,e9,e10,f0,f1,f2,f3,f4,f5,f6,f7,f8,f9,f10⟩:=HF.all
  exact bodyPost_ret (v:=.tuple #[mval zeroM none none none 0 0 0,.bool false]) (by simp [results,Tryz.results52,go_sem,zeroM,e0,e1,e2,e3,e4,e5,e6,e7,e8,e9,e10]) rfl ⟨rfl,HB1.out.trans (KF.below (fun b hb=>by omega) HB1.out.size)⟩
theorem sStart1 (gx ox c:Nat) (row:List Bool) (N:Int) (S:ByteArray) (room:Int) (w:World) (hS:S.size<=1048576) (hl:row.length<=12) (hR:Bools w (some ⟨gx,ox,none⟩) row) (h:(tokB N (tl S)=true/\(row.length:Int)=N)/\0<=room/\room<=40) :
 Calls Tryz.prog 52 #[.slice (some ⟨gx,ox,none⟩) row.length c,tv N S,.int .i64 room] w fun e w'=>∃ g cp,e=.returned (.tuple #[mval (startM row N S room) (some ⟨g,0,none⟩) none none cp 0 0,.bool true])/\BoolsIn w' w.heap.size w'.heap.size (some ⟨g,0,none⟩) row/\Below w.heap.size w w':=by
 have HRW:Hid (∀ j (hj:j < row.length),w.cell? ⟨gx,ox+j,none⟩=some (.bool row[j])):=by
  intro j hj
  rcases hR.2 with e|⟨b,o,hb,hc⟩
  ·omega
  ·cases hb;exact hc j hj
 obtain ⟨b1,hb1,hok⟩:=okAny (some ⟨gx,ox,none⟩) row.length c N S hS
 have hb2:=hb1.2 h.1
 subst hb2
 have HOK:Hid _:=hok
 have H2:Hid (∀ W:World,Calls Tryz.prog 29 #[.int .i64 room,.int .i64 0,.int .i64 40] W fun e w'=>e=.returned (.bool true)/\w'=W):=fun W=>sInT W h.2
 clear hok hb1 h hR hS
 obtain ⟨W0,hW0⟩:∃ W0,W0=((w.alloc (.cells #[.int .i64 N,.string S] 26)).alloc (.cells #[.slice none 0 0,.int .i64 0,.string ⟨#[]⟩,.int .i64 0,.slice none 0 0,.int .i64 0,.bool false,.int .i64 0,.int .i64 0,.int .i64 0,.slice none 0 0] 30)):=⟨_,rfl⟩
 have HE0:Hid (((w.alloc (.cells #[.int .i64 N,.string S] 26)).alloc (.cells #[.slice none 0 0,.int .i64 0,.string ⟨#[]⟩,.int .i64 0,.slice none 0 0,.int .i64 0,.bool false,.int .i64 0,.int .i64 0,.int .i64 0,.slice none 0 0] 30))=W0):=hW0.symm
 have HB0:Hid (Below w.heap.size w W0):=by rw [hW0];exact ((Below.refl _ _).alloc (Nat.le_refl _) _).alloc (by simp) _
 have HT0:Hid (Lay W0 w.heap.size (.int .i64 N) (.string S)):=by rw [hW0];exact (Lay.made _ _ _ _).alloc _
 have HZ0:Hid (Mf W0 (w.heap.size+1) [.slice none 0 0,.int .i64 0,.string ⟨#[]⟩,.int .i64 0,.slice none 0 0,.int .i64 0,.bool false,.int .i64 0,.int .i64 0,.int .i64 0,.slice none 0 0]):=by
  have h1:=Mf.made (w.alloc (.cells #[.int .i64 N,.string S] 26)) #[.slice none 0 0,.int .i64 0,.string ⟨#[]⟩,.int .i64 0,.slice none 0 0,.int .i64 0,.bool false,.int .i64 0,.int .i64 0,.int .i64 0,.slice none 0 0] 30
  have h2:(w.alloc (.cells #[.int .i64 N,.string S] 26)).heap.size=w.heap.size+1:=by simp
  rw [h2,<- hW0] at h1
  exact h1
 have HS0:Hid (W0.heap.size=w.heap.size+2):=by show _=_;rw [hW0];simp
 clear hW0
 go_enter Tryz.func52,Tryz.ntmps52
 go_upto_region 1 with fail
 rw [HE0.out]
 clear HE0
 have t0:=HT0.out.c0
 have t1:=HT0.out.c1
 go_wp2_with fail
 refine (HOK.out _).mono ?_
 rintro e x1 ⟨rfl,hb⟩
 have HB1:Hid (Below w.heap.size w x1):=HB0.out.trans (hb.mono HB0.out.size)
 have HZ1:Hid (Mf x1 (w.heap.size+1) [.slice none 0 0,.int .i64 0,.string ⟨#[]⟩,.int .i64 0,.slice none 0 0,.int .i64 0,.bool false,.int .i64 0,.int .i64 0,.int .i64 0,.slice none 0 0]):=HZ0.out.below hb
 have HT1:Hid (Lay x1 w.heap.size (.int .i64 N) (.string S)):=HT0.out.below hb
 have HSX:Hid (w.heap.size+2<=x1.heap.size):=by have:=HS0.out;have:=hb.size;show _<=_;omega
 clear hb t0 t1 HZ0 HT0 HB0
 have dd:Below x1.heap.size x1 x1.drew:=(Below.refl _ _).drew
 have HTD:Hid (Lay x1.drew w.heap.size (.int .i64 N) (.string S)):=HT1.out.below dd
 have da:Below x1.heap.size x1 (x1.alloc (.cells #[] 4)).drew:=((Below.refl _ _).alloc (Nat.le_refl _) _).drew
 have HTA:Hid (Lay (x1.alloc (.cells #[] 4)).drew w.heap.size (.int .i64 N) (.string S)):=HT1.out.below da
 have HZA:Hid (Mf (x1.alloc (.cells #[] 4)).drew (w.heap.size+1) [.slice none 0 0,.int .i64 0,.string ⟨#[]⟩,.int .i64 0,.slice none 0 0,.int .i64 0,.bool false,.int .i64 0,.int .i64 0,.int .i64 0,.slice none 0 0]):=HZ1.out.below da
 have HBA:Hid (Below w.heap.size w (x1.alloc (.cells #[] 4)).drew):=HB1.out.trans (da.mono HB1.out.size)
 have HOA:Hid (Owb (x1.alloc (.cells #[] 4)).drew x1.heap.size (.slice (some ⟨x1.heap.size,0,none⟩) 0 0) []):=(Owb.lit x1 x1.heap.size (Nat.le_refl _)).kept (S:=fun _=>False) (Kept.refl _ _).drew (fun _ _ h=>h)
 have HXA:Hid (x1.heap.size<=(x1.alloc (.cells #[] 4)).drew.heap.size):=da.size
 clear dd da
 go_upto_region 3 with (go_at_call 29;refine (H2.out _).mono ?_;rintro e w9 ⟨rfl,hw9⟩;(have hw8:=hw9.symm);clear hw9;subst hw8)
 refine wp_region_held_drew (S:=fun w'=>w'.cell? ⟨w.heap.size,0,none⟩=some (.int .i64 N)/\w'.cell? ⟨w.heap.size,1,none⟩=some (.string S)) (by kernel_rfl) ⟨HTD.out.c0,HTD.out.c1⟩ (fun hHeld=>?_)
 refine wpAnyH_take (i:=1) (v:=?_) rfl (by kernel_rfl) (by kernel_rfl) (by kernel_rfl) (fun _ _ _ h=>h) (Or.inl ⟨by rfl,?_⟩) hHeld ?_
 rotate_left
 ·(intro v9 hS9;go_simp;try with_reducible rfl)
 try simp only [Act.put,List.setIfInBounds_toArray,List.set_cons_zero,List.set_cons_succ,List.getElem_toArray,List.getElem_cons_zero,List.getElem_cons_succ]
 refine wpAnyH_take (i:=3) (v:=?_) rfl (by kernel_rfl) (by kernel_rfl) (by kernel_rfl) (fun _ _ _ h=>h) (Or.inl ⟨by rfl,?_⟩) hHeld ?_
 rotate_left
 ·(intro v9 hS9;obtain ⟨s0,s1⟩:=hS9;go_simp;try with_reducible rfl)
 try simp only [Act.put,List.setIfInBounds_toArray,List.set_cons_zero,List.set_cons_succ,List.getElem_toArray,List.getElem_cons_zero,List.getElem_cons_succ]
 refine wpAnyH_take (i:=4) (v:=?_) rfl (by kernel_rfl) (by kernel_rfl) (by kernel_rfl) (fun _ _ _ h=>h) (Or.inl ⟨by rfl,?_⟩) hHeld ?_
 rotate_left
 ·(intro v9 hS9;go_simp;try with_reducible rfl)
 try simp only [Act.put,List.setIfInBounds_toArray,List.set_cons_zero,List.set_cons_succ,List.getElem_toArray,List.getElem_cons_zero,List.getElem_cons_succ]
 refine wpAnyH_ready (rs:=[0]) (by kernel_rfl) (by simp) ?_
 refine (AllReadyH.cons rfl (fun K hK=>?_) AllReadyH.nil)
 go_simp
 refine hK.out _ _ ⟨HTA.out.c0,HTA.out.c1⟩ (fun hNext=>?_)
 clear hK K hHeld
 have hHeld:=hNext
 clear hNext
 try simp only [Act.put,List.setIfInBounds_toArray,List.set_cons_zero,List.set_cons_succ,List.getElem_toArray,List.getElem_cons_zero,List.getElem_cons_succ]
 refine wpAnyH_ready (rs:=[2]) (by kernel_rfl) (by simp) ?_
 refine (AllReadyH.cons rfl (fun K hK=>?_) AllReadyH.nil)
 refine step_bs _ (by rfl) _ _ (by rfl) x1.heap.size x1.heap.size 0 gx ox c [] row (by rfl) (by rfl) HOA.out (fun j hj=>by rw [HBA.out.cell (lt_of_cell (HRW.out j hj))];exact HRW.out j hj) HXA.out (by simp;omega) row (List.nil_append row) ?_
 intro g6 cp6 w6 ho6 hk6 hg6
 have HT6:Hid (Lay w6 w.heap.size (.int .i64 N) (.string S)):=HTA.out.kept hk6 (by have:=HSX.out;omega)
 have HZ6:Hid (Mf w6 (w.heap.size+1) [.slice none 0 0,.int .i64 0,.string ⟨#[]⟩,.int .i64 0,.slice none 0 0,.int .i64 0,.bool false,.int .i64 0,.int .i64 0,.int .i64 0,.slice none 0 0]):=HZA.out.kept hk6 (by have:=HSX.out;omega)
 have HO6:Hid (Owb w6 x1.heap.size (.slice (some ⟨g6,0,none⟩) row.length cp6) row):=ho6
 have HB6:Hid (Below w.heap.size w w6):=HBA.out.trans (hk6.below (fun b hb=>by have:=HSX.out;omega) HBA.out.size)
 have HG6:Hid (x1.heap.size<=g6):=by show _<=_;rcases hg6 with e|e;omega;(have e':=Nat.le_trans HXA.out e);omega
 clear ho6 hk6 hg6
 refine hK.out _ _ ⟨HT6.out.c0,HT6.out.c1⟩ (fun hNext=>?_)
 clear hK K hHeld
 have hHeld:=hNext
 clear hNext
 try simp only [Act.put,List.setIfInBounds_toArray,List.set_cons_zero,List.set_cons_succ,List.getElem_toArray,List.getElem_cons_zero,List.getElem_cons_succ]
 refine wpAnyH_take (i:=5) (v:=?_) rfl (by kernel_rfl) (by kernel_rfl) (by kernel_rfl) (fun _ _ _ h=>h) (Or.inl ⟨by rfl,?_⟩) hHeld ?_
 rotate_left
 ·(intro v9 hS9;go_simp;try with_reducible rfl)
 try simp only [Act.put,List.setIfInBounds_toArray,List.set_cons_zero,List.set_cons_succ,List.getElem_toArray,List.getElem_cons_zero,List.getElem_cons_succ]
 obtain ⟨d0,d1,d2,d3,d4,d5,d6,d7,d8,d9,d10,z0,z1,z2,z3,z4,z5,z6,z7,z8,z9,z10⟩:=HZ6.out.all
 refine wpAnyH_ready (rs:=[6]) (by kernel_rfl) (by simp) ?_
 refine (AllReadyH.cons rfl (fun K hK=>?_) AllReadyH.nil)
 go_simp
 have KF:Kept (fun b=>b=w.heap.size+1) w6 ((((((((((((w6).setCell ⟨w.heap.size+1,0,none⟩ (.slice (some ⟨g6,0,none⟩) row.length cp6)).setCell ⟨w.heap.size+1,1,none⟩ (.int .i64 N)).setCell ⟨w.heap.size+1,2,none⟩ (.string S)).setCell ⟨w.heap.size+1,3,none⟩ (.int .i64 room)).setCell ⟨w.heap.size+1,4,none⟩ (.slice none 0 0)).setCell ⟨w.heap.size+1,5,none⟩ (.int .i64 (-1))).setCell ⟨w.heap.size+1,6,none⟩ (.bool false)).setCell ⟨w.heap.size+1,7,none⟩ (.int .i64 0)).setCell ⟨w.heap.size+1,8,none⟩ (.int .i64 0)).setCell ⟨w.heap.size+1,9,none⟩ (.int .i64 0)).setCell ⟨w.heap.size+1,10,none⟩ (.slice none 0 0)):=((((((((((((Kept.refl (fun b=>b=w.heap.size+1) w6)).setCell (p:=⟨w.heap.size+1,0,none⟩) rfl _).setCell (p:=⟨w.heap.size+1,1,none⟩) rfl _).setCell (p:=⟨w.heap.size+1,2,none⟩) rfl _).setCell (p:=⟨w.heap.size+1,3,none⟩) rfl _).setCell (p:=⟨w.heap.size+1,4,none⟩) rfl _).setCell (p:=⟨w.heap.size+1,5,none⟩) rfl _).setCell (p:=⟨w.heap.size+1,6,none⟩) rfl _).setCell (p:=⟨w.heap.size+1,7,none⟩) rfl _).setCell (p:=⟨w.heap.size+1,8,none⟩) rfl _).setCell (p:=⟨w.heap.size+1,9,none⟩) rfl _).setCell (p:=⟨w.heap.size+1,10,none⟩) rfl _
 have HTF:=HT6.out.kept KF (by omega)
 refine hK.out _ _ ⟨HTF.c0,HTF.c1⟩ (fun hNext=>?_)
 clear hK K hHeld
 have hHeld:=hNext
 clear hNext
 try simp only [Act.put,List.setIfInBounds_toArray,List.set_cons_zero,List.set_cons_succ,List.getElem_toArray,List.getElem_cons_zero,List.getElem_cons_succ]
 refine wpAnyH_take (i:=7) (v:=?_) rfl (by kernel_rfl) (by kernel_rfl) (by kernel_rfl) (fun _ _ _ h=>h) (Or.inl ⟨by rfl,?_⟩) hHeld ?_
 rotate_left
 ·(intro v9 hS9;go_simp;try with_reducible rfl)
 try simp only [Act.put,List.setIfInBounds_toArray,List.set_cons_zero,List.set_cons_succ,List.getElem_toArray,List.getElem_cons_zero,List.getElem_cons_succ]
 refine wpAnyH_done (by kernel_rfl) ?_ _
 clear hHeld
 obtain ⟨WF,hWF⟩:∃ WF,WF=(((((((((((w6).setCell ⟨w.heap.size+1,0,none⟩ (.slice (some ⟨g6,0,none⟩) row.length cp6)).setCell ⟨w.heap.size+1,1,none⟩ (.int .i64 N)).setCell ⟨w.heap.size+1,2,none⟩ (.string S)).setCell ⟨w.heap.size+1,3,none⟩ (.int .i64 room)).setCell ⟨w.heap.size+1,4,none⟩ (.slice none 0 0)).setCell ⟨w.heap.size+1,5,none⟩ (.int .i64 (-1))).setCell ⟨w.heap.size+1,6,none⟩ (.bool false)).setCell ⟨w.heap.size+1,7,none⟩ (.int .i64 0)).setCell ⟨w.heap.size+1,8,none⟩ (.int .i64 0)).setCell ⟨w.heap.size+1,9,none⟩ (.int .i64 0)).setCell ⟨w.heap.size+1,10,none⟩ (.slice none 0 0):=⟨_,rfl⟩
 rw [<- hWF]
 have KF:Kept (fun b=>b=w.heap.size+1) w6 WF:=by rw [hWF];exact ((((((((((((Kept.refl (fun b=>b=w.heap.size+1) w6)).setCell (p:=⟨w.heap.size+1,0,none⟩) rfl _).setCell (p:=⟨w.heap.size+1,1,none⟩) rfl _).setCell (p:=⟨w.heap.size+1,2,none⟩) rfl _).setCell (p:=⟨w.heap.size+1,3,none⟩) rfl _).setCell (p:=⟨w.heap.size+1,4,none⟩) rfl _).setCell (p:=⟨w.heap.size+1,5,none⟩) rfl _).setCell (p:=⟨w.heap.size+1,6,none⟩) rfl _).setCell (p:=⟨w.heap.size+1,7,none⟩) rfl _).setCell (p:=⟨w.heap.size+1,8,none⟩) rfl _).setCell (p:=⟨w.heap.size+1,9,none⟩) rfl _).setCell (p:=⟨w.heap.size+1,10,none⟩) rfl _
 have HF:Mf WF (w.heap.size+1) [.slice (some ⟨g6,0,none⟩) row.length cp6,.int .i64 N,.string S,.int .i64 room,.slice none 0 0,.int .i64 (-1),.bool false,.int .i64 0,.int .i64 0,.int .i64 0,.slice none 0 0]:=by
  rw [hWF]
  exact (((((((((((HZ6.out.set 0 (.slice (some ⟨g6,0,none⟩) row.length cp6)).set 1 (.int .i64 N)).set 2 (.string S)).set 3 (.int .i64 room)).set 4 (.slice none 0 0)).set 5 (.int .i64 (-1))).set 6 (.bool false)).set 7 (.int .i64 0)).set 8 (.int .i64 0)).set 9 (.int .i64 0)).set 10 (.slice none 0 0))
 obtain ⟨e0,e1,e2,e3,e4,e5,e6,e7,e8,e9,e10,f0,f1,f2,f3,f4,f5,f6,f7,f8,f9,f10⟩:=HF.all
 clear d0 z0 d1 z1 d2 z2 d3 z3 d4 z4 d5 z5 d6 z6 d7 z7 d8 z8 d9 z9 d10 z10 hWF
 go_wp2
 have hs:=HSX.out
 have hg:=HG6.out
 have hsz:=KF.size
 have f1:=HO6.out.kept KF (fun k hk h=>by have:=HO6.out.lt k hk;omega)
 obtain ⟨fa,fc,hfe,hfw⟩:=f1.form
 cases hfe
 have hin:=Nd6.WBools.within hfw
 exact bodyPost_ret (v:=.tuple #[mval (startM row N S room) (some ⟨g6,0,none⟩) none none cp6 0 0,.bool true]) (by simp [results,Tryz.results52,go_sem,startM,e0,e1,e2,e3,e4,e5,e6,e7,e8,e9,e10]) rfl ⟨g6,cp6,rfl,⟨hin.1,by
  rcases hin.2 with e|⟨b,o,ha,hb,hu,r⟩
  ·exact .inl e
  ·exact .inr ⟨b,o,ha,by omega,hu,r⟩⟩,HB6.out.trans (KF.below (fun b hb=>by omega) HB6.out.size)⟩
end Sa0
end Go.Proofs.YtjajkmdoggbicaaGreatDoor
