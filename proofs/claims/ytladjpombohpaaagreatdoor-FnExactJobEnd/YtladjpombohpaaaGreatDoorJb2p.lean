import Derived.ChangeKeysEq
import Derived.Test.YtladjpombohpaaaGreatDoorPkJE18
namespace Go.Proofs.YtladjpombohpaaaGreatDoor
set_option maxRecDepth 100000
set_option maxHeartbeats 8000000
set_option linter.unusedVariables false
namespace Jb2p
open Go.RowKit
open Mm0 Mm2 Mx0 Mi3 Jb2
open Tc2 (ret_bool)
theorem int_info:(Tryz.prog.info? 3).isSome=true:=by kernel_rfl
theorem int_cells:Tryz.prog.cellsOf 3=1:=by kernel_rfl
theorem int_plain:Tryz.prog.plainKey 3=true:=by kernel_rfl
theorem eqi (d:Nat) (x y:Int) (W:World):(Op.equalIn (d+1) 3 (.int .i64 x) (.int .i64 y)).run Tryz.prog W=.ok (x==y) W:=by
 simp [Op.equalIn,run_underlying Tryz.underlying3]
set_option linter.unusedSimpArgs false in
theorem eq3 (a b c:Int) (w:World):(Op.equal 192 (.agg #[.int .i64 a,.int .i64 b,.int .i64 c]) (.agg #[.int .i64 0,.int .i64 0,.int .i64 0])).run Tryz.prog w=.ok (a==0&&(b==0&&c==0)) w:=by
 obtain ⟨i,hi⟩:=Option.isSome_iff_exists.1 int_info
 refine (run_equalIn_array w 9999 _ _ Tryz.underlying192 hi).trans ?_
 rw [int_cells]
 have hu:∀ (x y:Int) (W:World),(Op.equalIn 9999 3 (.int .i64 x) (.int .i64 y)).run Tryz.prog W=.ok (x==y) W:=fun x y W=>eqi 9998 x y W
 have p0:∀ (x y z:Value) (W:World),(part 3 #[x,y,z] 0).run Tryz.prog W=.ok x W:=fun x y z W=>run_part_plain W int_plain rfl
 have p1:∀ (x y z:Value) (W:World),(part 3 #[x,y,z] 1).run Tryz.prog W=.ok y W:=fun x y z W=>run_part_plain W int_plain rfl
 have p2:∀ (x y z:Value) (W:World),(part 3 #[x,y,z] 2).run Tryz.prog W=.ok z W:=fun x y z W=>run_part_plain W int_plain rfl
 simp only [List.range,List.range.loop,Op.eqItems,Sem.run_bind,Nat.zero_mul,Nat.one_mul,Nat.mul_one,p0,p1,p2,Result.andThen_ok,hu]
 cases ha:(a==0)<;>cases hb:(b==0)<;>cases hc:(c==0)<;>simp [p0,p1,p2,hu,ha,hb,hc]
theorem eql3 (a b c:Int) (w:World):(binOp .eql 192 (.agg #[.int .i64 a,.int .i64 b,.int .i64 c]) (.agg #[.int .i64 0,.int .i64 0,.int .i64 0])).run Tryz.prog w=.ok (.bool (a==0&&(b==0&&c==0))) w:=by
 have h:=eq3 a b c w
 simp only [binOp]
 simp [h]
theorem iBare (m:Mc) (ra va ma:Option Addr) (rc vc mc:Nat) (w:World) (hR:Mr w m ra va ma) :
 Calls Tryz.prog 110 #[mval m ra va ma rc vc mc] w fun e w'=>e=.returned (.bool (bareB m))/\Below w.heap.size w w':=by
 have hl1:=hR.row.1
 have hl2:=hR.vals.1
 have hl3:=hR.memo.1
 unfold maxLen at hl1 hl2 hl3
 clear hR
 obtain ⟨row,N,S,room,vals,ret,over,steps,looks,hits,memo⟩:=m
 dsimp only [mval] at hl1 hl2 hl3 ⊢
 by_cases h:row=[]
 rotate_left
 ·have hF:bareB ⟨row,N,S,room,vals,ret,over,steps,looks,hits,memo⟩=false:=bare_no (fun k=>h k.row)
  have hb:((row.length:Int)==0)=false:=beq_eq_false_iff_ne.2 (fun e=>h (List.length_eq_zero_iff.1 (by omega)))
  clear h
  have HF:Hid (bareB _=false):=hF
  clear hF
  have HB0:Hid (Below w.heap.size w (w.alloc (.cells #[.slice ra row.length rc,.int .i64 N,.string S,.int .i64 room,.slice va vals.length vc,.int .i64 ret,.bool over,.int .i64 steps,.int .i64 looks,.int .i64 hits,.slice ma memo.length mc] 35))):=(Below.refl _ _).alloc (Nat.le_refl _) _
  go_enter Tryz.func110,Tryz.ntmps110
  go_wp2
  go_ret
  exact ⟨ret_bool HF.out.symm,HB0.out⟩
 subst h
 by_cases h:N=0
 rotate_left
 ·have hF:bareB ⟨[],N,S,room,vals,ret,over,steps,looks,hits,memo⟩=false:=bare_no (fun k=>h k.N)
  have hb:(N==0)=false:=beq_eq_false_iff_ne.2 h
  clear h
  have HF:Hid (bareB _=false):=hF
  clear hF
  have HB0:Hid (Below w.heap.size w (w.alloc (.cells #[.slice ra 0 rc,.int .i64 N,.string S,.int .i64 room,.slice va vals.length vc,.int .i64 ret,.bool over,.int .i64 steps,.int .i64 looks,.int .i64 hits,.slice ma memo.length mc] 35))):=(Below.refl _ _).alloc (Nat.le_refl _) _
  go_enter Tryz.func110,Tryz.ntmps110
  go_wp2
  go_ret
  exact ⟨ret_bool HF.out.symm,HB0.out⟩
 subst h
 by_cases h:S=⟨#[]⟩
 rotate_left
 ·have hF:bareB ⟨[],0,S,room,vals,ret,over,steps,looks,hits,memo⟩=false:=bare_no (fun k=>h k.S)
  have hb2:(S.toList==ByteArray.toList ⟨#[]⟩)=false:=Ss1.eqb_false fun k=>h (Ss1.tl_inj k)
  have hb:(S.toList==[])=false:=Ss1.eql_false fun k=>h (Ss1.tl_inj (T:=⟨#[]⟩) (k.trans (by rfl)))
  clear h
  have HF:Hid (bareB _=false):=hF
  clear hF
  have HB0:Hid (Below w.heap.size w (w.alloc (.cells #[.slice ra 0 rc,.int .i64 0,.string S,.int .i64 room,.slice va vals.length vc,.int .i64 ret,.bool over,.int .i64 steps,.int .i64 looks,.int .i64 hits,.slice ma memo.length mc] 35))):=(Below.refl _ _).alloc (Nat.le_refl _) _
  go_enter Tryz.func110,Tryz.ntmps110
  go_wp2
  go_ret
  exact ⟨ret_bool HF.out.symm,HB0.out⟩
 subst h
 by_cases h:room=0
 rotate_left
 ·have hF:bareB ⟨[],0,⟨#[]⟩,room,vals,ret,over,steps,looks,hits,memo⟩=false:=bare_no (fun k=>h k.room)
  have hb:(room==0)=false:=beq_eq_false_iff_ne.2 h
  clear h
  have HF:Hid (bareB _=false):=hF
  clear hF
  have HB0:Hid (Below w.heap.size w (w.alloc (.cells #[.slice ra 0 rc,.int .i64 0,.string ⟨#[]⟩,.int .i64 room,.slice va vals.length vc,.int .i64 ret,.bool over,.int .i64 steps,.int .i64 looks,.int .i64 hits,.slice ma memo.length mc] 35))):=(Below.refl _ _).alloc (Nat.le_refl _) _
  go_enter Tryz.func110,Tryz.ntmps110
  go_wp2
  go_ret
  exact ⟨ret_bool HF.out.symm,HB0.out⟩
 subst h
 by_cases h:vals=[]
 rotate_left
 ·have hF:bareB ⟨[],0,⟨#[]⟩,0,vals,ret,over,steps,looks,hits,memo⟩=false:=bare_no (fun k=>h k.vals)
  have hb:((vals.length:Int)==0)=false:=beq_eq_false_iff_ne.2 (fun e=>h (List.length_eq_zero_iff.1 (by omega)))
  clear h
  have HF:Hid (bareB _=false):=hF
  clear hF
  have HB0:Hid (Below w.heap.size w (w.alloc (.cells #[.slice ra 0 rc,.int .i64 0,.string ⟨#[]⟩,.int .i64 0,.slice va vals.length vc,.int .i64 ret,.bool over,.int .i64 steps,.int .i64 looks,.int .i64 hits,.slice ma memo.length mc] 35))):=(Below.refl _ _).alloc (Nat.le_refl _) _
  go_enter Tryz.func110,Tryz.ntmps110
  go_wp2
  go_ret
  exact ⟨ret_bool HF.out.symm,HB0.out⟩
 subst h
 by_cases h:ret=0
 rotate_left
 ·have hF:bareB ⟨[],0,⟨#[]⟩,0,[],ret,over,steps,looks,hits,memo⟩=false:=bare_no (fun k=>h k.ret)
  have hb:(ret==0)=false:=beq_eq_false_iff_ne.2 h
  clear h
  have HF:Hid (bareB _=false):=hF
  clear hF
  have HB0:Hid (Below w.heap.size w (w.alloc (.cells #[.slice ra 0 rc,.int .i64 0,.string ⟨#[]⟩,.int .i64 0,.slice va 0 vc,.int .i64 ret,.bool over,.int .i64 steps,.int .i64 looks,.int .i64 hits,.slice ma memo.length mc] 35))):=(Below.refl _ _).alloc (Nat.le_refl _) _
  go_enter Tryz.func110,Tryz.ntmps110
  go_wp2
  go_ret
  exact ⟨ret_bool HF.out.symm,HB0.out⟩
 subst h
 rcases over with _|_
 rotate_left
 ·have hF:bareB ⟨[],0,⟨#[]⟩,0,[],0,true,steps,looks,hits,memo⟩=false:=bare_no (fun h=>by cases h.over)
  have HF:Hid (bareB _=false):=hF
  clear hF
  have HB0:Hid (Below w.heap.size w (w.alloc (.cells #[.slice ra 0 rc,.int .i64 0,.string ⟨#[]⟩,.int .i64 0,.slice va 0 vc,.int .i64 0,.bool true,.int .i64 steps,.int .i64 looks,.int .i64 hits,.slice ma memo.length mc] 35))):=(Below.refl _ _).alloc (Nat.le_refl _) _
  go_enter Tryz.func110,Tryz.ntmps110
  go_wp2
  go_ret
  exact ⟨ret_bool HF.out.symm,HB0.out⟩
 by_cases h:steps=0
 rotate_left
 ·have hF:bareB ⟨[],0,⟨#[]⟩,0,[],0,false,steps,looks,hits,memo⟩=false:=bare_no (fun k=>h k.steps)
  have hb:(steps==0)=false:=beq_eq_false_iff_ne.2 h
  clear h
  have HF:Hid (bareB _=false):=hF
  clear hF
  have HB0:Hid (Below w.heap.size w (w.alloc (.cells #[.slice ra 0 rc,.int .i64 0,.string ⟨#[]⟩,.int .i64 0,.slice va 0 vc,.int .i64 0,.bool false,.int .i64 steps,.int .i64 looks,.int .i64 hits,.slice ma memo.length mc] 35))):=(Below.refl _ _).alloc (Nat.le_refl _) _
  have HX0:Hid (Mb (w.alloc (.cells #[.slice ra 0 rc,.int .i64 0,.string ⟨#[]⟩,.int .i64 0,.slice va 0 vc,.int .i64 0,.bool false,.int .i64 steps,.int .i64 looks,.int .i64 hits,.slice ma memo.length mc] 35)) w.heap.size ⟨[],0,⟨#[]⟩,0,[],0,false,steps,looks,hits,memo⟩ ra va ma rc vc mc):=Mb.made _ ⟨[],0,⟨#[]⟩,0,[],0,false,steps,looks,hits,memo⟩ _ _ _ _ _ _ _
  go_enter Tryz.func110,Tryz.ntmps110
  have hE:∀ w:World,(binOp .eql 192 (.agg #[.int .i64 steps,.int .i64 looks,.int .i64 hits]) (.agg #[.int .i64 0,.int .i64 0,.int .i64 0])).run Tryz.prog w=.ok (.bool false) w:=fun w=>by have h:=eql3 steps looks hits w;simpa [hb] using h
  go_wp2_with fail
  refine (iCounts _ ⟨[],0,⟨#[]⟩,0,[],0,false,steps,looks,hits,memo⟩ ra va ma rc vc mc).mono ?_
  rintro e w1 ⟨rfl,hb1⟩
  have HB1:Hid (Below w.heap.size w w1):=HB0.out.trans (hb1.mono HB0.out.size)
  have HX1:Hid (Mb w1 w.heap.size ⟨[],0,⟨#[]⟩,0,[],0,false,steps,looks,hits,memo⟩ ra va ma rc vc mc):=HX0.out.below hb1
  clear hb1
  obtain ⟨m0,m1,m2,m3,m4,m5,m6,m7,m8,m9,m10⟩:=HX1.out
  go_wp2
  go_ret
  exact ⟨ret_bool HF.out.symm,HB1.out⟩
 subst h
 by_cases h:looks=0
 rotate_left
 ·have hF:bareB ⟨[],0,⟨#[]⟩,0,[],0,false,0,looks,hits,memo⟩=false:=bare_no (fun k=>h k.looks)
  have hb:(looks==0)=false:=beq_eq_false_iff_ne.2 h
  clear h
  have HF:Hid (bareB _=false):=hF
  clear hF
  have HB0:Hid (Below w.heap.size w (w.alloc (.cells #[.slice ra 0 rc,.int .i64 0,.string ⟨#[]⟩,.int .i64 0,.slice va 0 vc,.int .i64 0,.bool false,.int .i64 0,.int .i64 looks,.int .i64 hits,.slice ma memo.length mc] 35))):=(Below.refl _ _).alloc (Nat.le_refl _) _
  have HX0:Hid (Mb (w.alloc (.cells #[.slice ra 0 rc,.int .i64 0,.string ⟨#[]⟩,.int .i64 0,.slice va 0 vc,.int .i64 0,.bool false,.int .i64 0,.int .i64 looks,.int .i64 hits,.slice ma memo.length mc] 35)) w.heap.size ⟨[],0,⟨#[]⟩,0,[],0,false,0,looks,hits,memo⟩ ra va ma rc vc mc):=Mb.made _ ⟨[],0,⟨#[]⟩,0,[],0,false,0,looks,hits,memo⟩ _ _ _ _ _ _ _
  go_enter Tryz.func110,Tryz.ntmps110
  have hE:∀ w:World,(binOp .eql 192 (.agg #[.int .i64 0,.int .i64 looks,.int .i64 hits]) (.agg #[.int .i64 0,.int .i64 0,.int .i64 0])).run Tryz.prog w=.ok (.bool false) w:=fun w=>by have h:=eql3 0 looks hits w;simpa [hb] using h
  go_wp2_with fail
  refine (iCounts _ ⟨[],0,⟨#[]⟩,0,[],0,false,0,looks,hits,memo⟩ ra va ma rc vc mc).mono ?_
  rintro e w1 ⟨rfl,hb1⟩
  have HB1:Hid (Below w.heap.size w w1):=HB0.out.trans (hb1.mono HB0.out.size)
  have HX1:Hid (Mb w1 w.heap.size ⟨[],0,⟨#[]⟩,0,[],0,false,0,looks,hits,memo⟩ ra va ma rc vc mc):=HX0.out.below hb1
  clear hb1
  obtain ⟨m0,m1,m2,m3,m4,m5,m6,m7,m8,m9,m10⟩:=HX1.out
  go_wp2
  go_ret
  exact ⟨ret_bool HF.out.symm,HB1.out⟩
 subst h
 by_cases h:hits=0
 rotate_left
 ·have hF:bareB ⟨[],0,⟨#[]⟩,0,[],0,false,0,0,hits,memo⟩=false:=bare_no (fun k=>h k.hits)
  have hb:(hits==0)=false:=beq_eq_false_iff_ne.2 h
  clear h
  have HF:Hid (bareB _=false):=hF
  clear hF
  have HB0:Hid (Below w.heap.size w (w.alloc (.cells #[.slice ra 0 rc,.int .i64 0,.string ⟨#[]⟩,.int .i64 0,.slice va 0 vc,.int .i64 0,.bool false,.int .i64 0,.int .i64 0,.int .i64 hits,.slice ma memo.length mc] 35))):=(Below.refl _ _).alloc (Nat.le_refl _) _
  have HX0:Hid (Mb (w.alloc (.cells #[.slice ra 0 rc,.int .i64 0,.string ⟨#[]⟩,.int .i64 0,.slice va 0 vc,.int .i64 0,.bool false,.int .i64 0,.int .i64 0,.int .i64 hits,.slice ma memo.length mc] 35)) w.heap.size ⟨[],0,⟨#[]⟩,0,[],0,false,0,0,hits,memo⟩ ra va ma rc vc mc):=Mb.made _ ⟨[],0,⟨#[]⟩,0,[],0,false,0,0,hits,memo⟩ _ _ _ _ _ _ _
  go_enter Tryz.func110,Tryz.ntmps110
  have hE:∀ w:World,(binOp .eql 192 (.agg #[.int .i64 0,.int .i64 0,.int .i64 hits]) (.agg #[.int .i64 0,.int .i64 0,.int .i64 0])).run Tryz.prog w=.ok (.bool false) w:=fun w=>by have h:=eql3 0 0 hits w;simpa [hb] using h
  go_wp2_with fail
  refine (iCounts _ ⟨[],0,⟨#[]⟩,0,[],0,false,0,0,hits,memo⟩ ra va ma rc vc mc).mono ?_
  rintro e w1 ⟨rfl,hb1⟩
  have HB1:Hid (Below w.heap.size w w1):=HB0.out.trans (hb1.mono HB0.out.size)
  have HX1:Hid (Mb w1 w.heap.size ⟨[],0,⟨#[]⟩,0,[],0,false,0,0,hits,memo⟩ ra va ma rc vc mc):=HX0.out.below hb1
  clear hb1
  obtain ⟨m0,m1,m2,m3,m4,m5,m6,m7,m8,m9,m10⟩:=HX1.out
  go_wp2
  go_ret
  exact ⟨ret_bool HF.out.symm,HB1.out⟩
 subst h
 by_cases h:memo=[]
 rotate_left
 ·have hF:bareB ⟨[],0,⟨#[]⟩,0,[],0,false,0,0,0,memo⟩=false:=bare_no (fun k=>h k.memo)
  have hb:((memo.length:Int)==0)=false:=beq_eq_false_iff_ne.2 (fun e=>h (List.length_eq_zero_iff.1 (by omega)))
  clear h
  have HF:Hid (bareB _=false):=hF
  clear hF
  have HB0:Hid (Below w.heap.size w (w.alloc (.cells #[.slice ra 0 rc,.int .i64 0,.string ⟨#[]⟩,.int .i64 0,.slice va 0 vc,.int .i64 0,.bool false,.int .i64 0,.int .i64 0,.int .i64 0,.slice ma memo.length mc] 35))):=(Below.refl _ _).alloc (Nat.le_refl _) _
  have HX0:Hid (Mb (w.alloc (.cells #[.slice ra 0 rc,.int .i64 0,.string ⟨#[]⟩,.int .i64 0,.slice va 0 vc,.int .i64 0,.bool false,.int .i64 0,.int .i64 0,.int .i64 0,.slice ma memo.length mc] 35)) w.heap.size ⟨[],0,⟨#[]⟩,0,[],0,false,0,0,0,memo⟩ ra va ma rc vc mc):=Mb.made _ ⟨[],0,⟨#[]⟩,0,[],0,false,0,0,0,memo⟩ _ _ _ _ _ _ _
  go_enter Tryz.func110,Tryz.ntmps110
  have hE:∀ w:World,(binOp .eql 192 (.agg #[.int .i64 0,.int .i64 0,.int .i64 0]) (.agg #[.int .i64 0,.int .i64 0,.int .i64 0])).run Tryz.prog w=.ok (.bool true) w:=fun w=>by have h:=eql3 0 0 0 w;simpa using h
  go_wp2_with fail
  refine (iCounts _ ⟨[],0,⟨#[]⟩,0,[],0,false,0,0,0,memo⟩ ra va ma rc vc mc).mono ?_
  rintro e w1 ⟨rfl,hb1⟩
  have HB1:Hid (Below w.heap.size w w1):=HB0.out.trans (hb1.mono HB0.out.size)
  have HX1:Hid (Mb w1 w.heap.size ⟨[],0,⟨#[]⟩,0,[],0,false,0,0,0,memo⟩ ra va ma rc vc mc):=HX0.out.below hb1
  clear hb1
  obtain ⟨m0,m1,m2,m3,m4,m5,m6,m7,m8,m9,m10⟩:=HX1.out
  go_wp2
  go_ret
  exact ⟨ret_bool HF.out.symm,HB1.out⟩
 subst h
 have HF:Hid (bareB ⟨[],0,⟨#[]⟩,0,[],0,false,0,0,0,[]⟩=true):=bare_yes
 have HB0:Hid (Below w.heap.size w (w.alloc (.cells #[.slice ra 0 rc,.int .i64 0,.string ⟨#[]⟩,.int .i64 0,.slice va 0 vc,.int .i64 0,.bool false,.int .i64 0,.int .i64 0,.int .i64 0,.slice ma 0 mc] 35))):=(Below.refl _ _).alloc (Nat.le_refl _) _
 have HX0:Hid (Mb (w.alloc (.cells #[.slice ra 0 rc,.int .i64 0,.string ⟨#[]⟩,.int .i64 0,.slice va 0 vc,.int .i64 0,.bool false,.int .i64 0,.int .i64 0,.int .i64 0,.slice ma 0 mc] 35)) w.heap.size ⟨[],0,⟨#[]⟩,0,[],0,false,0,0,0,[]⟩ ra va ma rc vc mc):=Mb.made _ ⟨[],0,⟨#[]⟩,0,[],0,false,0,0,0,[]⟩ _ _ _ _ _ _ _
 go_enter Tryz.func110,Tryz.ntmps110
 have hE:∀ w:World,(binOp .eql 192 (.agg #[.int .i64 0,.int .i64 0,.int .i64 0]) (.agg #[.int .i64 0,.int .i64 0,.int .i64 0])).run Tryz.prog w=.ok (.bool true) w:=fun w=>by have h:=eql3 0 0 0 w;simpa using h
 go_wp2_with fail
 refine (iCounts _ ⟨[],0,⟨#[]⟩,0,[],0,false,0,0,0,[]⟩ ra va ma rc vc mc).mono ?_
 rintro e w1 ⟨rfl,hb1⟩
 have HB1:Hid (Below w.heap.size w w1):=HB0.out.trans (hb1.mono HB0.out.size)
 have HX1:Hid (Mb w1 w.heap.size ⟨[],0,⟨#[]⟩,0,[],0,false,0,0,0,[]⟩ ra va ma rc vc mc):=HX0.out.below hb1
 clear hb1
 obtain ⟨m0,m1,m2,m3,m4,m5,m6,m7,m8,m9,m10⟩:=HX1.out
 go_wp2
 go_ret
 exact ⟨ret_bool HF.out.symm,HB1.out⟩
end Jb2p
end Go.Proofs.YtladjpombohpaaaGreatDoor
