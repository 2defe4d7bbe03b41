import Derived.WalkSpells
import Derived.Deep.Light
import Derived.Test.YtbellafdjfliiaaGreatPkBOM35
namespace Go.Proofs.YtbellafdjfliiaaGreat
set_option maxRecDepth 100000
set_option maxHeartbeats 8000000
set_option linter.unusedVariables false
namespace Pg4
open Go.RowKit
open Nd0 Tm0 Tm5 Pl1 Ap0 Pg1 Pg2 Pg3
open Ws1 (ret_int ret_bool)
theorem below_drewN {B:Nat} {u w:World} (h:Below B u w) (n:Nat):Below B u (w.drewN n):=⟨h.os,h.tape,h.output,h.size,h.block⟩
def fitsB (n:Nd) (ws:List Int):Bool :=
 if n.op=0 then wok n.w n.k
 else if n.op=1 then decide (0<=n.k/\n.k<=7)
 else if n.op=2 then decide (ws.getD 0 0=n.w)
 else if 3<=n.op/\n.op<=12 then decide (ws.getD 0 0=n.w/\ws.getD 1 0=n.w)
 else if 13<=n.op/\n.op<=15 then decide (ws.getD 0 0=ws.getD 1 0/\n.w=1)
 else if n.op=16 then decide (ws.getD 0 0+ws.getD 1 0=n.w)
 else if n.op=17 then decide (0<=n.k/\n.k<=ws.getD 0 0 - n.w)
 else if n.op=18 then decide (ws.getD 0 0=1/\ws.getD 1 0=n.w/\ws.getD 2 0=n.w)
 else if n.op=19\/n.op=20 then decide (0<=n.k/\n.k<=7/\1<=n.b/\n.b<=8/\ws.getD 0 0=1/\n.w=1)
 else false
theorem fits2 (w:World) (xb xo len c:Nat) (m k b d x0:Int) (hl:len<=80) (ja:Nat) (hj:ja < len) (p0:w.cell? ⟨xb,xo+ja*6+1,none⟩=some (.int .i64 x0)) (hx0:1<=x0/\x0<=8) (hm:1<=m/\m<=8) :
 Calls Tryz.prog 87 #[.slice (some ⟨xb,xo,none⟩) len c,.agg #[.int .i64 2,.int .i64 m,.int .i64 k,.int .i64 ja,.int .i64 b,.int .i64 d]] w fun e w' =>
  e=.returned (.bool (fitsB ⟨2,m,k,ja,b,d⟩ [x0]))/\Below w.heap.size w w':=by
 have hxb:xb < w.heap.size:=lt_of_cell (p:=⟨xb,_,none⟩) p0
 have hxn:¬ xb=w.heap.size:=by omega
 obtain ⟨hm1,hm2⟩:=hm
 have hjz:(ja:Int) < (len:Int):=by omega
 obtain ⟨hx1,hx2⟩:=hx0
 have HF:Hid (fitsB ⟨2,m,k,ja,b,d⟩ [x0]=decide (x0=m)):=by show _=_;simp [fitsB]
 go_enter Tryz.func87,Tryz.ntmps87
 go_wp2_with (first|(go_at_call 91;refine (iWordOk _ _ _).mono ?_;rintro e w' ⟨rfl,rfl⟩)|(go_at_call 96;refine (iVarOk _ _).mono ?_;rintro e w' ⟨rfl,rfl⟩)|(go_at_call 84;refine (iWidthOk _ _).mono ?_;rintro e w' ⟨rfl,rfl⟩))
 refine wp_region_quiet_lit (by kernel_rfl) (by kernel_rfl) ?_
 repeat (any_goals (first|go_big_quiet_step (fail)|quiet_step (fail)|(refine wpQuiet_step (fun K hK=>?_);go_simp;split<;>(refine hK _ ?_;clear hK K))))
 all_goals (refine wpQuiet_nil ?_;intro _ hw';obtain ⟨nq,hw''⟩:=hw';subst hw'')
 all_goals
  go_wp2
  go_ret
  refine ⟨ret_bool ?_,below_drewN ((Below.refl _ _).alloc (Nat.le_refl _) _) _⟩
  rw [HF.out,Bool.eq_iff_iff]
  go_light
  simp_all<;>omega
theorem fits17 (w:World) (xb xo len c:Nat) (m k b d x0:Int) (hl:len<=80) (ja:Nat) (hj:ja < len) (p0:w.cell? ⟨xb,xo+ja*6+1,none⟩=some (.int .i64 x0)) (hx0:1<=x0/\x0<=8) (hm:1<=m/\m<=8) :
 Calls Tryz.prog 87 #[.slice (some ⟨xb,xo,none⟩) len c,.agg #[.int .i64 17,.int .i64 m,.int .i64 k,.int .i64 ja,.int .i64 b,.int .i64 d]] w fun e w' =>
  e=.returned (.bool (fitsB ⟨17,m,k,ja,b,d⟩ [x0]))/\Below w.heap.size w w':=by
 have hxb:xb < w.heap.size:=lt_of_cell (p:=⟨xb,_,none⟩) p0
 have hxn:¬ xb=w.heap.size:=by omega
 obtain ⟨hm1,hm2⟩:=hm
 have hjz:(ja:Int) < (len:Int):=by omega
 obtain ⟨hx1,hx2⟩:=hx0
 have HF:Hid (fitsB ⟨17,m,k,ja,b,d⟩ [x0]=decide (0<=k/\k<=x0 - m)):=by show _=_;simp [fitsB]
 go_enter Tryz.func87,Tryz.ntmps87
 go_wp2_with (first|(go_at_call 91;refine (iWordOk _ _ _).mono ?_;rintro e w' ⟨rfl,rfl⟩)|(go_at_call 96;refine (iVarOk _ _).mono ?_;rintro e w' ⟨rfl,rfl⟩)|(go_at_call 84;refine (iWidthOk _ _).mono ?_;rintro e w' ⟨rfl,rfl⟩))
 refine wp_region_quiet_lit (by kernel_rfl) (by kernel_rfl) ?_
 repeat (any_goals (first|go_big_quiet_step (fail)|quiet_step (fail)|(refine wpQuiet_step (fun K hK=>?_);go_simp;split<;>(refine hK _ ?_;clear hK K))))
 all_goals (refine wpQuiet_nil ?_;intro _ hw';obtain ⟨nq,hw''⟩:=hw';subst hw'')
 all_goals
  go_wp2
  go_ret
  refine ⟨ret_bool ?_,below_drewN ((Below.refl _ _).alloc (Nat.le_refl _) _) _⟩
  rw [HF.out,Bool.eq_iff_iff]
  go_light
  simp_all<;>omega
theorem fits19 (w:World) (xb xo len c:Nat) (m k b d x0:Int) (hl:len<=80) (ja:Nat) (hj:ja < len) (p0:w.cell? ⟨xb,xo+ja*6+1,none⟩=some (.int .i64 x0)) (hx0:1<=x0/\x0<=8) (hm:1<=m/\m<=8) :
 Calls Tryz.prog 87 #[.slice (some ⟨xb,xo,none⟩) len c,.agg #[.int .i64 19,.int .i64 m,.int .i64 k,.int .i64 ja,.int .i64 b,.int .i64 d]] w fun e w' =>
  e=.returned (.bool (fitsB ⟨19,m,k,ja,b,d⟩ [x0]))/\Below w.heap.size w w':=by
 have hxb:xb < w.heap.size:=lt_of_cell (p:=⟨xb,_,none⟩) p0
 have hxn:¬ xb=w.heap.size:=by omega
 obtain ⟨hm1,hm2⟩:=hm
 have hjz:(ja:Int) < (len:Int):=by omega
 obtain ⟨hx1,hx2⟩:=hx0
 have HF:Hid (fitsB ⟨19,m,k,ja,b,d⟩ [x0]=decide (0<=k/\k<=7/\1<=b/\b<=8/\x0=1/\m=1)):=by show _=_;simp [fitsB]
 go_enter Tryz.func87,Tryz.ntmps87
 go_wp2_with (first|(go_at_call 91;refine (iWordOk _ _ _).mono ?_;rintro e w' ⟨rfl,rfl⟩)|(go_at_call 96;refine (iVarOk _ _).mono ?_;rintro e w' ⟨rfl,rfl⟩)|(go_at_call 84;refine (iWidthOk _ _).mono ?_;rintro e w' ⟨rfl,rfl⟩))
 all_goals
  go_ret
  refine ⟨ret_bool ?_,(Below.refl _ _).alloc (Nat.le_refl _) _⟩
  rw [HF.out,Bool.eq_iff_iff]
  simp_all<;>omega
theorem fits20 (w:World) (xb xo len c:Nat) (m k b d x0:Int) (hl:len<=80) (ja:Nat) (hj:ja < len) (p0:w.cell? ⟨xb,xo+ja*6+1,none⟩=some (.int .i64 x0)) (hx0:1<=x0/\x0<=8) (hm:1<=m/\m<=8) :
 Calls Tryz.prog 87 #[.slice (some ⟨xb,xo,none⟩) len c,.agg #[.int .i64 20,.int .i64 m,.int .i64 k,.int .i64 ja,.int .i64 b,.int .i64 d]] w fun e w' =>
  e=.returned (.bool (fitsB ⟨20,m,k,ja,b,d⟩ [x0]))/\Below w.heap.size w w':=by
 have hxb:xb < w.heap.size:=lt_of_cell (p:=⟨xb,_,none⟩) p0
 have hxn:¬ xb=w.heap.size:=by omega
 obtain ⟨hm1,hm2⟩:=hm
 have hjz:(ja:Int) < (len:Int):=by omega
 obtain ⟨hx1,hx2⟩:=hx0
 have HF:Hid (fitsB ⟨20,m,k,ja,b,d⟩ [x0]=decide (0<=k/\k<=7/\1<=b/\b<=8/\x0=1/\m=1)):=by show _=_;simp [fitsB]
 go_enter Tryz.func87,Tryz.ntmps87
 go_wp2_with (first|(go_at_call 91;refine (iWordOk _ _ _).mono ?_;rintro e w' ⟨rfl,rfl⟩)|(go_at_call 96;refine (iVarOk _ _).mono ?_;rintro e w' ⟨rfl,rfl⟩)|(go_at_call 84;refine (iWidthOk _ _).mono ?_;rintro e w' ⟨rfl,rfl⟩))
 all_goals
  go_ret
  refine ⟨ret_bool ?_,(Below.refl _ _).alloc (Nat.le_refl _) _⟩
  rw [HF.out,Bool.eq_iff_iff]
  simp_all<;>omega
theorem fits3 (w:World) (xb xo len c:Nat) (m k d x0 x1:Int) (hl:len<=80) (ja jb:Nat) (hj:ja < len) (hj':jb < len) (p0:w.cell? ⟨xb,xo+ja*6+1,none⟩=some (.int .i64 x0)) (hx0:1<=x0/\x0<=8) (p1:w.cell? ⟨xb,xo+jb*6+1,none⟩=some (.int .i64 x1)) (hx1':1<=x1/\x1<=8) (hm:1<=m/\m<=8) :
 Calls Tryz.prog 87 #[.slice (some ⟨xb,xo,none⟩) len c,.agg #[.int .i64 3,.int .i64 m,.int .i64 k,.int .i64 ja,.int .i64 jb,.int .i64 d]] w fun e w' =>
  e=.returned (.bool (fitsB ⟨3,m,k,ja,jb,d⟩ [x0,x1]))/\Below w.heap.size w w':=by
 have hxb:xb < w.heap.size:=lt_of_cell (p:=⟨xb,_,none⟩) p0
 have hxn:¬ xb=w.heap.size:=by omega
 obtain ⟨hm1,hm2⟩:=hm
 have hjz:(ja:Int) < (len:Int):=by omega
 obtain ⟨hx1,hx2⟩:=hx0
 have hjz':(jb:Int) < (len:Int):=by omega
 obtain ⟨hx3,hx4⟩:=hx1'
 have HF:Hid (fitsB ⟨3,m,k,ja,jb,d⟩ [x0,x1]=decide (x0=m/\x1=m)):=by show _=_;simp [fitsB]
 go_enter Tryz.func87,Tryz.ntmps87
 go_wp2_with (first|(go_at_call 91;refine (iWordOk _ _ _).mono ?_;rintro e w' ⟨rfl,rfl⟩)|(go_at_call 96;refine (iVarOk _ _).mono ?_;rintro e w' ⟨rfl,rfl⟩)|(go_at_call 84;refine (iWidthOk _ _).mono ?_;rintro e w' ⟨rfl,rfl⟩))
 refine wp_region_quiet_lit (by kernel_rfl) (by kernel_rfl) ?_
 repeat (any_goals (first|go_big_quiet_step (fail)|quiet_step (fail)|(refine wpQuiet_step (fun K hK=>?_);go_simp;split<;>(refine hK _ ?_;clear hK K))))
 all_goals (refine wpQuiet_nil ?_;intro _ hw';obtain ⟨nq,hw''⟩:=hw';subst hw'')
 all_goals
  go_wp2
  go_ret
  refine ⟨ret_bool ?_,below_drewN ((Below.refl _ _).alloc (Nat.le_refl _) _) _⟩
  rw [HF.out,Bool.eq_iff_iff]
  go_light
  simp_all<;>omega
theorem fits4 (w:World) (xb xo len c:Nat) (m k d x0 x1:Int) (hl:len<=80) (ja jb:Nat) (hj:ja < len) (hj':jb < len) (p0:w.cell? ⟨xb,xo+ja*6+1,none⟩=some (.int .i64 x0)) (hx0:1<=x0/\x0<=8) (p1:w.cell? ⟨xb,xo+jb*6+1,none⟩=some (.int .i64 x1)) (hx1':1<=x1/\x1<=8) (hm:1<=m/\m<=8) :
 Calls Tryz.prog 87 #[.slice (some ⟨xb,xo,none⟩) len c,.agg #[.int .i64 4,.int .i64 m,.int .i64 k,.int .i64 ja,.int .i64 jb,.int .i64 d]] w fun e w' =>
  e=.returned (.bool (fitsB ⟨4,m,k,ja,jb,d⟩ [x0,x1]))/\Below w.heap.size w w':=by
 have hxb:xb < w.heap.size:=lt_of_cell (p:=⟨xb,_,none⟩) p0
 have hxn:¬ xb=w.heap.size:=by omega
 obtain ⟨hm1,hm2⟩:=hm
 have hjz:(ja:Int) < (len:Int):=by omega
 obtain ⟨hx1,hx2⟩:=hx0
 have hjz':(jb:Int) < (len:Int):=by omega
 obtain ⟨hx3,hx4⟩:=hx1'
 have HF:Hid (fitsB ⟨4,m,k,ja,jb,d⟩ [x0,x1]=decide (x0=m/\x1=m)):=by show _=_;simp [fitsB]
 go_enter Tryz.func87,Tryz.ntmps87
 go_wp2_with (first|(go_at_call 91;refine (iWordOk _ _ _).mono ?_;rintro e w' ⟨rfl,rfl⟩)|(go_at_call 96;refine (iVarOk _ _).mono ?_;rintro e w' ⟨rfl,rfl⟩)|(go_at_call 84;refine (iWidthOk _ _).mono ?_;rintro e w' ⟨rfl,rfl⟩))
 refine wp_region_quiet_lit (by kernel_rfl) (by kernel_rfl) ?_
 repeat (any_goals (first|go_big_quiet_step (fail)|quiet_step (fail)|(refine wpQuiet_step (fun K hK=>?_);go_simp;split<;>(refine hK _ ?_;clear hK K))))
 all_goals (refine wpQuiet_nil ?_;intro _ hw';obtain ⟨nq,hw''⟩:=hw';subst hw'')
 all_goals
  go_wp2
  go_ret
  refine ⟨ret_bool ?_,below_drewN ((Below.refl _ _).alloc (Nat.le_refl _) _) _⟩
  rw [HF.out,Bool.eq_iff_iff]
  go_light
  simp_all<;>omega
theorem fits5 (w:World) (xb xo len c:Nat) (m k d x0 x1:Int) (hl:len<=80) (ja jb:Nat) (hj:ja < len) (hj':jb < len) (p0:w.cell? ⟨xb,xo+ja*6+1,none⟩=some (.int .i64 x0)) (hx0:1<=x0/\x0<=8) (p1:w.cell? ⟨xb,xo+jb*6+1,none⟩=some (.int .i64 x1)) (hx1':1<=x1/\x1<=8) (hm:1<=m/\m<=8) :
 Calls Tryz.prog 87 #[.slice (some ⟨xb,xo,none⟩) len c,.agg #[.int .i64 5,.int .i64 m,.int .i64 k,.int .i64 ja,.int .i64 jb,.int .i64 d]] w fun e w' =>
  e=.returned (.bool (fitsB ⟨5,m,k,ja,jb,d⟩ [x0,x1]))/\Below w.heap.size w w':=by
 have hxb:xb < w.heap.size:=lt_of_cell (p:=⟨xb,_,none⟩) p0
 have hxn:¬ xb=w.heap.size:=by omega
 obtain ⟨hm1,hm2⟩:=hm
 have hjz:(ja:Int) < (len:Int):=by omega
 obtain ⟨hx1,hx2⟩:=hx0
 have hjz':(jb:Int) < (len:Int):=by omega
 obtain ⟨hx3,hx4⟩:=hx1'
 have HF:Hid (fitsB ⟨5,m,k,ja,jb,d⟩ [x0,x1]=decide (x0=m/\x1=m)):=by show _=_;simp [fitsB]
 go_enter Tryz.func87,Tryz.ntmps87
 go_wp2_with (first|(go_at_call 91;refine (iWordOk _ _ _).mono ?_;rintro e w' ⟨rfl,rfl⟩)|(go_at_call 96;refine (iVarOk _ _).mono ?_;rintro e w' ⟨rfl,rfl⟩)|(go_at_call 84;refine (iWidthOk _ _).mono ?_;rintro e w' ⟨rfl,rfl⟩))
 refine wp_region_quiet_lit (by kernel_rfl) (by kernel_rfl) ?_
 repeat (any_goals (first|go_big_quiet_step (fail)|quiet_step (fail)|(refine wpQuiet_step (fun K hK=>?_);go_simp;split<;>(refine hK _ ?_;clear hK K))))
 all_goals (refine wpQuiet_nil ?_;intro _ hw';obtain ⟨nq,hw''⟩:=hw';subst hw'')
 all_goals
  go_wp2
  go_ret
  refine ⟨ret_bool ?_,below_drewN ((Below.refl _ _).alloc (Nat.le_refl _) _) _⟩
  rw [HF.out,Bool.eq_iff_iff]
  go_light
  simp_all<;>omega
theorem fits6 (w:World) (xb xo len c:Nat) (m k d x0 x1:Int) (hl:len<=80) (ja jb:Nat) (hj:ja < len) (hj':jb < len) (p0:w.cell? ⟨xb,xo+ja*6+1,none⟩=some (.int .i64 x0)) (hx0:1<=x0/\x0<=8) (p1:w.cell? ⟨xb,xo+jb*6+1,none⟩=some (.int .i64 x1)) (hx1':1<=x1/\x1<=8) (hm:1<=m/\m<=8) :
 Calls Tryz.prog 87 #[.slice (some ⟨xb,xo,none⟩) len c,.agg #[.int .i64 6,.int .i64 m,.int .i64 k,.int .i64 ja,.int .i64 jb,.int .i64 d]] w fun e w' =>
  e=.returned (.bool (fitsB ⟨6,m,k,ja,jb,d⟩ [x0,x1]))/\Below w.heap.size w w':=by
 have hxb:xb < w.heap.size:=lt_of_cell (p:=⟨xb,_,none⟩) p0
 have hxn:¬ xb=w.heap.size:=by omega
 obtain ⟨hm1,hm2⟩:=hm
 have hjz:(ja:Int) < (len:Int):=by omega
 obtain ⟨hx1,hx2⟩:=hx0
 have hjz':(jb:Int) < (len:Int):=by omega
 obtain ⟨hx3,hx4⟩:=hx1'
 have HF:Hid (fitsB ⟨6,m,k,ja,jb,d⟩ [x0,x1]=decide (x0=m/\x1=m)):=by show _=_;simp [fitsB]
 go_enter Tryz.func87,Tryz.ntmps87
 go_wp2_with (first|(go_at_call 91;refine (iWordOk _ _ _).mono ?_;rintro e w' ⟨rfl,rfl⟩)|(go_at_call 96;refine (iVarOk _ _).mono ?_;rintro e w' ⟨rfl,rfl⟩)|(go_at_call 84;refine (iWidthOk _ _).mono ?_;rintro e w' ⟨rfl,rfl⟩))
 refine wp_region_quiet_lit (by kernel_rfl) (by kernel_rfl) ?_
 repeat (any_goals (first|go_big_quiet_step (fail)|quiet_step (fail)|(refine wpQuiet_step (fun K hK=>?_);go_simp;split<;>(refine hK _ ?_;clear hK K))))
 all_goals (refine wpQuiet_nil ?_;intro _ hw';obtain ⟨nq,hw''⟩:=hw';subst hw'')
 all_goals
  go_wp2
  go_ret
  refine ⟨ret_bool ?_,below_drewN ((Below.refl _ _).alloc (Nat.le_refl _) _) _⟩
  rw [HF.out,Bool.eq_iff_iff]
  go_light
  simp_all<;>omega
theorem fits7 (w:World) (xb xo len c:Nat) (m k d x0 x1:Int) (hl:len<=80) (ja jb:Nat) (hj:ja < len) (hj':jb < len) (p0:w.cell? ⟨xb,xo+ja*6+1,none⟩=some (.int .i64 x0)) (hx0:1<=x0/\x0<=8) (p1:w.cell? ⟨xb,xo+jb*6+1,none⟩=some (.int .i64 x1)) (hx1':1<=x1/\x1<=8) (hm:1<=m/\m<=8) :
 Calls Tryz.prog 87 #[.slice (some ⟨xb,xo,none⟩) len c,.agg #[.int .i64 7,.int .i64 m,.int .i64 k,.int .i64 ja,.int .i64 jb,.int .i64 d]] w fun e w' =>
  e=.returned (.bool (fitsB ⟨7,m,k,ja,jb,d⟩ [x0,x1]))/\Below w.heap.size w w':=by
 have hxb:xb < w.heap.size:=lt_of_cell (p:=⟨xb,_,none⟩) p0
 have hxn:¬ xb=w.heap.size:=by omega
 obtain ⟨hm1,hm2⟩:=hm
 have hjz:(ja:Int) < (len:Int):=by omega
 obtain ⟨hx1,hx2⟩:=hx0
 have hjz':(jb:Int) < (len:Int):=by omega
 obtain ⟨hx3,hx4⟩:=hx1'
 have HF:Hid (fitsB ⟨7,m,k,ja,jb,d⟩ [x0,x1]=decide (x0=m/\x1=m)):=by show _=_;simp [fitsB]
 go_enter Tryz.func87,Tryz.ntmps87
 go_wp2_with (first|(go_at_call 91;refine (iWordOk _ _ _).mono ?_;rintro e w' ⟨rfl,rfl⟩)|(go_at_call 96;refine (iVarOk _ _).mono ?_;rintro e w' ⟨rfl,rfl⟩)|(go_at_call 84;refine (iWidthOk _ _).mono ?_;rintro e w' ⟨rfl,rfl⟩))
 refine wp_region_quiet_lit (by kernel_rfl) (by kernel_rfl) ?_
 repeat (any_goals (first|go_big_quiet_step (fail)|quiet_step (fail)|(refine wpQuiet_step (fun K hK=>?_);go_simp;split<;>(refine hK _ ?_;clear hK K))))
 all_goals (refine wpQuiet_nil ?_;intro _ hw';obtain ⟨nq,hw''⟩:=hw';subst hw'')
 all_goals
  go_wp2
  go_ret
  refine ⟨ret_bool ?_,below_drewN ((Below.refl _ _).alloc (Nat.le_refl _) _) _⟩
  rw [HF.out,Bool.eq_iff_iff]
  go_light
  simp_all<;>omega
theorem fits8 (w:World) (xb xo len c:Nat) (m k d x0 x1:Int) (hl:len<=80) (ja jb:Nat) (hj:ja < len) (hj':jb < len) (p0:w.cell? ⟨xb,xo+ja*6+1,none⟩=some (.int .i64 x0)) (hx0:1<=x0/\x0<=8) (p1:w.cell? ⟨xb,xo+jb*6+1,none⟩=some (.int .i64 x1)) (hx1':1<=x1/\x1<=8) (hm:1<=m/\m<=8) :
 Calls Tryz.prog 87 #[.slice (some ⟨xb,xo,none⟩) len c,.agg #[.int .i64 8,.int .i64 m,.int .i64 k,.int .i64 ja,.int .i64 jb,.int .i64 d]] w fun e w' =>
  e=.returned (.bool (fitsB ⟨8,m,k,ja,jb,d⟩ [x0,x1]))/\Below w.heap.size w w':=by
 have hxb:xb < w.heap.size:=lt_of_cell (p:=⟨xb,_,none⟩) p0
 have hxn:¬ xb=w.heap.size:=by omega
 obtain ⟨hm1,hm2⟩:=hm
 have hjz:(ja:Int) < (len:Int):=by omega
 obtain ⟨hx1,hx2⟩:=hx0
 have hjz':(jb:Int) < (len:Int):=by omega
 obtain ⟨hx3,hx4⟩:=hx1'
 have HF:Hid (fitsB ⟨8,m,k,ja,jb,d⟩ [x0,x1]=decide (x0=m/\x1=m)):=by show _=_;simp [fitsB]
 go_enter Tryz.func87,Tryz.ntmps87
 go_wp2_with (first|(go_at_call 91;refine (iWordOk _ _ _).mono ?_;rintro e w' ⟨rfl,rfl⟩)|(go_at_call 96;refine (iVarOk _ _).mono ?_;rintro e w' ⟨rfl,rfl⟩)|(go_at_call 84;refine (iWidthOk _ _).mono ?_;rintro e w' ⟨rfl,rfl⟩))
 refine wp_region_quiet_lit (by kernel_rfl) (by kernel_rfl) ?_
 repeat (any_goals (first|go_big_quiet_step (fail)|quiet_step (fail)|(refine wpQuiet_step (fun K hK=>?_);go_simp;split<;>(refine hK _ ?_;clear hK K))))
 all_goals (refine wpQuiet_nil ?_;intro _ hw';obtain ⟨nq,hw''⟩:=hw';subst hw'')
 all_goals
  go_wp2
  go_ret
  refine ⟨ret_bool ?_,below_drewN ((Below.refl _ _).alloc (Nat.le_refl _) _) _⟩
  rw [HF.out,Bool.eq_iff_iff]
  go_light
  simp_all<;>omega
theorem fits9 (w:World) (xb xo len c:Nat) (m k d x0 x1:Int) (hl:len<=80) (ja jb:Nat) (hj:ja < len) (hj':jb < len) (p0:w.cell? ⟨xb,xo+ja*6+1,none⟩=some (.int .i64 x0)) (hx0:1<=x0/\x0<=8) (p1:w.cell? ⟨xb,xo+jb*6+1,none⟩=some (.int .i64 x1)) (hx1':1<=x1/\x1<=8) (hm:1<=m/\m<=8) :
 Calls Tryz.prog 87 #[.slice (some ⟨xb,xo,none⟩) len c,.agg #[.int .i64 9,.int .i64 m,.int .i64 k,.int .i64 ja,.int .i64 jb,.int .i64 d]] w fun e w' =>
  e=.returned (.bool (fitsB ⟨9,m,k,ja,jb,d⟩ [x0,x1]))/\Below w.heap.size w w':=by
 have hxb:xb < w.heap.size:=lt_of_cell (p:=⟨xb,_,none⟩) p0
 have hxn:¬ xb=w.heap.size:=by omega
 obtain ⟨hm1,hm2⟩:=hm
 have hjz:(ja:Int) < (len:Int):=by omega
 obtain ⟨hx1,hx2⟩:=hx0
 have hjz':(jb:Int) < (len:Int):=by omega
 obtain ⟨hx3,hx4⟩:=hx1'
 have HF:Hid (fitsB ⟨9,m,k,ja,jb,d⟩ [x0,x1]=decide (x0=m/\x1=m)):=by show _=_;simp [fitsB]
 go_enter Tryz.func87,Tryz.ntmps87
 go_wp2_with (first|(go_at_call 91;refine (iWordOk _ _ _).mono ?_;rintro e w' ⟨rfl,rfl⟩)|(go_at_call 96;refine (iVarOk _ _).mono ?_;rintro e w' ⟨rfl,rfl⟩)|(go_at_call 84;refine (iWidthOk _ _).mono ?_;rintro e w' ⟨rfl,rfl⟩))
 refine wp_region_quiet_lit (by kernel_rfl) (by kernel_rfl) ?_
 repeat (any_goals (first|go_big_quiet_step (fail)|quiet_step (fail)|(refine wpQuiet_step (fun K hK=>?_);go_simp;split<;>(refine hK _ ?_;clear hK K))))
 all_goals (refine wpQuiet_nil ?_;intro _ hw';obtain ⟨nq,hw''⟩:=hw';subst hw'')
 all_goals
  go_wp2
  go_ret
  refine ⟨ret_bool ?_,below_drewN ((Below.refl _ _).alloc (Nat.le_refl _) _) _⟩
  rw [HF.out,Bool.eq_iff_iff]
  go_light
  simp_all<;>omega
theorem fits10 (w:World) (xb xo len c:Nat) (m k d x0 x1:Int) (hl:len<=80) (ja jb:Nat) (hj:ja < len) (hj':jb < len) (p0:w.cell? ⟨xb,xo+ja*6+1,none⟩=some (.int .i64 x0)) (hx0:1<=x0/\x0<=8) (p1:w.cell? ⟨xb,xo+jb*6+1,none⟩=some (.int .i64 x1)) (hx1':1<=x1/\x1<=8) (hm:1<=m/\m<=8) :
 Calls Tryz.prog 87 #[.slice (some ⟨xb,xo,none⟩) len c,.agg #[.int .i64 10,.int .i64 m,.int .i64 k,.int .i64 ja,.int .i64 jb,.int .i64 d]] w fun e w' =>
  e=.returned (.bool (fitsB ⟨10,m,k,ja,jb,d⟩ [x0,x1]))/\Below w.heap.size w w':=by
 have hxb:xb < w.heap.size:=lt_of_cell (p:=⟨xb,_,none⟩) p0
 have hxn:¬ xb=w.heap.size:=by omega
 obtain ⟨hm1,hm2⟩:=hm
 have hjz:(ja:Int) < (len:Int):=by omega
 obtain ⟨hx1,hx2⟩:=hx0
 have hjz':(jb:Int) < (len:Int):=by omega
 obtain ⟨hx3,hx4⟩:=hx1'
 have HF:Hid (fitsB ⟨10,m,k,ja,jb,d⟩ [x0,x1]=decide (x0=m/\x1=m)):=by show _=_;simp [fitsB]
 go_enter Tryz.func87,Tryz.ntmps87
 go_wp2_with (first|(go_at_call 91;refine (iWordOk _ _ _).mono ?_;rintro e w' ⟨rfl,rfl⟩)|(go_at_call 96;refine (iVarOk _ _).mono ?_;rintro e w' ⟨rfl,rfl⟩)|(go_at_call 84;refine (iWidthOk _ _).mono ?_;rintro e w' ⟨rfl,rfl⟩))
 refine wp_region_quiet_lit (by kernel_rfl) (by kernel_rfl) ?_
 repeat (any_goals (first|go_big_quiet_step (fail)|quiet_step (fail)|(refine wpQuiet_step (fun K hK=>?_);go_simp;split<;>(refine hK _ ?_;clear hK K))))
 all_goals (refine wpQuiet_nil ?_;intro _ hw';obtain ⟨nq,hw''⟩:=hw';subst hw'')
 all_goals
  go_wp2
  go_ret
  refine ⟨ret_bool ?_,below_drewN ((Below.refl _ _).alloc (Nat.le_refl _) _) _⟩
  rw [HF.out,Bool.eq_iff_iff]
  go_light
  simp_all<;>omega
theorem fits11 (w:World) (xb xo len c:Nat) (m k d x0 x1:Int) (hl:len<=80) (ja jb:Nat) (hj:ja < len) (hj':jb < len) (p0:w.cell? ⟨xb,xo+ja*6+1,none⟩=some (.int .i64 x0)) (hx0:1<=x0/\x0<=8) (p1:w.cell? ⟨xb,xo+jb*6+1,none⟩=some (.int .i64 x1)) (hx1':1<=x1/\x1<=8) (hm:1<=m/\m<=8) :
 Calls Tryz.prog 87 #[.slice (some ⟨xb,xo,none⟩) len c,.agg #[.int .i64 11,.int .i64 m,.int .i64 k,.int .i64 ja,.int .i64 jb,.int .i64 d]] w fun e w' =>
  e=.returned (.bool (fitsB ⟨11,m,k,ja,jb,d⟩ [x0,x1]))/\Below w.heap.size w w':=by
 have hxb:xb < w.heap.size:=lt_of_cell (p:=⟨xb,_,none⟩) p0
 have hxn:¬ xb=w.heap.size:=by omega
 obtain ⟨hm1,hm2⟩:=hm
 have hjz:(ja:Int) < (len:Int):=by omega
 obtain ⟨hx1,hx2⟩:=hx0
 have hjz':(jb:Int) < (len:Int):=by omega
 obtain ⟨hx3,hx4⟩:=hx1'
 have HF:Hid (fitsB ⟨11,m,k,ja,jb,d⟩ [x0,x1]=decide (x0=m/\x1=m)):=by show _=_;simp [fitsB]
 go_enter Tryz.func87,Tryz.ntmps87
 go_wp2_with (first|(go_at_call 91;refine (iWordOk _ _ _).mono ?_;rintro e w' ⟨rfl,rfl⟩)|(go_at_call 96;refine (iVarOk _ _).mono ?_;rintro e w' ⟨rfl,rfl⟩)|(go_at_call 84;refine (iWidthOk _ _).mono ?_;rintro e w' ⟨rfl,rfl⟩))
 refine wp_region_quiet_lit (by kernel_rfl) (by kernel_rfl) ?_
 repeat (any_goals (first|go_big_quiet_step (fail)|quiet_step (fail)|(refine wpQuiet_step (fun K hK=>?_);go_simp;split<;>(refine hK _ ?_;clear hK K))))
 all_goals (refine wpQuiet_nil ?_;intro _ hw';obtain ⟨nq,hw''⟩:=hw';subst hw'')
 all_goals
  go_wp2
  go_ret
  refine ⟨ret_bool ?_,below_drewN ((Below.refl _ _).alloc (Nat.le_refl _) _) _⟩
  rw [HF.out,Bool.eq_iff_iff]
  go_light
  simp_all<;>omega
theorem fits12 (w:World) (xb xo len c:Nat) (m k d x0 x1:Int) (hl:len<=80) (ja jb:Nat) (hj:ja < len) (hj':jb < len) (p0:w.cell? ⟨xb,xo+ja*6+1,none⟩=some (.int .i64 x0)) (hx0:1<=x0/\x0<=8) (p1:w.cell? ⟨xb,xo+jb*6+1,none⟩=some (.int .i64 x1)) (hx1':1<=x1/\x1<=8) (hm:1<=m/\m<=8) :
 Calls Tryz.prog 87 #[.slice (some ⟨xb,xo,none⟩) len c,.agg #[.int .i64 12,.int .i64 m,.int .i64 k,.int .i64 ja,.int .i64 jb,.int .i64 d]] w fun e w' =>
  e=.returned (.bool (fitsB ⟨12,m,k,ja,jb,d⟩ [x0,x1]))/\Below w.heap.size w w':=by
 have hxb:xb < w.heap.size:=lt_of_cell (p:=⟨xb,_,none⟩) p0
 have hxn:¬ xb=w.heap.size:=by omega
 obtain ⟨hm1,hm2⟩:=hm
 have hjz:(ja:Int) < (len:Int):=by omega
 obtain ⟨hx1,hx2⟩:=hx0
 have hjz':(jb:Int) < (len:Int):=by omega
 obtain ⟨hx3,hx4⟩:=hx1'
 have HF:Hid (fitsB ⟨12,m,k,ja,jb,d⟩ [x0,x1]=decide (x0=m/\x1=m)):=by show _=_;simp [fitsB]
 go_enter Tryz.func87,Tryz.ntmps87
 go_wp2_with (first|(go_at_call 91;refine (iWordOk _ _ _).mono ?_;rintro e w' ⟨rfl,rfl⟩)|(go_at_call 96;refine (iVarOk _ _).mono ?_;rintro e w' ⟨rfl,rfl⟩)|(go_at_call 84;refine (iWidthOk _ _).mono ?_;rintro e w' ⟨rfl,rfl⟩))
 refine wp_region_quiet_lit (by kernel_rfl) (by kernel_rfl) ?_
 repeat (any_goals (first|go_big_quiet_step (fail)|quiet_step (fail)|(refine wpQuiet_step (fun K hK=>?_);go_simp;split<;>(refine hK _ ?_;clear hK K))))
 all_goals (refine wpQuiet_nil ?_;intro _ hw';obtain ⟨nq,hw''⟩:=hw';subst hw'')
 all_goals
  go_wp2
  go_ret
  refine ⟨ret_bool ?_,below_drewN ((Below.refl _ _).alloc (Nat.le_refl _) _) _⟩
  rw [HF.out,Bool.eq_iff_iff]
  go_light
  simp_all<;>omega
theorem fits13 (w:World) (xb xo len c:Nat) (m k d x0 x1:Int) (hl:len<=80) (ja jb:Nat) (hj:ja < len) (hj':jb < len) (p0:w.cell? ⟨xb,xo+ja*6+1,none⟩=some (.int .i64 x0)) (hx0:1<=x0/\x0<=8) (p1:w.cell? ⟨xb,xo+jb*6+1,none⟩=some (.int .i64 x1)) (hx1':1<=x1/\x1<=8) (hm:1<=m/\m<=8) :
 Calls Tryz.prog 87 #[.slice (some ⟨xb,xo,none⟩) len c,.agg #[.int .i64 13,.int .i64 m,.int .i64 k,.int .i64 ja,.int .i64 jb,.int .i64 d]] w fun e w' =>
  e=.returned (.bool (fitsB ⟨13,m,k,ja,jb,d⟩ [x0,x1]))/\Below w.heap.size w w':=by
 have hxb:xb < w.heap.size:=lt_of_cell (p:=⟨xb,_,none⟩) p0
 have hxn:¬ xb=w.heap.size:=by omega
 obtain ⟨hm1,hm2⟩:=hm
 have hjz:(ja:Int) < (len:Int):=by omega
 obtain ⟨hx1,hx2⟩:=hx0
 have hjz':(jb:Int) < (len:Int):=by omega
 obtain ⟨hx3,hx4⟩:=hx1'
 have HF:Hid (fitsB ⟨13,m,k,ja,jb,d⟩ [x0,x1]=decide (x0=x1/\m=1)):=by show _=_;simp [fitsB]
 go_enter Tryz.func87,Tryz.ntmps87
 go_wp2_with (first|(go_at_call 91;refine (iWordOk _ _ _).mono ?_;rintro e w' ⟨rfl,rfl⟩)|(go_at_call 96;refine (iVarOk _ _).mono ?_;rintro e w' ⟨rfl,rfl⟩)|(go_at_call 84;refine (iWidthOk _ _).mono ?_;rintro e w' ⟨rfl,rfl⟩))
 refine wp_region_quiet_lit (by kernel_rfl) (by kernel_rfl) ?_
 repeat (any_goals (first|go_big_quiet_step (fail)|quiet_step (fail)|(refine wpQuiet_step (fun K hK=>?_);go_simp;split<;>(refine hK _ ?_;clear hK K))))
 all_goals (refine wpQuiet_nil ?_;intro _ hw';obtain ⟨nq,hw''⟩:=hw';subst hw'')
 all_goals
  go_wp2
  go_ret
  refine ⟨ret_bool ?_,below_drewN ((Below.refl _ _).alloc (Nat.le_refl _) _) _⟩
  rw [HF.out,Bool.eq_iff_iff]
  go_light
  simp_all<;>omega
theorem fits14 (w:World) (xb xo len c:Nat) (m k d x0 x1:Int) (hl:len<=80) (ja jb:Nat) (hj:ja < len) (hj':jb < len) (p0:w.cell? ⟨xb,xo+ja*6+1,none⟩=some (.int .i64 x0)) (hx0:1<=x0/\x0<=8) (p1:w.cell? ⟨xb,xo+jb*6+1,none⟩=some (.int .i64 x1)) (hx1':1<=x1/\x1<=8) (hm:1<=m/\m<=8) :
 Calls Tryz.prog 87 #[.slice (some ⟨xb,xo,none⟩) len c,.agg #[.int .i64 14,.int .i64 m,.int .i64 k,.int .i64 ja,.int .i64 jb,.int .i64 d]] w fun e w' =>
  e=.returned (.bool (fitsB ⟨14,m,k,ja,jb,d⟩ [x0,x1]))/\Below w.heap.size w w':=by
 have hxb:xb < w.heap.size:=lt_of_cell (p:=⟨xb,_,none⟩) p0
 have hxn:¬ xb=w.heap.size:=by omega
 obtain ⟨hm1,hm2⟩:=hm
 have hjz:(ja:Int) < (len:Int):=by omega
 obtain ⟨hx1,hx2⟩:=hx0
 have hjz':(jb:Int) < (len:Int):=by omega
 obtain ⟨hx3,hx4⟩:=hx1'
 have HF:Hid (fitsB ⟨14,m,k,ja,jb,d⟩ [x0,x1]=decide (x0=x1/\m=1)):=by show _=_;simp [fitsB]
 go_enter Tryz.func87,Tryz.ntmps87
 go_wp2_with (first|(go_at_call 91;refine (iWordOk _ _ _).mono ?_;rintro e w' ⟨rfl,rfl⟩)|(go_at_call 96;refine (iVarOk _ _).mono ?_;rintro e w' ⟨rfl,rfl⟩)|(go_at_call 84;refine (iWidthOk _ _).mono ?_;rintro e w' ⟨rfl,rfl⟩))
 refine wp_region_quiet_lit (by kernel_rfl) (by kernel_rfl) ?_
 repeat (any_goals (first|go_big_quiet_step (fail)|quiet_step (fail)|(refine wpQuiet_step (fun K hK=>?_);go_simp;split<;>(refine hK _ ?_;clear hK K))))
 all_goals (refine wpQuiet_nil ?_;intro _ hw';obtain ⟨nq,hw''⟩:=hw';subst hw'')
 all_goals
  go_wp2
  go_ret
  refine ⟨ret_bool ?_,below_drewN ((Below.refl _ _).alloc (Nat.le_refl _) _) _⟩
  rw [HF.out,Bool.eq_iff_iff]
  go_light
  simp_all<;>omega
theorem fits15 (w:World) (xb xo len c:Nat) (m k d x0 x1:Int) (hl:len<=80) (ja jb:Nat) (hj:ja < len) (hj':jb < len) (p0:w.cell? ⟨xb,xo+ja*6+1,none⟩=some (.int .i64 x0)) (hx0:1<=x0/\x0<=8) (p1:w.cell? ⟨xb,xo+jb*6+1,none⟩=some (.int .i64 x1)) (hx1':1<=x1/\x1<=8) (hm:1<=m/\m<=8) :
 Calls Tryz.prog 87 #[.slice (some ⟨xb,xo,none⟩) len c,.agg #[.int .i64 15,.int .i64 m,.int .i64 k,.int .i64 ja,.int .i64 jb,.int .i64 d]] w fun e w' =>
  e=.returned (.bool (fitsB ⟨15,m,k,ja,jb,d⟩ [x0,x1]))/\Below w.heap.size w w':=by
 have hxb:xb < w.heap.size:=lt_of_cell (p:=⟨xb,_,none⟩) p0
 have hxn:¬ xb=w.heap.size:=by omega
 obtain ⟨hm1,hm2⟩:=hm
 have hjz:(ja:Int) < (len:Int):=by omega
 obtain ⟨hx1,hx2⟩:=hx0
 have hjz':(jb:Int) < (len:Int):=by omega
 obtain ⟨hx3,hx4⟩:=hx1'
 have HF:Hid (fitsB ⟨15,m,k,ja,jb,d⟩ [x0,x1]=decide (x0=x1/\m=1)):=by show _=_;simp [fitsB]
 go_enter Tryz.func87,Tryz.ntmps87
 go_wp2_with (first|(go_at_call 91;refine (iWordOk _ _ _).mono ?_;rintro e w' ⟨rfl,rfl⟩)|(go_at_call 96;refine (iVarOk _ _).mono ?_;rintro e w' ⟨rfl,rfl⟩)|(go_at_call 84;refine (iWidthOk _ _).mono ?_;rintro e w' ⟨rfl,rfl⟩))
 refine wp_region_quiet_lit (by kernel_rfl) (by kernel_rfl) ?_
 repeat (any_goals (first|go_big_quiet_step (fail)|quiet_step (fail)|(refine wpQuiet_step (fun K hK=>?_);go_simp;split<;>(refine hK _ ?_;clear hK K))))
 all_goals (refine wpQuiet_nil ?_;intro _ hw';obtain ⟨nq,hw''⟩:=hw';subst hw'')
 all_goals
  go_wp2
  go_ret
  refine ⟨ret_bool ?_,below_drewN ((Below.refl _ _).alloc (Nat.le_refl _) _) _⟩
  rw [HF.out,Bool.eq_iff_iff]
  go_light
  simp_all<;>omega
theorem fits16 (w:World) (xb xo len c:Nat) (m k d x0 x1:Int) (hl:len<=80) (ja jb:Nat) (hj:ja < len) (hj':jb < len) (p0:w.cell? ⟨xb,xo+ja*6+1,none⟩=some (.int .i64 x0)) (hx0:1<=x0/\x0<=8) (p1:w.cell? ⟨xb,xo+jb*6+1,none⟩=some (.int .i64 x1)) (hx1':1<=x1/\x1<=8) (hm:1<=m/\m<=8) :
 Calls Tryz.prog 87 #[.slice (some ⟨xb,xo,none⟩) len c,.agg #[.int .i64 16,.int .i64 m,.int .i64 k,.int .i64 ja,.int .i64 jb,.int .i64 d]] w fun e w' =>
  e=.returned (.bool (fitsB ⟨16,m,k,ja,jb,d⟩ [x0,x1]))/\Below w.heap.size w w':=by
 have hxb:xb < w.heap.size:=lt_of_cell (p:=⟨xb,_,none⟩) p0
 have hxn:¬ xb=w.heap.size:=by omega
 obtain ⟨hm1,hm2⟩:=hm
 have hjz:(ja:Int) < (len:Int):=by omega
 obtain ⟨hx1,hx2⟩:=hx0
 have hjz':(jb:Int) < (len:Int):=by omega
 obtain ⟨hx3,hx4⟩:=hx1'
 have HF:Hid (fitsB ⟨16,m,k,ja,jb,d⟩ [x0,x1]=decide (x0+x1=m)):=by show _=_;simp [fitsB]
 go_enter Tryz.func87,Tryz.ntmps87
 go_wp2_with (first|(go_at_call 91;refine (iWordOk _ _ _).mono ?_;rintro e w' ⟨rfl,rfl⟩)|(go_at_call 96;refine (iVarOk _ _).mono ?_;rintro e w' ⟨rfl,rfl⟩)|(go_at_call 84;refine (iWidthOk _ _).mono ?_;rintro e w' ⟨rfl,rfl⟩))
 refine wp_region_quiet_lit (by kernel_rfl) (by kernel_rfl) ?_
 repeat (any_goals (first|go_big_quiet_step (fail)|quiet_step (fail)|(refine wpQuiet_step (fun K hK=>?_);go_simp;split<;>(refine hK _ ?_;clear hK K))))
 all_goals (refine wpQuiet_nil ?_;intro _ hw';obtain ⟨nq,hw''⟩:=hw';subst hw'')
 all_goals
  go_wp2
  go_ret
  refine ⟨ret_bool ?_,below_drewN ((Below.refl _ _).alloc (Nat.le_refl _) _) _⟩
  rw [HF.out,Bool.eq_iff_iff]
  go_light
  simp_all<;>omega
theorem fits18 (w:World) (xb xo len c:Nat) (m k x0 x1 x2:Int) (hl:len<=80) (ja jb jc:Nat) (hj:ja < len) (hj':jb < len) (hj'':jc < len) (p0:w.cell? ⟨xb,xo+ja*6+1,none⟩=some (.int .i64 x0)) (hx0:1<=x0/\x0<=8) (p1:w.cell? ⟨xb,xo+jb*6+1,none⟩=some (.int .i64 x1)) (hx1':1<=x1/\x1<=8) (p2:w.cell? ⟨xb,xo+jc*6+1,none⟩=some (.int .i64 x2)) (hx2':1<=x2/\x2<=8) (hm:1<=m/\m<=8) :
 Calls Tryz.prog 87 #[.slice (some ⟨xb,xo,none⟩) len c,.agg #[.int .i64 18,.int .i64 m,.int .i64 k,.int .i64 ja,.int .i64 jb,.int .i64 jc]] w fun e w' =>
  e=.returned (.bool (fitsB ⟨18,m,k,ja,jb,jc⟩ [x0,x1,x2]))/\Below w.heap.size w w':=by
 have hxb:xb < w.heap.size:=lt_of_cell (p:=⟨xb,_,none⟩) p0
 have hxn:¬ xb=w.heap.size:=by omega
 obtain ⟨hm1,hm2⟩:=hm
 have hjz:(ja:Int) < (len:Int):=by omega
 obtain ⟨hx1,hx2⟩:=hx0
 have hjz':(jb:Int) < (len:Int):=by omega
 obtain ⟨hx3,hx4⟩:=hx1'
 have hjz'':(jc:Int) < (len:Int):=by omega
 obtain ⟨hx5,hx6⟩:=hx2'
 have HF:Hid (fitsB ⟨18,m,k,ja,jb,jc⟩ [x0,x1,x2]=decide (x0=1/\x1=m/\x2=m)):=by show _=_;simp [fitsB]
 go_enter Tryz.func87,Tryz.ntmps87
 go_wp2_with (first|(go_at_call 91;refine (iWordOk _ _ _).mono ?_;rintro e w' ⟨rfl,rfl⟩)|(go_at_call 96;refine (iVarOk _ _).mono ?_;rintro e w' ⟨rfl,rfl⟩)|(go_at_call 84;refine (iWidthOk _ _).mono ?_;rintro e w' ⟨rfl,rfl⟩))
 refine wp_region_quiet_lit (by kernel_rfl) (by kernel_rfl) ?_
 repeat (any_goals (first|go_big_quiet_step (fail)|quiet_step (fail)|(refine wpQuiet_step (fun K hK=>?_);go_simp;split<;>(refine hK _ ?_;clear hK K))))
 all_goals (refine wpQuiet_nil ?_;intro _ hw';obtain ⟨nq,hw''⟩:=hw';subst hw'')
 all_goals
  go_wp2
  go_ret
  refine ⟨ret_bool ?_,below_drewN ((Below.refl _ _).alloc (Nat.le_refl _) _) _⟩
  rw [HF.out,Bool.eq_iff_iff]
  go_light
  simp_all<;>omega
theorem fitsC (w:World) (a:Option Addr) (len c:Nat) (op m k x b d:Int)  :
 Calls Tryz.prog 87 #[.slice a len c,.agg #[.int .i64 0,.int .i64 m,.int .i64 k,.int .i64 x,.int .i64 b,.int .i64 d]] w fun e w' =>
  e=.returned (.bool (fitsB ⟨0,m,k,x,b,d⟩ []))/\Below w.heap.size w w':=by
 have HF:Hid (fitsB ⟨0,m,k,x,b,d⟩ []=wok m k):=by
  show _=_
  simp [fitsB]
 go_enter Tryz.func87,Tryz.ntmps87
 go_wp2_with (first|(go_at_call 91;refine (iWordOk _ _ _).mono ?_;rintro e w' ⟨rfl,rfl⟩)|(go_at_call 96;refine (iVarOk _ _).mono ?_;rintro e w' ⟨rfl,rfl⟩)|(go_at_call 84;refine (iWidthOk _ _).mono ?_;rintro e w' ⟨rfl,rfl⟩))
 go_ret
 refine ⟨ret_bool ?_,(Below.refl _ _).alloc (Nat.le_refl _) _⟩
 first|(rw [HF.out];done)|(rw [HF.out];simp)
theorem fitsV (w:World) (a:Option Addr) (len c:Nat) (op m k x b d:Int)  :
 Calls Tryz.prog 87 #[.slice a len c,.agg #[.int .i64 1,.int .i64 m,.int .i64 k,.int .i64 x,.int .i64 b,.int .i64 d]] w fun e w' =>
  e=.returned (.bool (fitsB ⟨1,m,k,x,b,d⟩ []))/\Below w.heap.size w w':=by
 have HF:Hid (fitsB ⟨1,m,k,x,b,d⟩ []=decide (0<=k/\k<=7)):=by
  show _=_
  simp [fitsB]
 go_enter Tryz.func87,Tryz.ntmps87
 go_wp2_with (first|(go_at_call 91;refine (iWordOk _ _ _).mono ?_;rintro e w' ⟨rfl,rfl⟩)|(go_at_call 96;refine (iVarOk _ _).mono ?_;rintro e w' ⟨rfl,rfl⟩)|(go_at_call 84;refine (iWidthOk _ _).mono ?_;rintro e w' ⟨rfl,rfl⟩))
 go_ret
 refine ⟨ret_bool ?_,(Below.refl _ _).alloc (Nat.le_refl _) _⟩
 first|(rw [HF.out];done)|(rw [HF.out];simp)
theorem fitsN (w:World) (a:Option Addr) (len c:Nat) (op m k x b d:Int) (hop:op < 0\/20 < op) :
 Calls Tryz.prog 87 #[.slice a len c,.agg #[.int .i64 op,.int .i64 m,.int .i64 k,.int .i64 x,.int .i64 b,.int .i64 d]] w fun e w' =>
  e=.returned (.bool (fitsB ⟨op,m,k,x,b,d⟩ []))/\Below w.heap.size w w':=by
 have HF:Hid (fitsB ⟨op,m,k,x,b,d⟩ []=false):=by
  show _=_
  unfold fitsB;dsimp only;rw [if_neg (by omega),if_neg (by omega),if_neg (by omega),if_neg (by omega),if_neg (by omega),if_neg (by omega),if_neg (by omega),if_neg (by omega),if_neg (by omega)]
 have t0:(op==0)=false:=by simp;omega
 have t1:(op==1)=false:=by simp;omega
 have t2:(op==2)=false:=by simp;omega
 have t3:(op==3)=false:=by simp;omega
 have t4:(op==4)=false:=by simp;omega
 have t5:(op==5)=false:=by simp;omega
 have t6:(op==6)=false:=by simp;omega
 have t7:(op==7)=false:=by simp;omega
 have t8:(op==8)=false:=by simp;omega
 have t9:(op==9)=false:=by simp;omega
 have t10:(op==10)=false:=by simp;omega
 have t11:(op==11)=false:=by simp;omega
 have t12:(op==12)=false:=by simp;omega
 have t13:(op==13)=false:=by simp;omega
 have t14:(op==14)=false:=by simp;omega
 have t15:(op==15)=false:=by simp;omega
 have t16:(op==16)=false:=by simp;omega
 have t17:(op==17)=false:=by simp;omega
 have t18:(op==18)=false:=by simp;omega
 have t19:(op==19)=false:=by simp;omega
 have t20:(op==20)=false:=by simp;omega
 clear hop
 go_enter Tryz.func87,Tryz.ntmps87
 go_wp2_with (first|(go_at_call 91;refine (iWordOk _ _ _).mono ?_;rintro e w' ⟨rfl,rfl⟩)|(go_at_call 96;refine (iVarOk _ _).mono ?_;rintro e w' ⟨rfl,rfl⟩)|(go_at_call 84;refine (iWidthOk _ _).mono ?_;rintro e w' ⟨rfl,rfl⟩))
 go_ret
 refine ⟨ret_bool ?_,(Below.refl _ _).alloc (Nat.le_refl _) _⟩
 first|(rw [HF.out];done)|(rw [HF.out];simp)
end Pg4
end Go.Proofs.YtbellafdjfliiaaGreat
