import Derived.Test.YtebejleeadofcaaGreatPkFR50
namespace Go.Proofs.YtebejleeadofcaaGreat
set_option maxRecDepth 100000
set_option maxHeartbeats 8000000
set_option linter.unusedVariables false
namespace Pv3
open Go.RowKit
open Nd0 Pl1 Pl2 Vl1 Vl2 Bt0 Wd1 Wd2 Wd3 Wd4 Wd5 Ic4 Pv1
open Sv1 (Rg below1)
theorem eqIn_func (d:Nat) (f:Fn) (x y:Array Value) (w:World):(Op.equalIn (d+1) 132 (.func f x y) .nilFunc).run Tryz.prog w=.ok false w:=by
 simp [Op.equalIn,run_underlying Tryz.underlying132]
theorem eqIn_nil (d:Nat) (w:World):(Op.equalIn (d+1) 132 .nilFunc .nilFunc).run Tryz.prog w=.ok true w:=by
 simp [Op.equalIn,run_underlying Tryz.underlying132]
theorem eql_func (f:Fn) (x y:Array Value) (w:World):(binOp .eql 132 (.func f x y) .nilFunc).run Tryz.prog w=.ok (.bool false) w:=by
 have h:(Op.equal 132 (.func f x y) .nilFunc).run Tryz.prog w=.ok false w:=eqIn_func 9999 f x y w
 simp only [binOp]
 simp [h]
theorem eql_nil (w:World):(binOp .eql 132 .nilFunc .nilFunc).run Tryz.prog w=.ok (.bool true) w:=by
 have h:(Op.equal 132 .nilFunc .nilFunc).run Tryz.prog w=.ok true w:=eqIn_nil 9999 w
 simp only [binOp]
 simp [h]
theorem facts7 (w:World) (k:Nat) (f v0 v1 v2 v3 v4 v5:Value) (hk:k < tab.size) (h:tab[k]'hk=f) :
 (((w.alloc (.cells #[v0,v1,v2,v3,v4,v5] 58)).alloc (.cells tab 133)).alloc (.cells tab 133)).cell? ⟨w.heap.size,0,none⟩=some v0 /\
 (((w.alloc (.cells #[v0,v1,v2,v3,v4,v5] 58)).alloc (.cells tab 133)).alloc (.cells tab 133)).cell? ⟨w.heap.size,1,none⟩=some v1 /\
 (((w.alloc (.cells #[v0,v1,v2,v3,v4,v5] 58)).alloc (.cells tab 133)).alloc (.cells tab 133)).cell? ⟨w.heap.size,2,none⟩=some v2 /\
 (((w.alloc (.cells #[v0,v1,v2,v3,v4,v5] 58)).alloc (.cells tab 133)).alloc (.cells tab 133)).cell? ⟨w.heap.size,3,none⟩=some v3 /\
 (((w.alloc (.cells #[v0,v1,v2,v3,v4,v5] 58)).alloc (.cells tab 133)).alloc (.cells tab 133)).cell? ⟨w.heap.size,4,none⟩=some v4 /\
 (((w.alloc (.cells #[v0,v1,v2,v3,v4,v5] 58)).alloc (.cells tab 133)).alloc (.cells tab 133)).cell? ⟨w.heap.size,5,none⟩=some v5 /\
 (((w.alloc (.cells #[v0,v1,v2,v3,v4,v5] 58)).alloc (.cells tab 133)).alloc (.cells tab 133)).cell? ⟨w.heap.size+1+1,k,none⟩=some f:=by
 have hB:Below (w.alloc (.cells #[v0,v1,v2,v3,v4,v5] 58)).heap.size (w.alloc (.cells #[v0,v1,v2,v3,v4,v5] 58)) (((w.alloc (.cells #[v0,v1,v2,v3,v4,v5] 58)).alloc (.cells tab 133)).alloc (.cells tab 133)):=((Below.refl _ _).alloc (Nat.le_refl _) _).alloc (by simp) _
 have e:((w.alloc (.cells #[v0,v1,v2,v3,v4,v5] 58)).alloc (.cells tab 133)).heap.size=w.heap.size+1+1:=by simp
 refine ⟨?_,?_,?_,?_,?_,?_,?_⟩
 ·rw [hB.cell (by simp),World.cell?_alloc_new];rfl
 ·rw [hB.cell (by simp),World.cell?_alloc_new];rfl
 ·rw [hB.cell (by simp),World.cell?_alloc_new];rfl
 ·rw [hB.cell (by simp),World.cell?_alloc_new];rfl
 ·rw [hB.cell (by simp),World.cell?_alloc_new];rfl
 ·rw [hB.cell (by simp),World.cell?_alloc_new];rfl
 ·rw [<- e,World.cell?_alloc_new,<- h]
  exact Array.getElem?_eq_getElem hk
theorem kept7 {W W':World} {b t k:Nat} {v0 v1 v2 v3 v4 v5 f:Value}
 (h:W.cell? ⟨b,0,none⟩=some v0/\W.cell? ⟨b,1,none⟩=some v1/\W.cell? ⟨b,2,none⟩=some v2/\W.cell? ⟨b,3,none⟩=some v3/\W.cell? ⟨b,4,none⟩=some v4/\W.cell? ⟨b,5,none⟩=some v5/\W.cell? ⟨t,k,none⟩=some f) (hb:Below W.heap.size W W') :
 W'.cell? ⟨b,0,none⟩=some v0/\W'.cell? ⟨b,1,none⟩=some v1/\W'.cell? ⟨b,2,none⟩=some v2/\W'.cell? ⟨b,3,none⟩=some v3/\W'.cell? ⟨b,4,none⟩=some v4/\W'.cell? ⟨b,5,none⟩=some v5/\W'.cell? ⟨t,k,none⟩=some f:=by
 obtain ⟨h0,h1,h2,h3,h4,h5,h6⟩:=h
 exact ⟨(hb.cell (lt_of_cell h0)).trans h0,(hb.cell (lt_of_cell h1)).trans h1,(hb.cell (lt_of_cell h2)).trans h2,(hb.cell (lt_of_cell h3)).trans h3,(hb.cell (lt_of_cell h4)).trans h4,(hb.cell (lt_of_cell h5)).trans h5,(hb.cell (lt_of_cell h6)).trans h6⟩
def iApp (n:Nd) (W a b c v:Int) (w:World):Prop :=
 Calls Tryz.prog 90 #[.agg #[.int .i64 n.op,.int .i64 n.w,.int .i64 n.k,.int .i64 n.a,.int .i64 n.b,.int .i64 n.c],.int .i64 W,.int .i64 a,.int .i64 b,.int .i64 c] w fun e w'=>e=.returned (.int .i64 v)/\Below w.heap.size w w'
end Pv3
namespace Pw1
open Go.RowKit
open Nd0 Pl1 Pl2 Vl1 Vl2 Bt0 Wd1 Wd2 Wd3 Wd4 Wd5 Ic4 Pv1 Pv3
open Sv1 (Rg below1)
theorem iAt {n:Nd} {W a b c v:Int} (k f:Nat) (w:World) (h:Rg n W a b c) (hop:n.op=(k:Int)) (hk:k < tab.size) (ht:tab[k]'hk=.func (.func f) #[] #[]) (hf:∀ args w,(callFunc f args).run Tryz.prog w=.ok (.enter f args) w) (hC:Clo f n W a b c v):iApp n W a b c v w:=by
 obtain ⟨h1,h2,h3,h4,h5⟩:=h
 obtain ⟨op,wd,vk,na,nb,nc⟩:=n
 dsimp only at h1 h2 h3 h4 h5 hop
 subst hop
 have HC:Hid (Clo f ⟨(k:Int),wd,vk,na,nb,nc⟩ W a b c v):=hC
 have hts:tab.size=19:=rfl
 have hkz:(k:Int) < 19:=by omega
 have hk0:¬ (k:Int) < 0:=by omega
 have hk9:¬ (19:Int)<=(k:Int):=by omega
 have hef:=eql_func
 have HS0:=facts7 w k _ (.int .i64 (k:Int)) (.int .i64 wd) (.int .i64 vk) (.int .i64 na) (.int .i64 nb) (.int .i64 nc) hk ht
 have hs6:=HS0.2.2.2.2.2.2
 clear hC hk ht
 unfold iApp
 go_enter Tryz.func90,Tryz.ntmps90
 go_wp2_with (first|(go_at_call 50;refine (iWidthOk _ _).mono ?_;rintro e w' ⟨rfl,rfl⟩)|(go_at_call 105;refine (byteOk _ _).mono ?_;rintro e w' ⟨rfl,rfl⟩)|(go_at_call 106;refine (operators _).mono ?_;rintro e w' ⟨rfl,rfl⟩)|refine store_new _ rfl 133 (.tmp 11) (.tmp 36) rfl _ tab _ rfl (by simp) rfl sizeTab rfl oneTab ?_)
 obtain ⟨W3,hW3⟩:∃ W3:World,W3=((w.alloc (.cells #[.int .i64 (k:Int),.int .i64 wd,.int .i64 vk,.int .i64 na,.int .i64 nb,.int .i64 nc] 58)).alloc (.cells tab 133)).alloc (.cells tab 133):=⟨_,rfl⟩
 have HS:W3.cell? ⟨w.heap.size,0,none⟩=some (.int .i64 (k:Int))/\W3.cell? ⟨w.heap.size,1,none⟩=some (.int .i64 wd)/\W3.cell? ⟨w.heap.size,2,none⟩=some (.int .i64 vk)/\W3.cell? ⟨w.heap.size,3,none⟩=some (.int .i64 na)/\W3.cell? ⟨w.heap.size,4,none⟩=some (.int .i64 nb)/\W3.cell? ⟨w.heap.size,5,none⟩=some (.int .i64 nc)/\W3.cell? ⟨w.heap.size+1+1,k,none⟩=some (.func (.func f) #[] #[]):=by
  rw [hW3]
  exact HS0
 have HB3:Hid (Below w.heap.size w W3):=by
  rw [hW3]
  exact (((Below.refl _ _).alloc (Nat.le_refl _) _).alloc (by simp) _).alloc (by simp;omega) _
 rw [<- hW3]
 clear hW3 HS0 hs6
 go_region_held (fun w'=>w'.cell? ⟨w.heap.size,0,none⟩=some (.int .i64 (k:Int))/\w'.cell? ⟨w.heap.size,1,none⟩=some (.int .i64 wd)/\w'.cell? ⟨w.heap.size,2,none⟩=some (.int .i64 vk)/\w'.cell? ⟨w.heap.size,3,none⟩=some (.int .i64 na)/\w'.cell? ⟨w.heap.size,4,none⟩=some (.int .i64 nb)/\w'.cell? ⟨w.heap.size,5,none⟩=some (.int .i64 nc)/\w'.cell? ⟨w.heap.size+1+1,k,none⟩=some (.func (.func f) #[] #[])) ((first|exact HS|exact kept7 (W:=W3.drew) HS hb4)) ((refine (HC.out _).mono ?_;rintro e w4 ⟨rfl,hb4⟩;have HB4:Hid (Below w.heap.size w w4):=HB3.out.drew.trans (hb4.mono HB3.out.size)))
 go_wp2
 go_ret
 exact ⟨rfl,HB4.out⟩
end Pw1
end Go.Proofs.YtebejleeadofcaaGreat
