import Derived.Maps.OwnSet
import Derived.Test.YtladjpombohpaaaGreatDoorPkJE10
namespace Go.Proofs.YtladjpombohpaaaGreatDoor
set_option maxRecDepth 100000
set_option maxHeartbeats 8000000
set_option linter.unusedVariables false
namespace Ms0
open Go.RowKit Go.Maps Go.WideMaps Go.ChangeMaps
open Nd0 (Kept)
theorem law:Keyed Tryz.prog 9:=string_keyed Tryz.underlying9
theorem zeroInt (w:World):(zeroValue 3).run Tryz.prog w=.ok (.int .i64 0) w:=by kernel_rfl
theorem wf_bit {x:Int} (h0 : -1<=x) (h1:x<=1):(Lit.int .i64 x).wf=true:=by
 have e1:IntKind.i64.min = -9223372036854775808:=by decide
 have e2:IntKind.i64.max=9223372036854775807:=by decide
 simp [Lit.wf,e1,e2];omega
/-- The key that a text is. -/
noncomputable def keyS (x:ByteArray):Lit:=(keyOf Tryz.prog 9 (.string x)).getD .nil
theorem key_eq {x:ByteArray} (h:x.size<=maxLen):keyOf Tryz.prog 9 (.string x)=some (keyS x):=by
 unfold keyS
 rw [keyOf_string_mk Tryz.underlying9 h]
 rfl
theorem key_ne {x y:ByteArray} (hx:x.size<=maxLen) (hy:y.size<=maxLen) (h:x≠y):keyS x≠keyS y:=fun e=>h (by
 have:=law.inj (key_eq hx) (by rw [key_eq hy,e])
 cases this
 rfl)
/-- The map in block bm has c keys, and says f. -/
def Ms (w:World) (bm:Nat) (c:Nat) (f:ByteArray->Option Int):Prop :=
 ∃ D:DataW Unit,w.ownsMap Tryz.prog 9 (plainElem Tryz.prog 3) bm c D/\Maps.size D=c/\∀ x,x.size<=maxLen->Maps.has D (keyS x)=(f x).isSome/\∀ v z,f x=some v->D.atKey (keyS x) z=.lit (.int .i64 v)
theorem Ms.new (w:World):Ms (w.alloc (.map #[] 0)) w.heap.size 0 (fun _=>none) :=
 ⟨.map [],World.ownsMap_made w _ _ _,rfl,fun x _=>⟨rfl,fun v z h=>by cases h⟩⟩
theorem Ms.lt {w:World} {bm c:Nat} {f:ByteArray->Option Int} (h:Ms w bm c f):bm < w.heap.size:=by obtain ⟨D,h,_⟩:=h;exact h.lt
theorem Ms.kept {w w':World} {bm c:Nat} {f:ByteArray->Option Int} (h:Ms w bm c f) {S:Nat->Prop} (k:Kept S w w') (hs:¬ S bm):Ms w' bm c f:=by
 obtain ⟨D,ho,hp⟩:=h
 refine ⟨D,?_,hp⟩
 obtain ⟨es,clock,hb,F⟩:=ho
 exact ⟨es,clock,by rw [k.block bm (Array.getElem?_eq_some_iff.1 hb).1 hs];exact hb,F⟩
theorem Ms.below {w w':World} {bm c:Nat} {f:ByteArray->Option Int} (h:Ms w bm c f) (k:Below w.heap.size w w'):Ms w' bm c f:=h.kept (S:=fun _=>False) (Kept.ofBelow k) (fun h=>h)
theorem Ms.len {w:World} {bm c:Nat} {f:ByteArray->Option Int} (h:Ms w bm c f) (ty:TypeId):(Builtin.len_ #[198] ty #[.map (some bm)]).run Tryz.prog w=.ok (.int .i64 (c:Int)) w:=by
 obtain ⟨D,ho,hc,_⟩:=h
 rw [ho.len Tryz.underlying198 ty,hc]
theorem Ms.look {w:World} {bm c:Nat} {f:ByteArray->Option Int} (h:Ms w bm c f) {x:ByteArray} (hx:x.size<=maxLen) :
 (Instr.lookup 198 (.map (some bm)) (.string x) true).run Tryz.prog w=.ok (.tuple #[.int .i64 ((f x).getD 0),.bool (f x).isSome]) w:=by
 obtain ⟨D,ho,_,hp⟩:=h
 obtain ⟨v,ps,hrun,hv⟩:=ho.look_ok law Tryz.underlying198 (zeroInt w) (plainElem_int Tryz.underlying3 (a:=0) rfl) (key_eq hx)
 rw [hrun]
 obtain ⟨h1,h2⟩:=hp x hx
 obtain ⟨a,rfl,hz,_⟩:=plainElem_int_inv Tryz.underlying3 hv
 cases hf:f x with
 | none =>
   rw [hf] at h1
   rw [Maps.atKey_of_not_has h1] at hz
   rw [h1]
   cases hz;rfl
 | some i =>
   rw [hf] at h1
   rw [h1]
   rw [h2 i _ hf] at hz
   cases hz;rfl
/-- One more, or another word on an old one. -/
def putF (f:ByteArray->Option Int) (x:ByteArray) (v:Int):ByteArray->Option Int:=fun y=>if y=x then some v else f y
def delF (f:ByteArray->Option Int) (x:ByteArray):ByteArray->Option Int:=fun y=>if y=x then none else f y
theorem Ms.store {w:World} {bm c:Nat} {f:ByteArray->Option Int} (h:Ms w bm c f) {x:ByteArray} (hx:x.size<=maxLen) {v:Int} (hv0:(Lit.int .i64 v).wf=true) (hl:c<=1048576) :
 ∃ w',(Instr.mapUpdate 198 (.map (some bm)) (.string x) (.int .i64 v)).run Tryz.prog w=.ok () w'/\Ms w' bm (if (f x).isSome then c else c+1) (putF f x v)/\Kept (fun k=>k=bm) w w':=by
 obtain ⟨D,ho,hc,hpp⟩:=h
 obtain ⟨w',hrun,ho',hg⟩:=ho.update law Tryz.underlying198 (by unfold maxLen;omega) (key_eq hx) (plainElem_int Tryz.underlying3 (a:=v) hv0)
 have hsz:=Maps.size_put (ho.tidy law) (k:=keyS x) (.lit (.int .i64 v))
 rw [(hpp x hx).1,hc] at hsz
 have hown:w'.ownsMap Tryz.prog 9 (plainElem Tryz.prog 3) bm (if (f x).isSome then c else c+1) (D.put (keyS x) (.lit (.int .i64 v))):=by
  obtain ⟨es,clock,h1,h2,h3,h4⟩:=ho'
  refine ⟨es,clock,h1,h2,?_,h4⟩
  have e1:Maps.size (DataW.map ((es.toList.map (WideElems.rg Tryz.prog 9 (plainElem (H:=Unit) Tryz.prog 3))).foldr DataW.insert []))=es.size:=by simp [Maps.size,length_sorted]
  rw [<- h4,hsz] at e1
  omega
 refine ⟨w',hrun,⟨_,hown,hsz,fun y hy=>?_⟩,⟨hg.os,hg.tape,hg.output,hg.size,fun i hi hne=>hg.block i hi (fun e=>hne (by cases e;rfl))⟩⟩
 unfold putF
 by_cases e:y=x
 ·subst e
  rw [if_pos rfl]
  exact ⟨Maps.has_put_same ho.isMap (law.key (key_eq hx)) _,fun u z hu=>by cases hu;exact Maps.atKey_put_same ho.isMap (law.key (key_eq hx)) _ z⟩
 ·rw [if_neg e]
  have hk:=key_ne hy hx e
  obtain ⟨h1,h2⟩:=hpp y hy
  exact ⟨by rw [Maps.has_put_other hk];exact h1,fun u z hu=>by rw [Maps.atKey_put_other hk];exact h2 u z hu⟩
end Ms0
namespace Tc1
open Go.RowKit
open Ta0 Ta1
theorem ret_int {k:IntKind} {a b:Int} (h:a=b):Ending.returned (.int k a)=.returned (.int k b):=by rw [h]
theorem msk85:msk 85 8=6148914691236517205:=by decide
theorem msk51:msk 51 8=3689348814741910323:=by decide
theorem msk15:msk 15 8=1085102592571150095:=by decide
theorem and_le_sum (x m:Nat):x &&& m<=m:=Nat.and_le_right
theorem ones (x:Nat) (hx:x < 18446744073709551616) (w:World) :
 Calls Tryz.prog 339 #[.int .u64 (x:Int)] w fun e w'=>e=.returned (.int .i64 (cnt x.testBit 64:Nat))/\w'=w:=by
 obtain ⟨y,hy⟩:∃ y,y=(x / 2 &&& msk 85 8)+(x &&& msk 85 8):=⟨_,rfl⟩
 obtain ⟨z,hz⟩:∃ z,z=(y / 4 &&& msk 51 8)+(y &&& msk 51 8):=⟨_,rfl⟩
 obtain ⟨t,ht⟩:∃ t,t=(z / 16+z) &&& msk 15 8:=⟨_,rfl⟩
 obtain ⟨u,hu⟩:∃ u,u=t+t / 256:=⟨_,rfl⟩
 obtain ⟨v,hv⟩:∃ v,v=u+u / 65536:=⟨_,rfl⟩
 obtain ⟨r,hr⟩:∃ r,r=v+v / 4294967296:=⟨_,rfl⟩
 obtain ⟨hr1,hr2⟩:=pop64 x y z t u v r hx hy hz ht hu hv hr
 have HR:Hid (r % 128=cnt x.testBit 64):=hr2
 rw [msk85] at hy
 rw [msk51] at hz
 rw [msk15] at ht
 have y1:y < 18446744073709551616:=by
  have h1:=and_le_sum (x / 2) 6148914691236517205
  have h2:=and_le_sum x 6148914691236517205
  omega
 have z1:z < 9223372036854775807:=by
  have h1:=and_le_sum (y / 4) 3689348814741910323
  have h2:=and_le_sum y 3689348814741910323
  omega
 have t1:t<=1085102592571150095:=by rw [ht];exact and_le_sum _ _
 have e1:IntKind.u64.wrap (bits .and .u64 ((x:Int) / 2) 6148914691236517205+bits .and .u64 (x:Int) 6148914691236517205)=(y:Int):=by
  have h1:=bits_and_u64_nat (x / 2) 6148914691236517205 (by omega) (by omega)
  have h2:=bits_and_u64_nat x 6148914691236517205 hx (by omega)
  have e:(x:Int) / 2=((x / 2:Nat):Int):=by omega
  rw [e,show (6148914691236517205:Int)=((6148914691236517205:Nat):Int) from rfl,h1,h2,<- Int.natCast_add,<- hy,wrapu y1]
 have e2:IntKind.u64.wrap (bits .and .u64 ((y:Int) / 4) 3689348814741910323+bits .and .u64 (y:Int) 3689348814741910323)=(z:Int):=by
  have h1:=bits_and_u64_nat (y / 4) 3689348814741910323 (by omega) (by omega)
  have h2:=bits_and_u64_nat y 3689348814741910323 y1 (by omega)
  have e:(y:Int) / 4=((y / 4:Nat):Int):=by omega
  rw [e,show (3689348814741910323:Int)=((3689348814741910323:Nat):Int) from rfl,h1,h2,<- Int.natCast_add,<- hz,wrapu (by omega)]
 have e3:bits .and .u64 (IntKind.u64.wrap ((z:Int) / 16+(z:Int))) 1085102592571150095=(t:Int):=by
  have h1:=bits_and_u64_nat (z / 16+z) 1085102592571150095 (by omega) (by omega)
  have e:(z:Int) / 16+(z:Int)=((z / 16+z:Nat):Int):=by omega
  rw [e,wrapu (by omega),show (1085102592571150095:Int)=((1085102592571150095:Nat):Int) from rfl,h1,<- ht]
 have e3':bits .and .u64 ((z:Int) / 16+(z:Int)) 1085102592571150095=(t:Int):=by
  rw [<- e3,show (z:Int) / 16+(z:Int)=((z / 16+z:Nat):Int) by omega,wrapu (by omega)]
 have e4':(t:Int)+(t:Int) / 256=(u:Int):=by omega
 have e5':(u:Int)+(u:Int) / 65536=(v:Int):=by omega
 have e6':(v:Int)+(v:Int) / 4294967296=(r:Int):=by omega
 have e4:IntKind.u64.wrap ((t:Int)+(t:Int) / 256)=(u:Int):=by
  rw [show (t:Int)+(t:Int) / 256=(u:Int) by omega,wrapu (by omega)]
 have e5:IntKind.u64.wrap ((u:Int)+(u:Int) / 65536)=(v:Int):=by
  rw [show (u:Int)+(u:Int) / 65536=(v:Int) by omega,wrapu (by omega)]
 have e6:IntKind.u64.wrap ((v:Int)+(v:Int) / 4294967296)=(r:Int):=by
  rw [show (v:Int)+(v:Int) / 4294967296=(r:Int) by omega,wrapu (by omega)]
 have r1:r < 2 ^ 62:=by omega
 have HE:Hid (bits .and .i64 (r:Int) 127=((cnt x.testBit 64:Nat):Int)):=by
  show _=_
  rw [show (127:Int)=((127:Nat):Int) from rfl,band62 r1 (by omega),<- HR.out,show (127:Nat)=2 ^ 7 - 1 from rfl,Nat.and_two_pow_sub_one_eq_mod]
 have e7:wrap64 (r:Int)=(r:Int):=by unfold wrap64;omega
 have e8:IntKind.u64.wrap (r:Int)=(r:Int):=wrapu (by omega)
 have hy0:Hid (y=(x / 2 &&& 6148914691236517205)+(x &&& 6148914691236517205)):=hy
 clear hy hz ht hu hv hr HR hy0 hr2
 generalize cnt x.testBit 64=c at HE ⊢
 go_enter Tryz.func339,Tryz.ntmps339
 go_wp2
 go_ret
 exact ⟨ret_int HE.out,rfl⟩
end Tc1
namespace Tc6
open Go.RowKit
open Ta0 Ta1 Tc2 Tc4 Tc5
open Nd0 (Kept set_other set_same lt_of_cell)
open Ss0 (bs bs_size ret_str)
open Ss1 (tl tl_length tl_get tl_take bs_tl tl_bs tl_inj eqb)
theorem infoB:(Tryz.prog.info? 5).map (fun i=>(i.zero,i.size,i.bytes))=some (some (.int .u8 0),1,1):=by kernel_rfl
def noughtsB (n:Nat):Array Value:=madeCells #[.int .u8 0] (n*1)
theorem noughtsB_get (n j:Nat) (h:j < n):(noughtsB n)[j]? = some (.int .u8 0):=by
 simp only [noughtsB,madeCells,Array.getElem?_map,Array.getElem?_range]
 rw [if_pos (by omega)]
 simp only [Option.map_some]
 have e:j % 1=0:=Nat.mod_one j
 exact congrArg (fun m=>some ((#[.int .u8 0]:Array Value)[m]!)) e
theorem makeBytes (n:Nat) (hn:n<=1048576) (w:World) :
 (Instr.makeSlice 138 (.int .i64 (n:Int)) (.int .i64 (n:Int))).run Tryz.prog w=.ok (.slice (some ⟨w.heap.size,0,none⟩) n n) (w.alloc (.cells (noughtsB n) 5)):=by
 obtain ⟨i,hi,hzz⟩:=Option.map_eq_some_iff.1 infoB
 simp only [Prod.mk.injEq] at hzz
 obtain ⟨hz,hs,hb⟩:=hzz
 have h:=run_make (P:=Tryz.prog) w 138 5 i _ Tryz.underlying138 hi hz .i64 .i64 n n (by omega) (Int.le_refl _) (by rw [hb];omega) (by omega)
 rw [hs] at h
 simpa [noughtsB,Value.cells] using h
/-- Signs in block c, the first k of them written. -/
def Sgs (W:World) (c P k:Nat) (G:Nat->Bool):Prop:=∀ j,j < P->(∃ v:Int,W.cell? ⟨c,j,none⟩=some (.int .u8 v)/\(j < k->v=((sgn (G j)).toNat:Int)))/\W.frozen? ⟨c,j,none⟩=false
theorem Sgs.kept {W W':World} {c P k:Nat} {G:Nat->Bool} (h:Sgs W c P k G) {S:Nat->Prop} (q:Kept S W W') (hs:¬ S c):Sgs W' c P k G:=fun j hj=>by
 obtain ⟨⟨v,h1,h2⟩,h3⟩:=h j hj
 have hg:c < W.heap.size:=World.block_lt_of_cell? _ _ h1
 exact ⟨⟨v,by rw [q.cell (p:=⟨c,j,none⟩) hg hs];exact h1,h2⟩,by rw [q.frozen (p:=⟨c,j,none⟩) hg hs];exact h3⟩
theorem Sgs.below {W W':World} {c P k:Nat} {G:Nat->Bool} (h:Sgs W c P k G) (q:Below W.heap.size W W'):Sgs W' c P k G:=h.kept (S:=fun _=>False) (Kept.ofBelow q) (fun h=>h)
theorem Sgs.set {W:World} {c P k:Nat} {G:Nat->Bool} (h:Sgs W c P k G) (v:Int) (hv:v=((sgn (G k)).toNat:Int)):Sgs (W.setCell ⟨c,k,none⟩ (.int .u8 v)) c P (k+1) G:=fun j hj=>by
 obtain ⟨⟨u,h1,h2⟩,h3⟩:=h j hj
 by_cases e:j=k
 ·subst e
  exact ⟨⟨v,set_same h1,fun _=>hv⟩,by rw [World.frozen?_setCell];exact h3⟩
 ·exact ⟨⟨u,by rw [set_other (by simp<;>omega)];exact h1,fun x=>h2 (by omega)⟩,by rw [World.frozen?_setCell];exact h3⟩
theorem Sgs.made (W:World) (P:Nat) (G:Nat->Bool):Sgs (W.alloc (.cells (noughtsB P) 5)) W.heap.size P 0 G:=fun j hj =>
 ⟨⟨0,by rw [World.cell?_alloc_new];exact noughtsB_get _ _ hj,fun x=>by omega⟩,by simp⟩
theorem Sgs.text {W:World} {c n:Nat} {G:Nat->Bool} (h:Sgs W c (2 ^ n) (2 ^ n) G):(convert 138 9 (.slice (some ⟨c,0,none⟩) (2 ^ n) (2 ^ n))).run Tryz.prog W=.ok (.string (bs (tab n G))) W:=by
 have:=run_convert_bytes_back (P:=Tryz.prog) W 138 9 5 ⟨c,0,none⟩ (2 ^ n) (tab n G) Tryz.underlying138 Tryz.underlying5 Tryz.underlying9 (fun j hj=>by
  obtain ⟨⟨v,h1,h2⟩,_⟩:=h j (by rw [tab_length] at hj;exact hj)
  rw [tab_get,<- h2 (by rw [tab_length] at hj;exact hj)]
  rw [Addr.add_lit,Nat.zero_add];exact h1)
 rw [tab_length] at this
 exact this
theorem table (n g:Nat) (G:Nat->Bool) (w:World) (hn:n<=12) (hW:Wds w g (nw n) G) :
 Calls Tryz.prog 198 #[pv n (nw n) g] w fun e w'=>e=.returned (tv (n:Int) (bs (tab n G)))/\Below w.heap.size w w':=by
 obtain ⟨hp,hl⟩:=p12 hn
 have hnw:=nw_le hn
 have hgl:=hW.lt (by omega)
 have HW:Hid (Wds w g (nw n) G):=hW
 have HSI:Hid (∀ W,Calls Tryz.prog 194 #[pv n (nw n) g] W fun e w'=>e=.returned (.int .i64 ((2 ^ n:Nat):Int))/\Below W.heap.size W w'):=fun W=>size n g W hn
 have HAT:Hid (∀ (W:World) (k:Nat),k < 2 ^ n->Wds W g (nw n) G->Calls Tryz.prog 251 #[pv n (nw n) g,.int .i64 (k:Int)] W fun e w'=>e=.returned (.int .i64 ((G k).toNat:Int))/\Below W.heap.size W w'):=fun W k h1 h2=>at_ n g k G W hn h1 h2
 have HTX:Hid (∀ W c,Sgs W c (2 ^ n) (2 ^ n) G->(convert 138 9 (.slice (some ⟨c,0,none⟩) (2 ^ n) (2 ^ n))).run Tryz.prog W=.ok (.string (bs (tab n G))) W):=fun W c h=>h.text
 have hmk:=makeBytes (2 ^ n) (by omega)
 clear hW
 generalize bs (tab n G)=S at *
 generalize nw n=m at *
 generalize 2 ^ n=P at *
 go_enter Tryz.func198,Tryz.ntmps198
 go_wp2_with fail
 refine (HSI.out _).mono ?_
 rintro e w1 ⟨rfl,hb1⟩
 have HX0:Hid (Lay w1 w.heap.size (.int .i64 (n:Int)) (.slice (some ⟨g,0,none⟩) m m)):=(((Lay.made w _ _ _).alloc _).below hb1)
 have HR0:Hid (Lay w1 (w.heap.size+1) (.int .i64 0) (.string ByteArray.empty)):=by
  have:=(Lay.made (w.alloc (.cells #[.int .i64 (n:Int),.slice (some ⟨g,0,none⟩) m m] 247)) (.int .i64 0) (.string ByteArray.empty) 32).below hb1
  show Lay _ _ _ _
  simpa using this
 have HB1:Hid (Below w.heap.size w w1):=(((Below.refl _ _).alloc (Nat.le_refl _) _).alloc (by simp) _).trans (hb1.mono (by simp;omega))
 have hs1:w.heap.size+2<=w1.heap.size:=by simpa using hb1.size
 clear hb1
 go_wp2_with fail
 clear hmk
 have HX1:Hid (Lay (w1.alloc (.cells (noughtsB P) 5)) w.heap.size (.int .i64 (n:Int)) (.slice (some ⟨g,0,none⟩) m m)):=HX0.out.alloc _
 go_loopw [10] (fun i wr=>∃ k:Nat,k<=P/\i=.int .i64 k/\Lay wr w.heap.size (.int .i64 (n:Int)) (.slice (some ⟨g,0,none⟩) m m)/\Lay wr (w.heap.size+1) (.int .i64 0) (.string ByteArray.empty)/\Sgs wr w1.heap.size P k G/\Below w.heap.size w wr) (fun i _=>P - (intOf i).toNat)
 case atStart=>exact ⟨0,Nat.zero_le _,rfl,HX0.out.alloc _,HR0.out.alloc _,Sgs.made _ _ _,HB1.out.alloc HB1.out.size _⟩
 case round =>
  obtain ⟨k,hk,rfl,hx,hr,hq,hb⟩:=hrel
  have HX:Hid (Lay wr w.heap.size (.int .i64 (n:Int)) (.slice (some ⟨g,0,none⟩) m m)):=hx
  have HR:Hid (Lay wr (w.heap.size+1) (.int .i64 0) (.string ByteArray.empty)):=hr
  have HQ:Hid (Sgs wr w1.heap.size P k G):=hq
  have HB:Hid (Below w.heap.size w wr):=hb
  clear hb hq
  obtain ⟨x0,x1,_,_⟩:=hx
  by_cases hlt:k < P
  ·clear hr
   have hkz:(k:Int) < (P:Int):=by omega
   cases hG:G k
   all_goals
    have HG:Hid (G k=_):=hG
    go_wp2_with fail
    refine (HAT.out _ k hlt (HW.out.below HB.out)).mono ?_
    rw [hG]
    clear hG
    rintro e w3 ⟨rfl,hb3⟩
    have HQ3:Hid (Sgs w3 w1.heap.size P k G):=HQ.out.below hb3
    have HX3:Hid (Lay w3 w.heap.size (.int .i64 (n:Int)) (.slice (some ⟨g,0,none⟩) m m)):=HX.out.below hb3
    have HR3:Hid (Lay w3 (w.heap.size+1) (.int .i64 0) (.string ByteArray.empty)):=HR.out.below hb3
    have HB3:Hid (Below w.heap.size w w3):=HB.out.trans (hb3.mono HB.out.size)
    clear hb3
    obtain ⟨⟨v,v0,_⟩,v1⟩:=HQ3.out k hlt
    go_wp2
    go_roundw
    case rel=>exact ⟨k+1,by omega,by go_num,HX3.out.kept (S:=fun b=>b=w1.heap.size) (kset (S:=fun b=>b=w1.heap.size) (Kept.refl (fun b=>b=w1.heap.size) w3) rfl _) (by omega),HR3.out.kept (S:=fun b=>b=w1.heap.size) (kset (S:=fun b=>b=w1.heap.size) (Kept.refl (fun b=>b=w1.heap.size) w3) rfl _) (by omega),HQ3.out.set _ (by rw [HG.out];rfl),HB3.out.trans ((kset (S:=fun b=>b=w1.heap.size) (Kept.refl (fun b=>b=w1.heap.size) w3) rfl _).below (fun b hb=>by omega) HB3.out.size)⟩
    case measure=>simp [intOf];omega
  ·obtain ⟨r0,r1,r2,r3⟩:=hr
   have hkP:k=P:=by omega
   have hcv:=HTX.out wr w1.heap.size (by have:=HQ.out;rwa [hkP] at this)
   clear hkP
   have HZ:=HR.out.put (.int .i64 (n:Int)) (.string S)
   have HK:Kept (fun b=>b=w.heap.size+1) wr ((wr.setCell ⟨w.heap.size+1,0,none⟩ (.int .i64 (n:Int))).setCell ⟨w.heap.size+1,1,none⟩ (.string S)):=kset (S:=fun b=>b=w.heap.size+1) (kset (S:=fun b=>b=w.heap.size+1) (Kept.refl (fun b=>b=w.heap.size+1) wr) rfl _) rfl _
   have HBZ:=HB.out.trans (HK.below (B:=w.heap.size) (fun b hb=>by omega) HB.out.size)
   have HH:Hid (∃ W,W=(wr.setCell ⟨w.heap.size+1,0,none⟩ (.int .i64 (n:Int))).setCell ⟨w.heap.size+1,1,none⟩ (.string S)/\Lay W (w.heap.size+1) (.int .i64 (n:Int)) (.string S)/\Below w.heap.size w W):=⟨_,rfl,HZ,HBZ⟩
   clear HZ HK HBZ
   go_wp2
   obtain ⟨W,hW,hz,hbz⟩:=HH.out
   rw [<- hW]
   obtain ⟨z0,z1,_,_⟩:=hz
   exact bodyPost_ret (v:=tv (n:Int) S) (by simp [results,Tryz.results198,go_sem,z0,z1]) rfl ⟨rfl,hbz⟩
end Tc6
namespace Tc7
open Go.RowKit
open Ta0 Ta1 Tc2 Tc4 Tc5
open Nd0 (Kept set_other set_same lt_of_cell)
open Tc1 (ones)
theorem count (n g:Nat) (G:Nat->Bool) (w:World) (hn:n<=12) (hW:Wds w g (nw n) G) :
 Calls Tryz.prog 300 #[pv n (nw n) g] w fun e w'=>e=.returned (.int .i64 ((cnt G (64*nw n):Nat):Int))/\Below w.heap.size w w':=by
 have hnw:=nw_le hn
 have hgl:=hW.lt (by omega)
 have HW:Hid (∀ i,i < nw n->w.cell? ⟨g,i,none⟩=some (.int .u64 (wd G i:Int))):=fun i hi=>(hW i hi).1
 have HB:Hid (Below w.heap.size w (w.alloc (.cells #[.int .i64 (n:Int),.slice (some ⟨g,0,none⟩) (nw n) (nw n)] 247))):=(Below.refl _ _).alloc (Nat.le_refl _) _
 clear hW
 generalize nw n=m at *
 go_enter Tryz.func300,Tryz.ntmps300
 go_wp2
 go_loop [3,9] (fun c i=>∃ k:Nat,k<=m/\i=.int .i64 k/\c=.int .i64 ((cnt G (64*k):Nat):Int)) (fun _ i=>m - (intOf i).toNat)
 case atStart=>exact ⟨0,Nat.zero_le _,rfl,rfl⟩
 case round =>
  obtain ⟨k,hk,rfl,rfl⟩:=hrel
  have hc:=cnt_le G (64*k)
  by_cases hlt:k < m
  ·have hkz:(k:Int) < (m:Int):=by omega
   have c0:=HW.out k hlt
   have hwl:=wd_lt G k
   have HC:Hid (cnt G (64*(k+1))=cnt G (64*k)+cnt (wd G k).testBit 64):=cnt_wd G k
   have hc2:=cnt_le (wd G k).testBit 64
   have HO:Hid (∀ W,Calls Tryz.prog 339 #[.int .u64 (wd G k:Int)] W fun e w'=>e=.returned (.int .i64 (cnt (wd G k).testBit 64:Nat))/\w'=W):=fun W=>ones _ hwl W
   generalize cnt (wd G k).testBit 64=d at *
   generalize wd G k=x at *
   generalize cnt G (64*k)=y at *
   go_wp2_with (go_at_call 339;refine (HO.out _).mono ?_;rintro e w' ⟨rfl,rfl⟩)
   go_round
   case rel=>exact ⟨k+1,by omega,by go_num,by rw [HC.out];go_num⟩
   case measure=>simp [intOf];omega
  ·have HE:Hid (k=m):=by show _=_;omega
   go_wp2
   go_ret
   exact ⟨ret_int (by rw [HE.out]),HB.out⟩
theorem ret_uint {a b:Int} (h:a=b):Ending.returned (.int .u64 a)=.returned (.int .u64 b):=by rw [h]
theorem use_wrap (P:Nat):IntKind.u64.wrap (IntKind.u64.wrap ((2:Int) ^ (min P 64)) - 1)=((use P:Nat):Int):=by
 unfold use
 by_cases h:P < 64
 ·have h1:2 ^ P < 18446744073709551616:=Nat.lt_of_lt_of_le (Nat.pow_lt_pow_right (by omega) h) (by decide)
  have h2:=Nat.one_le_two_pow (n:=P)
  rw [if_pos h,Nat.min_eq_left (by omega),pcast,wrapu h1,show ((2 ^ P:Nat):Int) - 1=((2 ^ P - 1:Nat):Int) by omega,wrapu (by omega)]
 ·rw [if_neg h,Nat.min_eq_right (by omega)]
  decide
/-- What stands while a bit is looked for. -/
structure SN (w:World) (n m g:Nat) (G:Nat->Bool) (W:World):Prop where
 lay:Lay W w.heap.size (.int .i64 (n:Int)) (.slice (some ⟨g,0,none⟩) m m)
 wds:Wds W g m G
 bel:Below w.heap.size w W
theorem SN.below {w:World} {n m g:Nat} {G:Nat->Bool} {W W':World} (h:SN w n m g G W) (k:Below W.heap.size W W'):SN w n m g G W' :=
 ⟨h.lay.below k,h.wds.below k,h.bel.trans (k.mono h.bel.size)⟩
theorem SN.drew {w:World} {n m g:Nat} {G:Nat->Bool} {W:World} (h:SN w n m g G W):SN w n m g G W.drew :=
 ⟨h.lay.kept (S:=fun _=>False) (Kept.refl _ _).drew (fun h=>h),h.wds.kept (S:=fun _=>False) (Kept.refl _ _).drew (fun h=>h),below_drewN h.bel 1⟩
end Tc7
namespace Tc8
open Go.RowKit
open Ta0 Ta1 Tc2 Tc4 Tc5 Tc7
open Nd0 (Kept set_other set_same lt_of_cell)
/-- Words in block g, the first k of them those of H. -/
def Wdk (W:World) (g m k:Nat) (H:Nat->Bool):Prop:=∀ j,j < m->(∃ v:Int,W.cell? ⟨g,j,none⟩=some (.int .u64 v)/\(j < k->v=(wd H j:Int)))/\W.frozen? ⟨g,j,none⟩=false
theorem Wdk.kept {W W':World} {c P k:Nat} {G:Nat->Bool} (h:Wdk W c P k G) {S:Nat->Prop} (q:Kept S W W') (hs:¬ S c):Wdk W' c P k G:=fun j hj=>by
 obtain ⟨⟨v,h1,h2⟩,h3⟩:=h j hj
 have hg:c < W.heap.size:=World.block_lt_of_cell? _ _ h1
 exact ⟨⟨v,by rw [q.cell (p:=⟨c,j,none⟩) hg hs];exact h1,h2⟩,by rw [q.frozen (p:=⟨c,j,none⟩) hg hs];exact h3⟩
theorem Wdk.below {W W':World} {c P k:Nat} {G:Nat->Bool} (h:Wdk W c P k G) (q:Below W.heap.size W W'):Wdk W' c P k G:=h.kept (S:=fun _=>False) (Kept.ofBelow q) (fun h=>h)
theorem Wdk.set {W:World} {c P k:Nat} {G:Nat->Bool} (h:Wdk W c P k G) (v:Int) (hv:v=(wd G k:Int)):Wdk (W.setCell ⟨c,k,none⟩ (.int .u64 v)) c P (k+1) G:=fun j hj=>by
 obtain ⟨⟨u,h1,h2⟩,h3⟩:=h j hj
 by_cases e:j=k
 ·subst e
  exact ⟨⟨v,set_same h1,fun _=>hv⟩,by rw [World.frozen?_setCell];exact h3⟩
 ·exact ⟨⟨u,by rw [set_other (by simp<;>omega)];exact h1,fun x=>h2 (by omega)⟩,by rw [World.frozen?_setCell];exact h3⟩
theorem Wdk.start {W:World} {g m:Nat} {F:Nat->Bool} (h:Wds W g m F) (H:Nat->Bool):Wdk W g m 0 H:=fun j hj=>⟨⟨_,(h j hj).1,fun x=>by omega⟩,(h j hj).2⟩
theorem Wdk.done {W:World} {g m:Nat} {H:Nat->Bool} (h:Wdk W g m m H):Wds W g m H:=fun j hj=>by
 obtain ⟨⟨v,h1,h2⟩,h3⟩:=h j hj
 rw [h2 hj] at h1
 exact ⟨h1,h3⟩
theorem flip64 {x:Nat} (h:x < 18446744073709551616):18446744073709551615 ^^^ x=18446744073709551615 - x:=by
 refine Nat.eq_of_testBit_eq fun j=>?_
 have h2:=Nat.testBit_two_pow_sub_succ (n:=64) (x:=x) h j
 have h1:=Nat.testBit_two_pow_sub_one 64 j
 rw [show (2:Nat) ^ 64 - 1=18446744073709551615 from rfl] at h1
 rw [show 18446744073709551615 - x=2 ^ 64 - (x+1) by omega,h2,Nat.testBit_xor,h1]
 by_cases hj:j < 64
 ·simp [hj]
 ·have:x.testBit j=false:=Nat.testBit_lt_two_pow (Nat.lt_of_lt_of_le h (Nat.le_trans (by decide:18446744073709551616<=2 ^ 64) (Nat.pow_le_pow_right (by omega) (by omega))))
  simp [hj,this]
theorem sother {W:World} {b c o p:Nat} {u v:Value} (h:W.cell? ⟨b,o,none⟩=some u) (hb:c≠b):(W.setCell ⟨c,p,none⟩ v).cell? ⟨b,o,none⟩=some u:=by
 rw [set_other (fun e=>hb (congrArg Addr.block e))];exact h
/-- What stands while the words of a new packed table are written. -/
structure WN (w:World) (n m g q g2:Nat) (F H:Nat->Bool) (k:Nat) (W:World):Prop where
 lay:Lay W w.heap.size (.int .i64 (n:Int)) (.slice (some ⟨g,0,none⟩) m m)
 res:Lay W (w.heap.size+1) (.int .i64 0) (.slice none 0 0)
 new:Lay W q (.int .i64 (n:Int)) (.slice (some ⟨g2,0,none⟩) m m)
 wds:Wds W g m F
 wdk:Wdk W g2 m k H
 bel:Below w.heap.size w W
theorem WN.below {w:World} {n m g q g2 k:Nat} {F H:Nat->Bool} {W W':World} (h:WN w n m g q g2 F H k W) (b:Below W.heap.size W W'):WN w n m g q g2 F H k W' :=
 ⟨h.lay.below b,h.res.below b,h.new.below b,h.wds.below b,h.wdk.below b,h.bel.trans (b.mono h.bel.size)⟩
theorem WN.drew {w:World} {n m g q g2 k:Nat} {F H:Nat->Bool} {W:World} (h:WN w n m g q g2 F H k W):WN w n m g q g2 F H k W.drew :=
 h.below (below_drewN (Below.refl _ _) 1)
theorem WN.set {w:World} {n m g q g2 k:Nat} {F H:Nat->Bool} {W:World} (h:WN w n m g q g2 F H k W) (hg:g≠g2) (h0:w.heap.size+2<=g2) (hq:g2≠q) (v:Int) (hv:v=(wd H k:Int)):WN w n m g q g2 F H (k+1) (W.setCell ⟨g2,k,none⟩ (.int .u64 v)):=by
 have K:=kset (S:=fun b=>b=g2) (Kept.refl (fun b=>b=g2) W) (b:=g2) (o:=k) rfl (.int .u64 v)
 exact ⟨h.lay.kept K (by omega),h.res.kept K (by omega),h.new.kept K (fun e=>hq e.symm),h.wds.kept K hg,h.wdk.set v hv,h.bel.trans (K.below (fun b hb=>by omega) h.bel.size)⟩
end Tc8
namespace Tc9
open Go.RowKit
open Ta0 Ta1 Tc2 Tc4 Tc5 Tc7 Tc8
open Nd0 (Kept set_other set_same lt_of_cell)
/-- What stands while the words of two are put together. -/
structure WT (w:World) (n m g h q g2:Nat) (F G H:Nat->Bool) (k:Nat) (W:World):Prop where
 lay:Lay W w.heap.size (.int .i64 (n:Int)) (.slice (some ⟨g,0,none⟩) m m)
 lay2:Lay W (w.heap.size+1) (.int .i64 (n:Int)) (.slice (some ⟨h,0,none⟩) m m)
 res:Lay W (w.heap.size+2) (.int .i64 0) (.slice none 0 0)
 new:Lay W q (.int .i64 (n:Int)) (.slice (some ⟨g2,0,none⟩) m m)
 wds:Wds W g m F
 wds2:Wds W h m G
 wdk:Wdk W g2 m k H
 bel:Below w.heap.size w W
theorem WT.below {w:World} {n m g h q g2 k:Nat} {F G H:Nat->Bool} {W W':World} (s:WT w n m g h q g2 F G H k W) (b:Below W.heap.size W W'):WT w n m g h q g2 F G H k W' :=
 ⟨s.lay.below b,s.lay2.below b,s.res.below b,s.new.below b,s.wds.below b,s.wds2.below b,s.wdk.below b,s.bel.trans (b.mono s.bel.size)⟩
theorem WT.drew {w:World} {n m g h q g2 k:Nat} {F G H:Nat->Bool} {W:World} (s:WT w n m g h q g2 F G H k W):WT w n m g h q g2 F G H k W.drew :=
 s.below (below_drewN (Below.refl _ _) 1)
theorem WT.set {w:World} {n m g h q g2 k:Nat} {F G H:Nat->Bool} {W:World} (s:WT w n m g h q g2 F G H k W) (hg:g≠g2) (hh:h≠g2) (h0:w.heap.size+3<=g2) (hq:g2≠q) (v:Int) (hv:v=(wd H k:Int)):WT w n m g h q g2 F G H (k+1) (W.setCell ⟨g2,k,none⟩ (.int .u64 v)):=by
 have K:=kset (S:=fun b=>b=g2) (Kept.refl (fun b=>b=g2) W) (b:=g2) (o:=k) rfl (.int .u64 v)
 exact ⟨s.lay.kept K (by omega),s.lay2.kept K (by omega),s.res.kept K (by omega),s.new.kept K (fun e=>hq e.symm),s.wds.kept K hg,s.wds2.kept K hh,s.wdk.set v hv,s.bel.trans (K.below (fun b hb=>by omega) s.bel.size)⟩
end Tc9
end Go.Proofs.YtladjpombohpaaaGreatDoor
