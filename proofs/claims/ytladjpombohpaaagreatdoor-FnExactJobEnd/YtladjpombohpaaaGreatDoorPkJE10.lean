import Derived.Deep.RegionHeld3
import Derived.Laws.IdiomStrings
import Derived.Test.YtladjpombohpaaaGreatDoorPkJE6
namespace Go.Proofs.YtladjpombohpaaaGreatDoor
set_option maxRecDepth 100000
set_option maxHeartbeats 8000000
set_option linter.unusedVariables false
namespace Tc4
open Go.RowKit
open Ta0 Ta1 Tc2
open Nd0 (Kept set_other set_same lt_of_cell)
/-- How many words n bits want. -/
def nw (n:Nat):Nat:=(2 ^ n+63) / 64
theorem nw_le {n:Nat} (h:n<=12):1<=nw n/\nw n<=64:=by
 have:=p12 h
 unfold nw;omega
theorem nw_at {n p:Nat} (h:p < 2 ^ n):p / 64 < nw n:=by unfold nw;omega
/-- A packed table's value. -/
abbrev pv (n m g:Nat):Value:=.agg #[.int .i64 (n:Int),.slice (some ⟨g,0,none⟩) m m]
/-- The words of F's bits lie in block g. -/
def Wds (W:World) (g m:Nat) (F:Nat->Bool):Prop:=∀ i,i < m->W.cell? ⟨g,i,none⟩=some (.int .u64 (wd F i:Int))/\W.frozen? ⟨g,i,none⟩=false
theorem Wds.lt {W:World} {g m:Nat} {F:Nat->Bool} (h:Wds W g m F) (hm:1<=m):g < W.heap.size:=World.block_lt_of_cell? _ _ (h 0 (by omega)).1
theorem Wds.kept {W W':World} {g m:Nat} {F:Nat->Bool} (h:Wds W g m F) {S:Nat->Prop} (k:Kept S W W') (hs:¬ S g):Wds W' g m F:=fun i hi=>by
 obtain ⟨h1,h2⟩:=h i hi
 have hg:g < W.heap.size:=World.block_lt_of_cell? _ _ h1
 exact ⟨by rw [k.cell (p:=⟨g,i,none⟩) hg hs];exact h1,by rw [k.frozen (p:=⟨g,i,none⟩) hg hs];exact h2⟩
theorem Wds.below {W W':World} {g m:Nat} {F:Nat->Bool} (h:Wds W g m F) (k:Below W.heap.size W W'):Wds W' g m F :=
 h.kept (S:=fun _=>False) (Kept.ofBelow k) (fun h=>h)
theorem Wds.congr {W:World} {g m:Nat} {F G:Nat->Bool} (h:Wds W g m F) (e:∀ i,i < m->wd F i=wd G i):Wds W g m G:=fun i hi=>by
 rw [<- e i hi];exact h i hi
theorem Wds.set {W:World} {g m j:Nat} {F G:Nat->Bool} (h:Wds W g m F) (hj:j < m) (e:∀ i,i≠j->wd F i=wd G i):Wds (W.setCell ⟨g,j,none⟩ (.int .u64 (wd G j:Int))) g m G:=fun i hi=>by
 obtain ⟨h1,h2⟩:=h i hi
 by_cases hij:i=j
 ·subst hij
  exact ⟨set_same h1,by rw [World.frozen?_setCell];exact h2⟩
 ·rw [<- e i hij]
  exact ⟨by rw [set_other (by simp<;>omega)];exact h1,by rw [World.frozen?_setCell];exact h2⟩
theorem infoU:(Tryz.prog.info? 249).map (fun i=>(i.zero,i.size,i.bytes))=some (some (.int .u64 0),1,8):=by kernel_rfl
def noughtsU (n:Nat):Array Value:=madeCells #[.int .u64 0] (n*1)
theorem noughtsU_get (n j:Nat) (h:j < n):(noughtsU n)[j]? = some (.int .u64 0):=by
 simp only [noughtsU,madeCells,Array.getElem?_map,Array.getElem?_range]
 rw [if_pos (by omega)]
 simp only [Option.map_some]
 have e:j % 1=0:=Nat.mod_one j
 exact congrArg (fun m=>some ((#[.int .u64 0]:Array Value)[m]!)) e
theorem makeWords (n:Nat) (hn:n<=1048576) (w:World) :
 (Instr.makeSlice 245 (.int .i64 (n:Int)) (.int .i64 (n:Int))).run Tryz.prog w=.ok (.slice (some ⟨w.heap.size,0,none⟩) n n) (w.alloc (.cells (noughtsU n) 249)):=by
 obtain ⟨i,hi,hzz⟩:=Option.map_eq_some_iff.1 infoU
 simp only [Prod.mk.injEq] at hzz
 obtain ⟨hz,hs,hb⟩:=hzz
 have h:=run_make (P:=Tryz.prog) w 245 249 i _ Tryz.underlying245 hi hz .i64 .i64 n n (by omega) (Int.le_refl _) (by rw [hb];omega) (by omega)
 rw [hs] at h
 simpa [noughtsU,Value.cells] using h
theorem pow_div (x j:Nat):(x:Int) / (2:Int) ^ j=((x / 2 ^ j:Nat):Int):=by push_cast;rfl
theorem newPacked (n:Nat) (w:World) (hn:n<=12) :
 Calls Tryz.prog 193 #[.int .i64 (n:Int)] w fun e w'=>∃ g,e=.returned (pv n (nw n) g)/\w.heap.size<=g/\Wds w' g (nw n) (fun _=>false)/\Below w.heap.size w w':=by
 have hw:=wsh hn
 obtain ⟨hp,hl⟩:=p12 hn
 have hnw:=nw_le hn
 have hq:(((2 ^ n:Nat):Int)+64 - 1) / 64=(nw n:Int):=by unfold nw;omega
 have hq2:(((2 ^ n:Nat):Int)+63) / 64=(nw n:Int):=by unfold nw;omega
 have HZ:Hid (∀ W:World,Wds (W.alloc (.cells (noughtsU (nw n)) 249)) W.heap.size (nw n) (fun _=>false)):=fun W i hi=>⟨by
  rw [World.cell?_alloc_new,wd_zero (by intro j _;rfl)];exact noughtsU_get _ _ hi,by simp⟩
 have hmk:=makeWords (nw n) (by omega)
 generalize nw n=m at *
 generalize 2 ^ n=P at *
 go_enter Tryz.func193,Tryz.ntmps193
 go_wp2
 refine bodyPost_ret (v:=pv n m (w.heap.size+1)) (by simp [results,Tryz.results193,go_sem]) rfl ⟨w.heap.size+1,rfl,by omega,?_,?_⟩
 ·have:=HZ.out (w.alloc (.cells #[.int .i64 (n:Int),.slice (some ⟨w.heap.size+1,0,none⟩) m m] 247))
  simpa using this
 ·exact ((Below.refl _ _).alloc (Nat.le_refl _) _).alloc (by simp) _
theorem size (n g:Nat) (w:World) (hn:n<=12) :
 Calls Tryz.prog 194 #[pv n (nw n) g] w fun e w'=>e=.returned (.int .i64 ((2 ^ n:Nat):Int))/\Below w.heap.size w w':=by
 have hw:=wsh hn
 have HB:Hid (Below w.heap.size w (w.alloc (.cells #[.int .i64 (n:Int),.slice (some ⟨g,0,none⟩) (nw n) (nw n)] 247))):=(Below.refl _ _).alloc (Nat.le_refl _) _
 generalize nw n=m at *
 generalize 2 ^ n=P at *
 go_enter Tryz.func194,Tryz.ntmps194
 go_wp2
 go_ret
 exact ⟨rfl,HB.out⟩
theorem at_ (n g p:Nat) (F:Nat->Bool) (w:World) (hn:n<=12) (hp:p < 2 ^ n) (hW:Wds w g (nw n) F) :
 Calls Tryz.prog 251 #[pv n (nw n) g,.int .i64 (p:Int)] w fun e w'=>e=.returned (.int .i64 ((F p).toNat:Int))/\Below w.heap.size w w':=by
 have hpn:=p12 hn
 have hnw:=nw_le hn
 have hpa:=nw_at hp
 have hlt:=wd_lt F (p / 64)
 have c0:=(hW _ hpa).1
 have hg:=hW.lt (by omega)
 have HA:Hid (wd F (p / 64) / 2 ^ (p % 64) % 2=(F p).toNat):=wd_at F p
 have HB:Hid (Below w.heap.size w (w.alloc (.cells #[.int .i64 (n:Int),.slice (some ⟨g,0,none⟩) (nw n) (nw n)] 247))):=(Below.refl _ _).alloc (Nat.le_refl _) _
 clear hW
 generalize nw n=m at *
 generalize 2 ^ n=P at *
 generalize wd F (p / 64)=x at *
 go_enter Tryz.func251,Tryz.ntmps251
 go_wp2
 go_ret
 refine ⟨ret_int ?_,HB.out⟩
 rw [pow_div,show (1:Int)=((1:Nat):Int) from rfl,bits_and_u64_nat _ _ (Nat.lt_of_le_of_lt (Nat.div_le_self _ _) hlt) (by omega),Nat.and_one_is_mod,HA.out]
 have:=(F p).toNat_le
 unfold wrap64;omega
theorem put (n g k:Nat) (F:Nat->Bool) (w:World) (hn:n<=12) (hk:k < 2 ^ n) (hF:F k=true) (hW:Wds w g (nw n) (upto k F)) :
 Calls Tryz.prog 197 #[pv n (nw n) g,.int .i64 (k:Int)] w fun e w'=>e=.returned (.tuple #[])/\Wds w' g (nw n) (upto (k+1) F)/\Kept (fun b=>b=g) w w':=by
 have hpn:=p12 hn
 have hnw:=nw_le hn
 have hpa:=nw_at hk
 have hlt:=wd_lt (upto k F) (k / 64)
 have c0:=(hW _ hpa).1
 have f0:=(hW _ hpa).2
 have hg:=hW.lt (by omega)
 have HW:Hid (Wds w g (nw n) (upto k F)):=hW
 clear hW
 generalize nw n=m at *
 generalize 2 ^ n=P at *
 generalize hX:wd (upto k F) (k / 64)=x at *
 go_enter Tryz.func197,Tryz.ntmps197
 go_wp2
 go_region
 clear hpn
 have e1:IntKind.u64.wrap ((2:Int) ^ (k % 64))=((2 ^ (k % 64):Nat):Int):=by
  rw [show (2:Int) ^ (k % 64)=((2 ^ (k % 64):Nat):Int) by push_cast;rfl,wrapu (Nat.lt_of_lt_of_le (Nat.pow_lt_pow_right (by omega) (by omega:k % 64 < 64)) (by decide))]
 have e2:bits .or .u64 (x:Int) (IntKind.u64.wrap ((2:Int) ^ (k % 64)))=((wd (upto (k+1) F) (k / 64):Nat):Int):=by
  rw [e1,bits_or_u64_nat _ _ hlt (Nat.lt_of_lt_of_le (Nat.pow_lt_pow_right (by omega) (by omega:k % 64 < 64)) (by decide)),wd_next_yes F k hF,hX]
 rw [e2]
 exact bodyPost_end (v:=.tuple #[]) (by simp [results,Tryz.results197,go_sem]) rfl ⟨rfl,(HW.out.set hpa (fun i hi=>(wd_next_other F k i hi).symm)).kept (S:=fun _=>False) (((Kept.refl _ _).alloc _).drew) (fun h=>h),(((Kept.refl (fun b=>b=g) w).setCell (p:=⟨g,k / 64,none⟩) rfl _).alloc _).drew⟩
end Tc4
namespace Tc5
open Go.RowKit
open Ta0 Ta1 Tc2 Tc4
open Nd0 (Kept set_other set_same lt_of_cell)
open Ss0 (bs bs_size ret_str)
open Ss1 (tl tl_length tl_get tl_take bs_tl tl_bs tl_inj eqb)
/-- A block of two cells. -/
structure Lay (W:World) (b:Nat) (x y:Value):Prop where
 c0:W.cell? ⟨b,0,none⟩=some x
 c1:W.cell? ⟨b,1,none⟩=some y
 f0:W.frozen? ⟨b,0,none⟩=false
 f1:W.frozen? ⟨b,1,none⟩=false
theorem Lay.lt {W:World} {b:Nat} {x y:Value} (h:Lay W b x y):b < W.heap.size:=World.block_lt_of_cell? _ _ h.c0
theorem Lay.kept {W W':World} {b:Nat} {x y:Value} (h:Lay W b x y) {S:Nat->Prop} (k:Kept S W W') (hs:¬ S b):Lay W' b x y :=
 ⟨by rw [k.cell (p:=⟨b,0,none⟩) h.lt hs];exact h.c0,by rw [k.cell (p:=⟨b,1,none⟩) h.lt hs];exact h.c1,by rw [k.frozen (p:=⟨b,0,none⟩) h.lt hs];exact h.f0,by rw [k.frozen (p:=⟨b,1,none⟩) h.lt hs];exact h.f1⟩
theorem Lay.below {W W':World} {b:Nat} {x y:Value} (h:Lay W b x y) (k:Below W.heap.size W W'):Lay W' b x y :=
 h.kept (S:=fun _=>False) (Kept.ofBelow k) (fun h=>h)
theorem Lay.made (W:World) (x y:Value) (T:Nat):Lay (W.alloc (.cells #[x,y] T)) W.heap.size x y:=⟨by simp,by simp,by simp,by simp⟩
theorem Lay.alloc {W:World} {b:Nat} {x y:Value} (h:Lay W b x y) (o:Obj):Lay (W.alloc o) b x y:=h.kept (S:=fun _=>False) ((Kept.refl _ _).alloc _) (fun h=>h)
theorem Lay.put {W:World} {b:Nat} {x y:Value} (h:Lay W b x y) (u v:Value):Lay ((W.setCell ⟨b,0,none⟩ u).setCell ⟨b,1,none⟩ v) b u v :=
 ⟨by rw [set_other (by simp)];exact set_same h.c0,set_same (by rw [set_other (by simp)];exact h.c1),by rw [World.frozen?_setCell,World.frozen?_setCell];exact h.f0,by rw [World.frozen?_setCell,World.frozen?_setCell];exact h.f1⟩
theorem kset {S:Nat->Prop} {u w:World} (h:Kept S u w) {b o:Nat} (hb:S b) (x:Value):Kept S u (w.setCell ⟨b,o,none⟩ x):=h.setCell (p:=⟨b,o,none⟩) hb x
theorem bs_tab_get (n:Nat) (F:Nat->Bool) (k:Nat) (h:k < (bs (tab n F)).size):(bs (tab n F))[k]=sgn (F k):=by
 rw [tl_get]
 have e:tl (bs (tab n F))=tab n F:=tl_bs _
 have h2:k < (tab n F).length:=by rw [bs_size] at h;exact h
 have:=tab_get n F k h2
 rw [<- this]
 congr 1
theorem pack (n:Nat) (F:Nat->Bool) (w:World) (hn:n<=12) :
 Calls Tryz.prog 299 #[tv (n:Int) (bs (tab n F))] w fun e w'=>∃ g,e=.returned (pv n (nw n) g)/\w.heap.size<=g/\Wds w' g (nw n) (upto (2 ^ n) F)/\Below w.heap.size w w':=by
 obtain ⟨hp,hl⟩:=p12 hn
 have hnw:=nw_le hn
 have HSZ:Hid ((bs (tab n F)).size=2 ^ n):=by show _=_;rw [bs_size,tab_length]
 have HGT:Hid (∀ k (h:k < (bs (tab n F)).size),(bs (tab n F))[k]=sgn (F k)):=bs_tab_get n F
 have HNP:Hid (∀ W,Calls Tryz.prog 193 #[.int .i64 (n:Int)] W fun e w'=>∃ g,e=.returned (pv n (nw n) g)/\W.heap.size<=g/\Wds w' g (nw n) (fun _=>false)/\Below W.heap.size W w'):=fun W=>newPacked n W hn
 have HSI:Hid (∀ W g,Calls Tryz.prog 194 #[pv n (nw n) g] W fun e w'=>e=.returned (.int .i64 ((2 ^ n:Nat):Int))/\Below W.heap.size W w'):=fun W g=>size n g W hn
 have HPU:Hid (∀ W g k,k < 2 ^ n->F k=true->Wds W g (nw n) (upto k F)->Calls Tryz.prog 197 #[pv n (nw n) g,.int .i64 (k:Int)] W fun e w'=>e=.returned (.tuple #[])/\Wds w' g (nw n) (upto (k+1) F)/\Kept (fun b=>b=g) W w'):=fun W g k h1 h2 h3=>put n g k F W hn h1 h2 h3
 generalize bs (tab n F)=S at *
 generalize nw n=m at *
 generalize 2 ^ n=P at *
 go_enter Tryz.func299,Tryz.ntmps299
 go_wp2_with fail
 refine (HNP.out _).mono ?_
 rintro e w1 ⟨g,rfl,hg,hw1,hb1⟩
 have HX0:Hid (Lay w1 w.heap.size (.int .i64 (n:Int)) (.string S)):=(((Lay.made w _ _ _).alloc _).below hb1)
 have HR0:Hid (Lay w1 (w.heap.size+1) (.int .i64 0) (.slice none 0 0)):=by
  have:=Lay.made (w.alloc (.cells #[.int .i64 (n:Int),.string S] 32)) (.int .i64 0) (.slice none 0 0) 247
  have:=this.below hb1
  show Lay _ _ _ _
  simpa using this
 have hsz1:w.heap.size+2<=g:=by simpa using hg
 have hgl:=hw1.lt (by omega)
 have HB1:Hid (Below w.heap.size w w1):=(((Below.refl _ _).alloc (Nat.le_refl _) _).alloc (by simp) _).trans (hb1.mono (by simp;omega))
 have HW1:Hid (Wds w1 g m (fun _=>false)):=hw1
 clear hb1 hw1 hg
 go_wp2_with fail
 refine (HSI.out _ g).mono ?_
 rintro e w2 ⟨rfl,hb2⟩
 have HX2:Hid (Lay w2 w.heap.size (.int .i64 (n:Int)) (.string S)):=(HX0.out.alloc _).below hb2
 have HR2:Hid (Lay w2 (w.heap.size+1) (.int .i64 0) (.slice none 0 0)):=(HR0.out.alloc _).below hb2
 have HQ2:Hid (Lay w2 w1.heap.size (.int .i64 (n:Int)) (.slice (some ⟨g,0,none⟩) m m)):=(Lay.made w1 _ _ _).below hb2
 have HW2:Hid (Wds w2 g m (upto 0 F)):=((HW1.out.kept (S:=fun _=>False) ((Kept.refl _ _).alloc _) (fun h=>h)).below hb2).congr fun i _=>by rw [upto_zero,wd_zero (by intro j _;rfl)]
 have HB2:Hid (Below w.heap.size w w2):=(HB1.out.alloc HB1.out.size _).trans (hb2.mono (by have:=HB1.out.size;simp;omega))
 clear hb2
 have hb0:=HX2.out.lt
 go_wp2_with fail
 go_loopw [10] (fun i wr=>∃ k:Nat,k<=P/\i=.int .i64 k/\Lay wr w.heap.size (.int .i64 (n:Int)) (.string S)/\Lay wr (w.heap.size+1) (.int .i64 0) (.slice none 0 0)/\Lay wr w1.heap.size (.int .i64 (n:Int)) (.slice (some ⟨g,0,none⟩) m m)/\Wds wr g m (upto k F)/\Below w.heap.size w wr) (fun i _=>P - (intOf i).toNat)
 case atStart=>exact ⟨0,Nat.zero_le _,rfl,HX2.out,HR2.out,HQ2.out,HW2.out,HB2.out⟩
 case round =>
  obtain ⟨k,hk,rfl,hx,hr,hq,hw,hb⟩:=hrel
  have HX:Hid (Lay wr w.heap.size (.int .i64 (n:Int)) (.string S)):=hx
  have HR:Hid (Lay wr (w.heap.size+1) (.int .i64 0) (.slice none 0 0)):=hr
  have HQ:Hid (Lay wr w1.heap.size (.int .i64 (n:Int)) (.slice (some ⟨g,0,none⟩) m m)):=hq
  have HW:Hid (Wds wr g m (upto k F)):=hw
  have HB:Hid (Below w.heap.size w wr):=hb
  clear hb hw
  obtain ⟨x0,x1,_,_⟩:=hx
  obtain ⟨q0,q1,_,_⟩:=hq
  by_cases hlt:k < P
  ·clear hr
   have hks:k < S.size:=by rw [HSZ.out];exact hlt
   have hkz:(k:Int) < (P:Int):=by omega
   have HG:Hid (S[k]=sgn (F k)):=HGT.out k hks
   cases hF:F k
   ·have h9:((S[k].toNat:Int)==49)=false:=by rw [HG.out,hF];rfl
    have HF:Hid (F k=false):=hF
    clear hF
    go_wp2
    go_roundw
    case rel=>exact ⟨k+1,by omega,by go_num,HX.out,HR.out,HQ.out,HW.out.congr fun i _=>(wd_next_no F k i HF.out).symm,HB.out⟩
    case measure=>simp [intOf];omega
   ·have h9:((S[k].toNat:Int)==49)=true:=by rw [HG.out,hF];rfl
    have HF:Hid (F k=true):=hF
    clear hF
    go_wp2_with (go_at_call 197;refine (HPU.out _ g k hlt HF.out HW.out).mono ?_;rintro e w3 ⟨rfl,hw3,hk3⟩)
    go_roundw
    case rel=>exact ⟨k+1,by omega,by go_num,HX.out.kept hk3 (by omega),HR.out.kept hk3 (by omega),HQ.out.kept hk3 (by omega),hw3,HB.out.trans (hk3.below (fun b hb=>by omega) HB.out.size)⟩
    case measure=>simp [intOf];omega
  ·obtain ⟨r0,r1,r2,r3⟩:=hr
   have hkP:k=P:=by omega
   have HWP:Hid (Wds wr g m (upto P F)):=by rw [<- hkP];exact HW.out
   clear hkP
   have HZ:=HR.out.put (.int .i64 (n:Int)) (.slice (some ⟨g,0,none⟩) m m)
   have HK:Kept (fun b=>b=w.heap.size+1) wr ((wr.setCell ⟨w.heap.size+1,0,none⟩ (.int .i64 (n:Int))).setCell ⟨w.heap.size+1,1,none⟩ (.slice (some ⟨g,0,none⟩) m m)):=kset (S:=fun b=>b=w.heap.size+1) (kset (S:=fun b=>b=w.heap.size+1) (Kept.refl (fun b=>b=w.heap.size+1) wr) rfl _) rfl _
   have HWZ:=HWP.out.kept HK (by omega)
   have HBZ:=HB.out.trans (HK.below (B:=w.heap.size) (fun b hb=>by omega) HB.out.size)
   have HH:Hid (∃ W,W=(wr.setCell ⟨w.heap.size+1,0,none⟩ (.int .i64 (n:Int))).setCell ⟨w.heap.size+1,1,none⟩ (.slice (some ⟨g,0,none⟩) m m)/\Lay W (w.heap.size+1) (.int .i64 (n:Int)) (.slice (some ⟨g,0,none⟩) m m)/\Wds W g m (upto P F)/\Below w.heap.size w W):=⟨_,rfl,HZ,HWZ,HBZ⟩
   clear HZ HK HWZ HBZ
   go_wp2
   obtain ⟨W,hW,hz,hwz,hbz⟩:=HH.out
   rw [<- hW]
   obtain ⟨z0,z1,_,_⟩:=hz
   exact bodyPost_ret (v:=pv n m g) (by simp [results,Tryz.results299,go_sem,z0,z1]) rfl ⟨g,rfl,by omega,hwz,hbz⟩
end Tc5
namespace Ap9
open Go.RowKit
open Nd0
/-- A slice of the bytes l, in a block from B on, that may be written. -/
def WBys (w:World) (B:Nat) (a:Option Addr) (l:List UInt8):Prop :=
 l.length<=maxLen/\(l.length=0\/∃ b o,a=some ⟨b,o,none⟩/\B<=b/\∀ i (h:i < l.length),w.cell? ⟨b,o+i,none⟩=some (.int .u8 (l[i].toNat:Int))/\w.frozen? ⟨b,o+i,none⟩=false)
theorem infoByte:(Tryz.prog.info? 5).map (fun i=>(i.zero,i.size,i.bytes))=some (some (.int .u8 0),1,1):=by kernel_rfl
/-- The slice v, in a block from B on, is the bytes l and may be appended to. -/
def Owu (w:World) (B:Nat) (v:Value) (l:List UInt8):Prop:=w.ownsRow B 5 1 v l.length (l.map fun x=>.int .u8 (x.toNat:Int))
theorem Owu.form {w:World} {B:Nat} {v:Value} {l:List UInt8} (h:Owu w B v l):∃ a c,v=.slice a l.length c/\WBys w B a l:=by
 obtain ⟨h1,h2⟩:=h
 rcases h2 with ⟨rfl,h0⟩|⟨g,cap,cur,rfl,hb,hg,hn,hm,hs,ht⟩
 ·have:l=[]:=List.eq_nil_of_length_eq_zero h0
  subst this
  exact ⟨none,0,rfl,Nat.zero_le _,.inl rfl⟩
 ·refine ⟨_,_,rfl,by omega,.inr ⟨g,0,rfl,hb,fun i hi=>⟨?_,?_⟩⟩⟩
  ·rw [Nat.zero_add,cell_of_row w g i cur _ _ hg]
   have e:(cur.toList.take (l.length*1))[i]? = some (.int .u8 (l[i].toNat:Int)):=by rw [ht];simp [hi]
   rw [List.getElem?_take_of_lt (by omega)] at e
   simpa using e
  ·rw [Nat.zero_add]
   simp [World.frozen?,hg]
theorem Owu.lit (w:World) (B:Nat) (hB:B<=w.heap.size):Owu (w.alloc (.cells #[] 5)) B (.slice (some ⟨w.heap.size,0,none⟩) 0 0) [] :=
 World.ownsRow_lit w #[] 0 hB (Nat.zero_le _) rfl
theorem Owu.lt {w:World} {B:Nat} {v:Value} {l:List UInt8} (h:Owu w B v l):∀ k,v.ownBlock=some k->B<=k/\k < w.heap.size:=World.ownsRow.lt h
theorem Owu.kept {w w':World} {B:Nat} {v:Value} {l:List UInt8} (h:Owu w B v l) {S:Nat->Prop} (k:Kept S w w') (hs:∀ i,v.ownBlock=some i->¬ S i):Owu w' B v l:=by
 refine ⟨h.1,?_⟩
 rcases h.2 with hn|⟨g,cap,cur,rfl,hb,hgg,rest⟩
 ·exact .inl hn
 ·refine .inr ⟨g,cap,cur,rfl,hb,?_,rest⟩
  rw [k.block g (Array.getElem?_eq_some_iff.1 hgg).1 (hs g rfl)]
  exact hgg
/-- A byte written over. -/
theorem Owu.set {w:World} {B g cap:Nat} {l:List UInt8} (h:Owu w B (.slice (some ⟨g,0,none⟩) l.length cap) l) (j:Nat) (x:UInt8):Owu (w.setCell ⟨g,j,none⟩ (.int .u8 (x.toNat:Int))) B (.slice (some ⟨g,0,none⟩) l.length cap) (l.set j x):=by
 have h1:=(World.ownsRow.stored h j (.int .u8 (x.toNat:Int))).1
 unfold Owu
 rw [List.map_set,List.length_set]
 exact h1
theorem Owu.cell {w:World} {B g cap:Nat} {l:List UInt8} (h:Owu w B (.slice (some ⟨g,0,none⟩) l.length cap) l) (j:Nat) (hj:j < l.length):w.cell? ⟨g,j,none⟩=some (.int .u8 (l[j].toNat:Int))/\w.frozen? ⟨g,j,none⟩=false:=by
 obtain ⟨a,c,hv,hw⟩:=h.form
 cases hv
 rcases hw.2 with h0|⟨b,o,hb,_,hc⟩
 ·omega
 ·cases hb
  have:=hc j hj
  rw [Nat.zero_add] at this
  exact this
theorem Owu.set' {w:World} {B g cap n:Nat} {l:List UInt8} (h:Owu w B (.slice (some ⟨g,0,none⟩) n cap) l) (hn:l.length=n) (j:Nat) (x:UInt8):Owu (w.setCell ⟨g,j,none⟩ (.int .u8 (x.toNat:Int))) B (.slice (some ⟨g,0,none⟩) n cap) (l.set j x):=by
 subst hn;exact h.set j x
theorem Owu.cell' {w:World} {B g cap n:Nat} {l:List UInt8} (h:Owu w B (.slice (some ⟨g,0,none⟩) n cap) l) (hn:l.length=n) (j:Nat) (hj:j < n):w.cell? ⟨g,j,none⟩=some (.int .u8 ((l[j]'(by omega)).toNat:Int))/\w.frozen? ⟨g,j,none⟩=false:=by
 subst hn;exact h.cell j hj
theorem Owu.at {w:World} {B:Nat} {v:Value} {l:List UInt8} (h:Owu w B v l) (hl:1<=l.length):∃ g c,v=.slice (some ⟨g,0,none⟩) l.length c/\B<=g/\g < w.heap.size:=by
 rcases h.2 with ⟨rfl,h0⟩|⟨g,cap,cur,rfl,hb,hg,_⟩
 ·omega
 ·exact ⟨g,cap,rfl,hb,(Array.getElem?_eq_some_iff.1 hg).1⟩
/-- One byte more. -/
theorem app_byte {ops:Array Oper} {rest:List Oper} {o:Oper} {a:Act} {Q:Exit->Act->World->Prop} (W:World) (hgd:o.guard=none) (s x:Operand)
 (ho:o.op=.call { callee:=.builtin .append,args := #[s,x],argTypes := #[138,138] })
 (B:Nat) (v:Value) (l:List UInt8) (y:UInt8) (z:Int) (hz0:z=(y.toNat:Int)) (hs:a.eval s=v) (hx:a.eval x=.slice (some ⟨W.heap.size,0,none⟩) 1 1)
 (hown:Owu W B v l) (hB:B<=W.heap.size) (hlen:l.length<=1048576)
 (h:∀ g cap w',Owu w' B (.slice (some ⟨g,0,none⟩) (l.length+1) cap) (l++[y])->Kept (fun k=>v.ownBlock=some k) W w'->(v.ownBlock=some g\/W.heap.size<=g)->wpList Tryz.prog ops Q rest (a.put o.dst (.slice (some ⟨g,0,none⟩) (l.length+1) cap)) w') :
 wpList Tryz.prog ops Q (o :: rest) a (W.alloc (.cells #[.int .u8 z] 5)):=by
 subst hz0
 obtain ⟨i,hi,hzz⟩:=Option.map_eq_some_iff.1 infoByte
 simp only [Prod.mk.injEq] at hzz
 obtain ⟨hz,hsz,hb⟩:=hzz
 refine wpList_append_lies (W.alloc (.cells #[.int .u8 (y.toNat:Int)] 5)) hgd s x 138 ho B 5 i (.int .u8 0) 1 1 Tryz.underlying138 hi hz hsz hb rfl (by omega) v l.length (l.map fun x=>.int .u8 (x.toNat:Int)) hs (World.ownsRow.alloc hown _)
  ⟨W.heap.size,0,none⟩ 1 1 [.int .u8 (y.toNat:Int)] hx rfl ?_ ?_ (by omega) (by unfold maxLen;omega) (by omega) (by simp;omega) _ rfl ?_
 ·intro j u hu
  exact World.news_of_block (heap_alloc_new W _) j u hu
 ·intro u hu
  simp at hu
  subst hu
  rfl
 ·intro g cap w' h1 h2 h3 h4
  refine h g cap w' ?_ ?_ ?_
  ·unfold Owu
   simpa using h1
  ·have k1:Kept (fun k=>v.ownBlock=some k) W (W.alloc (.cells #[.int .u8 (y.toNat:Int)] 5)):=(Kept.refl _ W).alloc _
   exact k1.trans ⟨h2.os,h2.tape,h2.output,h2.size,fun k hk hn=>h2.block k hk (fun e=>hn e.symm)⟩
  ·rcases h3 with h3|h3
   ·exact .inl h3
   ·exact .inr (by rw [h3];simp)
end Ap9
namespace Td1
open Go.RowKit
open Ta0 Ta1 Tc2 Tc5 Ap9
open Nd0 (Kept set_other set_same lt_of_cell)
open Ss0 (bs bs_size ret_str)
open Ss1 (tl tl_length tl_get tl_take bs_tl tl_bs tl_inj eqb)
theorem sOk1 (n:Nat) (F:Nat->Bool) (w:World) (hn:n<=12) :
 Calls Tryz.prog 122 #[tv (n:Int) (bs (tab n F))] w fun e w'=>e=.returned (.bool true)/\Below w.heap.size w w':=by
 have:=sTableOk (n:Int) (bs (tab n F)) w (by rw [bs_size,tab_length];have:=p12 hn;omega)
 rwa [tl_bs,tab_tok F hn] at this
theorem sOk0 {N:Int} {S:ByteArray} (w:World) (hS:S.size<=1048576) (h:tokB N (tl S)=false) :
 Calls Tryz.prog 122 #[tv N S] w fun e w'=>e=.returned (.bool false)/\Below w.heap.size w w':=by
 have:=sTableOk N S w hS
 rwa [h] at this
/-- What a right table's string has: its size and its signs. -/
structure Sg (S:ByteArray) (P:Nat) (F:Nat->Bool):Prop where
 size:S.size=P
 at_:∀ k (h:k < S.size),(S[k].toNat:Int)=48+((F k).toNat:Int)
theorem sg_tab (n:Nat) (F:Nat->Bool):Sg (bs (tab n F)) (2 ^ n) F :=
 ⟨by rw [bs_size,tab_length],fun k h=>by rw [bs_tab_get,sgn_toNat];push_cast;rfl⟩
/-- What is known: 0, 1 or nothing. -/
def knw (n:Nat) (F:Nat->Bool):Int:=if cnt F (2 ^ n)=0 then 0 else if cnt F (2 ^ n)=2 ^ n then 1 else -1
theorem knw_same {n:Nat} {F:Nat->Bool} (h:∀ j,j < 2 ^ n->F j=F 0):knw n F=((F 0).toNat:Int):=by
 unfold knw
 have hp:=Nat.one_le_two_pow (n:=n)
 cases h0:F 0
 ·rw [if_pos ((cnt_zero F _).2 fun j hj=>by rw [h j hj,h0])];rfl
 ·have h1:=(cnt_all F (2 ^ n)).2 fun j hj=>by rw [h j hj,h0]
  rw [if_neg (by omega),if_pos h1];rfl
theorem knw_diff {n:Nat} {F:Nat->Bool} {k:Nat} (hk:k < 2 ^ n) (h:F k≠F 0):knw n F = -1:=by
 unfold knw
 have hp:=Nat.one_le_two_pow (n:=n)
 rw [if_neg,if_neg]
 ·intro e
  have:=(cnt_all F _).1 e
  exact h (by rw [this k hk,this 0 (by omega)])
 ·intro e
  have:=(cnt_zero F _).1 e
  exact h (by rw [this k hk,this 0 (by omega)])
theorem sKnown0 {N:Int} {S:ByteArray} (w:World) (hS:S.size<=1048576) (h:tokB N (tl S)=false) :
 Calls Tryz.prog 134 #[tv N S] w fun e w'=>e=.returned (.int .i64 (-1))/\Below w.heap.size w w':=by
 have HO:Hid (∀ W,Calls Tryz.prog 122 #[tv N S] W fun e w'=>e=.returned (.bool false)/\Below W.heap.size W w'):=fun W=>sOk0 W hS h
 have HA:Hid (Below w.heap.size w (w.alloc (.cells #[.int .i64 N,.string S] 32))):=(Below.refl _ _).alloc (Nat.le_refl _) _
 clear h
 go_enter Tryz.func134,Tryz.ntmps134
 go_wp2_with fail
 refine (HO.out _).mono ?_
 rintro e w1 ⟨rfl,hb⟩
 have HB:Hid (Below w.heap.size w w1):=HA.out.trans (hb.mono HA.out.size)
 clear hb
 go_wp2
 go_ret
 exact ⟨rfl,HB.out⟩
theorem sKnown (n:Nat) (F:Nat->Bool) (w:World) (hn:n<=12) :
 Calls Tryz.prog 134 #[tv (n:Int) (bs (tab n F))] w fun e w'=>e=.returned (.int .i64 (knw n F))/\Below w.heap.size w w':=by
 have HO:Hid (∀ W,Calls Tryz.prog 122 #[tv (n:Int) (bs (tab n F))] W fun e w'=>e=.returned (.bool true)/\Below W.heap.size W w'):=fun W=>sOk1 n F W hn
 obtain ⟨hp,hl⟩:=p12 hn
 have HG:Hid (Sg (bs (tab n F)) (2 ^ n) F):=sg_tab n F
 have HKS:Hid ((∀ j,j < 2 ^ n->F j=F 0)->knw n F=((F 0).toNat:Int)):=knw_same
 have HKD:Hid (∀ k,k < 2 ^ n->F k≠F 0->knw n F = -1):=fun k=>knw_diff
 generalize knw n F=KN at *
 generalize bs (tab n F)=S at *
 generalize 2 ^ n=P at *
 have hSP:S.size<=4096:=by rw [HG.out.size];exact hl
 have hS1:1<=S.size:=by rw [HG.out.size];exact hp
 have hS0:0 < (S.size:Int):=by omega
 have hSn:0 < S.size:=by omega
 have hSe:¬ S.size=0:=by omega
 have h8:=HG.out.at_ 0 (by omega)
 have HL0:Hid (Lay (w.alloc (.cells #[.int .i64 (n:Int),.string S] 32)) w.heap.size (.int .i64 (n:Int)) (.string S)):=Lay.made _ _ _ _
 have HA:Hid (Below w.heap.size w (w.alloc (.cells #[.int .i64 (n:Int),.string S] 32))):=(Below.refl _ _).alloc (Nat.le_refl _) _
 go_enter Tryz.func134,Tryz.ntmps134
 go_wp2_with fail
 refine (HO.out _).mono ?_
 rintro e w1 ⟨rfl,hb⟩
 have HB:Hid (Below w.heap.size w w1):=HA.out.trans (hb.mono HA.out.size)
 have HX:Hid (Lay w1 w.heap.size (.int .i64 (n:Int)) (.string S)):=HL0.out.below hb
 clear hb
 obtain ⟨x0,x1,_,_⟩:=HX.out
 go_wp2
 clear x0 x1
 go_loopw [3] (fun i wr=>∃ k:Nat,1<=k/\k<=S.size/\i=.int .i64 k/\(∀ j,j < k->F j=F 0)/\Lay wr w.heap.size (.int .i64 (n:Int)) (.string S)/\Below w.heap.size w wr) (fun i _=>S.size - (intOf i).toNat)
 case atStart=>exact ⟨1,Nat.le_refl _,hS1,rfl,fun j hj=>by rw [show j=0 by omega],HX.out,HB.out⟩
 case round =>
  obtain ⟨k,hk1,hk,rfl,hE,hx,hb⟩:=hrel
  have HE:Hid (∀ j,j < k->F j=F 0):=hE
  have HXr:Hid (Lay wr w.heap.size (.int .i64 (n:Int)) (.string S)):=hx
  have HBr:Hid (Below w.heap.size w wr):=hb
  clear hE hb
  obtain ⟨x0,x1,_,_⟩:=hx
  by_cases hlt:k < S.size
  ·have hkz:(k:Int) < (S.size:Int):=by omega
   have h9:=HG.out.at_ k hlt
   by_cases hF:F k=F 0
   ·have hne:(((S[k].toNat:Nat):Int) != ((S[0].toNat:Nat):Int))=false:=by rw [h9,h8,hF];simp
    have HF:Hid (F k=F 0):=hF
    clear hF h9 h8
    go_wp2_with fail
    go_quiet (fail)
    go_wp2
    go_roundw
    case rel=>exact ⟨k+1,by omega,by omega,by go_num,fun j hj=>by
     by_cases e:j=k
     ·rw [e];exact HF.out
     ·exact HE.out j (by omega),HXr.out.kept (S:=fun _=>False) ((Kept.refl _ _).drewN _) (fun h=>h),below_drewN HBr.out _⟩
    case measure=>simp [intOf];omega
   ·have hne:(((S[k].toNat:Nat):Int) != ((S[0].toNat:Nat):Int))=true:=by
     rw [h9,h8]
     cases h1:F k<;>cases h2:F 0<;>simp_all
    have HF:Hid (KN = -1):=HKD.out k (by rw [<- HG.out.size];exact hlt) hF
    clear hF h9 h8
    go_wp2_with fail
    go_quiet (fail)
    go_wp2
    go_ret
    exact ⟨ret_int HF.out.symm,below_drewN HBr.out _⟩
  ·have HF:Hid (KN=((F 0).toNat:Int)):=HKS.out fun j hj=>HE.out j (by have:=HG.out.size;omega)
   cases hF0:F 0
   all_goals
    rw [hF0] at h8 HF
    clear hF0
    simp only [Bool.toNat_false,Bool.toNat_true,Int.natCast_zero,Int.natCast_one] at h8
    go_wp2
    go_ret
    exact ⟨ret_int (by rw [HF.out];rfl),HBr.out⟩
end Td1
end Go.Proofs.YtladjpombohpaaaGreatDoor
