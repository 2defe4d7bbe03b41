import Derived.Test.YtfhdbcfhhbdiiaaPkXW20
namespace Go.Proofs.Ytfhdbcfhhbdiiaa
set_option maxRecDepth 100000
set_option maxHeartbeats 8000000
set_option linter.unusedVariables false
namespace Tc6
open Go.RowKit
open Ta0 Ta1 Tc2 Tc4 Tc5
open Nd0 (Kept set_other set_same lt_of_cell)
open Ss0 (bs bs_size ret_str)
open Ss1 (tl tl_length tl_get tl_take bs_tl tl_bs tl_inj eqb)
theorem infoB:(Try.prog.info? 5).map (fun i=>(i.zero,i.size,i.bytes))=some (some (.int .u8 0),1,1):=by kernel_rfl
def noughtsB (n:Nat):Array Value:=madeCells #[.int .u8 0] (n*1)
theorem noughtsB_get (n j:Nat) (h:j < n):(noughtsB n)[j]? = some (.int .u8 0):=by
 simp only [noughtsB,madeCells,Array.getElem?_map,Array.getElem?_range]
 rw [if_pos (by omega)]
 simp only [Option.map_some]
 have e:j % 1=0:=Nat.mod_one j
 exact congrArg (fun m=>some ((#[.int .u8 0]:Array Value)[m]!)) e
theorem makeBytes (n:Nat) (hn:n<=1048576) (w:World) :
 (Instr.makeSlice 22 (.int .i64 (n:Int)) (.int .i64 (n:Int))).run Try.prog w=.ok (.slice (some ⟨w.heap.size,0,none⟩) n n) (w.alloc (.cells (noughtsB n) 5)):=by
 obtain ⟨i,hi,hzz⟩:=Option.map_eq_some_iff.1 infoB
 simp only [Prod.mk.injEq] at hzz
 obtain ⟨hz,hs,hb⟩:=hzz
 have h:=run_make (P:=Try.prog) w 22 5 i _ Try.underlying22 hi hz .i64 .i64 n n (by omega) (Int.le_refl _) (by rw [hb];omega) (by omega)
 rw [hs] at h
 simpa [noughtsB,Value.cells] using h
/-- Signs in block c, the first k of them written. -/
def Sgs (W:World) (c P k:Nat) (G:Nat->Bool):Prop:=∀ j,j < P->(∃ v:Int,W.cell? ⟨c,j,none⟩=some (.int .u8 v)/\(j < k->v=((sgn (G j)).toNat:Int)))/\W.frozen? ⟨c,j,none⟩=false
theorem Sgs.kept {W W':World} {c P k:Nat} {G:Nat->Bool} (h:Sgs W c P k G) {S:Nat->Prop} (q:Kept S W W') (hs:¬ S c):Sgs W' c P k G:=fun j hj=>by
 obtain ⟨⟨v,h1,h2⟩,h3⟩:=h j hj
 have hg:c < W.heap.size:=World.block_lt_of_cell? _ _ h1
 exact ⟨⟨v,by rw [q.cell (p:=⟨c,j,none⟩) hg hs];exact h1,h2⟩,by rw [q.frozen (p:=⟨c,j,none⟩) hg hs];exact h3⟩
theorem Sgs.below {W W':World} {c P k:Nat} {G:Nat->Bool} (h:Sgs W c P k G) (q:Below W.heap.size W W'):Sgs W' c P k G:=h.kept (S:=fun _=>False) (Kept.ofBelow q) (fun h=>h)
theorem Sgs.set {W:World} {c P k:Nat} {G:Nat->Bool} (h:Sgs W c P k G) (v:Int) (hv:v=((sgn (G k)).toNat:Int)):Sgs (W.setCell ⟨c,k,none⟩ (.int .u8 v)) c P (k+1) G:=fun j hj=>by
 obtain ⟨⟨u,h1,h2⟩,h3⟩:=h j hj
 by_cases e:j=k
 ·subst e
  exact ⟨⟨v,set_same h1,fun _=>hv⟩,by rw [World.frozen?_setCell];exact h3⟩
 ·exact ⟨⟨u,by rw [set_other (by simp<;>omega)];exact h1,fun x=>h2 (by omega)⟩,by rw [World.frozen?_setCell];exact h3⟩
theorem Sgs.made (W:World) (P:Nat) (G:Nat->Bool):Sgs (W.alloc (.cells (noughtsB P) 5)) W.heap.size P 0 G:=fun j hj =>
 ⟨⟨0,by rw [World.cell?_alloc_new];exact noughtsB_get _ _ hj,fun x=>by omega⟩,by simp⟩
theorem Sgs.text {W:World} {c n:Nat} {G:Nat->Bool} (h:Sgs W c (2 ^ n) (2 ^ n) G):(convert 22 9 (.slice (some ⟨c,0,none⟩) (2 ^ n) (2 ^ n))).run Try.prog W=.ok (.string (bs (tab n G))) W:=by
 have:=run_convert_bytes_back (P:=Try.prog) W 22 9 5 ⟨c,0,none⟩ (2 ^ n) (tab n G) Try.underlying22 Try.underlying5 Try.underlying9 (fun j hj=>by
  obtain ⟨⟨v,h1,h2⟩,_⟩:=h j (by rw [tab_length] at hj;exact hj)
  rw [tab_get,<- h2 (by rw [tab_length] at hj;exact hj)]
  rw [Addr.add_lit,Nat.zero_add];exact h1)
 rw [tab_length] at this
 exact this
theorem table (n g:Nat) (G:Nat->Bool) (w:World) (hn:n<=12) (hW:Wds w g (nw n) G) :
 Calls Try.prog 79 #[pv n (nw n) g] w fun e w'=>e=.returned (tv (n:Int) (bs (tab n G)))/\Below w.heap.size w w':=by
 obtain ⟨hp,hl⟩:=p12 hn
 have hnw:=nw_le hn
 have hgl:=hW.lt (by omega)
 have HW:Hid (Wds w g (nw n) G):=hW
 have HSI:Hid (∀ W,Calls Try.prog 81 #[pv n (nw n) g] W fun e w'=>e=.returned (.int .i64 ((2 ^ n:Nat):Int))/\Below W.heap.size W w'):=fun W=>size n g W hn
 have HAT:Hid (∀ (W:World) (k:Nat),k < 2 ^ n->Wds W g (nw n) G->Calls Try.prog 70 #[pv n (nw n) g,.int .i64 (k:Int)] W fun e w'=>e=.returned (.int .i64 ((G k).toNat:Int))/\Below W.heap.size W w'):=fun W k h1 h2=>at_ n g k G W hn h1 h2
 have HTX:Hid (∀ W c,Sgs W c (2 ^ n) (2 ^ n) G->(convert 22 9 (.slice (some ⟨c,0,none⟩) (2 ^ n) (2 ^ n))).run Try.prog W=.ok (.string (bs (tab n G))) W):=fun W c h=>h.text
 have hmk:=makeBytes (2 ^ n) (by omega)
 clear hW
 generalize bs (tab n G)=S at *
 generalize nw n=m at *
 generalize 2 ^ n=P at *
 go_enter Try.func79,Try.ntmps79
 go_wp2_with fail
 refine (HSI.out _).mono ?_
 rintro e w1 ⟨rfl,hb1⟩
 have HX0:Hid (Lay w1 w.heap.size (.int .i64 (n:Int)) (.slice (some ⟨g,0,none⟩) m m)):=(((Lay.made w _ _ _).alloc _).below hb1)
 have HR0:Hid (Lay w1 (w.heap.size+1) (.int .i64 0) (.string ByteArray.empty)):=by
  have:=(Lay.made (w.alloc (.cells #[.int .i64 (n:Int),.slice (some ⟨g,0,none⟩) m m] 87)) (.int .i64 0) (.string ByteArray.empty) 26).below hb1
  show Lay _ _ _ _
  simpa using this
 have HB1:Hid (Below w.heap.size w w1):=(((Below.refl _ _).alloc (Nat.le_refl _) _).alloc (by simp) _).trans (hb1.mono (by simp;omega))
 have hs1:w.heap.size+2<=w1.heap.size:=by simpa using hb1.size
 clear hb1
 go_wp2_with fail
 clear hmk
 have HX1:Hid (Lay (w1.alloc (.cells (noughtsB P) 5)) w.heap.size (.int .i64 (n:Int)) (.slice (some ⟨g,0,none⟩) m m)):=HX0.out.alloc _
 go_loopw [10] (fun i wr=>∃ k:Nat,k<=P/\i=.int .i64 k/\Lay wr w.heap.size (.int .i64 (n:Int)) (.slice (some ⟨g,0,none⟩) m m)/\Lay wr (w.heap.size+1) (.int .i64 0) (.string ByteArray.empty)/\Sgs wr w1.heap.size P k G/\Below w.heap.size w wr) (fun i _=>P - (intOf i).toNat)
 case atStart=>exact ⟨0,Nat.zero_le _,rfl,HX0.out.alloc _,HR0.out.alloc _,Sgs.made _ _ _,HB1.out.alloc HB1.out.size _⟩
 case round =>
  obtain ⟨k,hk,rfl,hx,hr,hq,hb⟩:=hrel
  have HX:Hid (Lay wr w.heap.size (.int .i64 (n:Int)) (.slice (some ⟨g,0,none⟩) m m)):=hx
  have HR:Hid (Lay wr (w.heap.size+1) (.int .i64 0) (.string ByteArray.empty)):=hr
  have HQ:Hid (Sgs wr w1.heap.size P k G):=hq
  have HB:Hid (Below w.heap.size w wr):=hb
  clear hb hq
  obtain ⟨x0,x1,_,_⟩:=hx
  by_cases hlt:k < P
  ·clear hr
   have hkz:(k:Int) < (P:Int):=by omega
   cases hG:G k
   all_goals
    have HG:Hid (G k=_):=hG
    go_wp2_with fail
    refine (HAT.out _ k hlt (HW.out.below HB.out)).mono ?_
    rw [hG]
    clear hG
    rintro e w3 ⟨rfl,hb3⟩
    have HQ3:Hid (Sgs w3 w1.heap.size P k G):=HQ.out.below hb3
    have HX3:Hid (Lay w3 w.heap.size (.int .i64 (n:Int)) (.slice (some ⟨g,0,none⟩) m m)):=HX.out.below hb3
    have HR3:Hid (Lay w3 (w.heap.size+1) (.int .i64 0) (.string ByteArray.empty)):=HR.out.below hb3
    have HB3:Hid (Below w.heap.size w w3):=HB.out.trans (hb3.mono HB.out.size)
    clear hb3
    obtain ⟨⟨v,v0,_⟩,v1⟩:=HQ3.out k hlt
    go_wp2
    go_roundw
    case rel=>exact ⟨k+1,by omega,by go_num,HX3.out.kept (S:=fun b=>b=w1.heap.size) (kset (S:=fun b=>b=w1.heap.size) (Kept.refl (fun b=>b=w1.heap.size) w3) rfl _) (by omega),HR3.out.kept (S:=fun b=>b=w1.heap.size) (kset (S:=fun b=>b=w1.heap.size) (Kept.refl (fun b=>b=w1.heap.size) w3) rfl _) (by omega),HQ3.out.set _ (by rw [HG.out];rfl),HB3.out.trans ((kset (S:=fun b=>b=w1.heap.size) (Kept.refl (fun b=>b=w1.heap.size) w3) rfl _).below (fun b hb=>by omega) HB3.out.size)⟩
    case measure=>simp [intOf];omega
  ·obtain ⟨r0,r1,r2,r3⟩:=hr
   have hkP:k=P:=by omega
   have hcv:=HTX.out wr w1.heap.size (by have:=HQ.out;rwa [hkP] at this)
   clear hkP
   have HZ:=HR.out.put (.int .i64 (n:Int)) (.string S)
   have HK:Kept (fun b=>b=w.heap.size+1) wr ((wr.setCell ⟨w.heap.size+1,0,none⟩ (.int .i64 (n:Int))).setCell ⟨w.heap.size+1,1,none⟩ (.string S)):=kset (S:=fun b=>b=w.heap.size+1) (kset (S:=fun b=>b=w.heap.size+1) (Kept.refl (fun b=>b=w.heap.size+1) wr) rfl _) rfl _
   have HBZ:=HB.out.trans (HK.below (B:=w.heap.size) (fun b hb=>by omega) HB.out.size)
   have HH:Hid (∃ W,W=(wr.setCell ⟨w.heap.size+1,0,none⟩ (.int .i64 (n:Int))).setCell ⟨w.heap.size+1,1,none⟩ (.string S)/\Lay W (w.heap.size+1) (.int .i64 (n:Int)) (.string S)/\Below w.heap.size w W):=⟨_,rfl,HZ,HBZ⟩
   clear HZ HK HBZ
   go_wp2
   obtain ⟨W,hW,hz,hbz⟩:=HH.out
   rw [<- hW]
   obtain ⟨z0,z1,_,_⟩:=hz
   exact bodyPost_ret (v:=tv (n:Int) S) (by simp [results,Try.results79,go_sem,z0,z1]) rfl ⟨rfl,hbz⟩
end Tc6
end Go.Proofs.Ytfhdbcfhhbdiiaa
