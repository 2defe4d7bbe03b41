import Derived.Deep.CutBlock
import Derived.Test.YtjajkmdoggbicaaGreatDoorPkST26
import Derived.Test.YtjajkmdoggbicaaGreatDoorPkST9
import Derived.Test.YtjajkmdoggbicaaGreatDoorPkST31
import Derived.Test.YtjajkmdoggbicaaGreatDoorPkST44
import Derived.Test.YtjajkmdoggbicaaGreatDoorPkST45
import Derived.Test.YtjajkmdoggbicaaGreatDoorPkST47
import Derived.Test.YtjajkmdoggbicaaGreatDoorZm1
import Derived.Test.YtjajkmdoggbicaaGreatDoorPkST19
namespace Go.Proofs.YtjajkmdoggbicaaGreatDoor
set_option maxRecDepth 100000
set_option maxHeartbeats 8000000
set_option linter.unusedVariables false
namespace Zk1
open Go.RowKit
open Nd0 (lt_of_cell)
open Ta1 (tab tokB tok_tab tab_length)
open Tc2 (tv iTableOk)
open Tc5 (Lay)
open Td2 (finT)
open Ss0 (bs bs_size)
open Ss1 (tl tl_bs bs_tl tl_length)
open Tk0 (keyL iKey)
open Zk0 Zt0
/-- What reading a key comes to. -/
def RkP (S:ByteArray) (e:Ending):Prop:=e=.returned (.tuple #[tv (if rkB (tl S)=true then rkN (tl S) else 0) (bs (if rkB (tl S)=true then cutS 58 (tl S) else [])),.bool (rkB (tl S))])
theorem RkP.yes {S:ByteArray} {N:Int} {T:ByteArray} (h:rkB (tl S)=true) (hN:N=rkN (tl S)) (hT:T=bs (cutS 58 (tl S))):RkP S (.returned (.tuple #[tv N T,.bool true])):=by
 unfold RkP
 rw [h,if_pos rfl,if_pos rfl,hN,hT]
theorem RkP.no {S:ByteArray} (h:rkB (tl S)=false):RkP S (.returned (.tuple #[tv 0 ⟨#[]⟩,.bool false])):=by
 unfold RkP
 rw [h]
 rfl
theorem iReadKey (S:ByteArray) (w:World) (hT:TabZ w) (hs:S.size<=1048576) :
 Calls Tryz.prog 13 #[.string S] w fun e w'=>RkP S e/\Below w.heap.size w w':=by
 have HTZ:Hid (TabZ w):=hT
 obtain ⟨X0,hX0⟩:∃ X,X=w.alloc (.cells #[.int .i64 0,.string ⟨#[]⟩] 26):=⟨_,rfl⟩
 have b0:Below w.heap.size w X0:=by rw [hX0];exact (Below.refl _ _).alloc (Nat.le_refl _) _
 have HB0:Hid (Below w.heap.size w X0):=b0
 have HR0:Hid (Lay X0 w.heap.size (.int .i64 0) (.string ⟨#[]⟩)):=by rw [hX0];exact Lay.made _ _ _ _
 have hE:w.alloc (.cells #[.int .i64 0,.string ⟨#[]⟩] 26)=X0:=hX0.symm
 have HCU:Hid _:=iCut 58 S X0 (hT.below b0) hs
 have hl1:(cutF 58 (tl S)).length<=1048576:=by have:=cutF_le 58 (tl S);rw [tl_length] at this;omega
 have hl2:(cutS 58 (tl S)).length<=1048576:=by have:=cutS_le 58 (tl S);rw [tl_length] at this;omega
 have HRN:Hid (∀ W,TabZ W->Calls Tryz.prog 45 #[.string (bs (cutF 58 (tl S)))] W fun e w'=>e=.returned (.tuple #[.int .i64 (rkN (tl S)),.bool (rnP (cutF 58 (tl S))).2])/\Below W.heap.size W w'):=fun W h=>by
  have:=iReadNumber (bs (cutF 58 (tl S))) W h (by rw [bs_size];exact hl1)
  rw [tl_bs] at this
  exact this
 have HTO:Hid (∀ W,Calls Tryz.prog 39 #[tv (rkN (tl S)) (bs (cutS 58 (tl S)))] W fun e w'=>e=.returned (.bool (tokB (rkN (tl S)) (cutS 58 (tl S))))/\Below W.heap.size W w'):=fun W=>by
  have:=iTableOk (rkN (tl S)) (bs (cutS 58 (tl S))) W (by rw [bs_size];exact hl2)
  rw [tl_bs] at this
  exact this
 obtain ⟨rb,hrb⟩:∃ b,b=(rnP (cutF 58 (tl S))).2:=⟨_,rfl⟩
 obtain ⟨tb,htb⟩:∃ b,b=tokB (rkN (tl S)) (cutS 58 (tl S)):=⟨_,rfl⟩
 have HK:Hid (rkB (tl S)=(rb&&(tb&&decide (keyL (rkN (tl S)).toNat (cutS 58 (tl S))=tl S)))):=by show _=_;rw [hrb,htb];rfl
 have HKY:Hid (tb=true->∀ W,TabZ W->Calls Tryz.prog 46 #[tv (rkN (tl S)) (bs (cutS 58 (tl S)))] W fun e w'=>e=.returned (.string (bs (keyL (rkN (tl S)).toNat (cutS 58 (tl S)))))/\Below W.heap.size W w'):=fun ht W h=>by
  rw [htb] at ht
  obtain ⟨n,F,hn,hN,hl⟩:=tok_tab ht
  rw [hN,hl,Int.toNat_natCast]
  exact iKey n F W hn h.pow
 rw [<- hrb] at HRN
 rw [<- htb] at HTO
 clear hX0 b0 hT hs hl1 hl2 hrb htb
 obtain ⟨N,hN⟩:∃ N,N=rkN (tl S):=⟨_,rfl⟩
 have HN:Hid (N=rkN (tl S)):=hN
 obtain ⟨X,hX⟩:∃ X,X=bs (cutF 58 (tl S)):=⟨_,rfl⟩
 obtain ⟨Y,hY⟩:∃ Y,Y=bs (cutS 58 (tl S)):=⟨_,rfl⟩
 have HY:Hid (Y=bs (cutS 58 (tl S))):=hY
 obtain ⟨KS,hKS⟩:∃ K,K=bs (keyL (rkN (tl S)).toNat (cutS 58 (tl S))):=⟨_,rfl⟩
 have HKS:Hid (KS=bs (keyL (rkN (tl S)).toNat (cutS 58 (tl S)))):=hKS
 rw [<- hX,<- hY] at HCU
 rw [<- hX,<- hN] at HRN
 rw [<- hY,<- hN] at HTO
 rw [<- hKS,<- hY,<- hN] at HKY
 clear hN hX hY hKS
 go_enter Tryz.func13,Tryz.ntmps13
 go_upto_region 1 with fail
 clear hE
 go_wp2_with fail
 refine Calls.mono HCU.out ?_
 rintro e w1 ⟨⟨cb,rfl⟩,hb⟩
 have HB1:Hid (Below w.heap.size w w1):=HB0.out.trans (hb.mono HB0.out.size)
 have HR1:Hid (Lay w1 w.heap.size (.int .i64 0) (.string ⟨#[]⟩)):=HR0.out.below hb
 clear hb HB0 HR0 HCU
 go_wp2_with fail
 refine (HRN.out _ (HTZ.out.below HB1.out)).mono ?_
 rintro e w2 ⟨rfl,hb⟩
 have HB2:Hid (Below w.heap.size w w2):=HB1.out.trans (hb.mono HB1.out.size)
 have HR2:Hid (Lay w2 w.heap.size (.int .i64 0) (.string ⟨#[]⟩)):=HR1.out.below hb
 clear hb HB1 HR1 HRN
 go_upto_region 4 with fail
 obtain ⟨W3,hW3⟩:∃ X,X=w2.alloc (.cells #[.int .i64 N,.string Y] 26):=⟨_,rfl⟩
 obtain ⟨q,hq⟩:∃ q,q=w2.heap.size:=⟨_,rfl⟩
 have hb:Below w2.heap.size w2 W3:=by rw [hW3];exact (Below.refl _ _).alloc (Nat.le_refl _) _
 have HT3:Hid (Lay W3 q (.int .i64 N) (.string Y)):=by rw [hW3,hq];exact Lay.made _ _ _ _
 have HB3:Hid (Below w.heap.size w W3):=HB2.out.trans (hb.mono HB2.out.size)
 have HR3:Hid (Lay W3 w.heap.size (.int .i64 0) (.string ⟨#[]⟩)):=HR2.out.below hb
 rw [<- hW3,<- hq]
 clear hb hW3 hq HB2 HR2
 cases rb
 ·have HF:Hid (rkB (tl S)=false):=by show _=_;rw [HK.out];rfl
  have HFN:Hid _:=finT HR3.out HB3.out (Nat.le_refl _) (.int .i64 0) (.string ⟨#[]⟩)
  obtain ⟨r0,r1,r2,r3⟩:=HR3.out
  go_wp2
  obtain ⟨W,hW,hz,hbz⟩:=HFN.out
  rw [<- hW]
  obtain ⟨z0,z1,_,_⟩:=hz
  exact bodyPost_ret (v:=.tuple #[tv 0 ⟨#[]⟩,.bool false]) (by simp [results,Tryz.results13,go_sem,z0,z1]) rfl ⟨RkP.no HF.out,hbz⟩
 cases tb
 ·have HF:Hid (rkB (tl S)=false):=by show _=_;rw [HK.out];rfl
  obtain ⟨t0,t1,_,_⟩:=HT3.out
  go_wp2_with fail
  clear t0 t1
  refine (HTO.out _).mono ?_
  rintro e w4 ⟨rfl,hb⟩
  have HB4:Hid (Below w.heap.size w w4):=HB3.out.trans (hb.mono HB3.out.size)
  have HR4:Hid (Lay w4 w.heap.size (.int .i64 0) (.string ⟨#[]⟩)):=HR3.out.below hb
  clear hb
  have HFN:Hid _:=finT HR4.out HB4.out (Nat.le_refl _) (.int .i64 0) (.string ⟨#[]⟩)
  obtain ⟨r0,r1,r2,r3⟩:=HR4.out
  go_wp2
  obtain ⟨W,hW,hz,hbz⟩:=HFN.out
  rw [<- hW]
  obtain ⟨z0,z1,_,_⟩:=hz
  exact bodyPost_ret (v:=.tuple #[tv 0 ⟨#[]⟩,.bool false]) (by simp [results,Tryz.results13,go_sem,z0,z1]) rfl ⟨RkP.no HF.out,hbz⟩
 have HKY2:Hid _:=HKY.out rfl
 clear HKY
 obtain ⟨t0,t1,_,_⟩:=HT3.out
 go_wp2_with fail
 clear t0 t1
 refine (HTO.out _).mono ?_
 rintro e w4 ⟨rfl,hb⟩
 have HB4:Hid (Below w.heap.size w w4):=HB3.out.trans (hb.mono HB3.out.size)
 have HR4:Hid (Lay w4 w.heap.size (.int .i64 0) (.string ⟨#[]⟩)):=HR3.out.below hb
 have HT4:Hid (Lay w4 q (.int .i64 N) (.string Y)):=HT3.out.below hb
 clear hb HB3 HR3 HT3
 obtain ⟨t0,t1,_,_⟩:=HT4.out
 go_wp2_with fail
 clear t0 t1
 refine (HKY2.out _ (HTZ.out.below HB4.out)).mono ?_
 rintro e w5 ⟨rfl,hb⟩
 have HB5:Hid (Below w.heap.size w w5):=HB4.out.trans (hb.mono HB4.out.size)
 have HR5:Hid (Lay w5 w.heap.size (.int .i64 0) (.string ⟨#[]⟩)):=HR4.out.below hb
 have HT5:Hid (Lay w5 q (.int .i64 N) (.string Y)):=HT4.out.below hb
 clear hb HB4 HR4 HT4
 by_cases hk:keyL (rkN (tl S)).toNat (cutS 58 (tl S))=tl S
 ·have HF:Hid (rkB (tl S)=true):=by show _=_;rw [HK.out,decide_eq_true hk];rfl
  have hne:(KS.toList==S.toList)=true:=Ss1.eqb_true (by rw [HKS.out,tl_bs,hk])
  have HFN:Hid _:=finT HR5.out HB5.out (Nat.le_refl _) (.int .i64 N) (.string Y)
  clear hk
  obtain ⟨t0,t1,_,_⟩:=HT5.out
  obtain ⟨r0,r1,r2,r3⟩:=HR5.out
  have hq1:=HT5.out.lt
  go_wp2
  obtain ⟨W,hW,hz,hbz⟩:=HFN.out
  rw [<- hW]
  obtain ⟨z0,z1,_,_⟩:=hz
  exact bodyPost_ret (v:=.tuple #[tv N Y,.bool true]) (by simp [results,Tryz.results13,go_sem,z0,z1]) rfl ⟨RkP.yes HF.out HN.out HY.out,hbz⟩
 ·have HF:Hid (rkB (tl S)=false):=by show _=_;rw [HK.out,decide_eq_false hk];rfl
  have hne:(KS.toList==S.toList)=false:=Ss1.eqb_false (by rw [HKS.out,tl_bs];exact hk)
  have HFN:Hid _:=finT HR5.out HB5.out (Nat.le_refl _) (.int .i64 0) (.string ⟨#[]⟩)
  clear hk
  obtain ⟨r0,r1,r2,r3⟩:=HR5.out
  go_wp2
  obtain ⟨W,hW,hz,hbz⟩:=HFN.out
  rw [<- hW]
  obtain ⟨z0,z1,_,_⟩:=hz
  exact bodyPost_ret (v:=.tuple #[tv 0 ⟨#[]⟩,.bool false]) (by simp [results,Tryz.results13,go_sem,z0,z1]) rfl ⟨RkP.no HF.out,hbz⟩
end Zk1
namespace Sq3
open Go.RowKit
open Nd0 (Kept lt_of_cell Ints)
open Nd6 (Bools)
open Ta1 Tc2 Mm0 Mx0 Mu6 Mu8 Mc0 Mc1 Mw19 Mw20 Rdp Sq0 Sq1 Sq2
open De0 (dc)
open Qc0 (Sn)
open Mm1 (bi)
open Mm2 (mokB)
open Mi4 (iMachineOk)
open Mi5 (iMLeft1 bits_of)
open Zs0 (svS svB savT)
open Zs7 (SvP TabE iSave)
open Zm1 (sSave)
open Zk0 (rk_key)
open Zk1 (RkP iReadKey)
open Sa0 (startM)
open Tk0 (keyL)
open Ss0 (bs bs_size bs_inj)
open Ss1 (tl tl_bs)
theorem runM_add (n:Nat) (F:Nat->Bool) (a b:Nat):∀ m,runM n F (a+b) m=runM n F b (runM n F a m):=by
 induction a with
 | zero=>intro m;rw [Nat.zero_add];rfl
 | succ a ih =>
   intro m
   by_cases e:m.over=true\/1000000000<=m.looks\/1000000000<=m.hits
   ·rw [runM_stop e,runM_stop e,runM_stop e]
   ·rw [show a+1+b=(a+b)+1 by omega,runM_next e,runM_next e]
    exact ih _
/-- A machine from its start on, some steps behind it. -/
theorem start_run {n:Nat} {F:Nat->Bool} {row:List Bool} {room:Nat} (hrl:row.length=n) (k:Nat) (hk:k<=100000):runM n F k (startM row (n:Int) (bs (tab n F)) (room:Int))=toMc row F room (Mc0.runN row F keyL room k st0):=by
 subst hrl
 have e:startM row (row.length:Int) (bs (tab row.length F)) (room:Int)=toMc row F room st0:=rfl
 rw [e,run_mc k st0 (by show 0+k < _;omega) (by show 0+k < _;omega) (by show 0+k < _;omega)]
/-- What it remembers is true. -/
theorem truth {n:Nat} {F:Nat->Bool} {row:List Bool} {room:Nat} {m:Mc} (hrl:row.length=n) (k:Nat) (hk:k<=100000) (hm:m=runM n F k (startM row (n:Int) (bs (tab n F)) (room:Int))) (hK:Ky n m) :
 ∀ x∈m.memo,∃ (j:Nat) (G:Nat->Bool),j<=n/\x.k=bs (keyL j (tab j G))/\x.r=bi (dc (row.drop (n - j)) G):=by
 intro x hx
 obtain ⟨j,G,hj,e⟩:=hK x hx
 refine ⟨j,G,hj,e,?_⟩
 rw [hm,start_run hrl k hk] at hx
 obtain ⟨y,hy,rfl⟩:=List.mem_map.1 hx
 have hg:=(in_run (room:=room) (F:=F) key_two k (in_start (row:=row))).good
 have h1:=hg y hy j G (by omega) (bs_inj e)
 show bi y.2=_
 rw [h1,hrl]
/-- It is over, and a step more changes nothing. -/
theorem over_run {n:Nat} {F:Nat->Bool} {row:List Bool} {room:Nat} (hrl:row.length=n) (hn:n<=6) (k:Nat) (h0:256<=k) (hk:k<=100000):(runM n F k (startM row (n:Int) (bs (tab n F)) (room:Int))).over=true:=by
 rw [start_run hrl k hk]
 obtain ⟨k0,s',hk0,hrun,ho,_⟩:=ends (row:=row) (F:=F) (room:=room) (key:=keyL) key_two
 have h2:2 ^ row.length<=2 ^ 6:=Nat.pow_le_pow_right (by omega) (by omega)
 rw [show k=k0+(k - k0) by omega,Mc0.runN_add,hrun,run_over ho]
 exact ho
/-- All that the law asks: m is run N steps on to O, K steps to H and the rest to O; X is O's text, E where it ends. -/
structure Sg (n:Nat) (row:List Bool) (m H O E:Mc) (N K:Nat) (X:ByteArray):Prop where
 run1:∀ (W:World) ra va ma rc vc mc,TabE W->Mr W m ra va ma->Calls Tryz.prog 8 #[mval m ra va ma rc vc mc,.int .i64 (N:Int)] W fun e w'=>(∃ ra va ma rc vc mc,e=.returned (mval O ra va ma rc vc mc)/\Mr w' O ra va ma/\O.row.length<=rc)/\Below W.heap.size W w'
 runK:∀ (W:World) ra va ma rc vc mc,TabE W->Mr W m ra va ma->Calls Tryz.prog 8 #[mval m ra va ma rc vc mc,.int .i64 (K:Int)] W fun e w'=>(∃ ra va ma rc vc mc,e=.returned (mval H ra va ma rc vc mc)/\Mr w' H ra va ma)/\Below W.heap.size W w'
 runR:∀ (W:World) ra va ma rc vc mc,TabE W->Mr W H ra va ma->Calls Tryz.prog 8 #[mval H ra va ma rc vc mc,.int .i64 ((N:Int) - (K:Int))] W fun e w'=>(∃ ra va ma rc vc mc,e=.returned (mval O ra va ma rc vc mc)/\Mr w' O ra va ma)/\Below W.heap.size W w'
 srun:∀ (W:World) ra va ma rc vc mc,Mr W m ra va ma->Calls Tryz.prog 9 #[mval m ra va ma rc vc mc,.int .i64 (N:Int)] W fun e w'=>(∃ ra va ma rc vc mc,e=.returned (mval O ra va ma rc vc mc)/\Mr w' O ra va ma)/\Below W.heap.size W w'
 save:∀ (W:World) ra va ma rc vc mc,TabE W->Mr W O ra va ma->Calls Tryz.prog 10 #[mval O ra va ma rc vc mc] W fun e w'=>e=.returned (.tuple #[.string X,.bool true])/\Below W.heap.size W w'
 ssave:∀ (W:World) ra va ma rc vc mc,Mr W O ra va ma->Calls Tryz.prog 11 #[mval O ra va ma rc vc mc] W fun e w'=>e=.returned (.tuple #[.string X,.bool true])/\Below W.heap.size W w'
 ok:∀ (W:World) ra va ma rc vc mc,Mr W O ra va ma->Calls Tryz.prog 12 #[mval O ra va ma rc vc mc] W fun e w'=>e=.returned (.bool true)/\Below W.heap.size W w'
 memo:∀ x∈O.memo,∃ (j:Nat) (G:Nat->Bool),j<=n/\(∀ (W:World),TabE W->Calls Tryz.prog 13 #[.string x.k] W fun e w'=>e=.returned (.tuple #[tv (j:Int) (bs (tab j G)),.bool true])/\Below W.heap.size W w')/\x.r=((dc (row.drop (n - j)) G).toNat:Int)
 left:∀ (W:World) ra va ma rc vc mc,Mr W O ra va ma->Calls Tryz.prog 15 #[mval O ra va ma rc vc mc] W fun e w'=>(∃ T,e=.returned (.tuple #[tv ((n:Int) - (O.vals.length:Int)) T,.bool true]))/\Below W.heap.size W w'
 run5:∀ (W:World) ra va ma rc vc mc,TabE W->Mr W O ra va ma->Calls Tryz.prog 8 #[mval O ra va ma rc vc mc,.int .i64 5000] W fun e w'=>(∃ ra va ma rc vc mc,e=.returned (mval E ra va ma rc vc mc)/\Mr w' E ra va ma)/\Below W.heap.size W w'
 step:∀ (W:World) ra va ma rc vc mc,TabE W->Mr W E ra va ma->Calls Tryz.prog 16 #[mval E ra va ma rc vc mc] W fun e w'=>(∃ ra va ma rc vc mc,e=.returned (mval E ra va ma rc vc mc)/\Mr w' E ra va ma)/\Below W.heap.size W w'
 over:E.over=true
 oN:O.N=(n:Int)
 orow:O.row=row
 olen:row.length=n
 ovals:O.vals.length<=n
theorem sg_of {n:Nat} {F:Nat->Bool} {m:Mc} (h:Rn n F m) {N K:Nat} (hN:N<=255) (hK:K<=N):∃ row H O E X,Sg n row m H O E N K X:=by
 obtain ⟨row,room,k,hrl,hro,hk,hm,hIv⟩:=h.is
 have h6:=h.n6
 have hIH:=iv_run K hIv
 have hIO:=iv_run N hIv
 have hIE:=iv_run 5000 hIO
 obtain ⟨o1,o2,o3⟩:=sv_run h6 hIO.ok hIO.keys
 have sht:∀ {M:Mc},Iv n F row (room:Int) M->∀ x∈M.memo,x.k.size<=maxLen:=fun {M} hM x hx=>Nat.le_trans ((sv_run h6 hM.ok hM.keys).2.2 x hx) (by unfold maxLen;omega)
 have irun:∀ {M M':Mc} {L:Nat},Iv n F row (room:Int) M->L<=100000->runM n F L M=M'->∀ (W:World) ra va ma rc vc mc,TabE W->Mr W M ra va ma->Calls Tryz.prog 8 #[mval M ra va ma rc vc mc,.int .i64 (L:Int)] W fun e w'=>(∃ ra va ma rc vc mc,e=.returned (mval M' ra va ma rc vc mc)/\Mr w' M' ra va ma/\M'.row.length<=rc)/\Below W.heap.size W w':=fun {M M' L} hM hL hr W ra va ma rc vc mc hT hR=>by
  refine (iRun n F M ra va ma rc vc mc L W (by omega) ⟨hM.hN,hM.hS,hM.ok⟩ hL hR (sht hM) hT.tab.pow).mono ?_
  rw [hr]
  rintro e w' ⟨ra,va,ma,rc,vc,mc,he,hP,hb⟩
  refine ⟨⟨ra,va,ma,rc,vc,mc,he,hP.mr,?_⟩,hb⟩
  rcases hP.row.2 with ⟨e9,h0⟩|⟨g,cap,cur,e9,_,_,hn9,_⟩
  ·omega
  ·cases e9
   exact hn9
 have drop:∀ {M:Mc} {W:World} {e:Ending} {w':World},(∃ ra va ma rc vc mc,e=.returned (mval M ra va ma rc vc mc)/\Mr w' M ra va ma/\M.row.length<=rc)/\Below W.heap.size W w'->(∃ ra va ma rc vc mc,e=.returned (mval M ra va ma rc vc mc)/\Mr w' M ra va ma)/\Below W.heap.size W w':=fun ⟨⟨ra,va,ma,rc,vc,mc,he,hr,_⟩,hb⟩=>⟨⟨ra,va,ma,rc,vc,mc,he,hr⟩,hb⟩
 have hO:runM n F N m=runM n F (k+N) (startM row (n:Int) (bs (tab n F)) (room:Int)):=by rw [runM_add,<- hm]
 have hE:runM n F 5000 (runM n F N m)=runM n F (k+N+5000) (startM row (n:Int) (bs (tab n F)) (room:Int)):=by rw [runM_add,<- hO]
 have hEo:(runM n F 5000 (runM n F N m)).over=true:=by rw [hE];exact over_run hrl h6 _ (by omega) (by omega)
 obtain ⟨vb,hvb⟩:=bits_of (runM n F N m).vals hIO.ok.bits
 have hvl:vb.length<=n:=by
  have h1:=hIO.ok.vals
  rw [hvb,List.length_map,hIO.hN] at h1
  omega
 refine ⟨row,runM n F K m,runM n F N m,runM n F 5000 (runM n F N m),bs (savT (runM n F N m)),?_⟩
 refine ⟨irun hIv (by omega) rfl,fun W ra va ma rc vc mc hT hR=>(irun hIv (by omega) rfl W ra va ma rc vc mc hT hR).mono fun e w' h=>drop h,fun W ra va ma rc vc mc hT hR=>?_,fun W ra va ma rc vc mc hR=>?_,fun W ra va ma rc vc mc hT hR=>?_,fun W ra va ma rc vc mc hR=>?_,fun W ra va ma rc vc mc hR=>?_,fun x hx=>?_,fun W ra va ma rc vc mc hR=>?_,fun W ra va ma rc vc mc hT hR=>(irun (L:=5000) hIO (by omega) rfl W ra va ma rc vc mc hT hR).mono fun e w' h=>drop h,fun W ra va ma rc vc mc hT hR=>?_,hEo,hIO.hN,hIO.row,hrl,?_⟩
 ·have h9:=irun (L:=N - K) (M':=runM n F N m) hIH (by omega) (by rw [<- runM_add,show K+(N - K)=N by omega]) W ra va ma rc vc mc hT hR
  rw [show ((N - K:Nat):Int)=(N:Int) - (K:Int) by omega] at h9
  exact h9.mono fun e w' h=>drop h
 ·refine (sRun n F m ra va ma rc vc mc N W (by omega) hIv.hN hIv.hS hIv.ok (by omega) hR).mono ?_
  rintro e w' ⟨ra,va,ma,rc,vc,mc,he,hmo,hb⟩
  exact ⟨⟨ra,va,ma,rc,vc,mc,he,hmo.mr⟩,hb⟩
 ·refine (iSave _ ra va ma rc vc mc W hR o2 o3 hT).mono ?_
  rintro e w' ⟨hp,hb⟩
  unfold SvP at hp
  rw [show svS (runM n F N m)=bs (savT (runM n F N m)) from by unfold svS;rw [o1,if_pos rfl],o1] at hp
  exact ⟨hp,hb⟩
 ·refine (sSave _ ra va ma rc vc mc W hR o2 o3).mono ?_
  rintro e w' ⟨hp,hb⟩
  unfold SvP at hp
  rw [show svS (runM n F N m)=bs (savT (runM n F N m)) from by unfold svS;rw [o1,if_pos rfl],o1] at hp
  exact ⟨hp,hb⟩
 ·refine (iMachineOk _ ra va ma rc vc mc W o2 hR (sht hIO)).mono ?_
  rw [(mok_iff _).2 hIO.ok]
  exact fun e w' h=>h
 ·obtain ⟨j,G,hj,e1,e2⟩:=truth hrl (k+N) (by omega) hO hIO.keys x hx
  refine ⟨j,G,hj,fun W hT=>?_,?_⟩
  ·rw [e1]
   refine (iReadKey (bs (keyL j (tab j G))) W hT.tab (Nat.le_trans (key_six (by omega) G) (by omega))).mono ?_
   rintro e w' ⟨hp,hb⟩
   obtain ⟨r1,r2,r3⟩:=rk_key G (by omega:j<=12)
   unfold RkP at hp
   rw [tl_bs,r1,if_pos rfl,if_pos rfl,r2,r3] at hp
   exact ⟨hp,hb⟩
  ·rw [e2]
   cases dc (row.drop (n - j)) G<;>rfl
 ·refine (iMLeft1 n F vb _ ra va ma rc vc mc W o2 hR (sht hIO) ((mok_iff _).2 hIO.ok) (by omega) hIO.hN hIO.hS hvb hvl).mono ?_
  rintro e w' ⟨he,hb⟩
  refine ⟨⟨bs (tab (n - vb.length) (lft n F vb)),?_⟩,hb⟩
  rw [he,hvb,List.length_map,show (n:Int) - (vb.length:Int)=((n - vb.length:Nat):Int) by omega]
 ·refine (iStepOf W (runM n F 5000 (runM n F N m)) (runM n F 5000 (runM n F N m)) ra va ma rc vc mc (fun W' hb=>?_)).mono ?_
  ·have h9:=iRun n F (runM n F 5000 (runM n F N m)) ra va ma rc vc mc 1 W' (by omega) ⟨hIE.hN,hIE.hS,hIE.ok⟩ (by omega) (hR.below hb) (sht hIE) (hT.tab.pow.below hb)
   rw [runM_stop (.inl hEo)] at h9
   exact h9
  ·rintro e w' ⟨ra,va,ma,rc,vc,mc,he,hP,hb⟩
   exact ⟨⟨ra,va,ma,rc,vc,mc,he,hP.mr⟩,hb⟩
 ·rw [hvb,List.length_map]
  exact hvl
end Sq3
end Go.Proofs.YtjajkmdoggbicaaGreatDoor
