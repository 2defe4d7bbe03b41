import Derived.WalkKit
import Derived.Deep.QuietTactic
import Derived.BigQuiet
import Derived.Test.YtjajkmdoggbicaaGreatDoorZs4
import Derived.Test.YtjajkmdoggbicaaGreatDoorPkST18
import Derived.Test.YtjajkmdoggbicaaGreatDoorPkST22
import Derived.Test.YtjajkmdoggbicaaGreatDoorPkST24
namespace Go.Proofs.YtjajkmdoggbicaaGreatDoor
set_option maxRecDepth 100000
set_option maxHeartbeats 8000000
set_option linter.unusedVariables false
namespace Zs5
open Go.RowKit
open Nd0 (Kept Ints lt_of_cell set_same set_other)
open Tc2 (tv)
open Ss0 (bs bs_size bs_app ret_str)
open Ss1 (tl tl_bs bs_tl)
open Tk0 (TabK keyL)
open Mm0 (Mc Mb Mr Mok mval)
open Qc0 (Sn SnAt Sns)
open Zs0 Zs1 Zs2 Zt0
open Zs3 Zs4
open Ap4 Ap5
open Mm2 (mokB)
/-- A refusal. -/
abbrev rfv (x:ByteArray):Value:=.iface 107 (.agg #[.string x])
/-- What writing a machine comes to. -/
def StP (m:Mc) (e:Ending):Prop:=(svB m=true/\e=.returned (.tuple #[.string (bs (savT m)),.nilIface]))\/(svB m=false/\∃ x,e=.returned (.tuple #[.string ⟨#[]⟩,rfv x]))
theorem sv_ok {m:Mc} (h:mokB m=false):svB m=false:=by unfold svB;rw [h];rfl
theorem sv_key {m:Mc} {x:Sn} (hx:x∈m.memo) (h:plB (tl x.k)=false):svB m=false:=by
 have:keysB m=false:=by
  unfold keysB
  rw [List.all_eq_false]
  exact ⟨x,hx,by rw [h];simp⟩
 unfold svB
 rw [this]
 simp
theorem sv_len {m:Mc} (h:¬ (savT m).length<=400000):svB m=false:=by unfold svB;rw [decide_eq_false h];simp
theorem sv_yes {m:Mc} (h0:mokB m=true) (h1:∀ x∈m.memo,plB (tl x.k)=true) (h:(savT m).length<=400000):svB m=true:=by
 have:keysB m=true:=List.all_eq_true.2 h1
 unfold svB
 rw [h0,this,decide_eq_true h]
 rfl
theorem lit_one (W:World) (x:List UInt8):∀ i (h:i < [x].length),(W.alloc (.cells #[.string (bs x)] 9)).cell? ⟨W.heap.size,i,none⟩=some (.string (bs [x][i])):=by
 intro i hi
 rw [World.cell?_alloc_new]
 have:i=0:=by simpa using hi
 subst this
 rfl
theorem iSaved (m:Mc) (ra va ma:Option Addr) (rc vc mc:Nat) (w:World) (hR:Mr w m ra va ma) (hS:m.S.size<=1048576) (hK:∀ x∈m.memo,x.k.size<=1048576) (hT:TabZ w) :
 Calls Tryz.prog 31 #[mval m ra va ma rc vc mc] w fun e w'=>StP m e/\Below w.heap.size w w':=by
 obtain ⟨X0,hX0⟩:∃ X,X=w.alloc (.cells #[.slice ra m.row.length rc,.int .i64 m.N,.string m.S,.int .i64 m.room,.slice va m.vals.length vc,.int .i64 m.ret,.bool m.over,.int .i64 m.steps,.int .i64 m.looks,.int .i64 m.hits,.slice ma m.memo.length mc] 30):=⟨_,rfl⟩
 have b0:Below w.heap.size w X0:=by rw [hX0];exact (Below.refl _ _).alloc (Nat.le_refl _) _
 have HB0:Hid (Below w.heap.size w X0):=b0
 have HM0:Hid (Mb X0 w.heap.size m ra va ma rc vc mc):=by rw [hX0];exact Mb.made _ _ _ _ _ _ _ _ _
 have hE:w.alloc (.cells #[.slice ra m.row.length rc,.int .i64 m.N,.string m.S,.int .i64 m.room,.slice va m.vals.length vc,.int .i64 m.ret,.bool m.over,.int .i64 m.steps,.int .i64 m.looks,.int .i64 m.hits,.slice ma m.memo.length mc] 30)=X0:=hX0.symm
 have HT:Hid (TabZ w):=hT
 have HR:Hid (Mr w m ra va ma):=hR
 have HK:Hid (∀ x∈m.memo,x.k.size<=1048576):=hK
 have HMO:Hid (Calls Tryz.prog 12 #[mval m ra va ma rc vc mc] X0 fun e w'=>e=.returned (.bool (mokB m))/\Below X0.heap.size X0 w'):=Mi4.iMachineOk m ra va ma rc vc mc X0 hS (hR.below b0) (fun x hx=>Nat.le_trans (hK x hx) (by unfold maxLen;omega))
 clear hX0 b0 hT hR hK hS
 go_enter Tryz.func31,Tryz.ntmps31
 go_upto_region 1 with fail
 clear hE
 obtain ⟨m0,m1,m2,m3,m4,m5,m6,m7,m8,m9,m10⟩:=HM0.out
 go_wp2_with fail
 clear m0 m1 m2 m3 m4 m5 m6 m7 m8 m9 m10
 refine Calls.mono HMO.out ?_
 rintro e w1 ⟨rfl,hb1⟩
 have HB1:Hid (Below w.heap.size w w1):=HB0.out.trans (hb1.mono HB0.out.size)
 have HM1:Hid (Mb w1 w.heap.size m ra va ma rc vc mc):=HM0.out.below hb1
 clear hb1 HB0 HM0 HMO
 cases hmk:mokB m
 ·have HF:Hid (svB m=false):=sv_ok hmk
  clear hmk
  go_wp2
  go_ret2
  exact ⟨.inr ⟨HF.out,_,rfl⟩,HB1.out⟩
 have HO:Hid (Mok m):=by show Mok m;unfold mokB at hmk;simpa using hmk
 have HMK:Hid (mokB m=true):=hmk
 have hml:m.memo.length<=40:=by have h1:=HO.out.room;have h2:=HO.out.memo;omega
 clear hmk
 obtain ⟨m0,m1,m2,m3,m4,m5,m6,m7,m8,m9,m10⟩:=HM1.out
 have hwm:=HM1.out.lt
 go_wp2
 clear m0 m1 m2 m3 m4 m5 m6 m7 m8 m9 m10 hwm
 go_loopw [17] (fun i wr=>∃ k:Nat,k<=m.memo.length/\i=.int .i64 k/\Below w.heap.size w wr/\Mb wr w.heap.size m ra va ma rc vc mc/\∀ j (hj:j < m.memo.length),j < k->plB (tl m.memo[j].k)=true) (fun i _=>m.memo.length - (intOf i).toNat)
 case atStart=>exact ⟨0,Nat.zero_le _,rfl,HB1.out,HM1.out,fun j _ h=>by omega⟩
 case round =>
  obtain ⟨k,hk,rfl,hbr,hmr,hpl⟩:=hrel
  have HB:Hid (Below w.heap.size w wr):=hbr
  have HM:Hid (Mb wr w.heap.size m ra va ma rc vc mc):=hmr
  have HPL:Hid (∀ j (hj:j < m.memo.length),j < k->plB (tl m.memo[j].k)=true):=hpl
  clear hbr hmr hpl HB1 HM1
  by_cases hlt:k < m.memo.length
  ·have hlz:(k:Int) < (m.memo.length:Int):=by omega
   obtain ⟨mb,mo,hma,hsn⟩:∃ b o,ma=some ⟨b,o,none⟩/\SnAt wr b (o+k*2) m.memo[k]:=by
    rcases (HR.out.below HB.out).memo.2 with e|⟨b,o,e,hc⟩
    ·omega
    ·exact ⟨b,o,e,hc k hlt⟩
   have HKO:Hid (∀ W,Calls Tryz.prog 72 #[.string m.memo[k].k] W fun e w'=>e=.returned (.bool (plB (tl m.memo[k].k)))/\w'=W):=fun W=>iKeyOk m.memo[k].k W (HK.out _ (List.getElem_mem hlt))
   have HNO:Hid (plB (tl m.memo[k].k)=false->svB m=false):=fun h=>sv_key (List.getElem_mem hlt) h
   have HYE:Hid (plB (tl m.memo[k].k)=true->∀ j (hj:j < m.memo.length),j < k+1->plB (tl m.memo[j].k)=true):=fun h j hj h2=>by
    by_cases e:j=k
    ·subst e;exact h
    ·exact HPL.out j hj (by omega)
   obtain ⟨pb,hpb⟩:∃ p,p=plB (tl m.memo[k].k):=⟨_,rfl⟩
   rw [<- hpb] at HKO HNO HYE
   obtain ⟨hk0,hk1⟩:=hsn
   obtain ⟨xk,hxk⟩:∃ x,x=m.memo[k].k:=⟨_,rfl⟩
   obtain ⟨xr,hxr⟩:∃ x,x=m.memo[k].r:=⟨_,rfl⟩
   rw [<- hxk] at hk0 HKO
   rw [<- hxr] at hk1
   have HMA:Hid (ma=some ⟨mb,mo,none⟩):=hma
   clear hpb hxk hxr hma
   have hml2:mb < wr.heap.size:=lt_of_cell hk0
   have HB2:Hid (Below w.heap.size w (wr.alloc (.cells #[.string xk,.int .i64 xr] 40))):=HB.out.alloc HB.out.size _
   have HM2:Hid (Mb (wr.alloc (.cells #[.string xk,.int .i64 xr] 40)) w.heap.size m ra va ma rc vc mc):=HM.out.alloc _
   rw [HMA.out]
   cases pb
   ·have HF:Hid (svB m=false):=HNO.out rfl
    go_wp2_with (go_at_call 72;refine (HKO.out _).mono ?_;rintro e w2 ⟨rfl,hw2⟩;have hw2':=hw2.symm;clear hw2;subst hw2')
    go_ret2
    exact ⟨.inr ⟨HF.out,_,rfl⟩,HB2.out⟩
   ·have HY2:Hid _:=HYE.out rfl
    go_wp2_with (go_at_call 72;refine (HKO.out _).mono ?_;rintro e w2 ⟨rfl,hw2⟩;have hw2':=hw2.symm;clear hw2;subst hw2')
    rw [<- HMA.out]
    go_roundw
    case rel=>exact ⟨k+1,by omega,by go_num,HB2.out,HM2.out,HY2.out⟩
    case measure=>simp [intOf];omega
  have hlz:¬ (k:Int) < (m.memo.length:Int):=by omega
  have HPA:Hid (∀ x∈m.memo,plB (tl x.k)=true):=fun x hx=>by
   obtain ⟨j,hj,rfl⟩:=List.getElem_of_mem hx
   exact HPL.out j hj (by omega)
  have b2:Below wr.heap.size wr (wr.alloc (.cells #[] 9)):=(Below.refl _ _).alloc (Nat.le_refl _) _
  have HB2:Hid (Below w.heap.size w (wr.alloc (.cells #[] 9))):=HB.out.trans (b2.mono HB.out.size)
  have HM2:Hid (Mb (wr.alloc (.cells #[] 9)) w.heap.size m ra va ma rc vc mc):=HM.out.alloc _
  have HO2:Hid (Ost (wr.alloc (.cells #[] 9)) (w.heap.size+1) (.slice (some ⟨wr.heap.size,0,none⟩) 0 0) []):=Ost.lit _ _ (by have:=HM.out.lt;omega)
  clear HPL b2
  obtain ⟨m0,m1,m2,m3,m4,m5,m6,m7,m8,m9,m10⟩:=HM.out
  have hwm:=HM.out.lt
  have hw7:wrap64 (7+(m.memo.length:Int))=7+(m.memo.length:Int):=by unfold wrap64;omega
  go_wp2
  clear m0 m1 m2 m3 m4 m5 m6 m7 m8 m9 m10 hwm hw7 hlt hk hlz
  go_loopw [6,33] (fun v i wq=>∃ k:Nat,k<=7+m.memo.length/\i=.int .i64 k/\(∃ g cp,v=.slice (some ⟨g,0,none⟩) k cp)/\Ost wq (w.heap.size+1) v (linTo m k)/\Below w.heap.size w wq/\Mb wq w.heap.size m ra va ma rc vc mc) (fun _ i _=>7+m.memo.length - (intOf i).toNat)
  case atStart=>exact ⟨0,Nat.zero_le _,rfl,⟨_,_,rfl⟩,HO2.out,HB2.out,HM2.out⟩
  case round =>
   clear HB2 HM2 HO2 HB HM
   obtain ⟨k,hk,rfl,⟨g3,cp3,rfl⟩,hor,hbr,hmr⟩:=hrel
   have HBD:Hid (Below w.heap.size w wr.drew):=hbr.drew
   have HB:Hid (Below w.heap.size w wr):=hbr
   have HMD:Hid (Mb wr.drew w.heap.size m ra va ma rc vc mc):=hmr.below (Below.refl _ _).drew
   have HOR:Hid (Ost wr (w.heap.size+1) (.slice (some ⟨g3,0,none⟩) k cp3) (linTo m k)):=hor
   have HOD:Hid (Ost wr.drew (w.heap.size+1) (.slice (some ⟨g3,0,none⟩) k cp3) (linTo m k)):=Ost.below hor (Below.refl _ _).drew
   clear hor hbr hmr
   by_cases hlt:k < 7+m.memo.length
   rotate_left
   ·have hlz:¬ (k:Int) < 7+(m.memo.length:Int):=by omega
    have HJ:Hid (Calls Tryz.prog 75 #[.slice (some ⟨g3,0,none⟩) k cp3,.string ⟨#[]⟩] wr fun e w'=>e=.returned (.string (bs (savT m)))/\Below wr.heap.size wr w'):=by
     have e:k=7+m.memo.length:=by omega
     have hh:=HOR.out
     have h9:=iJoin (linTo m k) [] g3 cp3 k _ wr hh (by omega) (by
      rw [join_none]
      have:=linTo_flat HO.out HK.out k
      have:k*1048700<=47*1048700:=Nat.mul_le_mul_right _ (by omega)
      omega)
     rw [join_none,show (linTo m k).flatten=savT m by rw [e];rfl] at h9
     exact h9
    obtain ⟨R,hR⟩:∃ R,R=bs (savT m):=⟨_,rfl⟩
    have HRR:Hid (R=bs (savT m)):=hR
    have hRz:R.size=(savT m).length:=by rw [hR,bs_size]
    rw [<- hR] at HJ
    clear hR
    go_wp2_with fail
    refine Calls.mono HJ.out ?_
    rintro e w6 ⟨rfl,hb6⟩
    have HB6:Hid (Below w.heap.size w w6):=HB.out.trans (hb6.mono HB.out.size)
    clear hb6
    by_cases hbig:(400000:Int) < (R.size:Int)
    ·have HF:Hid (svB m=false):=sv_len (by omega)
     clear hRz
     go_wp2
     go_ret2
     exact ⟨.inr ⟨HF.out,_,rfl⟩,HB6.out⟩
    ·have HF:Hid (svB m=true):=sv_yes HMK.out HPA.out (by omega)
     clear hRz
     go_wp2
     go_ret2
     exact ⟨.inl ⟨HF.out,by rw [<- HRR.out];rfl⟩,HB6.out⟩
   have hlz:(k:Int) < 7+(m.memo.length:Int):=by omega
   have hk9:k<=1048576:=by omega
   have HLN:Hid ((linTo m k).length=k):=linTo_length m k
   obtain ⟨lk,hlk⟩:∃ l,lin m k=l:=⟨_,rfl⟩
   have HLK:Hid (lin m k=lk):=hlk
   have HLX:Hid (linTo m k++[lk]=linTo m (k+1)):=by rw [<- hlk];exact (linTo_next m k).symm
   have HK8:Hid (k < 7+m.memo.length):=hlt
   clear hlk
   go_wp2_with fail
   refine wp_region_held_drew (S:=(fun v=>Mb v w.heap.size m ra va ma rc vc mc)) (by kernel_rfl) HMD.out (fun hHeld=>?_)
   refine wpAnyH_take (i:=0) (v:=?_) rfl (by kernel_rfl) (by kernel_rfl) (by kernel_rfl) (fun _ _ _ h=>h) (Or.inl ⟨by rfl,?_⟩) hHeld ?_
   rotate_left
   ·(intro v9 hS9;clear hS9;go_simp;try with_reducible rfl)
   try simp only [Act.put,List.setIfInBounds_toArray,List.set_cons_zero,List.set_cons_succ,List.getElem_toArray,List.getElem_cons_zero]
   refine wpAnyH_take (i:=1) (v:=?_) rfl (by kernel_rfl) (by kernel_rfl) (by kernel_rfl) (fun _ _ _ h=>h) (Or.inl ⟨by rfl,?_⟩) hHeld ?_
   rotate_left
   ·(intro v9 hS9;clear hS9;go_simp;try with_reducible rfl)
   try simp only [Act.put,List.setIfInBounds_toArray,List.set_cons_zero,List.set_cons_succ,List.getElem_toArray,List.getElem_cons_zero,List.getElem_cons_succ]
   refine wpAnyH_take (i:=3) (v:=?_) rfl (by kernel_rfl) (by kernel_rfl) (by kernel_rfl) (fun _ _ _ h=>h) (Or.inl ⟨by rfl,?_⟩) hHeld ?_
   rotate_left
   ·(intro v9 hS9;obtain ⟨z0,z1,z2,z3,z4,z5,z6,z7,z8,z9,z10⟩:=hS9;go_simp;try with_reducible rfl)
   try simp only [Act.put,List.setIfInBounds_toArray,List.set_cons_zero,List.set_cons_succ,List.getElem_toArray,List.getElem_cons_zero,List.getElem_cons_succ]
   refine wpAnyH_ready (rs:=[2]) (by kernel_rfl) (by simp) ?_
   refine AllReadyH.cons rfl (fun K hK=>?_) AllReadyH.nil
   go_simp
   go_wp2_with (go_at_call 73;refine (iLineAt k hk9 _).mono ?_;rintro e wa ⟨lv,rfl,hlv,hba⟩;have HMa:Hid (Mb wa w.heap.size m ra va ma rc vc mc):=HMD.out.below hba;have HOa:Hid (Ost wa (w.heap.size+1) (.slice (some ⟨g3,0,none⟩) k cp3) (linTo m k)):=Ost.below HOD.out hba;have HBa:Hid (Below w.heap.size w wa):=HBD.out.trans (hba.mono HBD.out.size);have HLV:Hid (LV wa lv k):=hlv;clear hba hlv)
   refine hK.out _ _ HMa.out (fun hNext=>?_)
   clear hK K hHeld
   have hHeld:=hNext
   clear hNext
   refine wpAnyH_ready (rs:=[4]) (by kernel_rfl) (by simp) ?_
   refine AllReadyH.cons rfl (fun K hK=>?_) AllReadyH.nil
   go_simp
   go_wp2_with (go_at_call 74;refine (iText m ra va ma rc vc mc _ (HR.out.below HBa.out) HO.out HK.out (HT.out.below HBa.out) lv k HK8.out HLV.out).mono ?_;rintro e wb ⟨hre,hbb⟩;rw [HLK.out] at hre;subst hre;have HMb:Hid (Mb wb w.heap.size m ra va ma rc vc mc):=HMa.out.below hbb;have HOb:Hid (Ost wb (w.heap.size+1) (.slice (some ⟨g3,0,none⟩) k cp3) (linTo m k)):=Ost.below HOa.out hbb;have HBb:Hid (Below w.heap.size w wb):=HBa.out.trans (hbb.mono HBa.out.size);have hsb:w.heap.size+1<=wb.heap.size:=HMb.out.lt;clear hbb)
   refine hK.out _ _ HMb.out (fun hNext=>?_)
   clear hK K hHeld
   have hHeld:=hNext
   clear hNext
   refine wpAnyH_ready (rs:=[5]) (by kernel_rfl) (by simp) ?_
   refine AllReadyH.cons rfl (fun K hK=>?_) AllReadyH.nil
   go_simp
   refine hK.out _ _ (HMb.out.alloc _) (fun hNext=>?_)
   clear hK K hHeld
   have hHeld:=hNext
   clear hNext
   refine wpAnyH_ready (rs:=[6]) (by kernel_rfl) (by simp) ?_
   refine AllReadyH.cons rfl (fun K hK=>?_) AllReadyH.nil
   refine step_app_strs _ rfl _ _ rfl (w.heap.size+1) (.slice (some ⟨g3,0,none⟩) k cp3) (linTo m k) [lk] wb.heap.size 1 rfl rfl (lit_one _ _) (by simp) (World.ownsRow.alloc HOb.out _) (by simp;omega) (by rw [HLN.out];simp;omega) ?_
   intro g cp wz ho hkz9 hg
   rw [HLN.out,HLX.out] at ho
   rw [HLN.out]
   simp only [List.length_cons,List.length_nil,Nat.zero_add] at ho ⊢
   have HOz:Hid (Ost wz (w.heap.size+1) (.slice (some ⟨g,0,none⟩) (k+1) cp) (linTo m (k+1))):=ho
   have KK:Kept (fun b=>(Value.slice (some ⟨g3,0,none⟩) k cp3).ownBlock=some b) wb wz:=((Kept.refl _ wb).alloc _).trans hkz9
   have HBz:Hid (Below w.heap.size w wz):=HBb.out.trans (KK.below (fun b hb=>by have:=(HOb.out.lt b hb).1;omega) HBb.out.size)
   have HMz:Hid (Mb wz w.heap.size m ra va ma rc vc mc):=HMb.out.kept KK (fun hb=>by have:=(HOb.out.lt _ hb).1;omega)
   clear ho hkz9 hg KK
   refine hK.out _ _ HMz.out (fun hNext=>?_)
   clear hK K hHeld
   have hHeld:=hNext
   clear hNext
   refine wpAnyH_take (i:=7) (v:=?_) rfl (by kernel_rfl) (by kernel_rfl) (by kernel_rfl) (fun _ _ _ h=>h) (Or.inl ⟨by rfl,?_⟩) hHeld ?_
   rotate_left
   ·(intro v9 hS9;clear hS9;go_simp;try with_reducible rfl)
   try simp only [Act.put,List.setIfInBounds_toArray,List.set_cons_zero,List.set_cons_succ,List.getElem_toArray,List.getElem_cons_zero,List.getElem_cons_succ]
   refine wpAnyH_done (by kernel_rfl) ?_ _
   go_wp2
   go_roundw
   case rel=>exact ⟨k+1,by omega,by go_num,⟨_,_,rfl⟩,HOz.out,HBz.out,HMz.out⟩
   case measure=>simp [intOf];omega
end Zs5
namespace Sq0
open Go.RowKit
open Tx0 Ta1 Mm0 Mu6 Mu8 Mc0 Rdp Zs0 Zl0 Zl2
open Tk0 (keyL)
open Zs5 (sv_yes)
open Ss0 (bs bs_size)
open Ss1 (tl tl_bs)
theorem key_pl (j:Nat) (G:Nat->Bool):plB (keyL j (tab j G))=true:=by
 unfold plB
 refine decide_eq_true ⟨by unfold keyL;simp,fun c hc=>?_⟩
 unfold keyL at hc
 rcases List.mem_append.1 hc with h|h
 ·exact .inl (dec_all j c h)
 ·rcases List.mem_cons.1 h with rfl|h
  ·exact .inr rfl
  ·unfold tab at h
   obtain ⟨i,_,rfl⟩:=List.mem_map.1 h
   left
   unfold sgn
   split<;>decide
theorem key_six {j:Nat} (hj:j<=6) (G:Nat->Bool):(bs (keyL j (tab j G))).size<=100:=by
 have h2:2 ^ j<=2 ^ 6:=Nat.pow_le_pow_right (by omega) hj
 rw [bs_size]
 unfold keyL
 rw [List.length_append,List.length_cons,tab_length]
 have h3:=Tk0.dec_short (by omega:j<=12)
 rw [bs_size] at h3
 omega
/-- What holds of a machine that was started with few bits and has run. -/
theorem sv_run {n:Nat} {m:Mc} (hn:n<=6) (hM:Mok m) (hK:Ky n m):svB m=true/\m.S.size<=1048576/\∀ x∈m.memo,x.k.size<=1048576:=by
 have hk:∀ x∈m.memo,x.k.size<=100:=fun x hx=>by
  obtain ⟨j,G,hj,e⟩:=hK x hx
  rw [e]
  exact key_six (by omega) G
 have hlin:∀ i,(lin m i).length<=4300:=fun i=>by
  unfold lin
  rw [List.length_append,List.length_cons,List.length_append]
  have:=wd_len i
  rcases bod_or hM hk i with e|e<;>simp<;>omega
 have hto:∀ k,(linTo m k).flatten.length<=k*4300:=fun k=>by
  induction k with
  | zero=>simp [linTo]
  | succ k ih =>
    rw [linTo_next,List.flatten_append,List.length_append]
    have:=hlin k
    rw [List.flatten_cons,List.flatten_nil,List.append_nil]
    omega
 refine ⟨sv_yes ((mok_iff m).2 hM) (fun x hx=>?_) ?_,?_,fun x hx=>Nat.le_trans (hk x hx) (by omega)⟩
 ·obtain ⟨j,G,_,e⟩:=hK x hx
  rw [e,tl_bs]
  exact key_pl j G
 ·have h1:=hto (7+m.memo.length)
  have h2:=hM.memo
  have h3:=hM.room
  have h4:(7+m.memo.length)*4300<=47*4300:=Nat.mul_le_mul_right _ (by omega)
  show (linTo m (7+m.memo.length)).flatten.length<=_
  omega
 ·obtain ⟨e,F,he,_,e2⟩:=tok_tab hM.tab
  have:m.S.size=(tl m.S).length:=(Ss1.tl_length _).symm
  rw [this,e2,tab_length]
  have:=(p12 he).2
  omega
/-- It is read back. -/
theorem ld_run {m:Mc} (h:svB m=true):ldP (savT m)=some m:=by
 refine (ok_both (s:=savT m) (m:=m) ?_).1
 unfold okL
 rw [h]
 simp
theorem count_none {s:List UInt8} (h:∀ c∈s,c≠10):s.count 10=0:=List.count_eq_zero.2 fun hm=>h 10 hm rfl
theorem count_to {m:Mc} (h:Mok m) (hk:∀ x∈m.memo,plB (tl x.k)=true) (k:Nat):(linTo m k).flatten.count 10=k:=by
 induction k with
 | zero=>simp [linTo]
 | succ k ih =>
   rw [linTo_next,List.flatten_append,List.count_append,ih,List.flatten_cons,List.flatten_nil,List.append_nil,lin_lin0,List.count_append,count_none (lin0_no h hk k)]
   rfl
/-- Nothing ahead of the end of a text without memo lines is one. -/
theorem cut_none {m:Mc} (hs:svB m=true) (h0:m.memo=[]) {j:Nat} (hj:j < (savT m).length):ldP ((savT m).take j)=none:=by
 cases hl:ldP ((savT m).take j) with
 | none=>rfl
 | some M =>
   exfalso
   have h1:=ldP_ok hl
   unfold okL at h1
   obtain ⟨h2,h3⟩:=Bool.and_eq_true_iff.1 h1
   have e:=of_decide_eq_true h3
   obtain ⟨h4,h5,_⟩:=sv_mok h2
   obtain ⟨h6,h7,_⟩:=sv_mok hs
   have hc:((savT m).take j).count 10=7+M.memo.length:=by rw [<- e];exact count_to h4 h5 _
   have hsp:savT m=((linTo m 6).flatten++lin0 m 6)++[10]:=by
    unfold savT
    rw [h0,List.length_nil,Nat.add_zero,linTo_next,List.flatten_append,List.flatten_cons,List.flatten_nil,List.append_nil,lin_lin0,List.append_assoc]
   have hle:((savT m).take j).count 10<=6:=by
    rw [hsp] at hj ⊢
    rw [List.length_append,List.length_singleton] at hj
    rw [List.take_append_of_le_length (by omega)]
    refine Nat.le_trans (List.Sublist.count_le 10 (List.take_sublist _ _)) ?_
    rw [List.count_append,count_to h6 h7,count_none (lin0_no h6 h7 6)]
    omega
   omega
end Sq0
namespace Dr0
open Go.RowKit
/-- From w to w' no block that was there has turned but block b. -/
structure Only (b:Nat) (w w':World):Prop where
 os:w'.os=w.os
 tape:w'.tape=w.tape
 output:w'.output=w.output
 size:w.heap.size<=w'.heap.size
 block:∀ k,k < w.heap.size->k≠b->w'.heap[k]? = w.heap[k]?
theorem Only.refl (b:Nat) (w:World):Only b w w:=⟨rfl,rfl,rfl,Nat.le_refl _,fun _ _ _=>rfl⟩
theorem Only.trans {b:Nat} {u v w:World} (h:Only b u v) (k:Only b v w):Only b u w :=
 ⟨k.os.trans h.os,k.tape.trans h.tape,k.output.trans h.output,Nat.le_trans h.size k.size,fun i hi hb=>(k.block i (Nat.lt_of_lt_of_le hi h.size) hb).trans (h.block i hi hb)⟩
theorem Only.drew {b:Nat} {u w:World} (h:Only b u w):Only b u w.drew:=⟨h.os,h.tape,h.output,h.size,h.block⟩
theorem Only.drewN {b:Nat} {u w:World} (h:Only b u w) (n:Nat):Only b u (w.drewN n):=⟨h.os,h.tape,h.output,h.size,h.block⟩
theorem Only.alloc {b:Nat} {u w:World} (h:Only b u w) (o:Obj):Only b u (w.alloc o) :=
 h.trans ⟨rfl,rfl,rfl,by simp,fun k hk _=>Below.heap_alloc _ _ _ hk⟩
theorem Only.setCell {b:Nat} {u w:World} (h:Only b u w) {p:Addr} (hp:p.block=b) (x:Value):Only b u (w.setCell p x) :=
 h.trans ⟨rfl,rfl,rfl,by simp [World.setCell],fun k _ hk=>Below.heap_setCell _ _ _ _ (by omega)⟩
theorem Only.cell {b:Nat} {w w':World} (h:Only b w w') {p:Addr} (hp:p.block < w.heap.size) (hb:p.block≠b):w'.cell? p=w.cell? p :=
 World.cell?_of_block (w:=w) (h.block p.block hp hb)
theorem Only.frozen {b:Nat} {w w':World} (h:Only b w w') {p:Addr} (hp:p.block < w.heap.size) (hb:p.block≠b):w'.frozen? p=w.frozen? p :=
 World.frozen?_of_block (w:=w) (h.block p.block hp hb)
theorem Only.below {b B:Nat} {w w':World} (h:Only b w w') (hB:B<=b) (hs:B<=w.heap.size):Below B w w' :=
 ⟨h.os,h.tape,h.output,h.size,fun k hk=>h.block k (by omega) (by omega)⟩
theorem lt_of_cell {w:World} {p:Addr} {v:Value} (h:w.cell? p=some v):p.block < w.heap.size:=by
 have:∃ o,w.heap[p.block]? = some o:=by
  unfold World.cell? at h
  cases e:w.heap[p.block]? with
  | none=>simp [e] at h
  | some o=>exact ⟨o,rfl⟩
 obtain ⟨o,ho⟩:=this
 obtain ⟨hl,_⟩:=Array.getElem?_eq_some_iff.1 ho
 exact hl
/-- A slice of bytes that came in: it may be read. -/
def Bytes (w:World) (a:Option Addr) (len:Nat):Prop :=
 len<=maxLen/\(len=0\/∃ xb xo,a=some ⟨xb,xo,none⟩/\∀ i,i < len->∃ v:Int,0<=v/\v<=255/\w.cell? ⟨xb,xo+i,none⟩=some (.int .u8 v))
/-- .. and it lies in another block than b. -/
def Off (a:Option Addr) (len b:Nat):Prop:=len=0\/∀ x,a=some x->x.block≠b
theorem Bytes.only {b:Nat} {w w':World} {a:Option Addr} {len:Nat} (h:Bytes w a len) (ho:Off a len b) (k:Only b w w'):Bytes w' a len:=by
 refine ⟨h.1,?_⟩
 rcases h.2 with h0|⟨xb,xo,rfl,hc⟩
 ·exact .inl h0
 ·rcases ho with h0|ho
  ·exact .inl h0
  ·refine .inr ⟨xb,xo,rfl,fun i hi=>?_⟩
   obtain ⟨v,h1,h2,h3⟩:=hc i hi
   exact ⟨v,h1,h2,by rw [k.cell (lt_of_cell h3) (ho ⟨xb,xo,none⟩ rfl)];exact h3⟩
theorem Bytes.below {w w':World} {a:Option Addr} {len:Nat} (h:Bytes w a len) (k:Below w.heap.size w w'):Bytes w' a len:=by
 refine ⟨h.1,?_⟩
 rcases h.2 with h0|⟨xb,xo,rfl,hc⟩
 ·exact .inl h0
 ·refine .inr ⟨xb,xo,rfl,fun i hi=>?_⟩
  obtain ⟨v,h1,h2,h3⟩:=hc i hi
  exact ⟨v,h1,h2,by rw [k.cell (lt_of_cell h3)];exact h3⟩
/-- A cursor over a slice of bytes in block b. -/
structure Cur (w:World) (b:Nat) (a:Option Addr) (len cap:Nat):Prop where
 c0:w.cell? ⟨b,0,none⟩=some (.slice a len cap)
 c1:∃ i:Nat,i<=len/\w.cell? ⟨b,1,none⟩=some (.int .i64 i)
 c2:∃ h:Int,w.cell? ⟨b,2,none⟩=some (.int .i64 h)
 f1:w.frozen? ⟨b,1,none⟩=false
 f2:w.frozen? ⟨b,2,none⟩=false
 bytes:Bytes w a len
 off:Off a len b
theorem set_other {w:World} {p q:Addr} {v:Value} (h:p≠q):(w.setCell p v).cell? q=w.cell? q:=by apply World.cell?_setCell_other;exact h
theorem set_same {w:World} {p:Addr} {u v:Value} (h:w.cell? p=some u):(w.setCell p v).cell? p=some v:=by apply World.cell?_setCell_same;exact h
theorem Cur.drewN {w:World} {b:Nat} {a:Option Addr} {len cap:Nat} (h:Cur w b a len cap) (n:Nat):Cur (w.drewN n) b a len cap :=
 ⟨h.c0,h.c1,h.c2,h.f1,h.f2,h.bytes.only h.off ((Only.refl b w).drewN n),h.off⟩
theorem Cur.drew {w:World} {b:Nat} {a:Option Addr} {len cap:Nat} (h:Cur w b a len cap):Cur w.drew b a len cap :=
 ⟨h.c0,h.c1,h.c2,h.f1,h.f2,h.bytes.only h.off (Only.refl b w).drew,h.off⟩
theorem Cur.setH {w:World} {b:Nat} {a:Option Addr} {len cap:Nat} (h:Cur w b a len cap) (x:Int):Cur (w.setCell ⟨b,2,none⟩ (.int .i64 x)) b a len cap:=by
 obtain ⟨i,hi,h1⟩:=h.c1
 obtain ⟨y,h2⟩:=h.c2
 refine ⟨?_,⟨i,hi,?_⟩,⟨x,?_⟩,?_,?_,h.bytes.only h.off ((Only.refl b w).setCell rfl _),h.off⟩
 ·rw [set_other (by simp)];exact h.c0
 ·rw [set_other (by simp)];exact h1
 ·exact set_same h2
 ·rw [World.frozen?_setCell];exact h.f1
 ·rw [World.frozen?_setCell];exact h.f2
theorem Cur.setI {w:World} {b:Nat} {a:Option Addr} {len cap:Nat} (h:Cur w b a len cap) (i:Nat) (hi:i < len):Cur (w.setCell ⟨b,1,none⟩ (.int .i64 ((i:Int)+1))) b a len cap:=by
 obtain ⟨j,hj,h1⟩:=h.c1
 obtain ⟨y,h2⟩:=h.c2
 refine ⟨?_,⟨i+1,by omega,?_⟩,⟨y,?_⟩,?_,?_,h.bytes.only h.off ((Only.refl b w).setCell rfl _),h.off⟩
 ·rw [set_other (by simp)];exact h.c0
 ·rw [set_same h1];simp
 ·rw [set_other (by simp)];exact h2
 ·rw [World.frozen?_setCell];exact h.f1
 ·rw [World.frozen?_setCell];exact h.f2
theorem Cur.lt {w:World} {b:Nat} {a:Option Addr} {len cap:Nat} (h:Cur w b a len cap):b < w.heap.size:=lt_of_cell (p:=⟨b,0,none⟩) h.c0
theorem Cur.alloc {w:World} {b:Nat} {a:Option Addr} {len cap:Nat} (h:Cur w b a len cap) (o:Obj):Cur (w.alloc o) b a len cap:=by
 have k:Below w.heap.size w (w.alloc o):=(Below.refl _ w).alloc (Nat.le_refl _) o
 have hb:=h.lt
 obtain ⟨i,hi,h1⟩:=h.c1
 obtain ⟨y,h2⟩:=h.c2
 exact ⟨by rw [k.cell hb];exact h.c0,⟨i,hi,by rw [k.cell hb];exact h1⟩,⟨y,by rw [k.cell hb];exact h2⟩,by rw [k.frozen hb];exact h.f1,by rw [k.frozen hb];exact h.f2,h.bytes.below k,h.off⟩
theorem Bytes.offNew {w:World} {a:Option Addr} {len:Nat} (h:Bytes w a len) (b:Nat) (hb:w.heap.size<=b):Off a len b:=by
 by_cases h0:len=0
 ·exact .inl h0
 ·rcases h.2 with h1|⟨xb,xo,rfl,hc⟩
  ·exact .inl h1
  ·refine .inr fun x hx=>?_
   obtain ⟨v,_,_,hv⟩:=hc 0 (by omega)
   have:=lt_of_cell hv
   simp at hx this
   subst hx
   simp
   omega
theorem Cur.made {w:World} {a:Option Addr} {len cap:Nat} (h:Bytes w a len) (x:Int) (T:Nat):Cur (w.alloc (.cells #[.slice a len cap,.int .i64 0,.int .i64 x] T)) w.heap.size a len cap:=by
 refine ⟨by simp,⟨0,Nat.zero_le _,by simp⟩,⟨x,by simp⟩,by simp,by simp,h.below ((Below.refl _ w).alloc (Nat.le_refl _) _),h.offNew _ (Nat.le_refl _)⟩
theorem bytes_of {w:World} {x:Addr} {len cap:Nat} {z:List Int} (hl:len<=cap) (hm:cap<=maxLen) (hz:z.length=cap) (hcell:∀ i,i < z.length->w.cell? (x.add i)=some (.int .u8 (z.getD i 0))) (hwz:∀ n∈z,(Lit.int .u8 n).wf=true):Bytes w (some x) len:=by
 refine ⟨by omega,?_⟩
 by_cases h0:len=0
 ·exact .inl h0
 ·obtain ⟨xb,xo,spot⟩:=x
  have hc:=hcell 0 (by omega)
  have hspot:spot=none:=by simpa [Addr.add] using World.cell?_spot hc
  subst hspot
  refine .inr ⟨xb,xo,rfl,fun i hi=>⟨z.getD i 0,?_⟩⟩
  have hi2:i < z.length:=by omega
  have eg:z.getD i 0=z[i]:=by simp [List.getD,hi2]
  have hw:=hwz (z.getD i 0) (by rw [eg];exact List.getElem_mem _)
  have hk:=hcell i hi2
  rw [Addr.add_lit] at hk
  generalize z.getD i 0=v at hw hk ⊢
  simp [Lit.wf,IntKind.min,IntKind.max,IntKind.signed,IntKind.bits] at hw
  exact ⟨by omega,by omega,hk⟩
theorem and255 (x:Int):0<=bits .and .i64 x 255/\bits .and .i64 x 255<=255:=by
 have e:bits .and .i64 x 255=IntKind.i64.wrap ((BitVec.ofInt 64 x &&& BitVec.ofInt 64 255).toNat:Int):=rfl
 have h:(BitVec.ofInt 64 x &&& BitVec.ofInt 64 255).toNat<=255:=by
  rw [BitVec.toNat_and];exact Nat.and_le_right
 rw [e,IntKind.wrap_i64]
 omega
theorem and30 (x:Int):0<=bits .and .i64 x 1073741823/\bits .and .i64 x 1073741823<=1073741823:=by
 have e:bits .and .i64 x 1073741823=IntKind.i64.wrap ((BitVec.ofInt 64 x &&& BitVec.ofInt 64 1073741823).toNat:Int):=rfl
 have h:(BitVec.ofInt 64 x &&& BitVec.ofInt 64 1073741823).toNat<=1073741823:=by
  rw [BitVec.toNat_and];exact Nat.and_le_right
 rw [e,IntKind.wrap_i64]
 omega
end Dr0
end Go.Proofs.YtjajkmdoggbicaaGreatDoor
