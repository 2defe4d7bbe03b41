import Derived.Deep.CutBlock
import Derived.Test.YthanhcobfehmnaaGreatPkQU222
import Derived.Test.YthanhcobfehmnaaGreatPkQU23
import Derived.Test.YthanhcobfehmnaaGreatPkQU215
namespace Go.Proofs.YthanhcobfehmnaaGreat
set_option maxRecDepth 100000
set_option maxHeartbeats 8000000
set_option linter.unusedVariables false
namespace Ss9
open Go.RowKit
open Nd0 Tm0 Tx0 Tx2 Ss0 Ss1 Ss2
open Sp2 (sParts)
open Pl1 (wok wok_lt)
structure Wr (n:Nd) (m:Nat):Prop where
 w0:0<=n.w
 w1:n.w<=8
 k0:n.op=0\/n.op=1\/n.op=17\/n.op=19\/n.op=20->0<=n.k/\n.k<=255
 b0:n.op=19\/n.op=20->0<=n.b/\n.b<=8
 ps:∀ p∈parts n,0<=p/\p < (m:Int)
 op:0<=n.op/\n.op<=20
theorem wr_of {l:List Nd} {i:Nat} (hw:∀ j,j < i->(nth l j).w<=8) (h:nodeOk l i=true):Wr (nth l i) i:=by
 have hwd:=node_width h
 have hp:=Tm1.parts_ok h
 have hs:shapeOk (nth l i) ((parts (nth l i)).map (width l))=true:=by
  simp only [nodeOk,Bool.and_eq_true] at h;exact h.2
 have hps:∀ p∈parts (nth l i),0<=p/\p < (i:Int):=by
  intro p hpm
  obtain ⟨j,hj,rfl⟩:=List.getElem_of_mem hpm
  exact hp j hj
 have hws:∀ p∈parts (nth l i),width l p<=8:=by
  intro p hpm
  have:=hps p hpm
  exact hw p.toNat (by omega)
 generalize nth l i=n at hwd hs hps hws
 have hop:0<=n.op/\n.op<=20:=by
  by_cases e:0<=n.op/\n.op<=20
  ·exact e
  ·unfold shapeOk at hs
   rw [if_neg (by omega),if_neg (by omega),if_neg (by omega),if_neg (by omega),if_neg (by omega),if_neg (by omega),if_neg (by omega),if_neg (by omega),if_neg (by omega)] at hs
   cases hs
 refine ⟨by omega,hwd.2,?_,?_,hps,hop⟩
 ·intro hk
  unfold shapeOk at hs
  rcases hk with e|e|e|e
  ·rw [if_pos e] at hs
   simp only [Bool.and_eq_true] at hs
   exact wok_lt hs.1
  ·rw [if_neg (by omega),if_pos e] at hs
   simp at hs;omega
  ·have hpo:parts n=[n.a]:=parts_one (by omega)
   rw [hpo] at hs hws
   have:=hws n.a (by simp)
   rw [if_neg (by omega),if_neg (by omega),if_neg (by omega),if_neg (by omega),if_neg (by omega),if_neg (by omega),if_pos e] at hs
   simp at hs;omega
  ·rw [if_neg (by omega),if_neg (by omega),if_neg (by omega),if_neg (by omega),if_neg (by omega),if_neg (by omega),if_neg (by omega),if_neg (by omega),if_pos e] at hs
   simp at hs;omega
 ·intro e
  unfold shapeOk at hs
  rw [if_neg (by omega),if_neg (by omega),if_neg (by omega),if_neg (by omega),if_neg (by omega),if_neg (by omega),if_neg (by omega),if_neg (by omega),if_pos e] at hs
  simp at hs;omega
theorem dec_size {n:Nat} (h:n < 1000000000):(bs (dec n)).size<=9:=by
 rw [bs_size];exact (dec_len h).2
theorem head_len {n:Nd} {m:Nat} (h:Wr n m):(headL n).length<=40:=by
 have hw:=dec_len (n:=n.w.toNat) (by have:=h.w1;omega)
 unfold headL
 split
 ·decide
 ·split
  ·rename_i e
   have hk:=dec_len (n:=n.k.toNat) (by have:=h.k0 (.inr (.inr (.inl e)));omega)
   simp [wSlice];omega
  ·split
   ·decide
   ·split
    ·rename_i e
     have hk:=dec_len (n:=n.k.toNat) (by have:=h.k0 (by omega);omega)
     have hb:=dec_len (n:=n.b.toNat) (by have:=h.b0 (by omega);omega)
     simp [wAll];omega
    ·split
     ·rename_i e
      have hk:=dec_len (n:=n.k.toNat) (by have:=h.k0 (by omega);omega)
      have hb:=dec_len (n:=n.b.toNat) (by have:=h.b0 (by omega);omega)
      simp [wSome];omega
     ·rw [List.getD_eq_getElem?_getD]
      cases hg:wordsL[(n.op - 3).toNat]? with
      | none=>simp
      | some x =>
        have hm:=List.mem_of_getElem? hg
        have:∀ x∈wordsL,x.length<=40:=by decide
        exact this x hm
theorem words_at {w:World} {b j:Nat} (h:Strs w (some ⟨b,0,none⟩) wordsL) (hj:j < 14):w.cell? ⟨b,j,none⟩=some (.string (bs (wordsL.getD j []))):=by
 rcases h.2 with h0|⟨b',o',he,hc⟩
 ·exact absurd h0 (by decide)
 ·cases he
  have q0:=hc j hj
  rw [Nat.zero_add] at q0
  rw [q0,List.getD_eq_getElem?_getD,List.getElem?_eq_getElem (show j < wordsL.length from hj)];rfl
theorem sShow (n:Nd) (w:World) (ta:Option Addr) (ts:List (List UInt8)) (tc:Nat) (hS:Strs w ta ts) (hW:Wr n ts.length) (hl:∀ t∈ts,t.length<=4000) :
 Calls Tryz.prog 65 #[.agg #[.int .i64 n.op,.int .i64 n.w,.int .i64 n.k,.int .i64 n.a,.int .i64 n.b,.int .i64 n.c],.slice ta ts.length tc] w fun e w'=>e=.returned (.string (bs (showN n ts)))/\Below w.heap.size w w':=by
 have HW:Hid (Wr n ts.length):=hW
 have HL:Hid (∀ t∈ts,t.length<=4000):=hl
 obtain ⟨ww,hww⟩:∃ ww:Nat,n.w=(ww:Int):=⟨n.w.toNat,by have:=hW.w0;omega⟩
 have hw9:ww < 1000000000:=by have:=hW.w1;omega
 have hop:=hW.op
 obtain ⟨w1,hw1⟩:∃ w1:World,w1=w.alloc (.cells #[.int .i64 n.op,.int .i64 n.w,.int .i64 n.k,.int .i64 n.a,.int .i64 n.b,.int .i64 n.c] 44):=⟨_,rfl⟩
 have hb1:Below w.heap.size w w1:=by rw [hw1];exact (Below.refl _ _).alloc (Nat.le_refl _) _
 have HB1:Hid (Below w.heap.size w w1):=hb1
 have HS1:Hid (Strs w1 ta ts):=hS.below hb1
 obtain ⟨bn,hbn⟩:∃ bn:Nat,bn=w.heap.size:=⟨_,rfl⟩
 have hnd:NodeAt w1 bn 0 n:=by rw [hw1];exact Dw4.node_new w n 44 bn hbn 0 (by simp)
 have HND:Hid (NodeAt w1 bn 0 n):=hnd
 have HW1:Hid (w1=w.alloc (.cells #[.int .i64 n.op,.int .i64 n.w,.int .i64 n.k,.int .i64 n.a,.int .i64 n.b,.int .i64 n.c] 44)):=hw1
 have hds:=dec_size hw9
 clear hS hW hl hb1 hnd hw1
 by_cases h0:n.op=0
 ·obtain ⟨kk,hkk⟩:∃ kk:Nat,n.k=(kk:Int):=⟨n.k.toNat,by have:=HW.out.k0 (.inl h0);omega⟩
  have hk9:kk < 1000000000:=by have:=HW.out.k0 (.inl h0);omega
  have hdk:=dec_size hk9
  have HE:Hid (showN n ts=[35]++dec ww++[58]++dec kk):=by
   show _=_
   unfold showN
   rw [if_pos h0,hww,hkk,Int.toNat_natCast,Int.toNat_natCast]
  rw [h0,hww,hkk] at HW1 ⊢
  clear hbn hop
  go_enter Tryz.func65,Tryz.ntmps65
  go_wp2
  go_quiet ((go_at_call 97;exact Calls.quiet_of_same (sDec _ _ (by assumption))))
  go_wp2
  go_ret
  refine ⟨ret_str ?_,?_⟩
  ·rw [HE.out]
   show bs [35]++bs (dec ww)++bs [58]++bs (dec kk)=_
   rw [bs_app,bs_app,bs_app]
  ·have hb:Below w.heap.size w (w.alloc (.cells #[.int .i64 0,.int .i64 ww,.int .i64 kk,.int .i64 n.a,.int .i64 n.b,.int .i64 n.c] 44)):=(Below.refl _ _).alloc (Nat.le_refl _) _
   exact ⟨hb.os,hb.tape,hb.output,hb.size,hb.block⟩
 by_cases h1:n.op=1
 ·obtain ⟨kk,hkk⟩:∃ kk:Nat,n.k=(kk:Int):=⟨n.k.toNat,by have:=HW.out.k0 (.inr (.inl h1));omega⟩
  have hk9:kk < 1000000000:=by have:=HW.out.k0 (.inr (.inl h1));omega
  have hdk:=dec_size hk9
  have HE:Hid (showN n ts=[118]++dec kk++[58]++dec ww):=by
   show _=_
   unfold showN
   rw [if_neg h0,if_pos h1,hww,hkk,Int.toNat_natCast,Int.toNat_natCast]
  rw [h1,hww,hkk] at HW1 ⊢
  clear hbn hop
  go_enter Tryz.func65,Tryz.ntmps65
  go_wp2
  go_quiet ((go_at_call 97;exact Calls.quiet_of_same (sDec _ _ (by assumption))))
  go_wp2
  go_ret
  refine ⟨ret_str ?_,?_⟩
  ·rw [HE.out]
   show bs [118]++bs (dec kk)++bs [58]++bs (dec ww)=_
   rw [bs_app,bs_app,bs_app]
  ·have hb:Below w.heap.size w (w.alloc (.cells #[.int .i64 1,.int .i64 ww,.int .i64 kk,.int .i64 n.a,.int .i64 n.b,.int .i64 n.c] 44)):=(Below.refl _ _).alloc (Nat.le_refl _) _
   exact ⟨hb.os,hb.tape,hb.output,hb.size,hb.block⟩
 ·have HSH:Hid (showN n ts=match withParts ts (headL n) (parts n) with|none=>[]|some h=>if 4000 < h.length+2 then [] else [40]++h++[41]):=by
   show _=_
   unfold showN
   rw [if_neg h0,if_neg h1]
   cases withParts ts (headL n) (parts n)<;>rfl
  have HWW:Hid (n.w=(ww:Int)):=hww
  clear hww
  have hq0:(n.op==0)=false:=beq_eq_false_iff_ne.2 h0
  have hq1:(n.op==1)=false:=beq_eq_false_iff_ne.2 h1
  have e0:=HND.out.c0
  have e1:=HND.out.c1
  have e2:=HND.out.c2
  have e4:=HND.out.c4
  simp only [Nat.zero_add] at e0 e1 e2 e4
  rw [HW1.out,hbn] at e0 e1 e2 e4
  go_enter Tryz.func65,Tryz.ntmps65
  go_upto_block 1 with fail
  rw [<- HW1.out,<- hbn] at e0 e1 e2 e4 ⊢
  clear hbn
  go_cut [5] from 32 to 84 (fun s5 wc=>s5=.string (bs (headL n))/\Below w1.heap.size w1 wc)
  case first =>
   by_cases h2:n.op=2
   ·have HH:Hid (headL n=[110,111,116]):=by show _=_;unfold headL;rw [if_pos h2];rfl
    have hqq:(n.op==2)=true:=by simp [h2]
    clear h2 h0 h1
    go_wp2_with fail
    go_meet
    case rel=>exact ⟨by rw [HH.out];rfl,Below.refl _ _⟩
   have hq2:(n.op==2)=false:=beq_eq_false_iff_ne.2 h2
   by_cases h17:n.op=17
   ·obtain ⟨kk,hkk⟩:∃ kk:Nat,n.k=(kk:Int):=⟨n.k.toNat,by have:=HW.out.k0 (.inr (.inr (.inl h17)));omega⟩
    have hk9:kk < 1000000000:=by have:=HW.out.k0 (.inr (.inr (.inl h17)));omega
    have hdk:=dec_size hk9
    have HH:Hid (headL n=[115,108,105,99,101,32]++dec kk++[32]++dec ww):=by
     show _=_
     unfold headL
     rw [if_neg h2,if_pos h17,HWW.out,hkk,Int.toNat_natCast,Int.toNat_natCast];rfl
    have hqq:(n.op==17)=true:=by simp [h17]
    rw [hkk] at e2
    rw [HWW.out] at e1
    clear h2 h17 h0 h1 hkk
    go_wp2_with fail
    go_quiet ((go_at_call 97;exact Calls.quiet_of_same (sDec _ _ (by assumption))))
    go_wp2_with fail
    go_meet
    case rel =>
     refine ⟨?_,⟨rfl,rfl,rfl,Nat.le_refl _,fun _ _=>rfl⟩⟩
     rw [HH.out]
     show Value.string (bs [115,108,105,99,101,32]++bs (dec kk)++bs [32]++bs (dec ww))=_
     rw [bs_app,bs_app,bs_app]
   have hq17:(n.op==17)=false:=beq_eq_false_iff_ne.2 h17
   by_cases h18:n.op=18
   ·have HH:Hid (headL n=[105,102]):=by show _=_;unfold headL;rw [if_neg h2,if_neg h17,if_pos h18];rfl
    have hqq:(n.op==18)=true:=by simp [h18]
    clear h2 h17 h18 h0 h1
    go_wp2_with fail
    go_meet
    case rel=>exact ⟨by rw [HH.out];rfl,Below.refl _ _⟩
   have hq18:(n.op==18)=false:=beq_eq_false_iff_ne.2 h18
   by_cases h19:n.op=19
   ·obtain ⟨kk,hkk⟩:∃ kk:Nat,n.k=(kk:Int):=⟨n.k.toNat,by have:=HW.out.k0 (by omega);omega⟩
    obtain ⟨bb,hbb⟩:∃ bb:Nat,n.b=(bb:Int):=⟨n.b.toNat,by have:=HW.out.b0 (by omega);omega⟩
    have hk9:kk < 1000000000:=by have:=HW.out.k0 (by omega);omega
    have hb9:bb < 1000000000:=by have:=HW.out.b0 (by omega);omega
    have hdk:=dec_size hk9
    have hdb:=dec_size hb9
    have HH:Hid (headL n=[97,108,108,32,118]++dec kk++[58]++dec bb):=by
     show _=_
     unfold headL
     rw [if_neg h2,if_neg h17,if_neg h18,if_pos h19,hbb,hkk,Int.toNat_natCast,Int.toNat_natCast];rfl
    have hqq:(n.op==19)=true:=by simp [h19]
    rw [hkk] at e2
    rw [hbb] at e4
    clear h2 h17 h18 h19 h0 h1 hkk hbb
    go_wp2_with fail
    go_quiet ((go_at_call 97;exact Calls.quiet_of_same (sDec _ _ (by assumption))))
    go_wp2_with fail
    go_meet
    case rel =>
     refine ⟨?_,⟨rfl,rfl,rfl,Nat.le_refl _,fun _ _=>rfl⟩⟩
     rw [HH.out]
     show Value.string (bs [97,108,108,32,118]++bs (dec kk)++bs [58]++bs (dec bb))=_
     rw [bs_app,bs_app,bs_app]
   have hq19:(n.op==19)=false:=beq_eq_false_iff_ne.2 h19
   by_cases h20:n.op=20
   ·obtain ⟨kk,hkk⟩:∃ kk:Nat,n.k=(kk:Int):=⟨n.k.toNat,by have:=HW.out.k0 (by omega);omega⟩
    obtain ⟨bb,hbb⟩:∃ bb:Nat,n.b=(bb:Int):=⟨n.b.toNat,by have:=HW.out.b0 (by omega);omega⟩
    have hk9:kk < 1000000000:=by have:=HW.out.k0 (by omega);omega
    have hb9:bb < 1000000000:=by have:=HW.out.b0 (by omega);omega
    have hdk:=dec_size hk9
    have hdb:=dec_size hb9
    have HH:Hid (headL n=[115,111,109,101,32,118]++dec kk++[58]++dec bb):=by
     show _=_
     unfold headL
     rw [if_neg h2,if_neg h17,if_neg h18,if_neg h19,if_pos h20,hbb,hkk,Int.toNat_natCast,Int.toNat_natCast];rfl
    have hqq:(n.op==20)=true:=by simp [h20]
    rw [hkk] at e2
    rw [hbb] at e4
    clear h2 h17 h18 h19 h20 h0 h1 hkk hbb
    go_wp2_with fail
    go_quiet ((go_at_call 97;exact Calls.quiet_of_same (sDec _ _ (by assumption))))
    go_wp2_with fail
    go_meet
    case rel =>
     refine ⟨?_,⟨rfl,rfl,rfl,Nat.le_refl _,fun _ _=>rfl⟩⟩
     rw [HH.out]
     show Value.string (bs [115,111,109,101,32,118]++bs (dec kk)++bs [58]++bs (dec bb))=_
     rw [bs_app,bs_app,bs_app]
   have hq20:(n.op==20)=false:=beq_eq_false_iff_ne.2 h20
   have hr3:3<=n.op:=by omega
   have hr16:n.op<=16:=by omega
   have HH:Hid (headL n=wordsL.getD (n.op - 3).toNat []):=by show _=_;unfold headL;rw [if_neg h2,if_neg h17,if_neg h18,if_neg h19,if_neg h20]
   obtain ⟨j,hj⟩:∃ j:Nat,n.op=(j:Int)+3:=⟨(n.op - 3).toNat,by omega⟩
   have hj14:j < 14:=by omega
   have HJ:Hid ((n.op - 3).toNat=j):=by show _=_;omega
   have HJE:Hid (n.op=(j:Int)+3):=hj
   clear h2 h17 h18 h19 h20 h0 h1 hj
   have hbw:bn < w1.heap.size:=HND.out.lt
   have HE0:Hid (w1.cell? ⟨bn,0,none⟩=some (.int .i64 n.op)):=e0
   go_wp2_with fail
   clear e0 e1 e2 e4
   have e0:w1.cell? ⟨bn,0,none⟩=some (.int .i64 ((j:Int)+3)):=by rw [<- HJE.out];exact HE0.out
   have HE1:Hid (w1.cell? ⟨bn,0,none⟩=some (.int .i64 ((j:Int)+3))):=e0
   have hjz:(j:Int) < 14:=by omega
   have hwj:IntKind.i64.wrap (j:Int)=(j:Int):=by rw [IntKind.wrap_i64];omega
   go_region_with (go_at_call 98;refine (sWords _).mono ?_;rintro e w' ⟨⟨b9,rfl,hst⟩,hb9⟩;have q0:w'.cell? ⟨bn,0,none⟩=some (.int .i64 ((j:Int)+3)):=(by rw [hb9.cell (p:=⟨bn,0,none⟩) hbw];exact HE1.out);have q9:w'.cell? ⟨b9,j,none⟩=some (.string (bs (wordsL.getD j []))):=words_at hst hj14;have HB9:Hid (Below w1.drew.heap.size w1.drew w'):=hb9;clear hst hb9)
   all_goals
    go_wp2_with fail
    go_meet
    case rel =>
     refine ⟨?_,?_⟩
     ·rw [HH.out,HJ.out,List.getD_eq_getElem?_getD]
     ·exact ⟨HB9.out.os,HB9.out.tape,HB9.out.output,HB9.out.size,HB9.out.block⟩
  case rest =>
   obtain ⟨rfl,hb2⟩:=hcut
   have HB2:Hid (Below w.heap.size w wc):=HB1.out.trans (hb2.mono HB1.out.size)
   have HS2:Hid (Strs wc ta ts):=HS1.out.below hb2
   have hnd:=HND.out.below hb2 HND.out.lt
   have d0:=hnd.c0
   have d1:=hnd.c1
   have d2:=hnd.c2
   have d3:=hnd.c3
   have d4:=hnd.c4
   have d5:=hnd.c5
   simp only [Nat.zero_add] at d1 d2 d3 d4 d5
   have HHL:Hid ((headL n).length<=40):=head_len HW.out
   clear hnd hb2 HS1 HND HW1 HB1 e0 e1 e2 e4 hq0 hq1
   go_wp2_with fail
   refine (sParts n _).mono ?_
   rintro e w3 ⟨⟨pa,pc,rfl,hpi⟩,hb3⟩
   have HP3:Hid (Ints w3 pa (parts n)):=hpi.ints
   have HS3:Hid (Strs w3 ta ts):=HS2.out.below hb3
   have HB3:Hid (Below w.heap.size w w3):=HB2.out.trans (hb3.mono HB2.out.size)
   have hpl:=parts_le n
   clear hpi hb3 HS2 HB2 d0 d1 d2 d3 d4 d5
   go_wp2_with fail
   go_loop [5,7] (fun v q=>∃ (k:Nat) (h:List UInt8),k<=(parts n).length/\q=.int .i64 k/\v=.string (bs h)/\withParts ts (headL n) (parts n)=withParts ts h ((parts n).drop k)/\h.length<=40+k*4001) (fun _ q=>(parts n).length - (intOf q).toNat)
   case atStart=>exact ⟨0,headL n,Nat.zero_le _,rfl,rfl,rfl,by have:=HHL.out;omega⟩
   case round =>
    obtain ⟨k,h,hk,rfl,rfl,hwp,hhl⟩:=hrel
    have HWP:Hid (withParts ts (headL n) (parts n)=withParts ts h ((parts n).drop k)):=hwp
    clear hwp
    have hhs:(bs h).size=h.length:=bs_size h
    have HHS:Hid ((bs h).size=h.length):=hhs
    by_cases hlt:k < (parts n).length
    ·have hkz:(k:Int) < ((parts n).length:Int):=by omega
     rcases HP3.out.2 with e|⟨pb,po,rfl,hpc⟩
     ·omega
     have q0:=hpc k hlt
     clear hpc
     have hpr:=HW.out.ps _ (List.getElem_mem hlt)
     have HDR:Hid ((parts n).drop k=(parts n)[k] :: (parts n).drop (k+1)):=List.drop_eq_getElem_cons hlt
     generalize (parts n)[k]=pp at q0 hpr HDR
     obtain ⟨y,rfl⟩:∃ y:Nat,pp=(y:Int):=⟨pp.toNat,by omega⟩
     have hyl:y < ts.length:=by omega
     have hyz:(y:Int) < (ts.length:Int):=by omega
     rcases HS3.out.2 with e|⟨tb,tq,rfl,htc⟩
     ·omega
     have q1:=htc y hyl
     clear htc
     have HTX:Hid (txt ts (y:Int)=ts[y]):=by
      show _=_
      rw [txt_nat,List.getD_eq_getElem?_getD,List.getElem?_eq_getElem hyl];rfl
     have HTL:Hid (ts[y].length<=4000):=HL.out _ (List.getElem_mem hyl)
     generalize ts[y]=T at q1 HTX HTL
     have htl:=HTL.out
     have hts:(bs T).size=T.length:=bs_size T
     by_cases he:T=[]
     ·have HE:Hid (showN n ts=[]):=by
       show _=_
       rw [HSH.out,HWP.out,HDR.out]
       simp only [withParts]
       rw [if_pos (by rw [HTX.out];exact he)]
      have hq:((bs T).toList==[])=true:=eql_true (by rw [tl_bs];exact he)
      clear he hts hhs
      go_wp2
      go_ret
      exact ⟨ret_str (by rw [HE.out];rfl),HB3.out⟩
     ·have HN:Hid (withParts ts (headL n) (parts n)=withParts ts (h++[32]++T) ((parts n).drop (k+1))):=by
       show _=_
       rw [HWP.out,HDR.out]
       simp only [withParts]
       rw [if_neg (by rw [HTX.out];exact he),HTX.out]
      have hq:((bs T).toList==[])=false:=eql_false (by rw [tl_bs];exact he)
      have hz1:(bs h).size<=20000:=by omega
      have hz2:(bs T).size<=4000:=by omega
      clear he hts hhs
      go_wp2
      go_round
      case rel =>
       refine ⟨k+1,h++[32]++T,by omega,by go_num,?_,HN.out,?_⟩
       ·show Value.string (bs h++bs [32]++bs T)=_
        rw [bs_app,bs_app]
       ·simp;omega
      case measure=>simp [intOf];omega
    ·have hkz:¬ (k:Int) < ((parts n).length:Int):=by omega
     have HN:Hid (withParts ts (headL n) (parts n)=some h):=by
      show _=_
      rw [HWP.out,List.drop_eq_nil_of_le (by omega)];rfl
     have hz1:(bs h).size<=20000:=by omega
     by_cases h4:4000 < h.length+2
     ·have HE:Hid (showN n ts=[]):=by
       show _=_
       rw [HSH.out,HN.out];simp only;rw [if_pos h4]
      have h4z:(4000:Int) < ((bs h).size:Int)+2:=by rw [HHS.out];omega
      clear hhs
      go_wp2
      go_ret
      exact ⟨ret_str (by rw [HE.out];rfl),HB3.out⟩
     ·have HE:Hid (showN n ts=[40]++h++[41]):=by
       show _=_
       rw [HSH.out,HN.out];simp only;rw [if_neg h4]
      have h4z:¬ (4000:Int) < ((bs h).size:Int)+2:=by rw [HHS.out];omega
      clear hhs
      go_wp2
      go_ret
      refine ⟨ret_str ?_,HB3.out⟩
      rw [HE.out]
      show bs [40]++bs h++bs [41]=_
      rw [bs_app,bs_app]
end Ss9
namespace Ss3
open Go.RowKit
open Nd0 Tx0 Tx1 Ss0 Ss1 Ss2
open Ws1 (ret_int ret_bool)
structure RC (w:World) (b:Nat) (S:ByteArray) (p:Int) (tv:Value) (code bad:Int):Prop where
 c0:w.cell? ⟨b,0,none⟩=some (.string S)
 c1:w.cell? ⟨b,1,none⟩=some (.int .i64 p)
 c2:w.cell? ⟨b,2,none⟩=some tv
 c3:w.cell? ⟨b,3,none⟩=some (.int .i64 code)
 c4:w.cell? ⟨b,4,none⟩=some (.int .i64 bad)
 f1:w.frozen? ⟨b,1,none⟩=false
 f2:w.frozen? ⟨b,2,none⟩=false
 f3:w.frozen? ⟨b,3,none⟩=false
 f4:w.frozen? ⟨b,4,none⟩=false
theorem RC.lt {w:World} {b:Nat} {S:ByteArray} {p:Int} {tv:Value} {code bad:Int} (h:RC w b S p tv code bad):b < w.heap.size:=lt_of_cell (p:=⟨b,0,none⟩) h.c0
theorem RC.kept {w w':World} {b:Nat} {S:ByteArray} {p:Int} {tv:Value} {code bad:Int} (h:RC w b S p tv code bad) {D:Nat->Prop} (k:Kept D w w') (hd:¬ D b):RC w' b S p tv code bad :=
 ⟨by rw [k.cell h.lt hd];exact h.c0,by rw [k.cell h.lt hd];exact h.c1,by rw [k.cell h.lt hd];exact h.c2,by rw [k.cell h.lt hd];exact h.c3,by rw [k.cell h.lt hd];exact h.c4,by rw [k.frozen h.lt hd];exact h.f1,by rw [k.frozen h.lt hd];exact h.f2,by rw [k.frozen h.lt hd];exact h.f3,by rw [k.frozen h.lt hd];exact h.f4⟩
theorem RC.drewN {w:World} {b:Nat} {S:ByteArray} {p:Int} {tv:Value} {code bad:Int} (h:RC w b S p tv code bad) (m:Nat):RC (w.drewN m) b S p tv code bad :=
 ⟨h.c0,h.c1,h.c2,h.c3,h.c4,h.f1,h.f2,h.f3,h.f4⟩
theorem RC.move {w:World} {b:Nat} {S:ByteArray} {p:Int} {tv:Value} {code bad:Int} (h:RC w b S p tv code bad) (q:Int):RC (w.setCell ⟨b,1,none⟩ (.int .i64 q)) b S q tv code bad :=
 ⟨by rw [set_other (by simp)];exact h.c0,set_same h.c1,by rw [set_other (by simp)];exact h.c2,by rw [set_other (by simp)];exact h.c3,by rw [set_other (by simp)];exact h.c4,by simpa using h.f1,by simpa using h.f2,by simpa using h.f3,by simpa using h.f4⟩
theorem RC.list {w:World} {b:Nat} {S:ByteArray} {p:Int} {tv:Value} {code bad:Int} (h:RC w b S p tv code bad) (v:Value):RC (w.setCell ⟨b,2,none⟩ v) b S p v code bad :=
 ⟨by rw [set_other (by simp)];exact h.c0,by rw [set_other (by simp)];exact h.c1,set_same h.c2,by rw [set_other (by simp)];exact h.c3,by rw [set_other (by simp)];exact h.c4,by simpa using h.f1,by simpa using h.f2,by simpa using h.f3,by simpa using h.f4⟩
theorem RC.fail {w:World} {b:Nat} {S:ByteArray} {p:Int} {tv:Value} {code bad:Int} (h:RC w b S p tv code bad) (c q:Int):RC ((w.setCell ⟨b,3,none⟩ (.int .i64 c)).setCell ⟨b,4,none⟩ (.int .i64 q)) b S p tv c q :=
 ⟨by rw [set_other (by simp),set_other (by simp)];exact h.c0,by rw [set_other (by simp),set_other (by simp)];exact h.c1,by rw [set_other (by simp),set_other (by simp)];exact h.c2,by rw [set_other (by simp)];exact set_same h.c3,set_same (by rw [set_other (by simp)];exact h.c4),by simpa using h.f1,by simpa using h.f2,by simpa using h.f3,by simpa using h.f4⟩
theorem kept_set {b o:Nat} {u w:World} (h:Kept (fun k=>k=b) u w) (x:Value):Kept (fun k=>k=b) u (w.setCell ⟨b,o,none⟩ x):=h.setCell (p:=⟨b,o,none⟩) rfl x
theorem sFail (w:World) (b:Nat) (S:ByteArray) (p:Int) (tv:Value) (bad c q:Int) (h:RC w b S p tv 0 bad) :
 Calls Tryz.prog 67 #[.pointer (some ⟨b,0,none⟩),.int .i64 c,.int .i64 q] w fun e w'=>e=.returned (.int .i64 0)/\RC w' b S p tv c q/\Kept (fun k=>k=b) w w':=by
 have H:Hid (RC w b S p tv 0 bad):=h
 obtain ⟨c0,c1,c2,c3,c4,f1,f2,f3,f4⟩:=h
 clear c0 c1 c2 f1 f2
 go_enter Tryz.func67,Tryz.ntmps67
 go_wp2
 go_ret
 exact ⟨rfl,H.out.fail c q,kept_set (kept_set (Kept.refl _ _) _) _⟩
def left (S:ByteArray) (p:Nat):List UInt8:=(tl S).drop p
theorem left_cons {S:ByteArray} {p:Nat} (h:p < S.size):left S p=S[p] :: left S (p+1):=by
 unfold left
 rw [List.drop_eq_getElem_cons (by rw [tl_length];exact h)];rfl
theorem left_nil {S:ByteArray} {p:Nat} (h:S.size<=p):left S p=[]:=by
 unfold left
 exact List.drop_eq_nil_of_le (by rw [tl_length];exact h)
theorem left_len (S:ByteArray) (p:Nat):(left S p).length=S.size - p:=by unfold left;rw [List.length_drop,tl_length]
def BPost (w:World) (b:Nat) (S:ByteArray) (p:Nat) (tv:Value) (bad:Int) (t:List Nd) (e:Ending) (w':World):Prop :=
 (match (Rd.mk p (left S p) t).blank with
  | none=>e=.returned (.bool false)/\RC w' b S p tv 0 bad
  | some s1=>e=.returned (.bool true)/\RC w' b S (p+1:Nat) tv 0 bad/\s1=⟨p+1,left S (p+1),t⟩/\p+1<=S.size)/\Kept (fun k=>k=b) w w'
theorem bpost_no {w:World} {b:Nat} {S:ByteArray} {p:Nat} {tv:Value} {bad:Int} {t:List Nd} {e:Ending} {w':World} (h:(Rd.mk p (left S p) t).blank=none) (he:e=.returned (.bool false)) (hc:RC w' b S p tv 0 bad) (hk:Kept (fun k=>k=b) w w'):BPost w b S p tv bad t e w':=by
 unfold BPost;rw [h];exact ⟨⟨he,hc⟩,hk⟩
theorem bpost_yes {w:World} {b:Nat} {S:ByteArray} {p:Nat} {tv:Value} {bad:Int} {t:List Nd} {e:Ending} {w':World} (h:(Rd.mk p (left S p) t).blank=some ⟨p+1,left S (p+1),t⟩) (he:e=.returned (.bool true)) (hc:RC w' b S (p+1:Nat) tv 0 bad) (hp:p+1<=S.size) (hk:Kept (fun k=>k=b) w w'):BPost w b S p tv bad t e w':=by
 unfold BPost;rw [h];exact ⟨⟨he,hc,rfl,hp⟩,hk⟩
theorem sBlank (w:World) (b:Nat) (S:ByteArray) (p:Nat) (tv:Value) (bad:Int) (h:RC w b S p tv 0 bad) (hs:S.size<=100000) (hp:p<=S.size) (t:List Nd) :
 Calls Tryz.prog 122 #[.pointer (some ⟨b,0,none⟩)] w (BPost w b S p tv bad t):=by
 have H:Hid (RC w b S p tv 0 bad):=h
 obtain ⟨c0,c1,c2,c3,c4,f1,f2,f3,f4⟩:=h
 clear c2 c3 c4 f2 f3 f4
 by_cases hlt:p < S.size
 ·have hpz:(p:Int) < (S.size:Int):=by omega
  by_cases hc:S[p]=32
  ·have HB:Hid ((Rd.mk p (left S p) t).blank=some ⟨p+1,left S (p+1),t⟩):=by
    show _=_
    rw [left_cons hlt,hc];rfl
   have hcq:((S[p].toNat:Int)==32)=true:=by rw [hc];rfl
   clear hc
   go_enter Tryz.func122,Tryz.ntmps122
   go_wp2
   go_quiet (fail)
   go_wp2
   go_ret
   exact bpost_yes HB.out rfl ((H.out.drewN _).move _) hlt (kept_set ((Kept.refl _ _).drewN _) _)
  ·have HB:Hid ((Rd.mk p (left S p) t).blank=none):=by
    show _=_
    rw [left_cons hlt]
    unfold Rd.blank
    simp only
    rw [if_neg hc]
   have hcq:((S[p].toNat:Int)==32)=false:=by
    have:S[p].toNat≠32:=fun e=>hc (UInt8.toNat_inj.1 e)
    simp;omega
   clear hc
   go_enter Tryz.func122,Tryz.ntmps122
   go_wp2
   go_quiet (fail)
   go_wp2
   go_ret
   exact bpost_no HB.out rfl (H.out.drewN _) ((Kept.refl _ _).drewN _)
 ·have hpz:¬ (p:Int) < (S.size:Int):=by omega
  have HB:Hid ((Rd.mk p (left S p) t).blank=none):=by
   show _=_
   rw [left_nil (by omega)];rfl
  have hd:decide ((p:Int) < (S.size:Int))=false:=by simpa using hpz
  go_enter Tryz.func122,Tryz.ntmps122
  go_wp2
  go_quiet (fail)
  go_wp2
  go_ret
  exact bpost_no HB.out rfl (H.out.drewN _) ((Kept.refl _ _).drewN _)
theorem take_more {S:ByteArray} {p k:Nat} (hp:p<=k) (h:k < S.size):((tl S).take (k+1)).drop p=((tl S).take k).drop p++[S[k]]:=by
 rw [tl_take S k h,List.drop_append_of_le_length (by rw [List.length_take,tl_length];omega)]
theorem left_split {S:ByteArray} {p k:Nat} (hp:p<=k):left S p=((tl S).take k).drop p++left S k:=by
 unfold left
 have e:tl S=(tl S).take k++(tl S).drop k:=(List.take_append_drop _ _).symm
 by_cases h:p<=((tl S).take k).length
 ·refine (congrArg (List.drop p) e).trans ?_
  rw [List.drop_append_of_le_length h]
 ·rw [List.length_take] at h
  have h1:(tl S).drop p=[]:=List.drop_eq_nil_of_le (by omega)
  have h2:((tl S).take k).drop p=[]:=List.drop_eq_nil_of_le (by rw [List.length_take];omega)
  have h3:(tl S).drop k=[]:=List.drop_eq_nil_of_le (by omega)
  rw [h1,h2,h3];rfl
theorem word_ends {S:ByteArray} {p k:Nat} {t:List Nd} (hp:p<=k) (hk:k<=S.size) (ha:∀ c∈((tl S).take k).drop p,inWord c=true) (hb:Bd (left S k)) :
 (Rd.mk p (left S p) t).word=((tl S).take k).drop p/\(Rd.mk p (left S p) t).past=⟨k,left S k,t⟩:=by
 have h:=word_mk p t ha hb
 rw [<- left_split hp] at h
 refine ⟨h.1,?_⟩
 rw [h.2]
 congr 1
 rw [List.length_drop,List.length_take,tl_length];omega
theorem sWord (w:World) (b:Nat) (S:ByteArray) (p:Nat) (tv:Value) (bad:Int) (h:RC w b S p tv 0 bad) (hs:S.size<=100000) (hp:p<=S.size) (t:List Nd) :
 Calls Tryz.prog 100 #[.pointer (some ⟨b,0,none⟩)] w fun e w'=>∃ (k:Nat) (X:ByteArray),e=.returned (.string X)/\tl X=(Rd.mk p (left S p) t).word/\X.size<=S.size/\p<=k/\k<=S.size/\(Rd.mk p (left S p) t).past=⟨k,left S k,t⟩/\RC w' b S k tv 0 bad/\Kept (fun k=>k=b) w w':=by
 have H:Hid (RC w b S p tv 0 bad):=h
 have c1:=h.c1
 clear h
 go_enter Tryz.func100,Tryz.ntmps100
 go_wp2
 clear c1
 go_loopw [8] (fun _ wr=>∃ k:Nat,p<=k/\k<=S.size/\RC wr b S k tv 0 bad/\Kept (fun k=>k=b) w wr/\∀ c∈((tl S).take k).drop p,inWord c=true) (fun _ wr=>S.size - (intOf ((wr.cell? ⟨b,1,none⟩).getD undef)).toNat)
 case atStart=>exact ⟨p,Nat.le_refl _,hp,H.out,Kept.refl _ _,fun c hc=>by
  rw [List.drop_eq_nil_of_le (by rw [List.length_take];omega)] at hc;cases hc⟩
 case round =>
  clear H
  obtain ⟨k,hpk,hk,hrc,hkept,ha⟩:=hrel
  have H:Hid (RC wr b S k tv 0 bad):=hrc
  have HK:Hid (Kept (fun k=>k=b) w wr):=hkept
  have HA:Hid (∀ c∈((tl S).take k).drop p,inWord c=true):=ha
  obtain ⟨c0,c1,c2,c3,c4,f1,f2,f3,f4⟩:=hrc
  clear hkept ha c2 c3 c4 f2 f3 f4
  by_cases hlt:k < S.size
  ·have hkz:(k:Int) < (S.size:Int):=by omega
   by_cases hc:S[k]=32
   ·have HE:Hid ((Rd.mk p (left S p) t).word=((tl S).take k).drop p/\(Rd.mk p (left S p) t).past=⟨k,left S k,t⟩):=word_ends hpk hk HA.out (by rw [left_cons hlt,hc];exact bd_blank _)
    have hcq:((S[k].toNat:Int) != 32)=false:=by rw [hc];rfl
    clear hc
    go_wp2
    go_quiet (fail)
    go_wp2
    go_quiet (fail)
    go_wp2
    go_ret
    exact ⟨k,_,rfl,by rw [tl_ext];exact HE.out.1.symm,by rw [ByteArray.size_extract];omega,hpk,hk,HE.out.2,(H.out.drewN _).drewN _,(HK.out.drewN _).drewN _⟩
   ·have hcq:((S[k].toNat:Int) != 32)=true:=by
     have:S[k].toNat≠32:=fun e=>hc (UInt8.toNat_inj.1 e)
     simp;omega
    by_cases hd:S[k]=41
    ·have HE:Hid ((Rd.mk p (left S p) t).word=((tl S).take k).drop p/\(Rd.mk p (left S p) t).past=⟨k,left S k,t⟩):=word_ends hpk hk HA.out (by rw [left_cons hlt,hd];exact bd_shut _)
     have hdq:((S[k].toNat:Int) != 41)=false:=by rw [hd];rfl
     clear hc hd
     go_wp2
     go_quiet (fail)
     go_wp2
     go_quiet (fail)
     go_wp2
     go_ret
     exact ⟨k,_,rfl,by rw [tl_ext];exact HE.out.1.symm,by rw [ByteArray.size_extract];omega,hpk,hk,HE.out.2,(H.out.drewN _).drewN _,(HK.out.drewN _).drewN _⟩
    ·have hdq:((S[k].toNat:Int) != 41)=true:=by
      have:S[k].toNat≠41:=fun e=>hd (UInt8.toNat_inj.1 e)
      simp;omega
     have HW:Hid (inWord S[k]=true):=by
      show _=_
      unfold inWord;simp [hc,hd]
     clear hc hd
     go_wp2
     go_quiet (fail)
     go_wp2
     go_roundw
     case rel =>
      refine ⟨k+1,by omega,by omega,(H.out.drewN _).move _,kept_set (HK.out.drewN _) _,?_⟩
      rw [take_more hpk hlt]
      intro c hc
      rcases List.mem_append.1 hc with e|e
      ·exact HA.out c e
      ·have:c=S[k]:=by simpa using e
       rw [this];exact HW.out
     case measure=>rw [set_same (w:=wr.drewN nq) (u:=.int .i64 k) c1,c1];simp [intOf];omega
  ·have hkz:¬ (k:Int) < (S.size:Int):=by omega
   have HE:Hid ((Rd.mk p (left S p) t).word=((tl S).take k).drop p/\(Rd.mk p (left S p) t).past=⟨k,left S k,t⟩):=word_ends hpk hk HA.out (by rw [left_nil (by omega)];exact bd_nil)
   have hd:decide ((k:Int) < (S.size:Int))=false:=by simpa using hkz
   go_wp2
   go_quiet (fail)
   go_wp2
   go_quiet (fail)
   go_wp2
   go_ret
   exact ⟨k,_,rfl,by rw [tl_ext];exact HE.out.1.symm,by rw [ByteArray.size_extract];omega,hpk,hk,HE.out.2,(H.out.drewN _).drewN _,(HK.out.drewN _).drewN _⟩
end Ss3
end Go.Proofs.YthanhcobfehmnaaGreat
