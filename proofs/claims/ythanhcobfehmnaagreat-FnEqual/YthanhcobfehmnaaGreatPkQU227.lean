import Derived.Test.YthanhcobfehmnaaGreatSs6
import Derived.Test.YthanhcobfehmnaaGreatAm6
namespace Go.Proofs.YthanhcobfehmnaaGreat
set_option maxRecDepth 100000
set_option maxHeartbeats 8000000
set_option linter.unusedVariables false
namespace Ss7
open Go.RowKit
open Nd0 Nd3 Tm0 Tx0 Tx1 Ss0 Ss1 Ss2 Ss3 Ss4 Ss5 Ss5b Ss6
open Ws1 (ret_int ret_bool)
theorem leaf_one {st:Rd} {a b:Nat} (h:twoL 35 st.word=some (a,b)):leafL st=match putL st.past.t ⟨0,a,b,0,0,0⟩ st.p with | .error e=>.error e | .ok (t,i)=>.ok (⟨st.past.p,st.past.r,t⟩,i):=by
 unfold leafL;rw [h];rfl
theorem leaf_two {st:Rd} {a b:Nat} (h0:twoL 35 st.word=none) (h:twoL 118 st.word=some (a,b)):leafL st=match putL st.past.t ⟨1,b,a,0,0,0⟩ st.p with | .error e=>.error e | .ok (t,i)=>.ok (⟨st.past.p,st.past.r,t⟩,i):=by
 unfold leafL;rw [h0];simp only;rw [h];rfl
theorem leaf_none {st:Rd} (h0:twoL 35 st.word=none) (h:twoL 118 st.word=none):leafL st=.error (2,st.p):=by
 unfold leafL;rw [h0];simp only;rw [h]
theorem two_some {h:UInt8} {s:List UInt8} {a b:Nat} (e:twoL h s=some (a,b)):twoA h s=(a:Int)/\twoB h s=(b:Int):=by
 unfold twoA twoB;rw [e];exact ⟨rfl,rfl⟩
theorem rs_drewN {w:World} {b:Nat} {S:ByteArray} {F:Nat->Prop} {st:Rd} {bad:Int} (h:RS w b S F st bad) (m:Nat):RS (w.drewN m) b S F st bad :=
 h.kept (D:=fun _=>False) (Kept.ofBelow ⟨rfl,rfl,rfl,Nat.le_refl _,fun _ _=>rfl⟩) (fun _ _ h=>h)
theorem fb_kept {w w':World} {b:Nat} {F:Nat->Prop} (h:Fb w b F) (k:w.heap.size<=w'.heap.size):Fb w' b F:=⟨h.1,fun i hi=>Nat.lt_of_lt_of_le (h.2 i hi) k⟩
theorem readR (f:Nat) (hRD:RdC f):RdC (f+1):=by
 intro w b S F st bad hF h hs hl
 have HRD:Hid (RdC f):=hRD
 have HFB:Hid (Fb w b F):=hF
 have HR:Hid (RS w b S F st bad):=h
 obtain ⟨a0,t0,hrc,_,_⟩:=h.rl
 have c0:=hrc.c0
 have c1:=hrc.c1
 have hr:=h.r
 have hpp:=h.p
 clear hRD hF hrc
 by_cases ho:opens st.r=true
 ·obtain ⟨hlt,hc⟩:∃ hlt:st.p < S.size,S[st.p]=40:=by
   rw [hr] at ho
   by_cases hlt:st.p < S.size
   ·rw [left_cons hlt] at ho
    exact ⟨hlt,by simpa [opens] using ho⟩
   ·rw [left_nil (by omega)] at ho;cases ho
  have hpz:(st.p:Int) < (S.size:Int):=by omega
  have hcq:((S[st.p].toNat:Int)==40)=true:=by rw [hc];rfl
  have HE:Hid (rdL (f+1) st=innerL (rdL f) st.p ⟨st.p+1,left S (st.p+1),st.t⟩):=by
   show _=_
   simp only [rdL]
   rw [if_pos ho,hr,left_cons hlt]
   rfl
  have HL:Hid ((left S (st.p+1)).length < f):=by
   show _ < _
   rw [left_len]
   rw [hr,left_len] at hl
   omega
  have HR2:Hid (RS w b S F ⟨st.p,left S st.p,st.t⟩ bad):=by
   show RS _ _ _ _ _ _
   rw [<- hr];exact HR.out
  clear ho hc hr h
  go_enter Tryz.func66,Tryz.ntmps66
  go_wp2_with fail
  refine (innerR f HRD.out w b S F HFB.out st.p st.t bad HR2.out hlt hs HL.out).mono ?_
  rintro e w2 hrp
  have HRP:Hid (RP w b S F bad (rdL (f+1) st) e w2):=by
   show RP _ _ _ _ _ _ _ _
   rw [HE.out];exact hrp
  obtain ⟨v,rfl⟩:=rp_ret HRP.out
  clear hrp
  go_wp2
  go_ret
  exact HRP.out
 ·have hof:opens st.r=false:=by simpa using ho
  have HE:Hid (rdL (f+1) st=leafL st):=by
   show _=_
   simp only [rdL]
   rw [hof];simp
  have hp4:st.p<=4000:=by omega
  by_cases hlt:st.p < S.size
  ·have hpz:(st.p:Int) < (S.size:Int):=by omega
   have hcq:((S[st.p].toNat:Int)==40)=false:=by
    have hc:S[st.p]≠40:=by
     intro e
     rw [hr,left_cons hlt,e] at hof
     cases hof
    have:S[st.p].toNat≠40:=fun e=>hc (UInt8.toNat_inj.1 e)
    simp;omega
   clear ho hof hr h
   go_enter Tryz.func66,Tryz.ntmps66
   go_wp2_with fail
   refine (wordR _ b S F HFB.out st bad HR.out hs).mono ?_
   rintro e w2 ⟨X,rfl,hx,hxs,hr2,hk2⟩
   have HX:Hid (tl X=st.word):=hx
   have HR2:Hid (RS w2 b S F st.past bad):=hr2
   have HK2:Hid (Kb b w w2):=hk2
   clear hx hr2 hk2 c0 c1
   go_wp2_with fail
   refine (sTwo X 35 _ (by omega)).mono ?_
   rintro e w3 ⟨rfl,m3,rfl⟩
   have HR3:Hid (RS (w2.drewN m3) b S F st.past bad):=rs_drewN HR2.out m3
   have HK3:Hid (Kb b w (w2.drewN m3)):=HK2.out.drewN m3
   rw [HX.out]
   clear HR2 HK2
   generalize w2.drewN m3=w3 at HR3 HK3 ⊢
   cases hn:twoL 35 st.word with
   | some x =>
     obtain ⟨a,b2⟩:=x
     rw [(two_some hn).1,(two_some hn).2]
     have HL:Hid (leafL st=match putL st.past.t ⟨0,a,b2,0,0,0⟩ st.p with | .error e=>.error e | .ok (t,i)=>.ok (⟨st.past.p,st.past.r,t⟩,i)):=leaf_one hn
     have haz:(0:Int)<=(a:Int):=by omega
     clear hn
     go_wp2_with fail
     refine (putR _ b S F (fb_kept HFB.out HK3.out.size) st.past bad HR3.out ⟨0,a,b2,0,0,0⟩ st.p _ rfl (by omega)).mono ?_
     rintro e w4 hrp
     have HRP:Hid (RP w b S F bad (rdL (f+1) st) e w4):=by
      show RP _ _ _ _ _ _ _ _
      rw [HE.out,HL.out];exact rp_trans HK3.out (fun _ h=>h) hrp
     obtain ⟨v,rfl⟩:=rp_ret HRP.out
     clear hrp
     go_wp2
     go_ret
     exact HRP.out
   | none =>
     rw [(two_none hn).1,(two_none hn).2]
     have HN:Hid (twoL 35 st.word=none):=hn
     clear hn
     go_wp2_with fail
     refine (sTwo X 118 _ (by omega)).mono ?_
     rintro e w4 ⟨rfl,m4,rfl⟩
     have HR4:Hid (RS (w3.drewN m4) b S F st.past bad):=rs_drewN HR3.out m4
     have HK4:Hid (Kb b w (w3.drewN m4)):=HK3.out.drewN m4
     rw [HX.out]
     clear HR3 HK3
     generalize w3.drewN m4=w4 at HR4 HK4 ⊢
     cases hn:twoL 118 st.word with
     | some x =>
       obtain ⟨a,b2⟩:=x
       rw [(two_some hn).1,(two_some hn).2]
       have HL:Hid (leafL st=match putL st.past.t ⟨1,b2,a,0,0,0⟩ st.p with | .error e=>.error e | .ok (t,i)=>.ok (⟨st.past.p,st.past.r,t⟩,i)):=leaf_two HN.out hn
       have haz:(0:Int)<=(a:Int):=by omega
       clear hn
       go_wp2_with fail
       refine (putR _ b S F (fb_kept HFB.out HK4.out.size) st.past bad HR4.out ⟨1,b2,a,0,0,0⟩ st.p _ rfl (by omega)).mono ?_
       rintro e w5 hrp
       have HRP:Hid (RP w b S F bad (rdL (f+1) st) e w5):=by
        show RP _ _ _ _ _ _ _ _
        rw [HE.out,HL.out];exact rp_trans HK4.out (fun _ h=>h) hrp
       obtain ⟨v,rfl⟩:=rp_ret HRP.out
       clear hrp
       go_wp2
       go_ret
       exact HRP.out
     | none =>
       rw [(two_none hn).1,(two_none hn).2]
       have HL:Hid (leafL st=.error (2,st.p)):=leaf_none HN.out hn
       clear hn
       go_wp2_with fail
       refine (failR _ b S F (fb_kept HFB.out HK4.out.size) _ bad HR4.out 2 st.p _ rfl).mono ?_
       rintro e w5 ⟨rfl,hb5,hk5⟩
       have HB5:Hid (Bad w5 b S (2,st.p)):=hb5
       have HK5:Hid (Kb b w w5):=HK4.out.trans hk5
       clear hb5 hk5
       go_wp2
       go_ret
       exact rp_err (HE.out.trans HL.out) HK5.out rfl HB5.out
  ·have hpz:¬ (st.p:Int) < (S.size:Int):=by omega
   have hd:decide ((st.p:Int) < (S.size:Int))=false:=by simpa using hpz
   clear ho hof hr h
   go_enter Tryz.func66,Tryz.ntmps66
   go_wp2_with fail
   refine (wordR _ b S F HFB.out st bad HR.out hs).mono ?_
   rintro e w2 ⟨X,rfl,hx,hxs,hr2,hk2⟩
   have HX:Hid (tl X=st.word):=hx
   have HR2:Hid (RS w2 b S F st.past bad):=hr2
   have HK2:Hid (Kb b w w2):=hk2
   clear hx hr2 hk2 c0 c1
   go_wp2_with fail
   refine (sTwo X 35 _ (by omega)).mono ?_
   rintro e w3 ⟨rfl,m3,rfl⟩
   have HR3:Hid (RS (w2.drewN m3) b S F st.past bad):=rs_drewN HR2.out m3
   have HK3:Hid (Kb b w (w2.drewN m3)):=HK2.out.drewN m3
   rw [HX.out]
   clear HR2 HK2
   generalize w2.drewN m3=w3 at HR3 HK3 ⊢
   cases hn:twoL 35 st.word with
   | some x =>
     obtain ⟨a,b2⟩:=x
     rw [(two_some hn).1,(two_some hn).2]
     have HL:Hid (leafL st=match putL st.past.t ⟨0,a,b2,0,0,0⟩ st.p with | .error e=>.error e | .ok (t,i)=>.ok (⟨st.past.p,st.past.r,t⟩,i)):=leaf_one hn
     have haz:(0:Int)<=(a:Int):=by omega
     clear hn
     go_wp2_with fail
     refine (putR _ b S F (fb_kept HFB.out HK3.out.size) st.past bad HR3.out ⟨0,a,b2,0,0,0⟩ st.p _ rfl (by omega)).mono ?_
     rintro e w4 hrp
     have HRP:Hid (RP w b S F bad (rdL (f+1) st) e w4):=by
      show RP _ _ _ _ _ _ _ _
      rw [HE.out,HL.out];exact rp_trans HK3.out (fun _ h=>h) hrp
     obtain ⟨v,rfl⟩:=rp_ret HRP.out
     clear hrp
     go_wp2
     go_ret
     exact HRP.out
   | none =>
     rw [(two_none hn).1,(two_none hn).2]
     have HN:Hid (twoL 35 st.word=none):=hn
     clear hn
     go_wp2_with fail
     refine (sTwo X 118 _ (by omega)).mono ?_
     rintro e w4 ⟨rfl,m4,rfl⟩
     have HR4:Hid (RS (w3.drewN m4) b S F st.past bad):=rs_drewN HR3.out m4
     have HK4:Hid (Kb b w (w3.drewN m4)):=HK3.out.drewN m4
     rw [HX.out]
     clear HR3 HK3
     generalize w3.drewN m4=w4 at HR4 HK4 ⊢
     cases hn:twoL 118 st.word with
     | some x =>
       obtain ⟨a,b2⟩:=x
       rw [(two_some hn).1,(two_some hn).2]
       have HL:Hid (leafL st=match putL st.past.t ⟨1,b2,a,0,0,0⟩ st.p with | .error e=>.error e | .ok (t,i)=>.ok (⟨st.past.p,st.past.r,t⟩,i)):=leaf_two HN.out hn
       have haz:(0:Int)<=(a:Int):=by omega
       clear hn
       go_wp2_with fail
       refine (putR _ b S F (fb_kept HFB.out HK4.out.size) st.past bad HR4.out ⟨1,b2,a,0,0,0⟩ st.p _ rfl (by omega)).mono ?_
       rintro e w5 hrp
       have HRP:Hid (RP w b S F bad (rdL (f+1) st) e w5):=by
        show RP _ _ _ _ _ _ _ _
        rw [HE.out,HL.out];exact rp_trans HK4.out (fun _ h=>h) hrp
       obtain ⟨v,rfl⟩:=rp_ret HRP.out
       clear hrp
       go_wp2
       go_ret
       exact HRP.out
     | none =>
       rw [(two_none hn).1,(two_none hn).2]
       have HL:Hid (leafL st=.error (2,st.p)):=leaf_none HN.out hn
       clear hn
       go_wp2_with fail
       refine (failR _ b S F (fb_kept HFB.out HK4.out.size) _ bad HR4.out 2 st.p _ rfl).mono ?_
       rintro e w5 ⟨rfl,hb5,hk5⟩
       have HB5:Hid (Bad w5 b S (2,st.p)):=hb5
       have HK5:Hid (Kb b w w5):=HK4.out.trans hk5
       clear hb5 hk5
       go_wp2
       go_ret
       exact rp_err (HE.out.trans HL.out) HK5.out rfl HB5.out
theorem rdC:∀ f,RdC f:=by
 intro f
 induction f with
 | zero=>intro w b S F st bad _ _ _ h;omega
 | succ f ih=>exact readR f ih
end Ss7
namespace Ss8
open Go.RowKit
open Nd0 Nd3 Tm0 Tx0 Tx1 Ss0 Ss1 Ss2 Ss3 Ss4 Ss5 Ss5b Ss6 Ss7
open Ws1 (ret_int ret_bool)
def TPostC (w:World) (s:List UInt8) (e:Ending) (w':World):Prop :=
 ∃ (a:Option Addr) (c:Nat),e=.returned (.tuple #[.slice a (readL s).1.length c,.int .i64 (readL s).2.1,.int .i64 (readL s).2.2])/\Nodes w' a (readL s).1/\Below w.heap.size w w'/\(readL s).1.length<=c
theorem tpost {w:World} {s:List UInt8} {e:Ending} {w':World} {l:List Nd} {x y:Int} (h:readL s=(l,x,y)) (a:Option Addr) (c:Nat) (he:e=.returned (.tuple #[.slice a l.length c,.int .i64 x,.int .i64 y])) (hn:Nodes w' a l) (hb:Below w.heap.size w w') (hc:l.length<=c):TPostC w s e w':=by
 unfold TPostC;rw [h];exact ⟨a,c,he,hn,hb,hc⟩
theorem read_long {s:List UInt8} (h:4000 < s.length):readL s=([],1,0):=by unfold readL;rw [if_pos h]
theorem read_err {s:List UInt8} (h:¬ 4000 < s.length) {x:Int × Nat} (e:rdL (s.length+1) ⟨0,s,[]⟩=.error x):readL s=([],x.1,(x.2:Int)):=by
 unfold readL;rw [if_neg h,e]
theorem read_left {s:List UInt8} (h:¬ 4000 < s.length) {st:Rd} {i:Nat} (e:rdL (s.length+1) ⟨0,s,[]⟩=.ok (st,i)) (hr:¬ st.r.length=0):readL s=([],5,(st.p:Int)):=by
 unfold readL;rw [if_neg h,e];simp only;rw [if_neg hr]
theorem read_ok {s:List UInt8} (h:¬ 4000 < s.length) {st:Rd} {i:Nat} (e:rdL (s.length+1) ⟨0,s,[]⟩=.ok (st,i)) (hr:st.r.length=0):readL s=(st.t.take (i+1),0,0):=by
 unfold readL;rw [if_neg h,e];simp only;rw [if_pos hr]
theorem nodes_nil (w:World) (a:Option Addr):Nodes w a []:=⟨Nat.zero_le _,.inl rfl⟩
theorem nodes_take' {w:World} {a:Option Addr} {L:List Nd} (h:Nodes w a L) {m:Nat} (hm:m<=L.length):Nodes w a (L.take m):=by
 refine ⟨by rw [List.length_take];have:=h.1;omega,?_⟩
 by_cases h0:m=0
 ·exact .inl (by subst h0;simp)
 ·rcases h.2 with e|⟨b,o,he,hc⟩
  ·omega
  ·refine .inr ⟨b,o,he,fun i hi=>?_⟩
   have hi':i < L.length:=by rw [List.length_take] at hi;omega
   rw [List.getElem_take];exact hc i hi'
theorem sReadTermC (w:World) (S:ByteArray) (hsz:S.size<=2097152) :
 Calls Tryz.prog 32 #[.string S] w (TPostC w (tl S)):=by
 have hsl:=tl_length S
 by_cases hl:4000 < S.size
 ·have HE:Hid (readL (tl S)=([],1,0)):=read_long (by omega)
  have hlz:(4000:Int) < (S.size:Int):=by omega
  clear hsl hl
  go_enter Tryz.func32,Tryz.ntmps32
  go_wp2
  refine bodyPost_ret (v:=.tuple #[.slice (some ⟨w.heap.size,0,none⟩) 0 0,.int .i64 1,.int .i64 0]) (by simp [results,Tryz.results32,go_sem]) rfl ?_
  exact tpost HE.out _ _ rfl (nodes_nil _ _) ((Below.refl _ _).alloc (Nat.le_refl _) _) (Nat.zero_le _)
 ·have hlz:¬ (4000:Int) < (S.size:Int):=by omega
  have HNL:Hid (¬ 4000 < (tl S).length):=by show ¬ _;omega
  have hs4:S.size<=4000:=by omega
  obtain ⟨w1,hw1⟩:∃ w1:World,w1=w.alloc (.cells #[] 44):=⟨_,rfl⟩
  obtain ⟨w2,hw2⟩:∃ w2:World,w2=w1.alloc (.cells #[.string S,.int .i64 0,.slice none 0 0,.int .i64 0,.int .i64 0] 95):=⟨_,rfl⟩
  obtain ⟨b,hb⟩:∃ b:Nat,b=w1.heap.size:=⟨_,rfl⟩
  have hb1:Below w.heap.size w w1:=by rw [hw1];exact (Below.refl _ _).alloc (Nat.le_refl _) _
  have hb2:Below w1.heap.size w1 w2:=by rw [hw2];exact (Below.refl _ _).alloc (Nat.le_refl _) _
  have HB2:Hid (Below w.heap.size w w2):=hb1.trans (hb2.mono hb1.size)
  have hbw:w.heap.size<=b:=by rw [hb];exact hb1.size
  have hbs:b < w2.heap.size:=by rw [hw2,hb];simp
  have HR2:Hid (RS w2 b S (fun k=>k=b) ⟨0,tl S,[]⟩ 0):=by
   refine ⟨⟨none,0,?_,nodes_nil _ _,fun x h0 _=>by simp at h0,Nat.zero_le _⟩,rfl,Nat.zero_le _,⟨by simp,fun k hk=>by simp at hk⟩⟩
   rw [hw2,hb]
   refine ⟨?_,?_,?_,?_,?_,by simp,by simp,by simp,by simp⟩
   all_goals
    rw [World.cell?_alloc_new]
    rfl
  have HFB:Hid (Fb w2 b (fun k=>k=b)):=⟨rfl,fun k hk=>by have e:k=b:=hk;omega⟩
  have HW:Hid (w2=(w.alloc (.cells #[] 44)).alloc (.cells #[.string S,.int .i64 0,.slice none 0 0,.int .i64 0,.int .i64 0] 95)/\b=w.heap.size+1):=by
   constructor
   ·rw [hw2,hw1]
   ·rw [hb,hw1];simp
  clear hw1 hw2 hb hb1 hb2 hl
  go_enter Tryz.func32,Tryz.ntmps32
  go_wp2_with fail
  rw [<- HW.out.1,<- HW.out.2]
  clear HW
  refine (rdC ((tl S).length+1) w2 b S _ ⟨0,tl S,[]⟩ 0 HFB.out HR2.out hs4 (by simp)).mono ?_
  rintro e w3 ⟨hk3,her,hok⟩
  have HB3:Hid (Below w.heap.size w w3):=⟨hk3.os.trans HB2.out.os,hk3.tape.trans HB2.out.tape,hk3.output.trans HB2.out.output,Nat.le_trans HB2.out.size hk3.size,fun k hk=>(hk3.block k (Nat.lt_of_lt_of_le hk HB2.out.size) (fun e=>by have e':k=b:=e;omega)).trans (HB2.out.block k hk)⟩
  cases hrd:rdL ((tl S).length+1) ⟨0,tl S,[]⟩ with
  | error x =>
    obtain ⟨rfl,pp,tv,hrc⟩:=her x hrd
    have hx:=(rd_fail _ _ x hrd).1
    have HE:Hid (readL (tl S)=([],x.1,(x.2:Int))):=read_err HNL.out hrd
    obtain ⟨x1,x2⟩:=x
    have q3:=hrc.c3
    have q4:=hrc.c4
    simp only at q3 q4 hx HE
    have hx0:(x1==0)=false:=by rcases hx with e|e|e<;>rw [e]<;>rfl
    have hx1:(x1 != 0)=true:=by rcases hx with e|e|e<;>rw [e]<;>rfl
    clear hrd her hok hk3 hrc HR2 hx
    go_wp2
    go_quiet (fail)
    go_wp2
    refine bodyPost_ret (v:=.tuple #[.slice (some ⟨w.heap.size,0,none⟩) 0 0,.int .i64 x1,.int .i64 x2]) (by simp [results,Tryz.results32,go_sem]) rfl ?_
    exact tpost HE.out _ _ rfl (nodes_nil _ _) ⟨HB3.out.os,HB3.out.tape,HB3.out.output,HB3.out.size,HB3.out.block⟩ (Nat.zero_le _)
  | ok x =>
    obtain ⟨st,i⟩:=x
    obtain ⟨rfl,hr3⟩:=hok st i hrd
    have HR3:Hid (RS w3 b S (fun k=>k=b) st 0):=hr3
    have HFB3:Hid (Fb w3 b (fun k=>k=b)):=fb_kept HFB.out hk3.size
    have hpl:=rd_place hrd
    obtain ⟨ta,tc,hrc,htn,haw,htc⟩:=hr3.rl
    have q1:=hrc.c1
    have q2:=hrc.c2
    have q3:=hrc.c3
    have hrr:=hr3.r
    have hpp:=hr3.p
    have hlen:=left_len S st.p
    rw [<- hrr] at hlen
    by_cases h0:st.r.length=0
    ·have HE:Hid (readL (tl S)=(st.t.take (i+1),0,0)):=read_ok HNL.out hrd h0
     have hz:¬ (st.p:Int) < (S.size:Int):=by omega
     have hfit:=hr3.fit.1
     have HTN:Hid (Nodes w3 ta (st.t.take (i+1))):=nodes_take' htn (by omega)
     have hcz:(i:Int)+1<=(tc:Int):=by omega
     have HTL:Hid ((st.t.take (i+1)).length=i+1):=by show _=_;rw [List.length_take];omega
     clear hrd her hok hk3 hrc HR2 htn haw hr3 hrr h0 hlen
     go_wp2
     refine bodyPost_ret (v:=.tuple #[.slice ta (i+1) tc,.int .i64 0,.int .i64 0]) (by simp [results,Tryz.results32,go_sem]) rfl ?_
     exact tpost HE.out ta tc (by rw [HTL.out]) HTN.out HB3.out (by rw [HTL.out];omega)
    ·have HE:Hid (readL (tl S)=([],5,(st.p:Int))):=read_left HNL.out hrd h0
     have hz:(st.p:Int) < (S.size:Int):=by omega
     clear hrd her hok hk3 hrc HR2 htn haw hr3 hrr h0 hlen
     go_wp2_with fail
     refine (failR _ b S _ HFB3.out _ 0 HR3.out 5 st.p _ rfl).mono ?_
     rintro e w4 ⟨rfl,⟨pp,tv,hrc4⟩,hk4⟩
     have q3':=hrc4.c3
     have q4':=hrc4.c4
     simp only at q3' q4'
     have HB4:Hid (Below w.heap.size w w4):=⟨hk4.os.trans HB3.out.os,hk4.tape.trans HB3.out.tape,hk4.output.trans HB3.out.output,Nat.le_trans HB3.out.size hk4.size,fun k hk=>(hk4.block k (Nat.lt_of_lt_of_le hk HB3.out.size) (fun e=>by have e':k=b:=e;omega)).trans (HB3.out.block k hk)⟩
     clear hrc4 hk4 q1 q2 q3
     go_wp2
     go_quiet (fail)
     go_wp2
     refine bodyPost_ret (v:=.tuple #[.slice (some ⟨w.heap.size,0,none⟩) 0 0,.int .i64 5,.int .i64 st.p]) (by simp [results,Tryz.results32,go_sem]) rfl ?_
     exact tpost HE.out _ _ rfl (nodes_nil _ _) ⟨HB4.out.os,HB4.out.tape,HB4.out.output,HB4.out.size,HB4.out.block⟩ (Nat.zero_le _)
end Ss8
namespace Ap4
open Go.RowKit
open Nd0 Ss0 Ss2
theorem infoStr:(Tryz.prog.info? 9).map (fun i=>(i.zero,i.size,i.bytes))=some (some (.string ⟨#[]⟩),1,16):=by kernel_rfl
def Ost (w:World) (B:Nat) (v:Value) (l:List (List UInt8)):Prop:=w.ownsRow B 9 1 v l.length (l.map fun x=>.string (bs x))
theorem Ost.form {w:World} {B:Nat} {v:Value} {l:List (List UInt8)} (h:Ost w B v l):∃ a c,v=.slice a l.length c/\Strs w a l:=by
 obtain ⟨h1,h2⟩:=h
 rcases h2 with ⟨rfl,h0⟩|⟨g,cap,cur,rfl,hb,hg,hn,hm,hs,ht⟩
 ·have:l=[]:=List.eq_nil_of_length_eq_zero h0
  subst this
  exact ⟨none,0,rfl,Nat.zero_le _,.inl rfl⟩
 ·refine ⟨_,_,rfl,by omega,.inr ⟨g,0,rfl,fun i hi=>?_⟩⟩
  ·rw [Nat.zero_add,cell_of_row w g i cur _ _ hg]
   have e:(cur.toList.take (l.length*1))[i]? = some (.string (bs l[i])):=by rw [ht];simp [hi]
   rw [List.getElem?_take_of_lt (by omega)] at e
   simpa using e
theorem Ost.lit (w:World) (B:Nat) (hB:B<=w.heap.size):Ost (w.alloc (.cells #[] 9)) B (.slice (some ⟨w.heap.size,0,none⟩) 0 0) [] :=
 World.ownsRow_lit w #[] 0 hB (Nat.zero_le _) rfl
theorem Ost.lt {w:World} {B:Nat} {v:Value} {l:List (List UInt8)} (h:Ost w B v l):∀ k,v.ownBlock=some k->B<=k/\k < w.heap.size:=World.ownsRow.lt h
theorem Ost.kept {w w':World} {B:Nat} {v:Value} {l:List (List UInt8)} (h:Ost w B v l) {S:Nat->Prop} (k:Kept S w w') (hs:∀ i,v.ownBlock=some i->¬ S i):Ost w' B v l:=by
 refine ⟨h.1,?_⟩
 rcases h.2 with hn|⟨g,cap,cur,rfl,hb,hgg,rest⟩
 ·exact .inl hn
 ·refine .inr ⟨g,cap,cur,rfl,hb,?_,rest⟩
  rw [k.block g (Array.getElem?_eq_some_iff.1 hgg).1 (hs g rfl)]
  exact hgg
theorem app_str {ops:Array Oper} {rest:List Oper} {o:Oper} {a:Act} {Q:Exit->Act->World->Prop} (W:World) (hgd:o.guard=none) (s x:Operand)
 (ho:o.op=.call { callee:=.builtin .append,args := #[s,x],argTypes := #[91,91] })
 (B:Nat) (v:Value) (l:List (List UInt8)) (y:List UInt8) (hs:a.eval s=v) (hx:a.eval x=.slice (some ⟨W.heap.size,0,none⟩) 1 1)
 (hown:Ost W B v l) (hB:B<=W.heap.size) (hlen:l.length<=1048576)
 (h:∀ g cap w',Ost w' B (.slice (some ⟨g,0,none⟩) (l.length+1) cap) (l++[y])->Kept (fun k=>v.ownBlock=some k) W w'->(v.ownBlock=some g\/W.heap.size<=g)->wpList Tryz.prog ops Q rest (a.put o.dst (.slice (some ⟨g,0,none⟩) (l.length+1) cap)) w') :
 wpList Tryz.prog ops Q (o :: rest) a (W.alloc (.cells #[.string (bs y)] 9)):=by
 obtain ⟨i,hi,hzz⟩:=Option.map_eq_some_iff.1 infoStr
 simp only [Prod.mk.injEq] at hzz
 obtain ⟨hz,hsz,hb⟩:=hzz
 refine wpList_append_lies (W.alloc (.cells #[.string (bs y)] 9)) hgd s x 91 ho B 9 i (.string ⟨#[]⟩) 1 16 Tryz.underlying91 hi hz hsz hb rfl (by omega) v l.length (l.map fun x=>.string (bs x)) hs (World.ownsRow.alloc hown _)
  ⟨W.heap.size,0,none⟩ 1 1 [.string (bs y)] hx rfl ?_ ?_ (by omega) (by unfold maxLen;omega) (by omega) (by simp;omega) _ rfl ?_
 ·intro j u hu
  exact World.news_of_block (heap_alloc_new W _) j u hu
 ·intro u hu
  simp at hu
  subst hu
  rfl
 ·intro g cap w' h1 h2 h3 h4
  refine h g cap w' ?_ ?_ ?_
  ·unfold Ost
   simpa using h1
  ·have k1:Kept (fun k=>v.ownBlock=some k) W (W.alloc (.cells #[.string (bs y)] 9)):=(Kept.refl _ W).alloc _
   exact k1.trans ⟨h2.os,h2.tape,h2.output,h2.size,fun k hk hn=>h2.block k hk (fun e=>hn e.symm)⟩
  ·rcases h3 with h3|h3
   ·exact .inl h3
   ·exact .inr (by rw [h3];simp)
end Ap4
namespace Ss10
open Go.RowKit
open Nd0 Nd3 Tm0 Tx0 Tx2 Tx3 Tx4 Ss0 Ss1 Ss2 Ss8 Ss9 Ap4
open Tm8 (down_of)
open Sp4 (sTermOk)
open Ws1 (ret_bool)
theorem showTo_get (l:List Nd) {k i:Nat} (hi:i < (showTo l k).length) (hk:k<=l.length):(showTo l k)[i]=X l i:=by
 have hi':i < k:=by rw [showTo_length] at hi;exact hi
 unfold X
 rw [show_prefix l (k:=k) (n:=l.length) hi' hk,txt_nat,List.getD_eq_getElem?_getD,List.getElem?_eq_getElem hi];rfl
theorem showTo_short {l:List Nd} (hT:termOk l=true) {k:Nat} (hk:k<=l.length):∀ t∈showTo l k,t.length<=4000:=by
 intro t ht
 obtain ⟨i,hi,rfl⟩:=List.getElem_of_mem ht
 have hi':i < k:=by rw [showTo_length] at hi;exact hi
 rw [showTo_get l hi hk]
 exact X_len (term_all hT) (down_of hT) (by omega)
theorem ret_sb {a c:ByteArray} {b d:Bool} (h:a=c) (h2:b=d):Ending.returned (.tuple #[.string a,.bool b])=.returned (.tuple #[.string c,.bool d]):=by rw [h,h2]
def hasB (l:List Nd):Bool:=decide (¬ (showL l).length=0)
theorem show_no {l:List Nd} (h:termOk l=false):showL l=[]:=by unfold showL;rw [h];rfl
theorem sShowTerm (w:World) (a:Option Addr) (l:List Nd) (c:Nat) (hN:Nodes w a l) :
 Calls Tryz.prog 31 #[.slice a l.length c] w fun e w'=>e=.returned (.tuple #[.string (bs (showL l)),.bool (hasB l)])/\Below w.heap.size w w':=by
 have HN:Hid (Nodes w a l):=hN
 clear hN
 go_enter Tryz.func31,Tryz.ntmps31
 go_wp2_with fail
 refine (sTermOk _ a l c HN.out).mono ?_
 rintro e w1 ⟨rfl,hb1⟩
 have HB1:Hid (Below w.heap.size w w1):=hb1
 have HN1:Hid (Nodes w1 a l):=HN.out.below hb1
 clear hb1
 cases hT:termOk l
 ·have HE:Hid (showL l=[]):=show_no hT
  clear hT
  go_wp2
  go_ret2
  exact ⟨ret_sb (by rw [HE.out];rfl) (by unfold hasB;rw [HE.out];rfl),HB1.out⟩
 ·have HT:Hid (termOk l=true):=hT
  obtain ⟨hl1,hl2⟩:=term_len hT
  have hbel:Below w1.heap.size w1 (w1.alloc (.cells #[] 9)):=(Below.refl _ _).alloc (Nat.le_refl _) _
  have HO:Hid (Ost (w1.alloc (.cells #[] 9)) w1.heap.size (.slice (some ⟨w1.heap.size,0,none⟩) 0 0) []):=Ost.lit w1 _ (Nat.le_refl _)
  have HB2:Hid (Below w1.heap.size w1 (w1.alloc (.cells #[] 9))):=hbel
  clear hT hbel
  go_wp2_with fail
  go_loopw [4,5] (fun v q wr=>∃ k:Nat,k<=l.length/\q=.int .i64 k/\Ost wr w1.heap.size v (showTo l k)/\Below w1.heap.size w1 wr) (fun _ q _=>l.length - (intOf q).toNat)
  case atStart=>exact ⟨0,Nat.zero_le _,rfl,HO.out,HB2.out⟩
  case round =>
   clear HO HB2
   obtain ⟨k,hk,rfl,ho,hb⟩:=hrel
   have HO:Hid (Ost wr w1.heap.size u4 (showTo l k)):=ho
   have HBR:Hid (Below w1.heap.size w1 wr):=hb
   have hBs:w1.heap.size<=wr.heap.size:=hb.size
   by_cases hlt:k < l.length
   ·have hkz:(k:Int) < (l.length:Int):=by omega
    have HNR:Hid (Nodes wr a l):=HN1.out.below hb
    rcases HNR.out.2 with h0|⟨xb,xo,rfl,hc⟩
    ·omega
    obtain ⟨p0,p1,p2,p3,p4,p5⟩:=hc k hlt
    rw [nth_get hlt] at p0 p1 p2 p3 p4 p5
    clear hc
    obtain ⟨ua,uc,hu,hst⟩:=ho.form
    rw [showTo_length] at hu
    have HST:Hid (Strs wr ua (showTo l k)):=hst
    have HWR:Hid (Wr (nth l k) k):=wr_of (fun j hj=>(node_width (term_node HT.out (by omega))).2) (term_node HT.out hlt)
    have hsl:(showTo l k).length=k:=showTo_length l k
    have HSL:Hid ((showTo l k).length=k):=hsl
    have HSN:Hid (showTo l (k+1)=showTo l k++[showN (nth l k) (showTo l k)]):=rfl
    subst hu
    clear ho hb hst hsl
    generalize nth l k=n at p0 p1 p2 p3 p4 p5 HWR HSN
    go_wp2_with fail
    have hcall:=sShow n wr ua (showTo l k) uc HST.out (by rw [HSL.out];exact HWR.out) (showTo_short HT.out hk)
    rw [HSL.out] at hcall
    refine hcall.mono ?_
    clear hcall
    rintro e w3 ⟨rfl,hb3⟩
    have HO3:Hid (Ost w3 w1.heap.size (.slice ua k uc) (showTo l k)):=HO.out.kept (S:=fun _=>False) (Kept.ofBelow hb3) (fun _ _ h=>h)
    have HB3:Hid (Below w1.heap.size w1 w3):=HBR.out.trans (hb3.mono hBs)
    have hB3:w1.heap.size<=w3.heap.size:=HB3.out.size
    clear hb3 p0 p1 p2 p3 p4 p5
    go_wp2_with (at_builtin;go_must (refine app_str w3 rfl _ _ rfl w1.heap.size (.slice ua k uc) (showTo l k) (showN n (showTo l k)) rfl rfl HO3.out hB3 (by rw [HSL.out];omega) ?_;intro g9 cp9 w9 ho9 hk9 hg9))
    have HO9:Hid (Ost w9 w1.heap.size (.slice (some ⟨g9,0,none⟩) ((showTo l k).length+1) cp9) (showTo l (k+1))):=by
     show Ost _ _ _ _
     rw [HSN.out];exact ho9
    have HB9:Hid (Below w1.heap.size w1 w9):=HB3.out.trans (hk9.below (fun j hj=>(HO3.out.lt j hj).1) hB3)
    clear ho9 hk9 hg9
    go_roundw
    case rel=>exact ⟨k+1,by omega,by go_num,HO9.out,HB9.out⟩
    case measure=>simp [intOf];omega
   ·have hkz:¬ (k:Int) < (l.length:Int):=by omega
    obtain rfl:k=l.length:=by omega
    obtain ⟨ua,uc,hu,hst⟩:=ho.form
    rw [showTo_length] at hu
    subst hu
    have HBE:Hid (Below w.heap.size w wr):=HB1.out.trans (hb.mono HB1.out.size)
    rcases hst.2 with h0|⟨tb,tq,rfl,htc⟩
    ·rw [showTo_length] at h0;omega
    have hq:=htc (l.length - 1) (by rw [showTo_length];omega)
    rw [showTo_get l _ (Nat.le_refl _),<- show_X HT.out] at hq
    clear htc hst ho hb HO HBR
    have g1:(0:Int)<=(l.length:Int) - 1:=by omega
    have g2:(l.length:Int) - 1 < (l.length:Int):=by omega
    by_cases he:showL l=[]
    ·have hqe:((bs (showL l)).toList==[])=true:=eql_true (by rw [tl_bs];exact he)
     have HH:Hid (hasB l=false):=by show _=_;unfold hasB;rw [he];rfl
     clear he
     go_wp2
     go_ret2
     exact ⟨ret_sb rfl HH.out.symm,HBE.out⟩
    ·have hqe:((bs (showL l)).toList==[])=false:=eql_false (by rw [tl_bs];exact he)
     have HH:Hid (hasB l=true):=by
      show _=_
      unfold hasB
      exact decide_eq_true (fun e=>he (List.eq_nil_of_length_eq_zero e))
     clear he
     go_wp2
     go_ret2
     exact ⟨ret_sb rfl HH.out.symm,HBE.out⟩
theorem sCanonC (w:World) (a:Option Addr) (l:List Nd) (c:Nat) (hN:Nodes w a l) :
 Calls Tryz.prog 14 #[.slice a l.length c] w fun e w'=>(∃ a' c',e=.returned (.slice a' (canonL l).length c')/\Nodes w' a' (canonL l)/\(canonL l).length<=c')/\Below w.heap.size w w':=by
 have HN:Hid (Nodes w a l):=hN
 clear hN
 go_enter Tryz.func14,Tryz.ntmps14
 go_wp2_with fail
 refine (sShowTerm _ a l c HN.out).mono ?_
 rintro e w1 ⟨rfl,hb1⟩
 have HB1:Hid (Below w.heap.size w w1):=hb1
 clear hb1
 by_cases he:(showL l).length=0
 ·have HC:Hid (canonL l=[]):=by show _=_;unfold canonL;rw [if_pos he]
  have hh:hasB l=false:=by unfold hasB;exact decide_eq_false (fun h=>h he)
  rw [hh]
  clear he hh
  go_wp2
  go_ret
  exact ⟨⟨_,_,by rw [HC.out];rfl,by rw [HC.out];exact nodes_nil _ _,by rw [HC.out];exact Nat.zero_le _⟩,HB1.out.alloc HB1.out.size _⟩
 ·have HC:Hid (canonL l=(readL (showL l)).1):=by show _=_;unfold canonL;rw [if_neg he]
  have hh:hasB l=true:=by unfold hasB;exact decide_eq_true he
  rw [hh]
  have hsz:(bs (showL l)).size<=2097152:=by
   rw [bs_size]
   cases hT:termOk l
   ·rw [show_no hT];simp
   ·have:=show_len hT;omega
  clear he hh
  go_wp2_with fail
  refine (sReadTermC _ _ hsz).mono ?_
  rw [tl_bs]
  rintro e w2 ⟨a2,c2,rfl,hn2,hb2,hc2⟩
  have HN2:Hid (Nodes w2 a2 (readL (showL l)).1):=hn2
  have HB2:Hid (Below w.heap.size w w2):=HB1.out.trans (hb2.mono HB1.out.size)
  have HC2:Hid ((readL (showL l)).1.length<=c2):=hc2
  clear hn2 hb2 hc2
  go_wp2
  go_ret
  exact ⟨⟨a2,c2,by rw [HC.out];rfl,by rw [HC.out];exact HN2.out,by rw [HC.out];exact HC2.out⟩,HB2.out⟩
end Ss10
namespace Cn0
open Nd0 Nd1 Nd3 Tm0 Tx0 Tx1
theorem put_short {t t':List Nd} {n:Nd} {q i:Nat} (h:putL t n q=.ok (t',i)) (ht:t.length<=80):t'.length<=80:=by
 unfold putL at h
 split at h
 ·cases h;exact ht
 ·split at h
  ·split at h
   ·cases h
   ·cases h;simp;omega
  ·cases h
def Short (f:Nat):Prop:=∀ (st st':Rd) (i:Nat),rdL f st=.ok (st',i)->st.t.length<=80->st'.t.length<=80
theorem parts_short {f:Nat} (hf:Short f) (p0:Nat):∀ (c:Nat) (st s2:Rd) (is:List Nat),partsL (rdL f) p0 c st=.ok (s2,is)->st.t.length<=80->s2.t.length<=80:=by
 intro c
 induction c with
 | zero=>intro st s2 is h ht;simp only [partsL] at h;cases h;exact ht
 | succ c ih =>
   intro st s2 is h ht
   simp only [partsL] at h
   split at h
   ·cases h
   ·rename_i s1 hb
    split at h
    ·cases h
    ·rename_i s3 i hr
     split at h
     ·cases h
     ·rename_i s4 js hp
      cases h
      obtain ⟨_,_,a3⟩:=blank_some hb
      exact ih _ _ _ hp (hf _ _ _ hr (by rw [a3];exact ht))
theorem rd_short:∀ f,Short f:=by
 intro f
 induction f with
 | zero=>intro st st' i h;cases h
 | succ f ih =>
   intro st st' i h ht
   simp only [rdL] at h
   split at h
   ·unfold innerL at h
    split at h
    ·cases h
    ·split at h
     ·cases h
     ·rename_i s1 n hn
      split at h
      ·cases h
      ·rename_i s2 is hp
       split at h
       ·cases h
       ·split at h
        ·split at h
         ·cases h
         ·rename_i t j hput
          cases h
          obtain ⟨x,_,_,e3,_⟩:=nums_local hn
          exact put_short hput (parts_short ih st.p _ s1 s2 is hp (by rw [e3];exact ht))
        ·cases h
   ·unfold leafL at h
    split at h
    ·split at h
     ·cases h
     ·rename_i hput
      cases h;exact put_short hput ht
    ·split at h
     ·split at h
      ·cases h
      ·rename_i hput
       cases h;exact put_short hput ht
     ·cases h
theorem read_le (s:List UInt8):(readL s).1.length<=80:=by
 unfold readL
 split
 ·exact Nat.zero_le _
 ·split
  ·exact Nat.zero_le _
  ·rename_i st i hr
   have:=rd_short _ _ _ _ hr (by simp)
   split
   ·simp only;rw [List.length_take];omega
   ·exact Nat.zero_le _
theorem canon_le (l:List Nd):(canonL l).length<=80:=by
 unfold canonL
 split
 ·exact Nat.zero_le _
 ·exact read_le _
end Cn0
namespace Dcn2
open Go.RowKit
open Nd0 Nd3 Tm0 Tx0 Aq1 Ic4 Dw0 Dw5 Dw8 Dcn1
open Dr0 (Cur Only Bytes Off)
open Dr1 (once below)
open Dw6 (APost)
open Am6 (sFoldC)
open Ss10 (sCanonC)
open Cn0 (canon_le)
def EPost (w:World) (e:Ending) (w':World):Prop :=
 ∃ (g c:Nat) (L:List Nd) (a2:Option Addr) (c2:Nat) (M:List Nd),e=.returned (.tuple #[.slice (some ⟨g,0,none⟩) L.length c,.slice a2 M.length c2])/\Nodes w' (some ⟨g,0,none⟩) L/\Nodes w' a2 M/\Below w.heap.size w w'/\(1<=L.length/\L.length<=81/\L.length<=c)/\M.length<=81/\M.length<=c2
theorem drawEqual (w:World) (a:Option Addr) (len cap:Nat) (hb:Bytes w a len) :
 Calls Tryz.prog 5 #[.slice a len cap] w (EPost w):=by
 have HB:Hid (Bytes w a len):=hb
 clear hb
 go_enter Tryz.func5,Tryz.ntmps5
 go_wp2_with fail
 refine (Dr4.new _ a len cap HB.out).mono ?_
 rintro e w1 ⟨rfl,hc,hb1⟩
 have HC:Hid (Cur w1 w.heap.size a len cap):=hc
 have HB1:Hid (Below w.heap.size w w1):=hb1
 clear hc hb1
 go_wp2_with fail
 refine (constNodes _ w.heap.size a len cap HC.out (low_of HB.out)).mono ?_
 rintro e w2 ⟨g,c,L,rfl,hn,hbg,hgs,hcu,hk,h1,h2,h3⟩
 have HN2:Hid (Nodes w2 (some ⟨g,0,none⟩) L):=hn
 have HC2:Hid (Cur w2 w.heap.size a len cap):=hcu
 have HBG:Hid (w.heap.size < g):=hbg
 have HL:Hid (1<=L.length/\L.length<=81/\L.length<=c):=⟨h1,h2,h3⟩
 have HB2:Hid (Below w.heap.size w w2):=HB1.out.trans (hk.below (fun k (e:k=w.heap.size)=>by omega) HB1.out.size)
 clear hn hcu hk hgs hbg h1 h2 h3 HC
 go_wp2_with fail
 refine (below _ w.heap.size a len cap 3 (by omega) (by omega) HC2.out).mono ?_
 rintro e w3 ⟨⟨x,rfl,hx0,hx1⟩,hc3,ho3⟩
 have HN3:Hid (Nodes w3 (some ⟨g,0,none⟩) L):=HN2.out.kept (only_kept ho3) (fun y hy=>by cases hy;have:=HBG.out;show ¬ g=w.heap.size;omega)
 have HC3:Hid (Cur w3 w.heap.size a len cap):=hc3
 have HB3:Hid (Below w.heap.size w w3):=HB2.out.trans ((only_kept ho3).below (fun k (e:k=w.heap.size)=>by omega) HB2.out.size)
 clear hc3 ho3 HN2 HC2 HB2
 rcases (show x=0\/x=1\/x=2 by omega) with e|e|e<;>subst e
 ·clear hx0 hx1
  go_wp2_with fail
  refine (sFoldC _ _ L c HN3.out).mono ?_
  rintro e w4 ⟨⟨a4,c4,rfl,hw4,hc4⟩,hb4⟩
  have HN4:Hid (Nodes w4 (some ⟨g,0,none⟩) L):=HN3.out.below hb4
  have HM4:Hid (Nodes w4 a4 (foldL L)):=hw4.nodes
  have HC4:Hid ((foldL L).length<=c4):=hc4
  have HB4:Hid (Below w.heap.size w w4):=HB3.out.trans (hb4.mono HB3.out.size)
  clear hw4 hc4 hb4
  go_wp2_with fail
  go_ret2
  exact ⟨g,c,L,a4,c4,foldL L,rfl,HN4.out,HM4.out,HB4.out,HL.out,Nat.le_trans (foldL_le L) HL.out.2.1,HC4.out⟩
 ·clear hx0 hx1
  go_wp2_with fail
  refine (sCanonC _ _ L c HN3.out).mono ?_
  rintro e w4 ⟨⟨a4,c4,rfl,hw4,hc4⟩,hb4⟩
  have HN4:Hid (Nodes w4 (some ⟨g,0,none⟩) L):=HN3.out.below hb4
  have HM4:Hid (Nodes w4 a4 (canonL L)):=hw4
  have HC4:Hid ((canonL L).length<=c4):=hc4
  have HB4:Hid (Below w.heap.size w w4):=HB3.out.trans (hb4.mono HB3.out.size)
  clear hw4 hc4 hb4
  go_wp2_with fail
  go_ret2
  exact ⟨g,c,L,a4,c4,canonL L,rfl,HN4.out,HM4.out,HB4.out,HL.out,Nat.le_trans (canon_le L) (by omega),HC4.out⟩
 ·clear hx0 hx1
  go_wp2_with fail
  refine (constNodes _ w.heap.size a len cap HC3.out (low_of HB.out)).mono ?_
  rintro e w4 ⟨g4,c4,M,rfl,hn4,hbg4,hgs4,hcu4,hk4,h1,h2,h3⟩
  have HN4:Hid (Nodes w4 (some ⟨g,0,none⟩) L):=HN3.out.kept hk4 (fun y hy=>by cases hy;have:=HBG.out;show ¬ g=w.heap.size;omega)
  have HM4:Hid (Nodes w4 (some ⟨g4,0,none⟩) M):=hn4
  have HB4:Hid (Below w.heap.size w w4):=HB3.out.trans (hk4.below (fun k (e:k=w.heap.size)=>by omega) HB3.out.size)
  clear hn4 hbg4 hgs4 hcu4 hk4
  go_wp2_with fail
  go_ret2
  exact ⟨g,c,L,_,c4,M,rfl,HN4.out,HM4.out,HB4.out,HL.out,h2,h3⟩
end Dcn2
end Go.Proofs.YthanhcobfehmnaaGreat
