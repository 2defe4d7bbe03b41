import Derived.Test.YthanhcobfehmnaaGreatPkQU225
namespace Go.Proofs.YthanhcobfehmnaaGreat
set_option maxRecDepth 100000
set_option maxHeartbeats 8000000
set_option linter.unusedVariables false
namespace Ss6
open Go.RowKit
open Nd0 Nd3 Ap0 Tm0 Tm5 Tx0 Tx1 Tx2 Tx3 Tx4 Ss0 Ss1 Ss2 Ss3 Ss4 Ss5 Ss5b
open Sp10 (sQuant)
open Ws1 (sIn ret_int ret_bool)
def RdC (f:Nat):Prop:=∀ (w:World) (b:Nat) (S:ByteArray) (F:Nat->Prop) (st:Rd) (bad:Int),Fb w b F->RS w b S F st bad->S.size<=4000->st.r.length < f ->
 Calls Tryz.prog 66 #[.pointer (some ⟨b,0,none⟩)] w (RP w b S F bad (rdL f st))
theorem rs_move {w:World} {b:Nat} {S:ByteArray} {F:Nat->Prop} {st:Rd} {bad:Int} (hF:F b) (h:RS w b S F st bad) {q:Nat} (hq:q<=S.size):RS (w.setCell ⟨b,1,none⟩ (.int .i64 q)) b S F ⟨q,left S q,st.t⟩ bad:=by
 obtain ⟨⟨a,c,hrc,hn,haw⟩,hr,hp,hf⟩:=h
 exact ⟨⟨a,c,hrc.move q,nodes_keptb hF hn haw.1 (kept_set (Kept.refl _ _) _),haw⟩,rfl,hq,hf⟩
theorem rs_less {w:World} {b:Nat} {S:ByteArray} {F G:Nat->Prop} {st:Rd} {bad:Int} (h:RS w b S G st bad) (hg:∀ k,F k->G k):RS w b S F st bad:=by
 obtain ⟨⟨a,c,hrc,hn,haw⟩,hr,hp,hf⟩:=h
 exact ⟨⟨a,c,hrc,hn,fun x h0 hx hF=>haw.1 x h0 hx (hg _ hF),haw.2⟩,hr,hp,hf⟩
theorem rs_more {w:World} {b:Nat} {S:ByteArray} {F:Nat->Prop} {st:Rd} {bad:Int} (h:RS w b S F st bad):RS w b S (fun k=>F k\/k=w.heap.size) st bad:=by
 obtain ⟨⟨a,c,hrc,hn,haw⟩,hr,hp,hf⟩:=h
 refine ⟨⟨a,c,hrc,hn,fun x h0 hx hF=>?_,haw.2⟩,hr,hp,hf⟩
 rcases hF with h1|h1
 ·exact haw.1 x h0 hx h1
 ·rcases hn.2 with e|⟨xb,xo,rfl,hc⟩
  ·omega
  ·cases hx
   have:=(hc 0 h0).lt
   have h2:xb=w.heap.size:=h1
   omega
theorem rs_other {w w':World} {b bn:Nat} {S:ByteArray} {F:Nat->Prop} {st:Rd} {bad:Int} (h:RS w b S F st bad) (hb:F bn) (hne:bn≠b) (k:Kept (fun i=>i=bn) w w'):RS w' b S F st bad:=by
 obtain ⟨⟨a,c,hrc,hn,haw⟩,hr,hp,hf⟩:=h
 refine ⟨⟨a,c,hrc.kept k (fun e=>hne e.symm),?_,haw⟩,hr,hp,hf⟩
 by_cases h0:st.t.length=0
 ·exact ⟨hn.1,.inl h0⟩
 ·exact hn.kept k (fun x hx e=>haw.1 x (by omega) hx (by have e':x.block=bn:=e;rw [e'];exact hb))
theorem node_kb {w w':World} {b p:Nat} {n:Nd} {D:Nat->Prop} (h:NodeAt w b p n) (k:Kept D w w') (hd:¬ D b):NodeAt w' b p n :=
 ⟨by rw [k.cell h.lt hd];exact h.c0,by rw [k.cell h.lt hd];exact h.c1,by rw [k.cell h.lt hd];exact h.c2,by rw [k.cell h.lt hd];exact h.c3,by rw [k.cell h.lt hd];exact h.c4,by rw [k.cell h.lt hd];exact h.c5⟩
structure IS (w:World) (b:Nat) (S:ByteArray) (F:Nat->Prop) (s:Rd) (bad:Int) (bn:Nat) (n:Nd) (w':World):Prop where
 kb:Kb b w w'
 rs:RS w' b S (fun k=>F k\/k=bn) s bad
 nd:NodeAt w' bn 0 n
 fr:∀ i,w'.frozen? ⟨bn,i,none⟩=false
 ge:w.heap.size<=bn
 fb:Fb w b F
theorem IS.ne {w:World} {b:Nat} {S:ByteArray} {F:Nat->Prop} {s:Rd} {bad:Int} {bn:Nat} {n:Nd} {w':World} (h:IS w b S F s bad bn n w'):bn≠b:=by
 have:=h.fb.2 b h.fb.1;have:=h.ge;omega
theorem IS.fb' {w:World} {b:Nat} {S:ByteArray} {F:Nat->Prop} {s:Rd} {bad:Int} {bn:Nat} {n:Nd} {w':World} (h:IS w b S F s bad bn n w'):Fb w' b (fun k=>F k\/k=bn):=by
 refine ⟨.inl h.fb.1,fun k hk=>?_⟩
 rcases hk with e|e
 ·exact Nat.lt_of_lt_of_le (h.fb.2 k e) h.kb.size
 ·rw [e];exact h.nd.lt
theorem IS.step {w:World} {b:Nat} {S:ByteArray} {F:Nat->Prop} {s s2:Rd} {bad:Int} {bn:Nat} {n:Nd} {w1 w2:World} (h:IS w b S F s bad bn n w1) (k:Kb b w1 w2) (r:RS w2 b S (fun k=>F k\/k=bn) s2 bad):IS w b S F s2 bad bn n w2 :=
 ⟨h.kb.trans k,r,node_kb h.nd k h.ne,fun i=>by rw [k.frozen h.nd.lt h.ne];exact h.fr i,h.ge,h.fb⟩
theorem IS.below {w:World} {b:Nat} {S:ByteArray} {F:Nat->Prop} {s:Rd} {bad:Int} {bn:Nat} {n:Nd} {w1 w2:World} (h:IS w b S F s bad bn n w1) (k:Below w1.heap.size w1 w2):IS w b S F s bad bn n w2 :=
 h.step (Kept.ofBelow k) (h.rs.kept (D:=fun _=>False) (Kept.ofBelow k) (fun _ _ h=>h))
theorem IS.set {w:World} {b:Nat} {S:ByteArray} {F:Nat->Prop} {s:Rd} {bad:Int} {bn:Nat} {n m:Nd} {w1:World} (h:IS w b S F s bad bn n w1) (i:Nat) (x:Value) (hm:NodeAt (w1.setCell ⟨bn,i,none⟩ x) bn 0 m):IS w b S F s bad bn m (w1.setCell ⟨bn,i,none⟩ x):=by
 have k:Kept (fun k=>k=bn) w1 (w1.setCell ⟨bn,i,none⟩ x):=kept_set (Kept.refl _ _) x
 refine ⟨?_,rs_other h.rs (.inr rfl) h.ne k,hm,fun j=>by simpa using h.fr j,h.ge,h.fb⟩
 exact ⟨k.os.trans h.kb.os,k.tape.trans h.kb.tape,k.output.trans h.kb.output,Nat.le_trans h.kb.size k.size,fun j hj hb=>(k.block j (Nat.lt_of_lt_of_le hj h.kb.size) (fun e=>by have:=h.ge;have e':j=bn:=e;omega)).trans (h.kb.block j hj hb)⟩
theorem nd_w {w:World} {b:Nat} {n:Nd} (h:NodeAt w b 0 n) (x:Int):NodeAt (w.setCell ⟨b,1,none⟩ (.int .i64 x)) b 0 ⟨n.op,x,n.k,n.a,n.b,n.c⟩ :=
 ⟨by rw [set_other (by simp)];exact h.c0,set_same h.c1,by rw [set_other (by simp)];exact h.c2,by rw [set_other (by simp)];exact h.c3,by rw [set_other (by simp)];exact h.c4,by rw [set_other (by simp)];exact h.c5⟩
theorem nd_k {w:World} {b:Nat} {n:Nd} (h:NodeAt w b 0 n) (x:Int):NodeAt (w.setCell ⟨b,2,none⟩ (.int .i64 x)) b 0 ⟨n.op,n.w,x,n.a,n.b,n.c⟩ :=
 ⟨by rw [set_other (by simp)];exact h.c0,by rw [set_other (by simp)];exact h.c1,set_same h.c2,by rw [set_other (by simp)];exact h.c3,by rw [set_other (by simp)];exact h.c4,by rw [set_other (by simp)];exact h.c5⟩
theorem nd_a {w:World} {b:Nat} {n:Nd} (h:NodeAt w b 0 n) (x:Int):NodeAt (w.setCell ⟨b,3,none⟩ (.int .i64 x)) b 0 ⟨n.op,n.w,n.k,x,n.b,n.c⟩ :=
 ⟨by rw [set_other (by simp)];exact h.c0,by rw [set_other (by simp)];exact h.c1,by rw [set_other (by simp)];exact h.c2,set_same h.c3,by rw [set_other (by simp)];exact h.c4,by rw [set_other (by simp)];exact h.c5⟩
theorem nd_b {w:World} {b:Nat} {n:Nd} (h:NodeAt w b 0 n) (x:Int):NodeAt (w.setCell ⟨b,4,none⟩ (.int .i64 x)) b 0 ⟨n.op,n.w,n.k,n.a,x,n.c⟩ :=
 ⟨by rw [set_other (by simp)];exact h.c0,by rw [set_other (by simp)];exact h.c1,by rw [set_other (by simp)];exact h.c2,by rw [set_other (by simp)];exact h.c3,set_same h.c4,by rw [set_other (by simp)];exact h.c5⟩
theorem nd_c {w:World} {b:Nat} {n:Nd} (h:NodeAt w b 0 n) (x:Int):NodeAt (w.setCell ⟨b,5,none⟩ (.int .i64 x)) b 0 ⟨n.op,n.w,n.k,n.a,n.b,x⟩ :=
 ⟨by rw [set_other (by simp)];exact h.c0,by rw [set_other (by simp)];exact h.c1,by rw [set_other (by simp)];exact h.c2,by rw [set_other (by simp)];exact h.c3,by rw [set_other (by simp)];exact h.c4,set_same h.c5⟩
theorem set_keep {w:World} {p q:Addr} {v u:Value} (h:p≠q) (hc:w.cell? q=some u):(w.setCell p v).drew.cell? q=some u :=
 (show (w.setCell p v).drew.cell? q=(w.setCell p v).cell? q from rfl).trans ((set_other h).trans hc)
theorem n17a {st:Rd} (h:st.blank=none):numsL 17 st=none:=by unfold numsL;rw [if_pos rfl,h]
theorem n17b {st s1:Rd} (h:st.blank=some s1) (h1:numL s1.word=none):numsL 17 st=none:=by unfold numsL;rw [if_pos rfl,h];simp only;rw [h1]
theorem n17c {st s1:Rd} {k:Nat} (h:st.blank=some s1) (h1:numL s1.word=some k) (h2:s1.past.blank=none):numsL 17 st=none:=by unfold numsL;rw [if_pos rfl,h];simp only;rw [h1];simp only;rw [h2]
theorem n17d {st s1 s2:Rd} {k:Nat} (h:st.blank=some s1) (h1:numL s1.word=some k) (h2:s1.past.blank=some s2) (h3:numL s2.word=none):numsL 17 st=none:=by unfold numsL;rw [if_pos rfl,h];simp only;rw [h1];simp only;rw [h2];simp only;rw [h3]
theorem n17e {st s1 s2:Rd} {k m:Nat} (h:st.blank=some s1) (h1:numL s1.word=some k) (h2:s1.past.blank=some s2) (h3:numL s2.word=some m):numsL 17 st=some (s2.past,⟨17,m,k,0,0,0⟩):=by unfold numsL;rw [if_pos rfl,h];simp only;rw [h1];simp only;rw [h2];simp only;rw [h3]
theorem nqa {op:Int} {st:Rd} (h17:op≠17) (hq:op=19\/op=20) (h:st.blank=none):numsL op st=none:=by unfold numsL;rw [if_neg h17,if_pos hq,h]
theorem nqb {op:Int} {st s1:Rd} (h17:op≠17) (hq:op=19\/op=20) (h:st.blank=some s1) (h1:twoL 118 s1.word=none):numsL op st=none:=by unfold numsL;rw [if_neg h17,if_pos hq,h];simp only;rw [h1]
theorem nqc {op:Int} {st s1:Rd} {k m:Nat} (h17:op≠17) (hq:op=19\/op=20) (h:st.blank=some s1) (h1:twoL 118 s1.word=some (k,m)):numsL op st=some (s1.past,⟨op,1,k,0,m,0⟩):=by unfold numsL;rw [if_neg h17,if_pos hq,h];simp only;rw [h1]
theorem nno {op:Int} {st:Rd} (h17:op≠17) (hq:¬ (op=19\/op=20)):numsL op st=some (st,⟨op,0,0,0,0,0⟩):=by unfold numsL;rw [if_neg h17,if_neg hq]
theorem num_none {s:List UInt8} (h:numL s=none):numI s = -1:=by unfold numI;rw [h]
theorem num_some' {s:List UInt8} {k:Nat} (h:numL s=some k):numI s=(k:Int):=by unfold numI;rw [h]
def N1 (op:Int) (st s1:Rd) (n:Nd):Prop:=(op=17/\numsL op st=some (s1,n))\/(op≠17/\s1=st/\n=⟨op,0,0,0,0,0⟩)
theorem op_cases {s:List UInt8} {op:Int} {c:Nat} (h:opOf s=some (op,c)):(c=1/\(op=2\/op=17\/op=19\/op=20))\/(c=2/\3<=op/\op<=16)\/(c=3/\op=18):=by
 unfold opOf at h
 split at h
 ·rename_i i hi
  have:=List.mem_range.1 (List.mem_of_find?_eq_some hi)
  cases h
  omega
 ·split at h
  ·cases h;omega
  ·split at h
   ·cases h;omega
   ·split at h
    ·cases h;omega
    ·split at h
     ·cases h;omega
     ·split at h
      ·cases h;omega
      ·cases h
def N2 (op:Int) (st s:Rd) (n:Nd):Prop:=numsL op st=some (s,n)
theorem rs_swap {w w':World} {b:Nat} {S:ByteArray} {F G D:Nat->Prop} {st:Rd} {bad:Int} (h:RS w b S F st bad) (k:Kept D w w') (hd:∀ i,D i->F i) (hb:¬ D b) (hg:∀ i,G i->F i\/w.heap.size<=i):RS w' b S G st bad:=by
 obtain ⟨⟨a,c,hrc,hn,haw⟩,hr,hp,hf⟩:=h
 refine ⟨⟨a,c,hrc.kept k hb,?_,fun x h0 hx hG=>?_,haw.2⟩,hr,hp,hf⟩
 ·by_cases h0:st.t.length=0
  ·exact ⟨hn.1,.inl h0⟩
  ·exact hn.kept k (fun x hx e=>haw.1 x (by omega) hx (hd _ e))
 ·rcases hg _ hG with e|e
  ·exact haw.1 x h0 hx e
  ·rcases hn.2 with e0|⟨xb,xo,rfl,hc⟩
   ·omega
   ·cases hx
    have:=(hc 0 h0).lt
    have e':w.heap.size<=xb:=e
    omega
theorem IS.swap {w:World} {b:Nat} {S:ByteArray} {F:Nat->Prop} {s s2:Rd} {bad:Int} {bn:Nat} {n:Nd} {w1 w2:World} {D:Nat->Prop} (h:IS w b S F s bad bn n w1) (k:Kept D w1 w2) (hD:∀ i,D i->w.heap.size<=i/\i≠bn) (r:RS w2 b S (fun k=>F k\/k=bn) s2 bad):IS w b S F s2 bad bn n w2:=by
 have hn:¬ D bn:=fun e=>(hD bn e).2 rfl
 refine ⟨⟨k.os.trans h.kb.os,k.tape.trans h.kb.tape,k.output.trans h.kb.output,Nat.le_trans h.kb.size k.size,fun j hj hb=>(k.block j (Nat.lt_of_lt_of_le hj h.kb.size) (fun e=>by have:=(hD j e).1;omega)).trans (h.kb.block j hj hb)⟩,r,node_kb h.nd k hn,fun i=>by rw [k.frozen h.nd.lt hn];exact h.fr i,h.ge,h.fb⟩
theorem rp_trans {w w1:World} {b:Nat} {S:ByteArray} {F G:Nat->Prop} {bad:Int} {res:Except (Int × Nat) (Rd × Nat)} {e:Ending} {w':World} (hk:Kb b w w1) (hg:∀ k,F k->G k) (h:RP w1 b S G bad res e w'):RP w b S F bad res e w' :=
 ⟨hk.trans h.1,h.2.1,fun st i hr=>⟨(h.2.2 st i hr).1,rs_less (h.2.2 st i hr).2 hg⟩⟩
theorem rp_ret {w:World} {b:Nat} {S:ByteArray} {F:Nat->Prop} {bad:Int} {res:Except (Int × Nat) (Rd × Nat)} {e:Ending} {w':World} (h:RP w b S F bad res e w'):∃ v:Int,e=.returned (.int .i64 v):=by
 cases hr:res with
 | error x=>exact ⟨0,(h.2.1 x hr).1⟩
 | ok x=>exact ⟨x.2,(h.2.2 x.1 x.2 hr).1⟩
structure PL (w:World) (b:Nat) (S:ByteArray) (F:Nat->Prop) (bad:Int) (bn:Nat) (n:Nd) (B:Nat) (f p0:Nat) (s2:Rd) (k:Nat) (sk:Rd) (is:List Nat) (v:Value) (w':World):Prop where
 parts:partsL (rdL f) p0 k s2=.ok (sk,is)
 ows:Ows w' B v (is.map fun (i:Nat)=>(i:Int))
 it:IS w b S F sk bad bn n w'
 rs:RS w' b S (fun k=>(F k\/k=bn)\/v.ownBlock=some k) sk bad
 lo:bn < B/\b < B/\w.heap.size<=B
 sz:B<=w'.heap.size
 fb:Fb w' b (fun k=>(F k\/k=bn)\/v.ownBlock=some k)
theorem innerR (f:Nat) (hRD:RdC f) (w:World) (b:Nat) (S:ByteArray) (F:Nat->Prop) (hFb:Fb w b F) (p:Nat) (t:List Nd) (bad:Int) (h:RS w b S F ⟨p,left S p,t⟩ bad) (hp:p < S.size) (hs:S.size<=4000) (hf:(left S (p+1)).length < f) :
 Calls Tryz.prog 99 #[.pointer (some ⟨b,0,none⟩),.int .i64 p] w (RP w b S F bad (innerL (rdL f) p ⟨p+1,left S (p+1),t⟩)):=by
 have HRD:Hid (RdC f):=hRD
 have HFB:Hid (Fb w b F):=hFb
 have HR1:Hid (RS (w.setCell ⟨b,1,none⟩ (.int .i64 (p+1:Nat))) b S F ⟨p+1,left S (p+1),t⟩ bad):=rs_move hFb.1 h hp
 have HK1:Hid (Kb b w (w.setCell ⟨b,1,none⟩ (.int .i64 (p+1:Nat)))):=kept_set (Kept.refl _ _) _
 obtain ⟨a0,c0,hrc,_,_⟩:=h.rl
 have c1:=hrc.c1
 have f1:=hrc.f1
 simp only at c1
 clear h hrc hRD hFb
 obtain ⟨st,hst⟩:∃ st:Rd,st=⟨p+1,left S (p+1),t⟩:=⟨_,rfl⟩
 rw [<- hst] at HR1 ⊢
 have HF:Hid (st.r.length < f):=by rw [hst];exact hf
 have HST:Hid (st.p=p+1):=by rw [hst];exact rfl
 clear hst hf
 go_enter Tryz.func99,Tryz.ntmps99
 go_wp2_with fail
 have e1:((p+1:Nat):Int)=(p:Int)+1:=by omega
 rw [e1] at HR1 HK1
 have HFB1:Hid (Fb (w.setCell ⟨b,1,none⟩ (.int .i64 ((p:Int)+1))) b F):=⟨HFB.out.1,fun k hk=>Nat.lt_of_lt_of_le (HFB.out.2 k hk) HK1.out.size⟩
 refine (wordR _ b S F HFB1.out _ bad HR1.out hs).mono ?_
 rintro e w2 ⟨X,rfl,hx,hxs,hr2,hk2⟩
 have HX:Hid (tl X=st.word):=hx
 have HR2:Hid (RS w2 b S F st.past bad):=hr2
 have HK2:Hid (Kb b w w2):=HK1.out.trans hk2
 clear hx hr2 hk2 HR1 HK1 c1 f1 HFB1
 go_wp2_with fail
 refine (sOp X _).mono ?_
 rintro e w3 ⟨rfl,hb3⟩
 have HR3:Hid (RS w3 b S F st.past bad):=HR2.out.kept (D:=fun _=>False) (Kept.ofBelow hb3) (fun _ _ h=>h)
 have HK3:Hid (Kb b w w3):=HK2.out.trans (Kept.ofBelow hb3)
 have HFB3:Hid (Fb w3 b F):=⟨HFB.out.1,fun k hk=>Nat.lt_of_lt_of_le (HFB.out.2 k hk) HK3.out.size⟩
 clear hb3 HR2 HK2
 rw [HX.out]
 cases ho:opOf st.word with
 | none =>
   have eA:opA st.word = -1:=by unfold opA;rw [ho]
   have eC:opC st.word=0:=by unfold opC;rw [ho]
   rw [eA,eC]
   have HE:Hid (innerL (rdL f) p st=.error (2,p)):=inner_no_op ho
   clear ho eA eC
   go_wp2_with fail
   refine (failR _ b S F HFB3.out _ bad HR3.out 2 p _ rfl).mono ?_
   rintro e w4 ⟨rfl,hb4,hk4⟩
   have HB4:Hid (Bad w4 b S (2,p)):=hb4
   have HK4:Hid (Kb b w w4):=HK3.out.trans hk4
   clear hb4 hk4
   go_wp2
   go_ret
   exact rp_err HE.out HK4.out rfl HB4.out
 | some x =>
   obtain ⟨op,c⟩:=x
   have eA:opA st.word=op:=by unfold opA;rw [ho]
   have eC:opC st.word=(c:Int):=by unfold opC;rw [ho]
   rw [eA,eC]
   have hoc:=op_cases ho
   have HO:Hid (opOf st.word=some (op,c)):=ho
   have h0:¬ op < 0:=by omega
   obtain ⟨w4,hw4⟩:∃ w4:World,w4=w3.alloc (.cells #[.int .i64 op,.int .i64 0,.int .i64 0,.int .i64 0,.int .i64 0,.int .i64 0] 44):=⟨_,rfl⟩
   obtain ⟨bn,hbn⟩:∃ bn:Nat,bn=w3.heap.size:=⟨_,rfl⟩
   have HI4:Hid (IS w b S F st.past bad bn ⟨op,0,0,0,0,0⟩ w4):=by
    have hbel:Below w3.heap.size w3 w4:=by rw [hw4];exact (Below.refl _ _).alloc (Nat.le_refl _) _
    refine ⟨HK3.out.trans (Kept.ofBelow hbel),?_,?_,?_,by rw [hbn];exact HK3.out.size,HFB.out⟩
    ·rw [hbn];exact (rs_more HR3.out).kept (D:=fun _=>False) (Kept.ofBelow hbel) (fun _ _ h=>h)
    ·rw [hw4];exact Dw4.node_new w3 ⟨op,0,0,0,0,0⟩ 44 bn hbn 0 (by simp)
    ·intro i;rw [hw4,hbn];simp
   have HW4:Hid (w4=w3.alloc (.cells #[.int .i64 op,.int .i64 0,.int .i64 0,.int .i64 0,.int .i64 0,.int .i64 0] 44)):=hw4
   clear ho eA eC hw4
   go_upto_if 33 with fail
   rw [<- HW4.out,<- hbn]
   clear hbn HW4 HR3 HK3 HFB3
   go_cut [8] from 34 to 64 (fun _ wc=>∃ s1 n,N1 op st.past s1 n/\IS w b S F s1 bad bn n wc)
   case first =>
    by_cases h17:op=17
    ·subst h17
     go_wp2_with fail
     refine (blankR _ b S _ HI4.out.fb' st.past bad HI4.out.rs hs).mono ?_
     rintro e w5 ⟨hk5,hno5,hye5⟩
     cases hb5:st.past.blank with
     | none =>
       obtain ⟨rfl,hr5⟩:=hno5 hb5
       have HI5:Hid (IS w b S F st.past bad bn _ w5):=HI4.out.step hk5 hr5
       have HE:Hid (innerL (rdL f) p st=.error (2,p)):=inner_no_nums HO.out (n17a hb5)
       clear hb5 hno5 hye5 hk5 hr5
       go_wp2_with fail
       refine (failR _ b S _ HI5.out.fb' _ bad HI5.out.rs 2 p _ rfl).mono ?_
       rintro e w6 ⟨rfl,hb6,hk6⟩
       have HB6:Hid (Bad w6 b S (2,p)):=hb6
       have HK6:Hid (Kb b w w6):=HI5.out.kb.trans hk6
       clear hb6 hk6
       go_wp2
       go_ret
       exact rp_err HE.out HK6.out rfl HB6.out
     | some s1 =>
       obtain ⟨rfl,hr5⟩:=hye5 s1 hb5
       have HI5:Hid (IS w b S F s1 bad bn _ w5):=HI4.out.step hk5 hr5
       have HB5:Hid (st.past.blank=some s1):=hb5
       clear hb5 hno5 hye5 hk5 hr5
       go_wp2_with fail
       refine (wordR _ b S _ HI5.out.fb' s1 bad HI5.out.rs hs).mono ?_
       rintro e w6 ⟨Y,rfl,hy,hys,hr6,hk6⟩
       have HI6:Hid (IS w b S F s1.past bad bn _ w6):=HI5.out.step hk6 hr6
       have HY:Hid (tl Y=s1.word):=hy
       clear hy hr6 hk6
       go_wp2_with fail
       refine (sNum Y _ (by omega)).mono ?_
       rintro e w7 ⟨rfl,rfl⟩
       rw [HY.out]
       cases hn:numL s1.word with
       | none =>
         rw [num_none hn]
         have HE:Hid (innerL (rdL f) p st=.error (2,p)):=inner_no_nums HO.out (n17b HB5.out hn)
         clear hn
         go_wp2_with fail
         refine (failR _ b S _ HI6.out.fb' _ bad HI6.out.rs 2 p _ rfl).mono ?_
         rintro e w8 ⟨rfl,hb8,hk8⟩
         have HB8:Hid (Bad w8 b S (2,p)):=hb8
         have HK8:Hid (Kb b w w8):=HI6.out.kb.trans hk8
         clear hb8 hk8
         go_wp2
         go_ret
         exact rp_err HE.out HK8.out rfl HB8.out
       | some k =>
         rw [num_some' hn]
         have HN:Hid (numL s1.word=some k):=hn
         have hkz:¬ (k:Int) < 0:=by omega
         clear hn
         go_wp2_with fail
         refine (blankR _ b S _ HI6.out.fb' s1.past bad HI6.out.rs hs).mono ?_
         rintro e w8 ⟨hk8,hno8,hye8⟩
         cases hb8:s1.past.blank with
         | none =>
           obtain ⟨rfl,hr8⟩:=hno8 hb8
           have HI8:Hid (IS w b S F s1.past bad bn _ w8):=HI6.out.step hk8 hr8
           have HE:Hid (innerL (rdL f) p st=.error (2,p)):=inner_no_nums HO.out (n17c HB5.out HN.out hb8)
           clear hb8 hno8 hye8 hk8 hr8
           go_wp2_with fail
           refine (failR _ b S _ HI8.out.fb' _ bad HI8.out.rs 2 p _ rfl).mono ?_
           rintro e w9 ⟨rfl,hb9,hk9⟩
           have HB9:Hid (Bad w9 b S (2,p)):=hb9
           have HK9:Hid (Kb b w w9):=HI8.out.kb.trans hk9
           clear hb9 hk9
           go_wp2
           go_ret
           exact rp_err HE.out HK9.out rfl HB9.out
         | some s2 =>
           obtain ⟨rfl,hr8⟩:=hye8 s2 hb8
           have HI8:Hid (IS w b S F s2 bad bn _ w8):=HI6.out.step hk8 hr8
           have HB8:Hid (s1.past.blank=some s2):=hb8
           clear hb8 hno8 hye8 hk8 hr8
           go_wp2_with fail
           refine (wordR _ b S _ HI8.out.fb' s2 bad HI8.out.rs hs).mono ?_
           rintro e w9 ⟨Z,rfl,hz,hzs,hr9,hk9⟩
           have HI9:Hid (IS w b S F s2.past bad bn _ w9):=HI8.out.step hk9 hr9
           have HZ:Hid (tl Z=s2.word):=hz
           clear hz hr9 hk9
           go_wp2_with fail
           refine (sNum Z _ (by omega)).mono ?_
           rintro e wa ⟨rfl,rfl⟩
           rw [HZ.out]
           cases hn2:numL s2.word with
           | none =>
             rw [num_none hn2]
             have HE:Hid (innerL (rdL f) p st=.error (2,p)):=inner_no_nums HO.out (n17d HB5.out HN.out HB8.out hn2)
             clear hn2
             go_wp2_with fail
             refine (failR _ b S _ HI9.out.fb' _ bad HI9.out.rs 2 p _ rfl).mono ?_
             rintro e wc ⟨rfl,hbc,hkc⟩
             have HBc:Hid (Bad wc b S (2,p)):=hbc
             have HKc:Hid (Kb b w wc):=HI9.out.kb.trans hkc
             clear hbc hkc
             go_wp2
             go_ret
             exact rp_err HE.out HKc.out rfl HBc.out
           | some m =>
             rw [num_some' hn2]
             have HE:Hid (numsL 17 st.past=some (s2.past,⟨17,m,k,0,0,0⟩)):=n17e HB5.out HN.out HB8.out hn2
             have hmz:¬ (m:Int) < 0:=by omega
             have q1:=HI9.out.nd.c1
             have q2:=HI9.out.nd.c2
             have r1:=HI9.out.fr 1
             have r2:=HI9.out.fr 2
             rw [Nat.zero_add] at q1 q2
             have HIA:Hid (IS w b S F s2.past bad bn ⟨17,0,k,0,0,0⟩ (wa.setCell ⟨bn,2,none⟩ (.int .i64 k))):=HI9.out.set 2 _ (nd_k HI9.out.nd k)
             have HIB:Hid (IS w b S F s2.past bad bn ⟨17,m,k,0,0,0⟩ ((wa.setCell ⟨bn,2,none⟩ (.int .i64 k)).setCell ⟨bn,1,none⟩ (.int .i64 m))):=HIA.out.set 1 _ (nd_w HIA.out.nd m)
             clear hn2
             go_wp2_with fail
             go_meet
             case rel=>exact ⟨_,_,.inl ⟨rfl,HE.out⟩,HIB.out⟩
    ·have hq17:(op==17)=false:=beq_eq_false_iff_ne.2 h17
     go_wp2_with fail
     go_meet
     case rel=>exact ⟨_,_,.inr ⟨h17,rfl,rfl⟩,HI4.out⟩
   case rest =>
    obtain ⟨s1,n1,hN1,hI1⟩:=hcut
    have HN1:Hid (N1 op st.past s1 n1):=hN1
    have HI1:Hid (IS w b S F s1 bad bn n1 wc):=hI1
    clear hN1 hI1 HI4
    obtain ⟨wd,rfl⟩:∃ wd:World,wd=wc:=⟨_,rfl⟩
    go_upto_if 66 with (go_at_call 28;refine (sQuant _ _).mono ?_;rintro e w' ⟨rfl,rfl⟩)
    go_cut [10] from 66 to 88 (fun _ wc=>∃ s2 n,N2 op st.past s2 n/\IS w b S F s2 bad bn n wc)
    case first =>
     by_cases hq:op=19\/op=20
     ·have hqt:quant op=true:=by rcases hq with e|e<;>subst e<;>rfl
      have h17:op≠17:=by omega
      have HQ:Hid (op=19\/op=20):=hq
      rcases HN1.out with ⟨e,_⟩|⟨_,rfl,rfl⟩
      ·exact absurd e h17
      clear hq
      rw [hqt]
      go_wp2_with fail
      refine (blankR _ b S _ HI1.out.fb' st.past bad HI1.out.rs hs).mono ?_
      rintro e w5 ⟨hk5,hno5,hye5⟩
      cases hb5:st.past.blank with
      | none =>
        obtain ⟨rfl,hr5⟩:=hno5 hb5
        have HI5:Hid (IS w b S F st.past bad bn _ w5):=HI1.out.step hk5 hr5
        have HE:Hid (innerL (rdL f) p st=.error (2,p)):=inner_no_nums HO.out (nqa h17 HQ.out hb5)
        clear hb5 hno5 hye5 hk5 hr5
        go_wp2_with fail
        refine (failR _ b S _ HI5.out.fb' _ bad HI5.out.rs 2 p _ rfl).mono ?_
        rintro e w6 ⟨rfl,hb6,hk6⟩
        have HB6:Hid (Bad w6 b S (2,p)):=hb6
        have HK6:Hid (Kb b w w6):=HI5.out.kb.trans hk6
        clear hb6 hk6
        go_wp2
        go_ret
        exact rp_err HE.out HK6.out rfl HB6.out
      | some s2 =>
        obtain ⟨rfl,hr5⟩:=hye5 s2 hb5
        have HI5:Hid (IS w b S F s2 bad bn _ w5):=HI1.out.step hk5 hr5
        have HB5:Hid (st.past.blank=some s2):=hb5
        clear hb5 hno5 hye5 hk5 hr5
        go_wp2_with fail
        refine (wordR _ b S _ HI5.out.fb' s2 bad HI5.out.rs hs).mono ?_
        rintro e w6 ⟨Y,rfl,hy,hys,hr6,hk6⟩
        have HI6:Hid (IS w b S F s2.past bad bn _ w6):=HI5.out.step hk6 hr6
        have HY:Hid (tl Y=s2.word):=hy
        clear hy hr6 hk6
        go_wp2_with fail
        refine (sTwo Y 118 _ (by omega)).mono ?_
        rintro e w7 ⟨rfl,m7,rfl⟩
        have HI7:Hid (IS w b S F s2.past bad bn _ (w6.drewN m7)):=HI6.out.below ⟨rfl,rfl,rfl,Nat.le_refl _,fun _ _=>rfl⟩
        rw [HY.out]
        clear HI6
        generalize w6.drewN m7=w7 at HI7 ⊢
        cases hn:twoL 118 s2.word with
        | none =>
          rw [(two_none hn).1,(two_none hn).2]
          have HE:Hid (innerL (rdL f) p st=.error (2,p)):=inner_no_nums HO.out (nqb h17 HQ.out HB5.out hn)
          clear hn
          go_wp2_with fail
          refine (failR _ b S _ HI7.out.fb' _ bad HI7.out.rs 2 p _ rfl).mono ?_
          rintro e w8 ⟨rfl,hb8,hk8⟩
          have HB8:Hid (Bad w8 b S (2,p)):=hb8
          have HK8:Hid (Kb b w w8):=HI7.out.kb.trans hk8
          clear hb8 hk8
          go_wp2
          go_ret
          exact rp_err HE.out HK8.out rfl HB8.out
        | some x =>
          obtain ⟨k,m⟩:=x
          have eA:twoA 118 s2.word=(k:Int):=by unfold twoA;rw [hn]
          have eB:twoB 118 s2.word=(m:Int):=by unfold twoB;rw [hn]
          rw [eA,eB]
          have HE:Hid (N2 op st.past s2.past ⟨op,1,k,0,m,0⟩):=nqc h17 HQ.out HB5.out hn
          have hkz:¬ (k:Int) < 0:=by omega
          have q1:=HI7.out.nd.c1
          have q2:=HI7.out.nd.c2
          have q4:=HI7.out.nd.c4
          have r1:=HI7.out.fr 1
          have r2:=HI7.out.fr 2
          have r4:=HI7.out.fr 4
          rw [Nat.zero_add] at q1 q2 q4
          have HIA:Hid (IS w b S F s2.past bad bn ⟨op,0,k,0,0,0⟩ (w7.setCell ⟨bn,2,none⟩ (.int .i64 k))):=HI7.out.set 2 _ (nd_k HI7.out.nd k)
          have HIB:Hid (IS w b S F s2.past bad bn ⟨op,0,k,0,m,0⟩ ((w7.setCell ⟨bn,2,none⟩ (.int .i64 k)).setCell ⟨bn,4,none⟩ (.int .i64 m))):=HIA.out.set 4 _ (nd_b HIA.out.nd m)
          have HIC:Hid (IS w b S F s2.past bad bn ⟨op,1,k,0,m,0⟩ (((w7.setCell ⟨bn,2,none⟩ (.int .i64 k)).setCell ⟨bn,4,none⟩ (.int .i64 m)).setCell ⟨bn,1,none⟩ (.int .i64 1))):=HIB.out.set 1 _ (nd_w HIB.out.nd 1)
          clear hn eA eB
          go_wp2_with fail
          go_meet
          case rel=>exact ⟨_,_,HE.out,HIC.out⟩
     ·have hqf:quant op=false:=by
       unfold quant
       have e1:(op==19)=false:=beq_eq_false_iff_ne.2 (by omega)
       have e2:(op==20)=false:=beq_eq_false_iff_ne.2 (by omega)
       rw [e1,e2];rfl
      have HE:Hid (N2 op st.past s1 n1):=by
       rcases HN1.out with ⟨_,e⟩|⟨h17,rfl,rfl⟩
       ·exact e
       ·exact nno h17 hq
      clear hq
      rw [hqf]
      go_wp2_with fail
      go_meet
      case rel=>exact ⟨_,_,HE.out,HI1.out⟩
    case rest =>
     clear HI1 HN1
     obtain ⟨s2,n,hN2,hI2⟩:=hcut
     have HN2:Hid (N2 op st.past s2 n):=hN2
     have HI2:Hid (IS w b S F s2 bad bn n wc):=hI2
     clear hN2 hI2
     obtain ⟨wd,rfl⟩:∃ wd:World,wd=wc:=⟨_,rfl⟩
     have HPL0:Hid (PL w b S F bad bn n wd.heap.size f p s2 0 s2 [] (.slice (some ⟨wd.heap.size,0,none⟩) 0 0) (wd.alloc (.cells #[] 3))):=by
      have hbel:Below wd.heap.size wd (wd.alloc (.cells #[] 3)):=(Below.refl _ _).alloc (Nat.le_refl _) _
      have hI:=HI2.out.below hbel
      refine ⟨rfl,Ows.lit wd _ (Nat.le_refl _),hI,?_,⟨HI2.out.nd.lt,rl_lt HI2.out.rs.rl,HI2.out.kb.size⟩,hbel.size,?_⟩
      ·refine rs_swap HI2.out.rs (D:=fun _=>False) (Kept.ofBelow hbel) (fun _ h=>h.elim) (fun h=>h) (fun i hi=>?_)
       rcases hi with e|e
       ·exact .inl e
       ·exact .inr (by cases e;exact Nat.le_refl _)
      ·refine ⟨.inl hI.fb'.1,fun k hk=>?_⟩
       rcases hk with e|e
       ·exact hI.fb'.2 k e
       ·cases e;simp
     have hcl:c=1\/c=2\/c=3:=by omega
     clear HI2
     go_wp2_with fail
     go_loopw [12,13] (fun v q wr=>∃ (k:Nat) (sk:Rd) (is:List Nat),k<=c/\q=.int .i64 k/\PL w b S F bad bn n wd.heap.size f p s2 k sk is v wr) (fun _ q _=>c - (intOf q).toNat)
     case atStart=>exact ⟨0,s2,[],Nat.zero_le _,rfl,HPL0.out⟩
     case round =>
      clear HPL0
      obtain ⟨k,sk,is,hk,rfl,hpl⟩:=hrel
      have HP:Hid (PL w b S F bad bn n wd.heap.size f p s2 k sk is u12 wr):=hpl
      clear hpl
      by_cases hlt:k < c
      ·have hkz:(k:Int) < (c:Int):=by omega
       go_wp2_with fail
       refine (blankR _ b S _ HP.out.fb sk bad HP.out.rs hs).mono ?_
       rintro e w5 ⟨hk5,hno5,hye5⟩
       cases hb5:sk.blank with
       | none =>
         obtain ⟨rfl,hr5⟩:=hno5 hb5
         have HI5:Hid (IS w b S F sk bad bn n w5):=HP.out.it.step hk5 (rs_less hr5 (fun _ h=>.inl h))
         have HE:Hid (innerL (rdL f) p st=.error (2,p)):=inner_parts HO.out HN2.out (parts_fail1 k c s2 sk is _ hlt HP.out.parts (.inl ⟨hb5,rfl⟩))
         clear hb5 hno5 hye5 hk5 hr5
         go_wp2_with fail
         refine (failR _ b S _ HI5.out.fb' _ bad HI5.out.rs 2 p _ rfl).mono ?_
         rintro e w6 ⟨rfl,hb6,hk6⟩
         have HB6:Hid (Bad w6 b S (2,p)):=hb6
         have HK6:Hid (Kb b w w6):=HI5.out.kb.trans hk6
         clear hb6 hk6
         go_wp2
         go_ret
         exact rp_err HE.out HK6.out rfl HB6.out
       | some s3 =>
         obtain ⟨rfl,hr5⟩:=hye5 s3 hb5
         have HB5:Hid (sk.blank=some s3):=hb5
         have HR5:Hid (RS w5 b S (fun k=>(F k\/k=bn)\/u12.ownBlock=some k) s3 bad):=hr5
         have HI5:Hid (IS w b S F s3 bad bn n w5):=HP.out.it.step hk5 (rs_less hr5 (fun _ h=>.inl h))
         have HK5:Hid (Kb b wr w5):=hk5
         have HF5:Hid (Fb w5 b (fun k=>(F k\/k=bn)\/u12.ownBlock=some k)):=⟨HP.out.fb.1,fun j hj=>Nat.lt_of_lt_of_le (HP.out.fb.2 j hj) hk5.size⟩
         have HL5:Hid (s3.r.length < f):=by
          show _ < _
          have l1:=past_left st
          have l2:=nums_left HN2.out
          have l3:=parts_left HP.out.parts
          have l4:=(blank_left hb5).2
          have l5:=HF.out
          have l6:st.past.p=st.p+st.word.length:=past_p st
          obtain ⟨x,_,a2,_,_,_⟩:=nums_local HN2.out
          obtain ⟨y,_,b2,_,_⟩:=parts_local (rd_local f) p k s2 sk is HP.out.parts
          omega
         clear hb5 hno5 hye5 hk5 hr5
         go_wp2_with fail
         refine (HRD.out _ b S _ s3 bad HF5.out HR5.out hs HL5.out).mono ?_
         rintro e w6 ⟨hk6,her6,hok6⟩
         cases hrd:rdL f s3 with
         | error x =>
           obtain ⟨rfl,hb6⟩:=her6 x hrd
           have hx:=(rd_fail f s3 x hrd).1
           have HE:Hid (innerL (rdL f) p st=.error x):=inner_parts HO.out HN2.out (parts_fail1 k c s2 sk is _ hlt HP.out.parts (.inr ⟨s3,HB5.out,hrd⟩))
           have HB6:Hid (Bad w6 b S x):=hb6
           have HK6:Hid (Kb b w w6):=HI5.out.kb.trans hk6
           have HO6:Hid (Ows w6 wd.heap.size u12 (is.map fun (i:Nat)=>(i:Int))):=(HP.out.ows.kept HK5.out (fun i hi e=>by have h1:=(HP.out.ows.lt i hi).1;have h2:=HP.out.lo;have e':i=b:=e;omega)).kept hk6 (fun i hi e=>by have h1:=(HP.out.ows.lt i hi).1;have h2:=HP.out.lo;have e':i=b:=e;omega)
           have hB6:wd.heap.size<=w6.heap.size:=Nat.le_trans HP.out.sz (Nat.le_trans HK5.out.size hk6.size)
           have hil:(is.map fun (i:Nat)=>(i:Int)).length<=3:=by rw [List.length_map,parts_len _ _ _ _ HP.out.parts];omega
           have HX0:Hid (x.1=2\/x.1=3\/x.1=4):=hx
           clear hrd her6 hok6 hk6 hb6 hx
           obtain ⟨x1,x2⟩:=x
           have hnb:¬ u12.ownBlock=some b:=fun e=>by have h1:=(HO6.out.lt b e).1;have h2:=HP.out.lo;omega
           obtain ⟨hq3,hb9⟩:w6.cell? ⟨b,3,none⟩=some (.int .i64 x1)/\b < w6.heap.size:=by
            obtain ⟨pp,tv,hrc⟩:=HB6.out
            exact ⟨hrc.c3,hrc.lt⟩
           have hx0:(x1 != 0)=true:=by
            have:=HX0.out
            simp only at this
            rcases this with e|e|e<;>rw [e]<;>rfl
           have HQ3:Hid (w6.cell? ⟨b,3,none⟩=some (.int .i64 x1)):=hq3
           clear hq3
           go_wp2_with (at_builtin;go_must (refine app_int w6 rfl _ _ rfl wd.heap.size u12 (is.map fun (i:Nat)=>(i:Int)) 0 rfl rfl HO6.out hB6 (by omega) ?_;intro g9 cp9 w9 ho9 hk9 hg9;have hc3:w9.cell? ⟨b,3,none⟩=some (.int .i64 x1):=(by rw [hk9.cell (p:=⟨b,3,none⟩) hb9 hnb];exact HQ3.out)))
           have HB9:Hid (Bad w9 b S (x1,x2)):=by
            obtain ⟨pp,tv,hrc⟩:=HB6.out
            exact ⟨pp,tv,hrc.kept hk9 (fun e=>by have h1:=(HO6.out.lt b e).1;have h2:=HP.out.lo;omega)⟩
           have HK9:Hid (Kb b w w9):=⟨hk9.os.trans HK6.out.os,hk9.tape.trans HK6.out.tape,hk9.output.trans HK6.out.output,Nat.le_trans HK6.out.size hk9.size,fun j hj hjb=>(hk9.block j (Nat.lt_of_lt_of_le hj HK6.out.size) (fun e=>by have h1:=(HO6.out.lt j e).1;have h2:=HP.out.lo;omega)).trans (HK6.out.block j hj hjb)⟩
           clear ho9 hk9 hg9
           go_ret
           exact rp_err HE.out HK9.out rfl HB9.out
         | ok x =>
           obtain ⟨s4,i⟩:=x
           obtain ⟨rfl,hr6⟩:=hok6 s4 i hrd
           have HPS:Hid (partsL (rdL f) p (k+1) s2=.ok (s4,is++[i])):=parts_snoc k s2 sk s3 s4 is i HP.out.parts HB5.out hrd
           have HR6:Hid (RS w6 b S (fun k=>(F k\/k=bn)\/u12.ownBlock=some k) s4 bad):=hr6
           have HI6:Hid (IS w b S F s4 bad bn n w6):=HI5.out.step hk6 (rs_less hr6 (fun _ h=>.inl h))
           have HO6:Hid (Ows w6 wd.heap.size u12 (is.map fun (i:Nat)=>(i:Int))):=(HP.out.ows.kept HK5.out (fun i hi e=>by have h1:=(HP.out.ows.lt i hi).1;have h2:=HP.out.lo;have e':i=b:=e;omega)).kept hk6 (fun i hi e=>by have h1:=(HP.out.ows.lt i hi).1;have h2:=HP.out.lo;have e':i=b:=e;omega)
           have hB6:wd.heap.size<=w6.heap.size:=Nat.le_trans HP.out.sz (Nat.le_trans HK5.out.size hk6.size)
           have hil:(is.map fun (i:Nat)=>(i:Int)).length<=3:=by rw [List.length_map,parts_len _ _ _ _ HP.out.parts];omega
           have HLO:Hid (bn < wd.heap.size/\b < wd.heap.size/\w.heap.size<=wd.heap.size):=HP.out.lo
           clear hrd her6 hok6 hk6 hr6 HP HR5 HI5 HK5 HF5 HL5 HB5
           have hnb:¬ u12.ownBlock=some b:=fun e=>by have h1:=(HO6.out.lt b e).1;have h2:=HLO.out;omega
           obtain ⟨hq3,hb9⟩:w6.cell? ⟨b,3,none⟩=some (.int .i64 0)/\b < w6.heap.size:=by
            obtain ⟨a9,c9,hrc,_,_⟩:=HR6.out.rl
            exact ⟨hrc.c3,hrc.lt⟩
           have HQ3:Hid (w6.cell? ⟨b,3,none⟩=some (.int .i64 0)):=hq3
           clear hq3
           go_wp2_with (at_builtin;go_must (refine app_int w6 rfl _ _ rfl wd.heap.size u12 (is.map fun (i:Nat)=>(i:Int)) i rfl rfl HO6.out hB6 (by omega) ?_;intro g9 cp9 w9 ho9 hk9 hg9;have hc3:w9.cell? ⟨b,3,none⟩=some (.int .i64 0):=(by rw [hk9.cell (p:=⟨b,3,none⟩) hb9 hnb];exact HQ3.out)))
           have HR9:Hid (RS w9 b S (fun k=>(F k\/k=bn)\/(Value.slice (some ⟨g9,0,none⟩) ((is.map fun (i:Nat)=>(i:Int)).length+1) cp9).ownBlock=some k) s4 bad):=by
            refine rs_swap HR6.out hk9 (fun j hj=>.inr hj) (fun e=>by have h1:=(HO6.out.lt b e).1;have h2:=HLO.out;omega) (fun j hj=>?_)
            rcases hj with e|e
            ·exact .inl (.inl e)
            ·have e':g9=j:=Option.some.inj e
             subst e'
             rcases hg9 with e2|e2
             ·exact .inl (.inr e2)
             ·exact .inr e2
           have HP9:Hid (PL w b S F bad bn n wd.heap.size f p s2 (k+1) s4 (is++[i]) (Value.slice (some ⟨g9,0,none⟩) ((is.map fun (i:Nat)=>(i:Int)).length+1) cp9) w9):=by
            have hIs:=HI6.out.swap hk9 (fun j hj=>by have h1:=(HO6.out.lt j hj).1;have h2:=HLO.out;omega) (rs_less HR9.out (fun _ h=>.inl h))
            refine ⟨HPS.out,?_,hIs,HR9.out,HLO.out,Nat.le_trans hB6 hk9.size,⟨.inl hIs.fb'.1,fun j hj=>?_⟩⟩
            ·rw [List.map_append];exact ho9
            ·rcases hj with e|e
             ·exact hIs.fb'.2 j e
             ·exact (ho9.lt j e).2
           clear ho9 hk9 hg9 HR9 HR6 HI6 HO6
           rw [List.length_map] at HP9
           go_roundw
           case rel=>exact ⟨k+1,s4,is++[i],by omega,by go_num,HP9.out⟩
           case measure=>simp [intOf];omega
      ·have hkz:¬ (k:Int) < (c:Int):=by omega
       obtain rfl:k=c:=by omega
       have HPC:Hid (partsL (rdL f) p k s2=.ok (sk,is)):=HP.out.parts
       have hlen:is.length=k:=parts_len _ _ _ _ HP.out.parts
       obtain ⟨ta,tc,hrc,htn,haw⟩:=HP.out.rs.rl
       have c0:=hrc.c0
       have c1:=hrc.c1
       have f1:=hrc.f1
       have HSR:Hid (sk.r=left S sk.p):=HP.out.rs.r
       clear hrc htn haw
       obtain ⟨aa,cc,hu,hwi⟩:=HP.out.ows.form
       have HWI:Hid (WInts wr wd.heap.size aa (is.map fun (i:Nat)=>(i:Int))):=hwi
       rw [List.length_map,hlen] at hu
       subst hu
       clear hwi
       by_cases hend:sk.p < S.size
       ·have hd:decide ((S.size:Int)<=(sk.p:Int))=false:=by simp;omega
        have hez:(sk.p:Int) < (S.size:Int):=by omega
        by_cases h41:S[sk.p]=41
        ·have hdq:((S[sk.p].toNat:Int) != 41)=false:=by rw [h41];rfl
         have HSH:Hid (innerL (rdL f) p st=match putL sk.t (madeL n sk.t is) p with | .error e=>.error e | .ok (t,i)=>.ok (⟨sk.p+1,left S (sk.p+1),t⟩,i)):=inner_shut HO.out HN2.out HPC.out (by rw [HSR.out,left_cons hend,h41])
         clear h41
         go_wp2
         go_quiet (fail)
         go_upto_region 38 with fail
         have e9:((sk.p+1:Nat):Int)=(sk.p:Int)+1:=by omega
         have HI7:Hid (IS w b S F ⟨sk.p+1,left S (sk.p+1),sk.t⟩ bad bn n ((wr.drewN nq).setCell ⟨b,1,none⟩ (.int .i64 ((sk.p:Int)+1)))):=by
          have h6:IS w b S F sk bad bn n (wr.drewN nq):=HP.out.it.below ⟨rfl,rfl,rfl,Nat.le_refl _,fun _ _=>rfl⟩
          have h7:=rs_move h6.fb'.1 h6.rs (q:=sk.p+1) hend
          rw [e9] at h7
          exact h6.step (kept_set (Kept.refl _ _) _) h7
         have HA7:Hid (∃ ab ao,aa=some ⟨ab,ao,none⟩/\ab≠b/\ab≠bn/\∀ i (h:i < is.length),((wr.drewN nq).setCell ⟨b,1,none⟩ (.int .i64 ((sk.p:Int)+1))).cell? ⟨ab,ao+i,none⟩=some (.int .i64 (is[i]:Nat))):=by
          show ∃ _,_
          rcases HWI.out.2 with h0|⟨ab,ao,ha,hB,hc⟩
          ·rw [List.length_map] at h0;omega
          ·have hlo:=HP.out.lo
           refine ⟨ab,ao,ha,by omega,by omega,fun i hi=>?_⟩
           rw [set_other (by intro e;injection e with e1 e2 e3;omega)]
           have:=(hc i (by rw [List.length_map];exact hi)).1
           rw [List.getElem_map] at this
           exact this
         have HPP:Hid (∀ i∈is,i < sk.t.length):=parts_places HPC.out
         have HNN:Hid (n.op=op/\n.a=0/\n.c=0/\(n.op=17\/n.op=19\/n.op=20\/(n.w=0/\n.k=0/\n.b=0))):=nums_node HN2.out
         clear HP HWI c0 c1 f1 hd hdq e9
         generalize (wr.drewN nq).setCell ⟨b,1,none⟩ (.int .i64 ((sk.p:Int)+1))=w7 at HI7 HA7 ⊢
         obtain ⟨ab,ao,rfl,hab,habn,hac⟩:=HA7.out
         have hbn:=HI7.out.ne
         have d0:=HI7.out.nd.c0
         have d1:=HI7.out.nd.c1
         have d2:=HI7.out.nd.c2
         have d3:=HI7.out.nd.c3
         have d4:=HI7.out.nd.c4
         have d5:=HI7.out.nd.c5
         simp only [Nat.zero_add] at d1 d2 d3 d4 d5
         have g1:=HI7.out.fr 1
         have g3:=HI7.out.fr 3
         have g4:=HI7.out.fr 4
         have g5:=HI7.out.fr 5
         clear HA7
         have HFT:Hid (∀ i,i < sk.t.length->1<=(nth sk.t i).w/\(nth sk.t i).w<=8):=fun i hi=>node_width (HI7.out.rs.fit.2 i hi)
         rcases hoc with ⟨rfl,ho1⟩|⟨rfl,ho2⟩|⟨rfl,ho3⟩
         ·obtain ⟨i0,his⟩:∃ i0,is=[i0]:=by
           match is,hlen with
           | [i],_=>exact ⟨i,rfl⟩
          have HIS:Hid (is=[i0]):=his
          have hi0:i0 < sk.t.length:=HPP.out i0 (by simp [his])
          have ac0:=hac 0 (by simp [his])
          simp only [his,List.getElem_cons_zero,Nat.add_zero] at ac0
          clear hac his hlen
          have HI8:Hid (IS w b S F ⟨sk.p+1,left S (sk.p+1),sk.t⟩ bad bn ⟨n.op,n.w,n.k,i0,n.b,n.c⟩ (w7.setCell ⟨bn,3,none⟩ (.int .i64 i0))):=HI7.out.set 3 _ (nd_a HI7.out.nd i0)
          by_cases hop2:op=2
          ·
           have hopa:op<=2:=by omega
           have hopb:2<=op:=by omega
           clear hop2 ho1
           have hq17:(op==17)=false:=beq_eq_false_iff_ne.2 (by omega)
           have hqf:quant op=false:=by
            unfold quant
            have e1:(op==19)=false:=beq_eq_false_iff_ne.2 (by omega)
            have e2:(op==20)=false:=beq_eq_false_iff_ne.2 (by omega)
            rw [e1,e2];rfl
           have hin:decide (13<=op/\op<=15)=false:=by simp;omega
           have hq16:(op==16)=false:=by exact beq_eq_false_iff_ne.2 (by omega)
           have hq18:(op==18)=false:=by exact beq_eq_false_iff_ne.2 (by omega)
           go_upto_region 43 with (first|(go_at_call 28;refine (sQuant _ _).mono ?_;rintro e w' ⟨rfl,rfl⟩;rw [hqf])|(go_at_call 41;refine (sIn _ _ _ _).mono ?_;rintro e w' ⟨rfl,rfl⟩;rw [hin]))
           generalize w7.setCell ⟨bn,3,none⟩ (.int .i64 i0)=w8 at HI8 ⊢
           obtain ⟨ta,tc,hrc,htn,haw⟩:=HI8.out.rs.rl
           have y2:=hrc.c2
           simp only at y2 htn haw
           clear hrc d0 d1 d2 d3 d4 d5 g1 g3 g4 g5
           rcases htn.2 with h0|⟨tb,tq,rfl,htc⟩
           ·omega
           have hw0:=(htc i0 hi0).c1
           rw [nth_get hi0] at hw0
           have htb:¬ (F tb\/tb=bn):=haw.1 ⟨tb,tq,none⟩ (by omega) rfl
           have htn':tb≠bn:=fun e=>htb (.inr e)
           have htb':tb≠b:=fun e=>htb (.inl (by rw [e];exact HFB.out.1))
           have d1:=HI8.out.nd.c1
           have d3:=HI8.out.nd.c3
           have d4:=HI8.out.nd.c4
           simp only [Nat.zero_add] at d1 d3 d4
           have g1:=HI8.out.fr 1
           clear htc haw htn htb
           go_region_held (fun w'=>w'.cell? ⟨b,2,none⟩=some (.slice (some ⟨tb,tq,none⟩) sk.t.length tc)/\w'.cell? ⟨bn,3,none⟩=some (.int .i64 i0)/\w'.cell? ⟨tb,tq+i0*6+1,none⟩=some (.int .i64 (nth sk.t i0).w)) ((first|exact ⟨y2,d3,hw0⟩|exact ⟨set_keep (fun e=>hbn (congrArg Addr.block e)) y2,set_keep (by simp) d3,set_keep (fun e=>htn' (congrArg Addr.block e).symm) hw0⟩)) (fail)
           have HI9:Hid (IS w b S F ⟨sk.p+1,left S (sk.p+1),sk.t⟩ bad bn ⟨n.op,(nth sk.t i0).w,n.k,i0,n.b,n.c⟩ (w8.setCell ⟨bn,1,none⟩ (.int .i64 ((nth sk.t i0).w))).drew):=(HI8.out.set 1 _ (nd_w HI8.out.nd _)).below ⟨rfl,rfl,rfl,Nat.le_refl _,fun _ _=>rfl⟩
           generalize (w8.setCell ⟨bn,1,none⟩ (.int .i64 ((nth sk.t i0).w))).drew=w9 at HI9 ⊢
           clear y2 d1 d3 d4 g1 HI8 HI7
           have d0:=HI9.out.nd.c0
           have d1:=HI9.out.nd.c1
           have d2:=HI9.out.nd.c2
           have d3:=HI9.out.nd.c3
           have d4:=HI9.out.nd.c4
           have d5:=HI9.out.nd.c5
           simp only [Nat.zero_add] at d1 d2 d3 d4 d5
           have HM:Hid (madeL n sk.t is=⟨n.op,(nth sk.t i0).w,n.k,i0,n.b,n.c⟩):=by show _=_;rw [HIS.out];exact made_one HNN.out.2.2.1 _ (by have h9:=HNN.out.1;rw [if_neg (by omega),if_neg (by omega),if_neg (by omega),if_neg (by omega)];simp [width])
           go_wp2_with fail
           refine (putR _ b S _ HI9.out.fb' ⟨sk.p+1,left S (sk.p+1),sk.t⟩ bad HI9.out.rs ⟨n.op,(nth sk.t i0).w,n.k,i0,n.b,n.c⟩ p _ rfl (by omega)).mono ?_
           rintro e wz hrp
           have HRP:Hid (RP w b S F bad (innerL (rdL f) p st) e wz):=by
            have h9:=rp_trans HI9.out.kb (fun k h=>.inl h) hrp
            rw [HSH.out,HM.out];exact h9
           obtain ⟨v,rfl⟩:=rp_ret HRP.out
           clear hrp
           go_wp2
           go_ret
           exact HRP.out
          ·
           have hcl3:op=17\/op=19\/op=20:=by omega
           clear hcl h0
           have HM:Hid (madeL n sk.t is=⟨n.op,n.w,n.k,i0,n.b,n.c⟩):=by show _=_;rw [HIS.out];exact made_one HNN.out.2.2.1 _ (by have h9:=HNN.out.1;rw [if_pos (by omega)])
           rcases hcl3 with rfl|rfl|rfl
           all_goals
            go_wp2_with (first|(go_at_call 28;refine (sQuant _ _).mono ?_;rintro e w' ⟨rfl,rfl⟩;simp only [quant])|(go_at_call 41;refine (sIn _ _ _ _).mono ?_;rintro e w' ⟨rfl,rfl⟩))
            refine (putR _ b S _ HI8.out.fb' ⟨sk.p+1,left S (sk.p+1),sk.t⟩ bad HI8.out.rs ⟨n.op,n.w,n.k,i0,n.b,n.c⟩ p _ rfl (by omega)).mono ?_
            rintro e wz hrp
            have HRP:Hid (RP w b S F bad (innerL (rdL f) p st) e wz):=by
             have h9:=rp_trans HI8.out.kb (fun k h=>.inl h) hrp
             rw [HSH.out,HM.out];exact h9
            obtain ⟨v,rfl⟩:=rp_ret HRP.out
            clear hrp
            go_wp2
            go_ret
            exact HRP.out
         ·obtain ⟨i0,i1,his⟩:∃ i0 i1,is=[i0,i1]:=by
           match is,hlen with
           | [i,j],_=>exact ⟨i,j,rfl⟩
          have HIS:Hid (is=[i0,i1]):=his
          have hi0:i0 < sk.t.length:=HPP.out i0 (by simp [his])
          have hi1:i1 < sk.t.length:=HPP.out i1 (by simp [his])
          have ac0:=hac 0 (by simp [his])
          have ac1:=hac 1 (by simp [his])
          simp only [his,List.getElem_cons_zero,List.getElem_cons_succ,Nat.add_zero] at ac0 ac1
          clear hac his hlen
          have HI7a:Hid (IS w b S F ⟨sk.p+1,left S (sk.p+1),sk.t⟩ bad bn ⟨n.op,n.w,n.k,i0,n.b,n.c⟩ (w7.setCell ⟨bn,3,none⟩ (.int .i64 i0))):=HI7.out.set 3 _ (nd_a HI7.out.nd i0)
          have HI8:Hid (IS w b S F ⟨sk.p+1,left S (sk.p+1),sk.t⟩ bad bn ⟨n.op,n.w,n.k,i0,i1,n.c⟩ ((w7.setCell ⟨bn,3,none⟩ (.int .i64 i0)).setCell ⟨bn,4,none⟩ (.int .i64 i1))):=HI7a.out.set 4 _ (nd_b HI7a.out.nd i1)
          clear HI7a
          by_cases hopc:op<=12
          ·
           have hq17:(op==17)=false:=beq_eq_false_iff_ne.2 (by omega)
           have hqf:quant op=false:=by
            unfold quant
            have e1:(op==19)=false:=beq_eq_false_iff_ne.2 (by omega)
            have e2:(op==20)=false:=beq_eq_false_iff_ne.2 (by omega)
            rw [e1,e2];rfl
           have hin:decide (13<=op/\op<=15)=false:=by simp;omega
           have hq16:(op==16)=false:=by exact beq_eq_false_iff_ne.2 (by omega)
           have hq18:(op==18)=false:=by exact beq_eq_false_iff_ne.2 (by omega)
           go_upto_region 43 with (first|(go_at_call 28;refine (sQuant _ _).mono ?_;rintro e w' ⟨rfl,rfl⟩;rw [hqf])|(go_at_call 41;refine (sIn _ _ _ _).mono ?_;rintro e w' ⟨rfl,rfl⟩;rw [hin]))
           generalize (w7.setCell ⟨bn,3,none⟩ (.int .i64 i0)).setCell ⟨bn,4,none⟩ (.int .i64 i1)=w8 at HI8 ⊢
           obtain ⟨ta,tc,hrc,htn,haw⟩:=HI8.out.rs.rl
           have y2:=hrc.c2
           simp only at y2 htn haw
           clear hrc d0 d1 d2 d3 d4 d5 g1 g3 g4 g5
           rcases htn.2 with h0|⟨tb,tq,rfl,htc⟩
           ·omega
           have hw0:=(htc i0 hi0).c1
           rw [nth_get hi0] at hw0
           have htb:¬ (F tb\/tb=bn):=haw.1 ⟨tb,tq,none⟩ (by omega) rfl
           have htn':tb≠bn:=fun e=>htb (.inr e)
           have htb':tb≠b:=fun e=>htb (.inl (by rw [e];exact HFB.out.1))
           have d1:=HI8.out.nd.c1
           have d3:=HI8.out.nd.c3
           have d4:=HI8.out.nd.c4
           simp only [Nat.zero_add] at d1 d3 d4
           have g1:=HI8.out.fr 1
           clear htc haw htn htb
           go_region_held (fun w'=>w'.cell? ⟨b,2,none⟩=some (.slice (some ⟨tb,tq,none⟩) sk.t.length tc)/\w'.cell? ⟨bn,3,none⟩=some (.int .i64 i0)/\w'.cell? ⟨tb,tq+i0*6+1,none⟩=some (.int .i64 (nth sk.t i0).w)) ((first|exact ⟨y2,d3,hw0⟩|exact ⟨set_keep (fun e=>hbn (congrArg Addr.block e)) y2,set_keep (by simp) d3,set_keep (fun e=>htn' (congrArg Addr.block e).symm) hw0⟩)) (fail)
           have HI9:Hid (IS w b S F ⟨sk.p+1,left S (sk.p+1),sk.t⟩ bad bn ⟨n.op,(nth sk.t i0).w,n.k,i0,i1,n.c⟩ (w8.setCell ⟨bn,1,none⟩ (.int .i64 ((nth sk.t i0).w))).drew):=(HI8.out.set 1 _ (nd_w HI8.out.nd _)).below ⟨rfl,rfl,rfl,Nat.le_refl _,fun _ _=>rfl⟩
           generalize (w8.setCell ⟨bn,1,none⟩ (.int .i64 ((nth sk.t i0).w))).drew=w9 at HI9 ⊢
           clear y2 d1 d3 d4 g1 HI8 HI7
           have d0:=HI9.out.nd.c0
           have d1:=HI9.out.nd.c1
           have d2:=HI9.out.nd.c2
           have d3:=HI9.out.nd.c3
           have d4:=HI9.out.nd.c4
           have d5:=HI9.out.nd.c5
           simp only [Nat.zero_add] at d1 d2 d3 d4 d5
           have HM:Hid (madeL n sk.t is=⟨n.op,(nth sk.t i0).w,n.k,i0,i1,n.c⟩):=by show _=_;rw [HIS.out];exact made_two HNN.out.2.2.1 _ (by have h9:=HNN.out.1;rw [if_neg (by omega),if_neg (by omega),if_neg (by omega),if_neg (by omega)];simp [width])
           go_wp2_with fail
           refine (putR _ b S _ HI9.out.fb' ⟨sk.p+1,left S (sk.p+1),sk.t⟩ bad HI9.out.rs ⟨n.op,(nth sk.t i0).w,n.k,i0,i1,n.c⟩ p _ rfl (by omega)).mono ?_
           rintro e wz hrp
           have HRP:Hid (RP w b S F bad (innerL (rdL f) p st) e wz):=by
            have h9:=rp_trans HI9.out.kb (fun k h=>.inl h) hrp
            rw [HSH.out,HM.out];exact h9
           obtain ⟨v,rfl⟩:=rp_ret HRP.out
           clear hrp
           go_wp2
           go_ret
           exact HRP.out
          ·by_cases hopd:op<=15
           ·
            have hq17:(op==17)=false:=beq_eq_false_iff_ne.2 (by omega)
            have hqf:quant op=false:=by
             unfold quant
             have e1:(op==19)=false:=beq_eq_false_iff_ne.2 (by omega)
             have e2:(op==20)=false:=beq_eq_false_iff_ne.2 (by omega)
             rw [e1,e2];rfl
            have hin:decide (13<=op/\op<=15)=true:=by simp;omega
            have HI9:Hid (IS w b S F ⟨sk.p+1,left S (sk.p+1),sk.t⟩ bad bn ⟨n.op,1,n.k,i0,i1,n.c⟩ (((w7.setCell ⟨bn,3,none⟩ (.int .i64 i0)).setCell ⟨bn,4,none⟩ (.int .i64 i1)).setCell ⟨bn,1,none⟩ (.int .i64 1))):=HI8.out.set 1 _ (nd_w HI8.out.nd 1)
            have HM:Hid (madeL n sk.t is=⟨n.op,1,n.k,i0,i1,n.c⟩):=by show _=_;rw [HIS.out];exact made_two HNN.out.2.2.1 _ (by have h9:=HNN.out.1;rw [if_neg (by omega),if_pos (by omega)])
            go_wp2_with (first|(go_at_call 28;refine (sQuant _ _).mono ?_;rintro e w' ⟨rfl,rfl⟩;rw [hqf])|(go_at_call 41;refine (sIn _ _ _ _).mono ?_;rintro e w' ⟨rfl,rfl⟩;rw [hin]))
            refine (putR _ b S _ HI9.out.fb' ⟨sk.p+1,left S (sk.p+1),sk.t⟩ bad HI9.out.rs ⟨n.op,1,n.k,i0,i1,n.c⟩ p _ rfl (by omega)).mono ?_
            rintro e wz hrp
            have HRP:Hid (RP w b S F bad (innerL (rdL f) p st) e wz):=by
             have h9:=rp_trans HI9.out.kb (fun k h=>.inl h) hrp
             rw [HSH.out,HM.out];exact h9
            obtain ⟨v,rfl⟩:=rp_ret HRP.out
            clear hrp
            go_wp2
            go_ret
            exact HRP.out
           ·
            have hq17:(op==17)=false:=beq_eq_false_iff_ne.2 (by omega)
            have hqf:quant op=false:=by
             unfold quant
             have e1:(op==19)=false:=beq_eq_false_iff_ne.2 (by omega)
             have e2:(op==20)=false:=beq_eq_false_iff_ne.2 (by omega)
             rw [e1,e2];rfl
            have hin:decide (13<=op/\op<=15)=false:=by simp;omega
            have hq16:(op==16)=true:=by simp;omega
            have hsum:IntKind.i64.wrap ((nth sk.t i0).w+(nth sk.t i1).w)=(nth sk.t i0).w+(nth sk.t i1).w:=by
             have h1:=HFT.out i0 hi0
             have h2:=HFT.out i1 hi1
             rw [IntKind.wrap_i64];omega
            go_upto_region 48 with (first|(go_at_call 28;refine (sQuant _ _).mono ?_;rintro e w' ⟨rfl,rfl⟩;rw [hqf])|(go_at_call 41;refine (sIn _ _ _ _).mono ?_;rintro e w' ⟨rfl,rfl⟩;rw [hin]))
            generalize (w7.setCell ⟨bn,3,none⟩ (.int .i64 i0)).setCell ⟨bn,4,none⟩ (.int .i64 i1)=w8 at HI8 ⊢
            obtain ⟨ta,tc,hrc,htn,haw⟩:=HI8.out.rs.rl
            have y2:=hrc.c2
            simp only at y2 htn haw
            clear hrc d0 d1 d2 d3 d4 d5 g1 g3 g4 g5
            rcases htn.2 with h0|⟨tb,tq,rfl,htc⟩
            ·omega
            have hw0:=(htc i0 hi0).c1
            rw [nth_get hi0] at hw0
            have hw1:=(htc i1 hi1).c1
            rw [nth_get hi1] at hw1
            have htb:¬ (F tb\/tb=bn):=haw.1 ⟨tb,tq,none⟩ (by omega) rfl
            have htn':tb≠bn:=fun e=>htb (.inr e)
            have htb':tb≠b:=fun e=>htb (.inl (by rw [e];exact HFB.out.1))
            have d1:=HI8.out.nd.c1
            have d3:=HI8.out.nd.c3
            have d4:=HI8.out.nd.c4
            simp only [Nat.zero_add] at d1 d3 d4
            have g1:=HI8.out.fr 1
            clear htc haw htn htb
            go_region_held (fun w'=>w'.cell? ⟨b,2,none⟩=some (.slice (some ⟨tb,tq,none⟩) sk.t.length tc)/\w'.cell? ⟨bn,3,none⟩=some (.int .i64 i0)/\w'.cell? ⟨bn,4,none⟩=some (.int .i64 i1)/\w'.cell? ⟨tb,tq+i0*6+1,none⟩=some (.int .i64 (nth sk.t i0).w)/\w'.cell? ⟨tb,tq+i1*6+1,none⟩=some (.int .i64 (nth sk.t i1).w)) ((first|exact ⟨y2,d3,d4,hw0,hw1⟩|exact ⟨set_keep (fun e=>hbn (congrArg Addr.block e)) y2,set_keep (by simp) d3,set_keep (by simp) d4,set_keep (fun e=>htn' (congrArg Addr.block e).symm) hw0,set_keep (fun e=>htn' (congrArg Addr.block e).symm) hw1⟩)) (fail)
            have HI9:Hid (IS w b S F ⟨sk.p+1,left S (sk.p+1),sk.t⟩ bad bn ⟨n.op,(nth sk.t i0).w+(nth sk.t i1).w,n.k,i0,i1,n.c⟩ (w8.setCell ⟨bn,1,none⟩ (.int .i64 ((nth sk.t i0).w+(nth sk.t i1).w))).drew):=(HI8.out.set 1 _ (nd_w HI8.out.nd _)).below ⟨rfl,rfl,rfl,Nat.le_refl _,fun _ _=>rfl⟩
            generalize (w8.setCell ⟨bn,1,none⟩ (.int .i64 ((nth sk.t i0).w+(nth sk.t i1).w))).drew=w9 at HI9 ⊢
            clear y2 d1 d3 d4 g1 HI8 HI7
            have d0:=HI9.out.nd.c0
            have d1:=HI9.out.nd.c1
            have d2:=HI9.out.nd.c2
            have d3:=HI9.out.nd.c3
            have d4:=HI9.out.nd.c4
            have d5:=HI9.out.nd.c5
            simp only [Nat.zero_add] at d1 d2 d3 d4 d5
            have HM:Hid (madeL n sk.t is=⟨n.op,(nth sk.t i0).w+(nth sk.t i1).w,n.k,i0,i1,n.c⟩):=by show _=_;rw [HIS.out];exact made_two HNN.out.2.2.1 _ (by have h9:=HNN.out.1;rw [if_neg (by omega),if_neg (by omega),if_pos (by omega)];simp [width])
            go_wp2_with fail
            refine (putR _ b S _ HI9.out.fb' ⟨sk.p+1,left S (sk.p+1),sk.t⟩ bad HI9.out.rs ⟨n.op,(nth sk.t i0).w+(nth sk.t i1).w,n.k,i0,i1,n.c⟩ p _ rfl (by omega)).mono ?_
            rintro e wz hrp
            have HRP:Hid (RP w b S F bad (innerL (rdL f) p st) e wz):=by
             have h9:=rp_trans HI9.out.kb (fun k h=>.inl h) hrp
             rw [HSH.out,HM.out];exact h9
            obtain ⟨v,rfl⟩:=rp_ret HRP.out
            clear hrp
            go_wp2
            go_ret
            exact HRP.out
         ·obtain ⟨i0,i1,i2,his⟩:∃ i0 i1 i2,is=[i0,i1,i2]:=by
           match is,hlen with
           | [i,j,l],_=>exact ⟨i,j,l,rfl⟩
          have HIS:Hid (is=[i0,i1,i2]):=his
          have hi0:i0 < sk.t.length:=HPP.out i0 (by simp [his])
          have hi1:i1 < sk.t.length:=HPP.out i1 (by simp [his])
          have ac0:=hac 0 (by simp [his])
          have ac1:=hac 1 (by simp [his])
          have ac2:=hac 2 (by simp [his])
          simp only [his,List.getElem_cons_zero,List.getElem_cons_succ,Nat.add_zero] at ac0 ac1 ac2
          clear hac his hlen
          have HI7a:Hid (IS w b S F ⟨sk.p+1,left S (sk.p+1),sk.t⟩ bad bn ⟨n.op,n.w,n.k,i0,n.b,n.c⟩ (w7.setCell ⟨bn,3,none⟩ (.int .i64 i0))):=HI7.out.set 3 _ (nd_a HI7.out.nd i0)
          have HI7b:Hid (IS w b S F ⟨sk.p+1,left S (sk.p+1),sk.t⟩ bad bn ⟨n.op,n.w,n.k,i0,i1,n.c⟩ ((w7.setCell ⟨bn,3,none⟩ (.int .i64 i0)).setCell ⟨bn,4,none⟩ (.int .i64 i1))):=HI7a.out.set 4 _ (nd_b HI7a.out.nd i1)
          have HI8:Hid (IS w b S F ⟨sk.p+1,left S (sk.p+1),sk.t⟩ bad bn ⟨n.op,n.w,n.k,i0,i1,i2⟩ (((w7.setCell ⟨bn,3,none⟩ (.int .i64 i0)).setCell ⟨bn,4,none⟩ (.int .i64 i1)).setCell ⟨bn,5,none⟩ (.int .i64 i2))):=HI7b.out.set 5 _ (nd_c HI7b.out.nd i2)
          clear HI7a HI7b
          have hopa:op<=18:=by omega
          have hopb:18<=op:=by omega
          clear ho3
          have hq17:(op==17)=false:=beq_eq_false_iff_ne.2 (by omega)
          have hqf:quant op=false:=by
           unfold quant
           have e1:(op==19)=false:=beq_eq_false_iff_ne.2 (by omega)
           have e2:(op==20)=false:=beq_eq_false_iff_ne.2 (by omega)
           rw [e1,e2];rfl
          have hin:decide (13<=op/\op<=15)=false:=by simp;omega
          have hq16:(op==16)=false:=by exact beq_eq_false_iff_ne.2 (by omega)
          have hq18:(op==18)=true:=by simp;omega
          go_upto_region 50 with (first|(go_at_call 28;refine (sQuant _ _).mono ?_;rintro e w' ⟨rfl,rfl⟩;rw [hqf])|(go_at_call 41;refine (sIn _ _ _ _).mono ?_;rintro e w' ⟨rfl,rfl⟩;rw [hin]))
          generalize ((w7.setCell ⟨bn,3,none⟩ (.int .i64 i0)).setCell ⟨bn,4,none⟩ (.int .i64 i1)).setCell ⟨bn,5,none⟩ (.int .i64 i2)=w8 at HI8 ⊢
          obtain ⟨ta,tc,hrc,htn,haw⟩:=HI8.out.rs.rl
          have y2:=hrc.c2
          simp only at y2 htn haw
          clear hrc d0 d1 d2 d3 d4 d5 g1 g3 g4 g5
          rcases htn.2 with h0|⟨tb,tq,rfl,htc⟩
          ·omega
          have hw1:=(htc i1 hi1).c1
          rw [nth_get hi1] at hw1
          have htb:¬ (F tb\/tb=bn):=haw.1 ⟨tb,tq,none⟩ (by omega) rfl
          have htn':tb≠bn:=fun e=>htb (.inr e)
          have htb':tb≠b:=fun e=>htb (.inl (by rw [e];exact HFB.out.1))
          have d1:=HI8.out.nd.c1
          have d3:=HI8.out.nd.c3
          have d4:=HI8.out.nd.c4
          simp only [Nat.zero_add] at d1 d3 d4
          have g1:=HI8.out.fr 1
          clear htc haw htn htb
          go_region_held (fun w'=>w'.cell? ⟨b,2,none⟩=some (.slice (some ⟨tb,tq,none⟩) sk.t.length tc)/\w'.cell? ⟨bn,4,none⟩=some (.int .i64 i1)/\w'.cell? ⟨tb,tq+i1*6+1,none⟩=some (.int .i64 (nth sk.t i1).w)) ((first|exact ⟨y2,d4,hw1⟩|exact ⟨set_keep (fun e=>hbn (congrArg Addr.block e)) y2,set_keep (by simp) d4,set_keep (fun e=>htn' (congrArg Addr.block e).symm) hw1⟩)) (fail)
          have HI9:Hid (IS w b S F ⟨sk.p+1,left S (sk.p+1),sk.t⟩ bad bn ⟨n.op,(nth sk.t i1).w,n.k,i0,i1,i2⟩ (w8.setCell ⟨bn,1,none⟩ (.int .i64 ((nth sk.t i1).w))).drew):=(HI8.out.set 1 _ (nd_w HI8.out.nd _)).below ⟨rfl,rfl,rfl,Nat.le_refl _,fun _ _=>rfl⟩
          generalize (w8.setCell ⟨bn,1,none⟩ (.int .i64 ((nth sk.t i1).w))).drew=w9 at HI9 ⊢
          clear y2 d1 d3 d4 g1 HI8 HI7
          have d0:=HI9.out.nd.c0
          have d1:=HI9.out.nd.c1
          have d2:=HI9.out.nd.c2
          have d3:=HI9.out.nd.c3
          have d4:=HI9.out.nd.c4
          have d5:=HI9.out.nd.c5
          simp only [Nat.zero_add] at d1 d2 d3 d4 d5
          have HM:Hid (madeL n sk.t is=⟨n.op,(nth sk.t i1).w,n.k,i0,i1,i2⟩):=by show _=_;rw [HIS.out];exact made_three _ (by have h9:=HNN.out.1;rw [if_neg (by omega),if_neg (by omega),if_neg (by omega),if_pos (by omega)];simp [width])
          go_wp2_with fail
          refine (putR _ b S _ HI9.out.fb' ⟨sk.p+1,left S (sk.p+1),sk.t⟩ bad HI9.out.rs ⟨n.op,(nth sk.t i1).w,n.k,i0,i1,i2⟩ p _ rfl (by omega)).mono ?_
          rintro e wz hrp
          have HRP:Hid (RP w b S F bad (innerL (rdL f) p st) e wz):=by
           have h9:=rp_trans HI9.out.kb (fun k h=>.inl h) hrp
           rw [HSH.out,HM.out];exact h9
          obtain ⟨v,rfl⟩:=rp_ret HRP.out
          clear hrp
          go_wp2
          go_ret
          exact HRP.out
        ·have hdq:((S[sk.p].toNat:Int) != 41)=true:=by
          have:S[sk.p].toNat≠41:=fun e=>h41 (UInt8.toNat_inj.1 e)
          simp;omega
         have HE:Hid (innerL (rdL f) p st=.error (2,p)):=inner_open HO.out HN2.out HPC.out (.inr ⟨S[sk.p],_,(by rw [HSR.out,left_cons hend]),h41⟩)
         clear h41
         go_wp2
         go_quiet (fail)
         go_wp2_with fail
         have HI6:Hid (IS w b S F sk bad bn n (wr.drewN nq)):=HP.out.it.below ⟨rfl,rfl,rfl,Nat.le_refl _,fun _ _=>rfl⟩
         refine (failR _ b S _ HI6.out.fb' _ bad HI6.out.rs 2 p _ rfl).mono ?_
         rintro e w7 ⟨rfl,hb7,hk7⟩
         have HB7:Hid (Bad w7 b S (2,p)):=hb7
         have HK7:Hid (Kb b w w7):=HI6.out.kb.trans hk7
         clear hb7 hk7
         go_wp2
         go_ret
         exact rp_err HE.out HK7.out rfl HB7.out
       ·have hd:decide ((S.size:Int)<=(sk.p:Int))=true:=by simp;omega
        have hez:¬ (sk.p:Int) < (S.size:Int):=by omega
        have HE:Hid (innerL (rdL f) p st=.error (2,p)):=inner_open HO.out HN2.out HPC.out (.inl (by rw [HSR.out,left_nil (by omega)]))
        go_wp2
        go_quiet (fail)
        go_wp2_with fail
        have HI6:Hid (IS w b S F sk bad bn n (wr.drewN nq)):=HP.out.it.below ⟨rfl,rfl,rfl,Nat.le_refl _,fun _ _=>rfl⟩
        refine (failR _ b S _ HI6.out.fb' _ bad HI6.out.rs 2 p _ rfl).mono ?_
        rintro e w7 ⟨rfl,hb7,hk7⟩
        have HB7:Hid (Bad w7 b S (2,p)):=hb7
        have HK7:Hid (Kb b w w7):=HI6.out.kb.trans hk7
        clear hb7 hk7
        go_wp2
        go_ret
        exact rp_err HE.out HK7.out rfl HB7.out
end Ss6
end Go.Proofs.YthanhcobfehmnaaGreat
