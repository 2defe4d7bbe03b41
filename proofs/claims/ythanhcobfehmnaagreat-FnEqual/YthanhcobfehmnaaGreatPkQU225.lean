import Derived.Test.YthanhcobfehmnaaGreatSs4
namespace Go.Proofs.YthanhcobfehmnaaGreat
set_option maxRecDepth 100000
set_option maxHeartbeats 8000000
set_option linter.unusedVariables false
namespace Ss5
open Go.RowKit
open Nd0 Nd3 Tm0 Tx0 Tx1 Tx2 Tx3 Tx4 Ss0 Ss1 Ss2 Ss3 Ss4
structure RS (w:World) (b:Nat) (S:ByteArray) (F:Nat->Prop) (st:Rd) (bad:Int):Prop where
 rl:RL w b S st.p st.t 0 bad F
 r:st.r=left S st.p
 p:st.p<=S.size
 fit:Fit st.t
theorem rl_lt {w:World} {b:Nat} {S:ByteArray} {p:Int} {t:List Nd} {code bad:Int} {F:Nat->Prop} (h:RL w b S p t code bad F):b < w.heap.size:=by
 obtain ⟨a,c,hrc,_⟩:=h;exact hrc.lt
theorem rl_kept {w w':World} {b:Nat} {S:ByteArray} {p:Int} {t:List Nd} {code bad:Int} {F:Nat->Prop} (h:RL w b S p t code bad F) {D:Nat->Prop} (k:Kept D w w') (hd:∀ i,i < w.heap.size->¬ D i):RL w' b S p t code bad F:=by
 obtain ⟨a,c,hrc,hn,haw⟩:=h
 have hb:Below w.heap.size w w':=⟨k.os,k.tape,k.output,k.size,fun i hi=>k.block i hi (hd i hi)⟩
 exact ⟨a,c,hrc.kept k (hd b hrc.lt),hn.below hb,haw⟩
theorem RS.kept {w w':World} {b:Nat} {S:ByteArray} {F:Nat->Prop} {st:Rd} {bad:Int} (h:RS w b S F st bad) {D:Nat->Prop} (k:Kept D w w') (hd:∀ i,i < w.heap.size->¬ D i):RS w' b S F st bad:=⟨rl_kept h.rl k hd,h.r,h.p,h.fit⟩
theorem nodes_keptb {w w':World} {b:Nat} {a:Option Addr} {t:List Nd} {F:Nat->Prop} (hF:F b) (hn:Nodes w a t) (haw:∀ x,0 < t.length->a=some x->¬ F x.block) (k:Kept (fun i=>i=b) w w'):Nodes w' a t:=by
 by_cases h0:t.length=0
 ·exact ⟨hn.1,.inl h0⟩
 ·exact hn.kept k (fun x hx e=>haw x (by omega) hx (by have e':x.block=b:=e;rw [e'];exact hF))
abbrev Kb (b:Nat) (w w':World):Prop:=Kept (fun k=>k=b) w w'
def BP (w:World) (b:Nat) (S:ByteArray) (F:Nat->Prop) (st:Rd) (bad:Int) (e:Ending) (w':World):Prop :=
 Kb b w w'/\(st.blank=none->e=.returned (.bool false)/\RS w' b S F st bad)/\∀ s1,st.blank=some s1->e=.returned (.bool true)/\RS w' b S F s1 bad
theorem blankR (w:World) (b:Nat) (S:ByteArray) (F:Nat->Prop) (hF:Fb w b F) (st:Rd) (bad:Int) (h:RS w b S F st bad) (hs:S.size<=4000) :
 Calls Tryz.prog 122 #[.pointer (some ⟨b,0,none⟩)] w (BP w b S F st bad):=by
 obtain ⟨⟨a,c,hrc,hn,haw⟩,hr,hp,hf⟩:=h
 obtain ⟨p,r,t⟩:=st
 simp only at hrc hn haw hr hp hf
 subst hr
 refine (sBlank w b S p _ bad hrc (by omega) hp t).mono ?_
 rintro e w' ⟨hm,hk⟩
 refine ⟨hk,fun hb=>?_,fun s1 hb=>?_⟩
 ·rw [hb] at hm
  exact ⟨hm.1,⟨a,c,hm.2,nodes_keptb hF.1 hn haw.1 hk,haw⟩,rfl,hp,hf⟩
 ·rw [hb] at hm
  obtain ⟨h1,h2,h3,h4⟩:=hm
  subst h3
  exact ⟨h1,⟨a,c,h2,nodes_keptb hF.1 hn haw.1 hk,haw⟩,rfl,h4,hf⟩
theorem wordR (w:World) (b:Nat) (S:ByteArray) (F:Nat->Prop) (hF:Fb w b F) (st:Rd) (bad:Int) (h:RS w b S F st bad) (hs:S.size<=4000) :
 Calls Tryz.prog 100 #[.pointer (some ⟨b,0,none⟩)] w fun e w'=>∃ X:ByteArray,e=.returned (.string X)/\tl X=st.word/\X.size<=4000/\RS w' b S F st.past bad/\Kb b w w':=by
 obtain ⟨⟨a,c,hrc,hn,haw⟩,hr,hp,hf⟩:=h
 obtain ⟨p,r,t⟩:=st
 simp only at hrc hn haw hr hp hf
 subst hr
 refine (sWord w b S p _ bad hrc (by omega) hp t).mono ?_
 rintro e w' ⟨k,X,h1,h2,h3,h4,h5,h6,h7,h8⟩
 refine ⟨X,h1,h2,by omega,?_,h8⟩
 rw [h6]
 exact ⟨⟨a,c,h7,nodes_keptb hF.1 hn haw.1 h8,haw⟩,rfl,h5,hf⟩
def Bad (w:World) (b:Nat) (S:ByteArray) (x:Int × Nat):Prop:=∃ p tv,RC w b S p tv x.1 x.2
theorem failR (w:World) (b:Nat) (S:ByteArray) (F:Nat->Prop) (hF:Fb w b F) (st:Rd) (bad:Int) (h:RS w b S F st bad) (c:Int) (q:Nat) (qi:Int) (hq:qi=(q:Int)) :
 Calls Tryz.prog 67 #[.pointer (some ⟨b,0,none⟩),.int .i64 c,.int .i64 qi] w fun e w'=>e=.returned (.int .i64 0)/\Bad w' b S (c,q)/\Kb b w w':=by
 obtain ⟨⟨a,c',hrc,hn,haw⟩,hr,hp,hf⟩:=h
 subst hq
 refine (sFail w b S _ _ bad c q hrc).mono ?_
 rintro e w' ⟨h1,h2,h3⟩
 exact ⟨h1,⟨_,_,h2⟩,h3⟩
def RP (w:World) (b:Nat) (S:ByteArray) (F:Nat->Prop) (bad:Int) (res:Except (Int × Nat) (Rd × Nat)) (e:Ending) (w':World):Prop :=
 Kb b w w'/\(∀ x,res=.error x->e=.returned (.int .i64 0)/\Bad w' b S x)/\∀ st i,res=.ok (st,i)->e=.returned (.int .i64 i)/\RS w' b S F st bad
theorem rp_err {w:World} {b:Nat} {S:ByteArray} {F:Nat->Prop} {bad:Int} {res:Except (Int × Nat) (Rd × Nat)} {e:Ending} {w':World} {x:Int × Nat} (h:res=.error x) (hk:Kb b w w') (he:e=.returned (.int .i64 0)) (hb:Bad w' b S x):RP w b S F bad res e w':=by
 refine ⟨hk,fun y hy=>?_,fun st i hy=>?_⟩
 ·rw [h] at hy;cases hy;exact ⟨he,hb⟩
 ·rw [h] at hy;cases hy
theorem rp_ok {w:World} {b:Nat} {S:ByteArray} {F:Nat->Prop} {bad:Int} {res:Except (Int × Nat) (Rd × Nat)} {e:Ending} {w':World} {st:Rd} {i:Nat} (h:res=.ok (st,i)) (hk:Kb b w w') (he:e=.returned (.int .i64 i)) (hb:RS w' b S F st bad):RP w b S F bad res e w':=by
 refine ⟨hk,fun y hy=>?_,fun st' i' hy=>?_⟩
 ·rw [h] at hy;cases hy
 ·rw [h] at hy;cases hy;exact ⟨he,hb⟩
theorem put_fit {t t':List Nd} {n:Nd} {q i:Nat} (hf:Fit t) (h:putL t n q=.ok (t',i)):Fit t':=by
 unfold putL at h
 split at h
 ·cases h;exact hf
 ·split at h
  ·rename_i hno
   split at h
   ·cases h
   ·rename_i hle
    cases h
    refine ⟨by simp;omega,fun k hk=>?_⟩
    by_cases e:k < t.length
    ·exact (node_app e).2 (hf.2 k e)
    ·have:k=t.length:=by simp at hk;omega
     rw [this];exact hno
  ·cases h
theorem putR (w:World) (b:Nat) (S:ByteArray) (F:Nat->Prop) (hF:Fb w b F) (st:Rd) (bad:Int) (h:RS w b S F st bad) (n:Nd) (q:Nat) (qi:Int) (hqi:qi=(q:Int)) (hq:q<=4000) :
 Calls Tryz.prog 102 #[.pointer (some ⟨b,0,none⟩),.agg #[.int .i64 n.op,.int .i64 n.w,.int .i64 n.k,.int .i64 n.a,.int .i64 n.b,.int .i64 n.c],.int .i64 qi] w
  (RP w b S F bad (match putL st.t n q with | .error e=>.error e | .ok (t,i)=>.ok (⟨st.p,st.r,t⟩,i))):=by
 subst hqi
 refine (sPut w b S st.p st.t n q bad F hF h.rl h.fit (by omega)).mono ?_
 rintro e w' ⟨hk,hm⟩
 cases hp:putL st.t n q with
 | error x =>
   rw [hp] at hm
   obtain ⟨h1,tv,h2⟩:=hm
   exact rp_err rfl hk h1 ⟨_,_,h2⟩
 | ok x =>
   obtain ⟨t',i⟩:=x
   rw [hp] at hm
   exact rp_ok rfl hk hm.1 ⟨hm.2,h.r,h.p,put_fit h.fit hp⟩
theorem inner_no_op {rd:Rd->Except (Int × Nat) (Rd × Nat)} {p0:Nat} {st:Rd} (h:opOf st.word=none):innerL rd p0 st=.error (2,p0):=by
 unfold innerL;rw [h]
theorem inner_no_nums {rd:Rd->Except (Int × Nat) (Rd × Nat)} {p0:Nat} {st:Rd} {op:Int} {c:Nat} (h:opOf st.word=some (op,c)) (h1:numsL op st.past=none):innerL rd p0 st=.error (2,p0):=by
 unfold innerL;rw [h];simp only;rw [h1]
theorem inner_parts {rd:Rd->Except (Int × Nat) (Rd × Nat)} {p0:Nat} {st s1:Rd} {op:Int} {c:Nat} {n:Nd} {e:Int × Nat} (h:opOf st.word=some (op,c)) (h1:numsL op st.past=some (s1,n)) (h2:partsL rd p0 c s1=.error e):innerL rd p0 st=.error e:=by
 unfold innerL;rw [h];simp only;rw [h1];simp only;rw [h2]
theorem inner_open {rd:Rd->Except (Int × Nat) (Rd × Nat)} {p0:Nat} {st s1 s2:Rd} {op:Int} {c:Nat} {n:Nd} {is:List Nat} (h:opOf st.word=some (op,c)) (h1:numsL op st.past=some (s1,n)) (h2:partsL rd p0 c s1=.ok (s2,is)) (h3:s2.r=[]\/∃ x r,s2.r=x :: r/\x≠41):innerL rd p0 st=.error (2,p0):=by
 unfold innerL;rw [h];simp only;rw [h1];simp only;rw [h2];simp only
 rcases h3 with h3|⟨x,r,h3,hx⟩
 ·rw [h3]
 ·rw [h3];simp only;rw [if_neg hx]
theorem inner_shut {rd:Rd->Except (Int × Nat) (Rd × Nat)} {p0:Nat} {st s1 s2:Rd} {op:Int} {c:Nat} {n:Nd} {is:List Nat} {r:List UInt8} (h:opOf st.word=some (op,c)) (h1:numsL op st.past=some (s1,n)) (h2:partsL rd p0 c s1=.ok (s2,is)) (h3:s2.r=41 :: r) :
 innerL rd p0 st=match putL s2.t (madeL n s2.t is) p0 with | .error e=>.error e | .ok (t,i)=>.ok (⟨s2.p+1,r,t⟩,i):=by
 unfold innerL;rw [h];simp only;rw [h1];simp only;rw [h2];simp only;rw [h3];simp only [if_true]
 rcases putL s2.t (madeL n s2.t is) p0 with e|⟨t,i⟩<;>rfl
theorem parts_snoc {rd:Rd->Except (Int × Nat) (Rd × Nat)} {p0:Nat}:∀ (k:Nat) (st sk s1 s2:Rd) (is:List Nat) (i:Nat),partsL rd p0 k st=.ok (sk,is)->sk.blank=some s1->rd s1=.ok (s2,i)->partsL rd p0 (k+1) st=.ok (s2,is++[i]):=by
 intro k
 induction k with
 | zero =>
   intro st sk s1 s2 is i h hb hr
   simp only [partsL] at h
   cases h
   simp only [partsL]
   rw [hb];simp only;rw [hr];rfl
 | succ k ih =>
   intro st sk s1 s2 is i h hb hr
   simp only [partsL] at h
   split at h
   ·cases h
   ·rename_i t1 hb1
    split at h
    ·cases h
    ·rename_i t2 j hr1
     split at h
     ·cases h
     ·rename_i t3 js hp
      cases h
      have:=ih _ _ _ _ _ _ hp hb hr
      rw [partsL,hb1];simp only;rw [hr1];simp only;rw [this];rfl
theorem parts_fail1 {rd:Rd->Except (Int × Nat) (Rd × Nat)} {p0:Nat}:∀ (k c:Nat) (st sk:Rd) (is:List Nat) (e:Int × Nat),k < c->partsL rd p0 k st=.ok (sk,is)->((sk.blank=none/\e=(2,p0))\/∃ s1,sk.blank=some s1/\rd s1=.error e)->partsL rd p0 c st=.error e:=by
 intro k
 induction k with
 | zero =>
   intro c st sk is e hc h hf
   simp only [partsL] at h
   cases h
   cases c with
   | zero=>omega
   | succ c =>
     simp only [partsL]
     rcases hf with ⟨hb,rfl⟩|⟨s1,hb,hr⟩
     ·rw [hb]
     ·rw [hb];simp only;rw [hr]
 | succ k ih =>
   intro c st sk is e hc h hf
   cases c with
   | zero=>omega
   | succ c =>
     simp only [partsL] at h
     split at h
     ·cases h
     ·rename_i t1 hb1
      split at h
      ·cases h
      ·rename_i t2 j hr1
       split at h
       ·cases h
       ·rename_i t3 js hp
        cases h
        have:=ih c _ _ _ _ (by omega) hp hf
        simp only [partsL]
        rw [hb1];simp only;rw [hr1];simp only;rw [this]
theorem parts_len {rd:Rd->Except (Int × Nat) (Rd × Nat)} {p0:Nat}:∀ (c:Nat) (st sk:Rd) (is:List Nat),partsL rd p0 c st=.ok (sk,is)->is.length=c:=by
 intro c
 induction c with
 | zero=>intro st sk is h;simp only [partsL] at h;cases h;rfl
 | succ c ih =>
   intro st sk is h
   simp only [partsL] at h
   split at h
   ·cases h
   ·split at h
    ·cases h
    ·split at h
     ·cases h
     ·rename_i hp
      cases h
      simp [ih _ _ _ hp]
end Ss5
namespace Ss5b
open Nd0 Tm0 Tx0 Tx1 Tx2 Tx3 Tx4
def Grows (f:Nat):Prop:=∀ (st st':Rd) (i:Nat),rdL f st=.ok (st',i)->∃ m,st'.t=st.t++m
theorem parts_grow {f:Nat} (hf:Grows f) (p0:Nat):∀ (c:Nat) (st s2:Rd) (is:List Nat),partsL (rdL f) p0 c st=.ok (s2,is)->(∃ m,s2.t=st.t++m)/\∀ i∈is,i < s2.t.length:=by
 intro c
 induction c with
 | zero=>intro st s2 is h;simp only [partsL] at h;cases h;exact ⟨⟨[],by simp⟩,fun i hi=>by cases hi⟩
 | succ c ih =>
   intro st s2 is h
   simp only [partsL] at h
   split at h
   ·cases h
   ·rename_i s1 hb
    split at h
    ·cases h
    ·rename_i s3 i hr
     split at h
     ·cases h
     ·rename_i s4 js hp
      cases h
      obtain ⟨_,_,a3⟩:=blank_some hb
      obtain ⟨m1,e1⟩:=hf _ _ _ hr
      obtain ⟨⟨m2,e2⟩,h2⟩:=ih _ _ _ hp
      refine ⟨⟨m1++m2,by rw [e2,e1,a3];simp⟩,?_⟩
      intro j hj
      rcases List.mem_cons.1 hj with e|e
      ·subst e
       have:=rd_place hr
       rw [e2,List.length_append];omega
      ·exact h2 j e
theorem rd_grow:∀ f,Grows f:=by
 intro f
 induction f with
 | zero=>intro st st' i h;cases h
 | succ f ih =>
   intro st st' i h
   simp only [rdL] at h
   split at h
   ·unfold innerL at h
    split at h
    ·cases h
    ·split at h
     ·cases h
     ·rename_i s1 n hn
      split at h
      ·cases h
      ·rename_i s2 is hp
       split at h
       ·cases h
       ·split at h
        ·split at h
         ·cases h
         ·rename_i t j hput
          cases h
          obtain ⟨_,m1,e1⟩:=put_ok hput
          obtain ⟨⟨m2,e2⟩,_⟩:=parts_grow ih st.p _ s1 s2 is hp
          obtain ⟨x,_,_,e3,_⟩:=nums_local hn
          refine ⟨m2++m1,?_⟩
          simp only
          rw [e1,e2,e3]
          simp [Rd.past]
        ·cases h
   ·unfold leafL at h
    split at h
    ·split at h
     ·cases h
     ·rename_i hput
      cases h;exact (put_ok hput).2
    ·split at h
     ·split at h
      ·cases h
      ·rename_i hput
       cases h;exact (put_ok hput).2
     ·cases h
theorem parts_places {f p0 c:Nat} {st s2:Rd} {is:List Nat} (h:partsL (rdL f) p0 c st=.ok (s2,is)):∀ i∈is,i < s2.t.length:=(parts_grow (rd_grow f) p0 c st s2 is h).2
theorem nums_node {op:Int} {st s:Rd} {n:Nd} (h:numsL op st=some (s,n)):n.op=op/\n.a=0/\n.c=0/\(n.op=17\/n.op=19\/n.op=20\/(n.w=0/\n.k=0/\n.b=0)):=by
 unfold numsL at h
 split at h
 ·rename_i h17
  split at h
  ·cases h
  ·split at h
   ·cases h
   ·split at h
    ·cases h
    ·split at h
     ·cases h
     ·cases h;exact ⟨rfl,rfl,rfl,.inl h17⟩
 ·split at h
  ·rename_i hq
   split at h
   ·cases h
   ·split at h
    ·cases h
    ·cases h;exact ⟨rfl,rfl,rfl,.inr (by rcases hq with e|e<;>simp [e])⟩
  ·cases h;exact ⟨rfl,rfl,rfl,.inr (.inr (.inr ⟨rfl,rfl,rfl⟩))⟩
theorem parts_left {f p0 c:Nat} {st s2:Rd} {is:List Nat} (h:partsL (rdL f) p0 c st=.ok (s2,is)):s2.p+s2.r.length=st.p+st.r.length:=by
 obtain ⟨x,a1,a2,_,_⟩:=parts_local (rd_local f) p0 c st s2 is h
 rw [a1,a2,List.length_append];omega
theorem nums_left {op:Int} {st s:Rd} {n:Nd} (h:numsL op st=some (s,n)):s.p+s.r.length=st.p+st.r.length:=by
 obtain ⟨x,a1,a2,_,_,_⟩:=nums_local h
 rw [a1,a2,List.length_append];omega
theorem past_left (st:Rd):st.past.p+st.past.r.length=st.p+st.r.length:=by
 have:=congrArg List.length (word_past st)
 rw [List.length_append] at this
 rw [past_p];omega
theorem blank_left {st s1:Rd} (h:st.blank=some s1):s1.p+s1.r.length=st.p+st.r.length/\s1.r.length < st.r.length:=by
 obtain ⟨a1,a2,_⟩:=blank_some h
 rw [a1,a2];simp;omega
theorem made_one {n:Nd} {t:List Nd} {i:Nat} (hc:n.c=0) (W:Int) (hw:W=if n.op=17\/n.op=19\/n.op=20 then n.w else if 13<=n.op/\n.op<=15 then 1 else if n.op=16 then width t i+width t n.b else if n.op=18 then width t n.b else width t i):madeL n t [i]=⟨n.op,W,n.k,i,n.b,n.c⟩:=by
 unfold madeL;rw [hw,hc];simp
theorem made_two {n:Nd} {t:List Nd} {i j:Nat} (hc:n.c=0) (W:Int) (hw:W=if n.op=17\/n.op=19\/n.op=20 then n.w else if 13<=n.op/\n.op<=15 then 1 else if n.op=16 then width t i+width t j else if n.op=18 then width t j else width t i):madeL n t [i,j]=⟨n.op,W,n.k,i,j,n.c⟩:=by
 unfold madeL;rw [hw,hc];simp
theorem made_three {n:Nd} {t:List Nd} {i j k:Nat} (W:Int) (hw:W=if n.op=17\/n.op=19\/n.op=20 then n.w else if 13<=n.op/\n.op<=15 then 1 else if n.op=16 then width t i+width t j else if n.op=18 then width t j else width t i):madeL n t [i,j,k]=⟨n.op,W,n.k,i,j,k⟩:=by
 unfold madeL;rw [hw];simp
end Ss5b
end Go.Proofs.YthanhcobfehmnaaGreat
