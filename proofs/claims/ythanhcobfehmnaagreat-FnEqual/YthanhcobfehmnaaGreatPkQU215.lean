import Derived.Test.YthanhcobfehmnaaGreatPkQU214
namespace Go.Proofs.YthanhcobfehmnaaGreat
set_option maxRecDepth 100000
set_option maxHeartbeats 8000000
set_option linter.unusedVariables false
namespace Tx1
open Nd0 Pl1 Tm0 Tm1 Tx0
def Bd (q:List UInt8):Prop:=q=[]\/∃ c q',q=c :: q'/\inWord c=false
theorem bd_nil:Bd []:=.inl rfl
theorem bd_blank (q:List UInt8):Bd (32 :: q):=.inr ⟨32,q,rfl,rfl⟩
theorem bd_shut (q:List UInt8):Bd (41 :: q):=.inr ⟨41,q,rfl,rfl⟩
theorem take_word {w q:List UInt8} (hw:∀ c∈w,inWord c=true) (hq:Bd q):(w++q).takeWhile inWord=w/\(w++q).dropWhile inWord=q:=by
 induction w with
 | nil =>
   rcases hq with rfl|⟨c,q',rfl,hc⟩
   ·exact ⟨rfl,rfl⟩
   ·simp [hc]
 | cons c w ih =>
   have h1:=hw c (by simp)
   have:=ih (fun d hd=>hw d (by simp [hd]))
   simp [h1,this.1,this.2]
theorem word_all (r:List UInt8):∀ c∈r.takeWhile inWord,inWord c=true:=by
 induction r with
 | nil=>intro c hc;cases hc
 | cons d r ih =>
   intro c hc
   rw [List.takeWhile_cons] at hc
   split at hc
   ·rename_i h
    rcases List.mem_cons.1 hc with e|e
    ·subst e;exact h
    ·exact ih c e
   ·cases hc
theorem word_past (st:Rd):st.r=st.word++st.past.r:=(List.takeWhile_append_dropWhile (p:=inWord) (l:=st.r)).symm
theorem past_p (st:Rd):st.past.p=st.p+st.word.length:=rfl
theorem past_t (st:Rd):st.past.t=st.t:=rfl
theorem word_mk {w q:List UInt8} (p:Nat) (t:List Nd) (hw:∀ c∈w,inWord c=true) (hq:Bd q):(Rd.mk p (w++q) t).word=w/\(Rd.mk p (w++q) t).past=⟨p+w.length,q,t⟩:=by
 have h:=take_word hw hq
 unfold Rd.word Rd.past
 simp only
 rw [h.1,h.2]
 exact ⟨rfl,rfl⟩
theorem blank_some {st s1:Rd} (h:st.blank=some s1):st.r=32 :: s1.r/\s1.p=st.p+1/\s1.t=st.t:=by
 unfold Rd.blank at h
 split at h
 ·cases h
 ·rename_i c r e
  split at h
  ·rename_i hc
   cases h
   subst hc
   exact ⟨e,rfl,rfl⟩
  ·cases h
theorem blank_mk (p:Nat) (q:List UInt8) (t:List Nd):(Rd.mk p (32 :: q) t).blank=some ⟨p+1,q,t⟩:=rfl
theorem nums_local {op:Int} {st s1:Rd} {n:Nd} (h:numsL op st=some (s1,n)) :
 ∃ x,st.r=x++s1.r/\s1.p=st.p+x.length/\s1.t=st.t/\(∀ y,Bd y->Bd (x++y))/\∀ p q t,Bd q->numsL op ⟨p,x++q,t⟩=some (⟨p+x.length,q,t⟩,n):=by
 unfold numsL at h
 split at h
 ·rename_i hop
  split at h
  ·cases h
  ·rename_i s2 h2
   split at h
   ·cases h
   ·rename_i k hk
    split at h
    ·cases h
    ·rename_i s3 h3
     split at h
     ·cases h
     ·rename_i w hw
      cases h
      obtain ⟨a1,a2,a3⟩:=blank_some h2
      obtain ⟨b1,b2,b3⟩:=blank_some h3
      have c1:=word_past s2
      have c2:=word_past s3
      refine ⟨32 :: (s2.word++32 :: s3.word),?_,?_,?_,?_,?_⟩
      ·rw [a1,c1,b1,c2];simp
      ·rw [past_p,b2,past_p,a2];simp;omega
      ·rw [past_t,b3,past_t,a3]
      ·intro y _;exact bd_blank _
      ·intro p q t hq
       have e1:(32 :: (s2.word++32 :: s3.word))++q=32 :: (s2.word++(32 :: (s3.word++q))):=by simp
       unfold numsL
       rw [if_pos hop,e1,blank_mk]
       simp only
       have m1:=word_mk (p+1) t (word_all s2.r) (bd_blank (s3.word++q))
       have m2:=word_mk (p+1+s2.word.length+1) t (word_all s3.r) hq
       have n1:(Rd.mk (p+1) (s2.word++32 :: (s3.word++q)) t).word=s2.word:=m1.1
       have n2:(Rd.mk (p+1) (s2.word++32 :: (s3.word++q)) t).past=⟨p+1+s2.word.length,32 :: (s3.word++q),t⟩:=m1.2
       rw [n1,n2,hk,blank_mk]
       simp only
       have n3:(Rd.mk (p+1+s2.word.length+1) (s3.word++q) t).word=s3.word:=m2.1
       have n4:(Rd.mk (p+1+s2.word.length+1) (s3.word++q) t).past=⟨p+1+s2.word.length+1+s3.word.length,q,t⟩:=m2.2
       rw [n3,n4,hw]
       simp only
       congr 3
       simp;omega
 ·rename_i hop
  split at h
  ·rename_i hq2
   split at h
   ·cases h
   ·rename_i s2 h2
    split at h
    ·cases h
    ·rename_i k b hk
     cases h
     obtain ⟨a1,a2,a3⟩:=blank_some h2
     have c1:=word_past s2
     refine ⟨32 :: s2.word,?_,?_,?_,?_,?_⟩
     ·rw [a1,c1];rfl
     ·rw [past_p,a2];simp;omega
     ·rw [past_t,a3]
     ·intro y _;exact bd_blank _
     ·intro p q t hq
      have e1:(32 :: s2.word)++q=32 :: (s2.word++q):=rfl
      have m1:=word_mk (p+1) t (word_all s2.r) hq
      have n1:(Rd.mk (p+1) (s2.word++q) t).word=s2.word:=m1.1
      have n2:(Rd.mk (p+1) (s2.word++q) t).past=⟨p+1+s2.word.length,q,t⟩:=m1.2
      unfold numsL
      rw [if_neg hop,if_pos hq2,e1,blank_mk]
      simp only
      rw [n1,n2,hk]
      simp only
      congr 3
      simp;omega
  ·rename_i hq2
   cases h
   refine ⟨[],rfl,rfl,rfl,fun y hy=>hy,fun p q t _=>?_⟩
   unfold numsL
   rw [if_neg hop,if_neg hq2]
   rfl
theorem opens_app {x:List UInt8} (q:List UInt8) (h:x≠[]):opens (x++q)=opens x:=by
 cases x with
 | nil=>exact absurd rfl h
 | cons c x=>rfl
def Local (f:Nat):Prop:=∀ (st st':Rd) (i:Nat),rdL f st=.ok (st',i) ->
 ∃ x,st.r=x++st'.r/\st'.p=st.p+x.length/\x≠[]/\∀ g q,x.length < g->(Bd q\/opens x=true)->rdL g ⟨st.p,x++q,st.t⟩=.ok (⟨st'.p,q,st'.t⟩,i)
theorem parts_local {f:Nat} (hf:Local f) (p0:Nat):∀ (c:Nat) (st s2:Rd) (is:List Nat),partsL (rdL f) p0 c st=.ok (s2,is) ->
 ∃ x,st.r=x++s2.r/\s2.p=st.p+x.length/\(∀ y,Bd y->Bd (x++y))/\∀ g q,x.length < g->Bd q->partsL (rdL g) p0 c ⟨st.p,x++q,st.t⟩=.ok (⟨s2.p,q,s2.t⟩,is):=by
 intro c
 induction c with
 | zero =>
   intro st s2 is h
   simp only [partsL] at h
   cases h
   exact ⟨[],rfl,rfl,fun y hy=>hy,fun g q _ _=>rfl⟩
 | succ c ih =>
   intro st s2 is h
   simp only [partsL] at h
   split at h
   ·cases h
   ·rename_i s1 hb
    split at h
    ·cases h
    ·rename_i s3 i hr
     split at h
     ·cases h
     ·rename_i s4 is' hp
      cases h
      obtain ⟨a1,a2,a3⟩:=blank_some hb
      obtain ⟨x1,b1,b2,b3,b4⟩:=hf s1 s3 i hr
      obtain ⟨x2,c1,c2,c3,c4⟩:=ih s3 s2 is' hp
      refine ⟨32 :: (x1++x2),?_,?_,fun y _=>bd_blank _,?_⟩
      ·rw [a1,b1,c1];simp
      ·rw [c2,b2,a2];simp;omega
      ·intro g q hg hq
       simp only [List.length_cons,List.length_append] at hg
       have e1:(32 :: (x1++x2))++q=32 :: (x1++(x2++q)):=by simp
       have k1:=b4 g (x2++q) (by omega) (.inl (c3 q hq))
       have k2:=c4 g q (by omega) hq
       rw [a2,a3] at k1
       simp only [partsL]
       rw [e1,blank_mk]
       simp only
       rw [k1]
       simp only
       rw [k2]
theorem inner_local {f:Nat} (hf:Local f) (st st':Rd) (p0 i:Nat) (h:innerL (rdL f) p0 st=.ok (st',i)) :
 ∃ x,st.r=x++st'.r/\st'.p=st.p+x.length/\∀ g q,x.length < g->innerL (rdL g) p0 ⟨st.p,x++q,st.t⟩=.ok (⟨st'.p,q,st'.t⟩,i):=by
 unfold innerL at h
 split at h
 ·cases h
 ·rename_i op count ho
  split at h
  ·cases h
  ·rename_i s1 n hn
   split at h
   ·cases h
   ·rename_i s2 is hp
    split at h
    ·cases h
    ·rename_i c r hr
     split at h
     ·rename_i hc
      subst hc
      split at h
      ·cases h
      ·rename_i t j hput
       cases h
       have w1:=word_past st
       obtain ⟨x1,a1,a2,a3,a4,a5⟩:=nums_local hn
       obtain ⟨x2,b1,b2,b3,b4⟩:=parts_local hf p0 count s1 s2 is hp
       refine ⟨st.word++(x1++(x2++[41])),?_,?_,?_⟩
       ·rw [w1,a1,b1,hr];simp
       ·show s2.p+1=_
        rw [b2,a2,past_p];simp;omega
       ·intro g q hg
        simp only [List.length_cons,List.length_append,List.length_nil] at hg
        have e1:(st.word++(x1++(x2++[41])))++q=st.word++(x1++(x2++(41 :: q))):=by simp
        have hb2:Bd (x2++(41 :: q)):=b3 _ (bd_shut q)
        have hb1:Bd (x1++(x2++(41 :: q))):=a4 _ hb2
        have m1:=word_mk st.p st.t (word_all st.r) hb1
        have n1:(Rd.mk st.p (st.word++(x1++(x2++(41 :: q)))) st.t).word=st.word:=m1.1
        have n2:(Rd.mk st.p (st.word++(x1++(x2++(41 :: q)))) st.t).past=⟨st.p+st.word.length,x1++(x2++(41 :: q)),st.t⟩:=m1.2
        have k1:=a5 (st.p+st.word.length) (x2++(41 :: q)) st.t hb2
        have k2:=b4 g (41 :: q) (by omega) (bd_shut q)
        rw [a2,past_p,a3,past_t] at k2
        unfold innerL
        rw [e1,n1,ho]
        simp only
        rw [n2,k1]
        simp only
        rw [k2]
        simp only [if_true]
        rw [hput]
     ·cases h
theorem leaf_local (st st':Rd) (i:Nat) (h:leafL st=.ok (st',i)) :
 st.r=st.word++st'.r/\st'.p=st.p+st.word.length/\st.word≠[]/\∀ q,Bd q->leafL ⟨st.p,st.word++q,st.t⟩=.ok (⟨st'.p,q,st'.t⟩,i):=by
 have w1:=word_past st
 have key:∀ q,Bd q->(Rd.mk st.p (st.word++q) st.t).word=st.word/\(Rd.mk st.p (st.word++q) st.t).past=⟨st.p+st.word.length,q,st.t⟩:=fun q hq=>word_mk st.p st.t (word_all st.r) hq
 have hne:st.word≠[]:=by
  intro e
  unfold leafL at h
  rw [e] at h
  simp [twoL] at h
 unfold leafL at h
 split at h
 ·rename_i a b h2
  split at h
  ·cases h
  ·rename_i t j hput
   cases h
   refine ⟨w1,rfl,hne,fun q hq=>?_⟩
   obtain ⟨n1,n2⟩:=key q hq
   unfold leafL
   rw [n1,n2,h2]
   simp only
   rw [hput]
   rfl
 ·rename_i h1
  split at h
  ·rename_i a b h2
   split at h
   ·cases h
   ·rename_i t j hput
    cases h
    refine ⟨w1,rfl,hne,fun q hq=>?_⟩
    obtain ⟨n1,n2⟩:=key q hq
    unfold leafL
    rw [n1,n2,h1,h2]
    simp only
    rw [hput]
    rfl
  ·cases h
theorem opens_cons {r:List UInt8} (h:opens r=true):r=40 :: r.tail:=by
 cases r with
 | nil=>cases h
 | cons c r=>have:c=40:=by simpa [opens] using h
             subst this;rfl
theorem word_opens (st:Rd) (h:opens st.r=false) (hw:st.word≠[]):opens st.word=false:=by
 have w1:=word_past st
 rw [w1,opens_app _ hw] at h
 exact h
theorem rd_local:∀ f,Local f:=by
 intro f
 induction f with
 | zero=>intro st st' i h;cases h
 | succ f ih =>
   intro st st' i h
   simp only [rdL] at h
   cases ho:opens st.r
   ·rw [ho] at h
    simp only [Bool.false_eq_true,if_false] at h
    obtain ⟨a1,a2,a3,a4⟩:=leaf_local st st' i h
    refine ⟨st.word,a1,a2,a3,fun g q hg hq=>?_⟩
    have hof:=word_opens st ho a3
    rw [hof] at hq
    have hq':Bd q:=by rcases hq with h|h
                      ·exact h
                      ·cases h
    cases g with
    | zero=>omega
    | succ g =>
      simp only [rdL]
      rw [opens_app q a3,hof]
      simp only [Bool.false_eq_true,if_false]
      exact a4 q hq'
   ·rw [ho,if_pos rfl] at h
    have hc:=opens_cons ho
    obtain ⟨x,a1,a2,a3⟩:=inner_local ih _ _ _ _ h
    refine ⟨40 :: x,?_,?_,by simp,?_⟩
    ·rw [hc];show 40 :: st.r.tail=40 :: (x++st'.r);rw [<- a1]
    ·rw [a2];simp;omega
    ·intro g q hg _
     cases g with
     | zero=>omega
     | succ g =>
       simp only [List.length_cons] at hg
       have k:=a3 g q (by omega)
       simp only [rdL]
       have:opens ((40 :: x)++q)=true:=rfl
       rw [if_pos this]
       exact k
theorem rd_sum {f:Nat} {st st':Rd} {i:Nat} (h:rdL f st=.ok (st',i)):st'.p+st'.r.length=st.p+st.r.length:=by
 obtain ⟨x,a1,a2,_,_⟩:=rd_local f st st' i h
 rw [a1,a2,List.length_append];omega
theorem put_err {t:List Nd} {n:Nd} {p:Nat} {e:Int × Nat} (h:putL t n p=.error e):(e.1=3\/e.1=4)/\e.2=p:=by
 unfold putL at h
 split at h
 ·cases h
 ·split at h
  ·split at h
   ·cases h;exact ⟨.inr rfl,rfl⟩
   ·cases h
  ·cases h;exact ⟨.inl rfl,rfl⟩
theorem put_ok {t t':List Nd} {n:Nd} {p i:Nat} (h:putL t n p=.ok (t',i)):i < t'.length/\∃ m,t'=t++m:=by
 unfold putL at h
 split at h
 ·rename_i j hj
  cases h
  have:=List.mem_of_find?_eq_some hj
  exact ⟨List.mem_range.1 this,[],by simp⟩
 ·split at h
  ·split at h
   ·cases h
   ·cases h;exact ⟨by simp,_,rfl⟩
  ·cases h
def Fails (f:Nat):Prop:=∀ (st:Rd) (e:Int × Nat),rdL f st=.error e->(e.1=2\/e.1=3\/e.1=4)/\e.2<=st.p+st.r.length
theorem parts_fail {f:Nat} (hf:Fails f) (p0:Nat):∀ (c:Nat) (st:Rd) (e:Int × Nat),partsL (rdL f) p0 c st=.error e->p0<=st.p->(e.1=2\/e.1=3\/e.1=4)/\e.2<=st.p+st.r.length:=by
 intro c
 induction c with
 | zero=>intro st e h;simp only [partsL] at h;cases h
 | succ c ih =>
   intro st e h hp
   simp only [partsL] at h
   split at h
   ·cases h;exact ⟨.inl rfl,by simp only;omega⟩
   ·rename_i s1 hb
    obtain ⟨a1,a2,a3⟩:=blank_some hb
    have hs:s1.p+s1.r.length=st.p+st.r.length:=by rw [a1,a2];simp;omega
    split at h
    ·rename_i e' hr
     cases h
     have:=hf s1 e hr
     rw [hs] at this;exact this
    ·rename_i s3 i hr
     have h3:=rd_sum hr
     split at h
     ·rename_i e' hp'
      cases h
      have hle:p0<=s3.p:=by
       obtain ⟨x,_,b2,_,_⟩:=rd_local f _ _ _ hr
       omega
      have:=ih s3 e hp' hle
      rw [h3,hs] at this;exact this
     ·cases h
theorem rd_fail:∀ f,Fails f:=by
 intro f
 induction f with
 | zero=>intro st e h;simp only [rdL] at h;cases h;exact ⟨.inl rfl,Nat.zero_le _⟩
 | succ f ih =>
   intro st e h
   simp only [rdL] at h
   split at h
   ·rename_i ho
    have hc:=opens_cons ho
    have hs:st.p+1+st.r.tail.length=st.p+st.r.length:=by
     have:st.r.length=st.r.tail.length+1:=by rw [hc];rfl
     omega
    unfold innerL at h
    split at h
    ·cases h;exact ⟨.inl rfl,by simp only;omega⟩
    ·split at h
     ·cases h;exact ⟨.inl rfl,by simp only;omega⟩
     ·rename_i s1 n hn
      obtain ⟨x1,a1,a2,a3,a4,a5⟩:=nums_local hn
      have w1:=word_past ⟨st.p+1,st.r.tail,st.t⟩
      have hs1:s1.p+s1.r.length=st.p+st.r.length:=by
       have e1:st.r.tail.length=(Rd.mk (st.p+1) st.r.tail st.t).word.length+(x1.length+s1.r.length):=by
        have:=congrArg List.length w1
        rw [a1,List.length_append,List.length_append] at this
        exact this
       have e2:s1.p=st.p+1+(Rd.mk (st.p+1) st.r.tail st.t).word.length+x1.length:=a2
       omega
      split at h
      ·rename_i e' hp
       cases h
       have hle:st.p<=s1.p:=by
        have e2:s1.p=st.p+1+(Rd.mk (st.p+1) st.r.tail st.t).word.length+x1.length:=a2
        omega
       have:=parts_fail ih st.p _ s1 e hp hle
       rw [hs1] at this;exact this
      ·split at h
       ·cases h;exact ⟨.inl rfl,by simp only;omega⟩
       ·split at h
        ·split at h
         ·rename_i e' hput
          cases h
          have:=put_err hput
          exact ⟨.inr this.1,by rw [this.2];omega⟩
         ·cases h
        ·cases h;exact ⟨.inl rfl,by simp only;omega⟩
   ·unfold leafL at h
    split at h
    ·split at h
     ·rename_i e' hput
      cases h
      have:=put_err hput
      exact ⟨.inr this.1,by rw [this.2];omega⟩
     ·cases h
    ·split at h
     ·split at h
      ·rename_i e' hput
       cases h
       have:=put_err hput
       exact ⟨.inr this.1,by rw [this.2];omega⟩
      ·cases h
     ·cases h;exact ⟨.inl rfl,by simp only;omega⟩
theorem rd_place {f:Nat} {st st':Rd} {i:Nat} (h:rdL f st=.ok (st',i)):i < st'.t.length:=by
 cases f with
 | zero=>cases h
 | succ f =>
   simp only [rdL] at h
   split at h
   ·unfold innerL at h
    split at h
    ·cases h
    ·split at h
     ·cases h
     ·split at h
      ·cases h
      ·split at h
       ·cases h
       ·split at h
        ·split at h
         ·cases h
         ·rename_i hput
          cases h;exact (put_ok hput).1
        ·cases h
   ·unfold leafL at h
    split at h
    ·split at h
     ·cases h
     ·rename_i hput
      cases h;exact (put_ok hput).1
    ·split at h
     ·split at h
      ·cases h
      ·rename_i hput
       cases h;exact (put_ok hput).1
     ·cases h
end Tx1
namespace Tx2
open Nd0 Pl1 Tm0 Tm1 Tm3 Tm8 Tx0 Tx1
def X (l:List Nd) (i:Nat):List UInt8:=txt (showTo l l.length) (i:Int)
theorem txt_nat (ts:List (List UInt8)) (i:Nat):txt ts (i:Int)=ts.getD i []:=by simp [txt]
theorem show_new (l:List Nd) (k:Nat):txt (showTo l (k+1)) (k:Int)=showN (nth l k) (showTo l k):=by
 rw [txt_nat]
 show (showTo l k++[_]).getD k []=_
 rw [List.getD_eq_getElem?_getD,List.getElem?_append_right (by rw [showTo_length];exact Nat.le_refl _),showTo_length]
 simp
theorem show_old (l:List Nd) {k i:Nat} (h:i < k):txt (showTo l (k+1)) (i:Int)=txt (showTo l k) (i:Int):=by
 rw [txt_nat,txt_nat]
 show (showTo l k++[_]).getD i []=_
 rw [List.getD_eq_getElem?_getD,List.getElem?_append_left (by rw [showTo_length];exact h),<- List.getD_eq_getElem?_getD]
theorem show_prefix (l:List Nd) {k n i:Nat} (hi:i < k) (hk:k<=n):txt (showTo l n) (i:Int)=txt (showTo l k) (i:Int):=by
 induction n with
 | zero=>omega
 | succ n ih =>
   by_cases e:k=n+1
   ·subst e;rfl
   ·rw [<- ih (by omega)];exact show_old l (by omega)
theorem with_congr {ts us:List (List UInt8)}:∀ (ps:List Int) (h:List UInt8),(∀ p∈ps,txt ts p=txt us p)->withParts ts h ps=withParts us h ps:=by
 intro ps
 induction ps with
 | nil=>intro h _;rfl
 | cons p ps ih =>
   intro h hp
   simp only [withParts]
   rw [hp p (by simp),ih _ (fun q hq=>hp q (by simp [hq]))]
theorem showN_congr {ts us:List (List UInt8)} {n:Nd} (h:∀ p∈parts n,txt ts p=txt us p):showN n ts=showN n us:=by
 unfold showN;rw [with_congr (parts n) (headL n) h]
theorem X_at {l:List Nd} (hD:Down l) {i:Nat} (hi:i < l.length):X l i=showN (nth l i) (showTo l l.length):=by
 unfold X
 rw [show_prefix l (k:=i+1) (n:=l.length) (by omega) (by omega),show_new]
 apply showN_congr
 intro p hp
 have hd:=hD i hi p hp
 obtain ⟨y,rfl⟩:∃ y:Nat,p=(y:Int):=⟨p.toNat,by omega⟩
 exact (show_prefix l (k:=i) (n:=l.length) (by omega) (by omega)).symm
theorem nth_app {t m:List Nd} {j:Nat} (h:j < t.length):nth (t++m) j=nth t j:=by
 unfold nth
 rw [List.getD_eq_getElem?_getD,List.getElem?_append_left h,<- List.getD_eq_getElem?_getD]
theorem nth_end (t:List Nd) (n:Nd):nth (t++[n]) t.length=n:=by
 unfold nth
 rw [List.getD_eq_getElem?_getD,List.getElem?_append_right (Nat.le_refl _)]
 simp
theorem showTo_app (t m:List Nd):∀ k,k<=t.length->showTo (t++m) k=showTo t k:=by
 intro k
 induction k with
 | zero=>intro _;rfl
 | succ k ih =>
   intro hk
   show showTo (t++m) k++[_]=showTo t k++[_]
   rw [ih (by omega),nth_app (by omega)]
theorem X_app (t m:List Nd) {j:Nat} (h:j < t.length):X (t++m) j=X t j:=by
 unfold X
 rw [show_prefix (t++m) (k:=t.length) (n:=(t++m).length) h (by simp),showTo_app t m _ (Nat.le_refl _)]
def tails (ts:List (List UInt8)) (ps:List Int):List UInt8:=ps.flatMap fun p=>32 :: txt ts p
theorem with_some {ts:List (List UInt8)}:∀ (ps:List Int) (h r:List UInt8),withParts ts h ps=some r->r=h++tails ts ps/\∀ p∈ps,txt ts p≠[]:=by
 intro ps
 induction ps with
 | nil=>intro h r e;cases e;exact ⟨by simp [tails],fun p hp=>by cases hp⟩
 | cons p ps ih =>
   intro h r e
   simp only [withParts] at e
   split at e
   ·cases e
   ·rename_i hne
    obtain ⟨h1,h2⟩:=ih _ _ e
    refine ⟨?_,?_⟩
    ·rw [h1];simp [tails]
    ·intro q hq
     rcases List.mem_cons.1 hq with e1|e1
     ·subst e1;exact hne
     ·exact h2 q e1
theorem showN_inner {n:Nd} {ts:List (List UInt8)} (h0:n.op≠0) (h1:n.op≠1) (h:showN n ts≠[]):showN n ts=40 :: (headL n++(tails ts (parts n)++[41]))/\(∀ p∈parts n,txt ts p≠[])/\(headL n++tails ts (parts n)).length+2<=4000:=by
 unfold showN at h ⊢
 rw [if_neg h0,if_neg h1] at h ⊢
 cases hw:withParts ts (headL n) (parts n) with
 | none=>rw [hw] at h;exact absurd rfl h
 | some r =>
   rw [hw] at h
   obtain ⟨a1,a2⟩:=with_some _ _ _ hw
   subst a1
   simp only at h ⊢
   split at h
   ·exact absurd rfl h
   ·rename_i hl
    rw [if_neg hl]
    exact ⟨by simp,a2,by omega⟩
def hdr (n:Nd):Nd :=
 if n.op=17 then ⟨n.op,n.w,n.k,0,0,0⟩ else if n.op=19\/n.op=20 then ⟨n.op,1,n.k,0,n.b,0⟩ else ⟨n.op,0,0,0,0,0⟩
theorem dig_word {c:UInt8} (h:isDig c=true):inWord c=true/\(c != 58)=true:=by
 unfold isDig at h
 simp at h
 have h1:c≠32:=by intro e;subst e;simp at h
 have h2:c≠41:=by intro e;subst e;simp at h
 have h3:c≠58:=by intro e;subst e;simp at h
 unfold inWord
 simp [h1,h2,h3]
theorem dec_word (n:Nat):∀ c∈dec n,inWord c=true:=fun c hc=>(dig_word (dec_all n c hc)).1
theorem two_dec (h:UInt8) {a b:Nat} (ha:a < 10 ^ 9) (hb:b < 10 ^ 9):twoL h (h :: (dec a++(58 :: dec b)))=some (a,b):=by
 have key:∀ s:List UInt8,(∀ c∈s,(c != 58)=true)->(s++(58 :: dec b)).takeWhile (fun x=>x != 58)=s/\(s++(58 :: dec b)).dropWhile (fun x=>x != 58)=58 :: dec b:=by
  intro s
  induction s with
  | nil=>intro _;exact ⟨rfl,rfl⟩
  | cons c s ih =>
    intro hs
    have h1:=hs c (by simp)
    have h2:=ih (fun d hd=>hs d (by simp [hd]))
    rw [List.cons_append,List.takeWhile_cons,List.dropWhile_cons,h1,if_pos rfl,if_pos rfl,h2.1,h2.2]
    exact ⟨rfl,rfl⟩
 obtain ⟨k1,k2⟩:=key (dec a) (fun c hc=>(dig_word (dec_all a c hc)).2)
 simp only [twoL,↓reduceIte]
 rw [k1,k2,num_dec ha]
 simp only
 rw [num_dec hb]
theorem two_word (h:UInt8) (hh:inWord h=true) (a b:Nat):∀ c∈h :: (dec a++(58 :: dec b)),inWord c=true:=by
 intro c hc
 rcases List.mem_cons.1 hc with e|e
 ·subst e;exact hh
 ·rcases List.mem_append.1 e with e|e
  ·exact dec_word a c e
  ·rcases List.mem_cons.1 e with e|e
   ·subst e;rfl
   ·exact dec_word b c e
theorem head_read {n:Nd} {ws:List Int} (hs:shapeOk n ws=true) (hw:1<=n.w/\n.w<=8) (hws:∀ x∈ws,x<=8) (h0:n.op≠0) (h1:n.op≠1) :
 ∃ w hd,headL n=w++hd/\(∀ c∈w,inWord c=true)/\opOf w=some (n.op,(parts n).length)/\(∀ y,Bd y->Bd (hd++y))/\∀ p q t,Bd q->numsL n.op ⟨p,hd++q,t⟩=some (⟨p+hd.length,q,t⟩,hdr n):=by
 obtain ⟨op,w,k,a,b,c⟩:=n
 simp only at h0 h1 hw
 have hnil:∀ y:List UInt8,Bd y->Bd ([]++y):=fun y hy=>hy
 have plain:∀ op:Int,op≠17->op≠19->op≠20->∀ (p:Nat) (q:List UInt8) (t:List Nd),Bd q->numsL op ⟨p,[]++q,t⟩=some (⟨p+([]:List UInt8).length,q,t⟩,hdr ⟨op,w,k,a,b,c⟩):=by
  intro op h17 h19 h20 p q t _
  unfold numsL hdr
  simp only
  rw [if_neg h17,if_neg (by omega),if_neg h17,if_neg (by omega)]
  rfl
 have hop:op=2\/op=3\/op=4\/op=5\/op=6\/op=7\/op=8\/op=9\/op=10\/op=11\/op=12\/op=13\/op=14\/op=15\/op=16\/op=17\/op=18\/op=19\/op=20:=by
  unfold shapeOk at hs
  simp only at hs
  rw [if_neg h0,if_neg h1] at hs
  by_cases e:op=2
  ·omega
  ·rw [if_neg e] at hs
   by_cases e:3<=op/\op<=12
   ·omega
   ·rw [if_neg e] at hs
    by_cases e:13<=op/\op<=15
    ·omega
    ·rw [if_neg e] at hs
     by_cases e:op=16
     ·omega
     ·rw [if_neg e] at hs
      by_cases e:op=17
      ·omega
      ·rw [if_neg e] at hs
       by_cases e:op=18
       ·omega
       ·rw [if_neg e] at hs
        by_cases e:op=19\/op=20
        ·omega
        ·rw [if_neg e] at hs;cases hs
 rcases hop with e|e|e|e|e|e|e|e|e|e|e|e|e|e|e|e|e|e|e<;>subst e
 ·exact ⟨wNot,[],by simp [headL],by decide,rfl,hnil,plain 2 (by omega) (by omega) (by omega)⟩
 ·exact ⟨[97,110,100],[],by simp [headL,wordsL],by decide,rfl,hnil,plain 3 (by omega) (by omega) (by omega)⟩
 ·exact ⟨[111,114],[],by simp [headL,wordsL],by decide,rfl,hnil,plain 4 (by omega) (by omega) (by omega)⟩
 ·exact ⟨[120,111,114],[],by simp [headL,wordsL],by decide,rfl,hnil,plain 5 (by omega) (by omega) (by omega)⟩
 ·exact ⟨[97,100,100],[],by simp [headL,wordsL],by decide,rfl,hnil,plain 6 (by omega) (by omega) (by omega)⟩
 ·exact ⟨[115,117,98],[],by simp [headL,wordsL],by decide,rfl,hnil,plain 7 (by omega) (by omega) (by omega)⟩
 ·exact ⟨[109,117,108],[],by simp [headL,wordsL],by decide,rfl,hnil,plain 8 (by omega) (by omega) (by omega)⟩
 ·exact ⟨[100,105,118],[],by simp [headL,wordsL],by decide,rfl,hnil,plain 9 (by omega) (by omega) (by omega)⟩
 ·exact ⟨[114,101,109],[],by simp [headL,wordsL],by decide,rfl,hnil,plain 10 (by omega) (by omega) (by omega)⟩
 ·exact ⟨[115,104,108],[],by simp [headL,wordsL],by decide,rfl,hnil,plain 11 (by omega) (by omega) (by omega)⟩
 ·exact ⟨[115,104,114],[],by simp [headL,wordsL],by decide,rfl,hnil,plain 12 (by omega) (by omega) (by omega)⟩
 ·exact ⟨[61],[],by simp [headL,wordsL],by decide,rfl,hnil,plain 13 (by omega) (by omega) (by omega)⟩
 ·exact ⟨[60],[],by simp [headL,wordsL],by decide,rfl,hnil,plain 14 (by omega) (by omega) (by omega)⟩
 ·exact ⟨[115,60],[],by simp [headL,wordsL],by decide,rfl,hnil,plain 15 (by omega) (by omega) (by omega)⟩
 ·exact ⟨[106,111,105,110],[],by simp [headL,wordsL],by decide,rfl,hnil,plain 16 (by omega) (by omega) (by omega)⟩
 ·have hk:0<=k/\k<=8:=by
   have hs':decide (0<=k/\k<=ws.getD 0 0 - w/\b=0/\c=0)=true:=hs
   replace hs:=of_decide_eq_true hs'
   have hx:ws.getD 0 0<=8:=by
    cases ws with
    | nil=>simp
    | cons x ws=>simpa using hws x (by simp)
   omega
  refine ⟨wSlice,32 :: (dec k.toNat++(32 :: dec w.toNat)),by simp [headL],by decide,rfl,fun y _=>bd_blank _,?_⟩
  intro p q t hq
  have e1:(32 :: (dec k.toNat++(32 :: dec w.toNat)))++q=32 :: (dec k.toNat++(32 :: (dec w.toNat++q))):=by simp
  have m1:=word_mk (p+1) t (dec_word k.toNat) (bd_blank (dec w.toNat++q))
  have m2:=word_mk (p+1+(dec k.toNat).length+1) t (dec_word w.toNat) hq
  unfold numsL hdr
  rw [if_pos rfl,e1,blank_mk]
  simp only
  rw [m1.1,m1.2,num_dec (by omega),blank_mk]
  simp only
  rw [m2.1,m2.2,num_dec (by omega)]
  simp only [if_true]
  have ek:((k.toNat:Nat):Int)=k:=by omega
  have ew:((w.toNat:Nat):Int)=w:=by omega
  rw [ek,ew]
  congr 3
  simp;omega
 ·exact ⟨wIf,[],by simp [headL],by decide,rfl,hnil,plain 18 (by omega) (by omega) (by omega)⟩
 ·have hk:0<=k/\k<=7/\1<=b/\b<=8:=by
   have hs':decide (0<=k/\k<=7/\1<=b/\b<=8/\ws.getD 0 0=1/\w=1/\c=0)=true:=hs
   replace hs:=of_decide_eq_true hs'
   omega
  refine ⟨wAll,32 :: (118 :: (dec k.toNat++(58 :: dec b.toNat))),by simp [headL],by decide,rfl,fun y _=>bd_blank _,?_⟩
  intro p q t hq
  have e1:(32 :: (118 :: (dec k.toNat++(58 :: dec b.toNat))))++q=32 :: ((118 :: (dec k.toNat++(58 :: dec b.toNat)))++q):=rfl
  have m1:=word_mk (p+1) t (two_word 118 rfl k.toNat b.toNat) hq
  show numsL 19 _=some (_,(⟨19,1,k,0,b,0⟩:Nd))
  unfold numsL
  rw [if_neg (by decide),if_pos (by decide),e1,blank_mk]
  simp only
  rw [m1.1,m1.2,two_dec 118 (by omega) (by omega)]
  simp only
  have ek:((k.toNat:Nat):Int)=k:=by omega
  have eb:((b.toNat:Nat):Int)=b:=by omega
  rw [ek,eb]
  congr 3
  simp;omega
 ·have hk:0<=k/\k<=7/\1<=b/\b<=8:=by
   have hs':decide (0<=k/\k<=7/\1<=b/\b<=8/\ws.getD 0 0=1/\w=1/\c=0)=true:=hs
   replace hs:=of_decide_eq_true hs'
   omega
  refine ⟨wSome,32 :: (118 :: (dec k.toNat++(58 :: dec b.toNat))),by simp [headL],by decide,rfl,fun y _=>bd_blank _,?_⟩
  intro p q t hq
  have e1:(32 :: (118 :: (dec k.toNat++(58 :: dec b.toNat))))++q=32 :: ((118 :: (dec k.toNat++(58 :: dec b.toNat)))++q):=rfl
  have m1:=word_mk (p+1) t (two_word 118 rfl k.toNat b.toNat) hq
  show numsL 20 _=some (_,(⟨20,1,k,0,b,0⟩:Nd))
  unfold numsL
  rw [if_neg (by decide),if_pos (by decide),e1,blank_mk]
  simp only
  rw [m1.1,m1.2,two_dec 118 (by omega) (by omega)]
  simp only
  have ek:((k.toNat:Nat):Int)=k:=by omega
  have eb:((b.toNat:Nat):Int)=b:=by omega
  rw [ek,eb]
  congr 3
  simp;omega
def reparts (n:Nd) (is:List Nat):Nd :=
 ⟨n.op,n.w,n.k,if 0 < is.length then (is.getD 0 0:Nat) else n.a,if 1 < is.length then (is.getD 1 0:Nat) else n.b,if 2 < is.length then (is.getD 2 0:Nat) else n.c⟩
theorem made_eq {n:Nd} {ws:List Int} {t:List Nd} {is:List Nat} (hs:shapeOk n ws=true) (hl:is.length=(parts n).length) (hwl:is.map (fun (i:Nat)=>width t (i:Int))=ws) (h0:n.op≠0) (h1:n.op≠1):madeL (hdr n) t is=reparts n is:=by
 obtain ⟨op,w,k,a,b,c⟩:=n
 simp only at h0 h1
 unfold shapeOk at hs
 simp only at hs
 rw [if_neg h0,if_neg h1] at hs
 have one:op=2\/op=17\/op=19\/op=20->∃ i,is=[i]:=by
  intro h
  rw [parts_one h] at hl
  match is,hl with
  | [i],_=>exact ⟨i,rfl⟩
 have two:3<=op/\op<=16->∃ i j,is=[i,j]:=by
  intro h
  rw [parts_two h] at hl
  match is,hl with
  | [i,j],_=>exact ⟨i,j,rfl⟩
 by_cases e:op=2
 ·subst e
  obtain ⟨i,rfl⟩:=one (by omega)
  rw [if_pos rfl] at hs
  subst hwl
  simp at hs
  unfold madeL hdr reparts
  simp
  omega
 rw [if_neg e] at hs
 by_cases e:3<=op/\op<=12
 ·obtain ⟨i,j,rfl⟩:=two (by omega)
  rw [if_pos e] at hs
  subst hwl
  simp at hs
  have e17:¬ op=17:=by omega
  have eq:¬ (op=19\/op=20):=by omega
  have e3:¬ (op=17\/op=19\/op=20):=by omega
  have e4:¬ (13<=op/\op<=15):=by omega
  have e5:¬ op=16:=by omega
  have e6:¬ op=18:=by omega
  unfold madeL hdr reparts
  simp only [if_neg e17,if_neg eq,if_neg e3,if_neg e4,if_neg e5,if_neg e6]
  simp
  omega
 rw [if_neg e] at hs
 by_cases e:13<=op/\op<=15
 ·obtain ⟨i,j,rfl⟩:=two (by omega)
  rw [if_pos e] at hs
  subst hwl
  simp at hs
  have e17:¬ op=17:=by omega
  have eq:¬ (op=19\/op=20):=by omega
  have e3:¬ (op=17\/op=19\/op=20):=by omega
  unfold madeL hdr reparts
  simp only [if_neg e17,if_neg eq,if_neg e3,if_pos e]
  simp
  omega
 rw [if_neg e] at hs
 by_cases e:op=16
 ·subst e
  obtain ⟨i,j,rfl⟩:=two (by omega)
  rw [if_pos rfl] at hs
  subst hwl
  simp at hs
  unfold madeL hdr reparts
  simp
  omega
 rw [if_neg e] at hs
 by_cases e:op=17
 ·subst e
  obtain ⟨i,rfl⟩:=one (by omega)
  rw [if_pos rfl] at hs
  subst hwl
  simp at hs
  unfold madeL hdr reparts
  simp
  omega
 rw [if_neg e] at hs
 by_cases e:op=18
 ·subst e
  rw [parts_three rfl] at hl
  obtain ⟨i,j,m,rfl⟩:∃ i j m,is=[i,j,m]:=by
   match is,hl with
   | [i,j,m],_=>exact ⟨i,j,m,rfl⟩
  rw [if_pos rfl] at hs
  subst hwl
  simp at hs
  unfold madeL hdr reparts
  simp
  omega
 rw [if_neg e] at hs
 by_cases e:op=19\/op=20
 ·obtain ⟨i,rfl⟩:=one (by omega)
  rw [if_pos e] at hs
  subst hwl
  simp at hs
  have e17:¬ op=17:=by omega
  have e3:op=17\/op=19\/op=20:=by omega
  unfold madeL hdr reparts
  simp only [if_neg e17,if_pos e,if_pos e3]
  simp
  omega
 rw [if_neg e] at hs
 cases hs
end Tx2
namespace Tm7
open Nd0 Pl1 Tm0 Tm1 Tm4
open Go.RowKit
theorem bits_andNot_u8_nat (a b:Nat) (ha:a < 256) (hb:b < 256):bits .andNot .u8 (a:Int) (b:Int)=((a &&& (255 - b):Nat):Int):=by
 have hx:a &&& (255 - b) < 2 ^ 8:=Nat.and_lt_two_pow _ (by omega)
 have h1:(BitVec.ofInt 8 (a:Int)).toNat=a:=by
  rw [BitVec.ofInt_natCast,BitVec.toNat_ofNat];exact Nat.mod_eq_of_lt (by omega)
 have h2:(BitVec.ofInt 8 (b:Int)).toNat=b:=by
  rw [BitVec.ofInt_natCast,BitVec.toNat_ofNat];exact Nat.mod_eq_of_lt (by omega)
 show IntKind.u8.wrap ((BitVec.ofInt 8 (a:Int) &&& ~~~ BitVec.ofInt 8 (b:Int)).toNat:Int)=_
 rw [BitVec.toNat_and,BitVec.toNat_not,h1,h2]
 simp only [IntKind.wrap,IntKind.signed,IntKind.bits]
 simp
 omega
theorem bit_not (b v:Nat) (hb:b < 256) (hv:v < 8):(255 - b).testBit v = !b.testBit v:=by
 have h:=Nat.testBit_two_pow_sub_succ (x:=b) (n:=8) (by omega) v
 have e:2 ^ 8 - (b+1)=255 - b:=by omega
 rw [e] at h
 rw [h,decide_eq_true hv,Bool.true_and]
def numsTo (s k:Nat):List Int:=((List.range k).filter fun v=>s.testBit v).map fun (i:Nat)=>(i:Int)
def Has (s:Nat) (r:List Bool):Prop:=s < 256/\∀ v,v < 8->s.testBit v=flag r v
theorem bit_one (k v:Nat):(2 ^ k).testBit v=decide (k=v):=Nat.testBit_two_pow
def Some_ (s:Nat) (rows:List (List Bool)) (n:Nd) (j:Nat):Prop:=s < 256/\∀ v,v < 8->s.testBit v=((n.op==1&&n.k==(v:Int))||inParts rows ((parts n).take j) v)
theorem some_start_var {rows:List (List Bool)} {n:Nd} {kk:Nat} (h1:n.op=1) (hk:n.k=(kk:Int)) (h7:kk<=7):Some_ (2 ^ kk) rows n 0:=by
 have e:=Nat.pow_le_pow_right (n:=2) (by omega) h7
 refine ⟨by omega,fun v hv=>?_⟩
 rw [bit_one,h1,hk]
 simp only [List.take_zero,inParts,List.any_nil,Bool.or_false]
 rw [Bool.eq_iff_iff];simp
 omega
theorem some_start {rows:List (List Bool)} {n:Nd} (h1:(n.op==1)=false):Some_ 0 rows n 0:=by
 refine ⟨by omega,fun v hv=>?_⟩
 rw [h1];simp [inParts]
theorem some_next {s t:Nat} {rows:List (List Bool)} {n:Nd} {j:Nat} (h:Some_ s rows n j) (hj:j < (parts n).length) (ht:Has t (row rows (parts n)[j])):Some_ (s ||| t) rows n (j+1):=by
 refine ⟨Nat.or_lt_two_pow (n:=8) h.1 ht.1,fun v hv=>?_⟩
 rw [Nat.testBit_or,h.2 v hv,ht.2 v hv,inParts_take _ _ _ _ hj,Bool.or_assoc]
theorem flag_freeRow (rows:List (List Bool)) (n:Nd) (v:Nat) (hv:v < 8):flag (freeRow rows n) v=freeAt rows n v:=by
 simp [flag,freeRow,List.getD,hv]
theorem some_end {s:Nat} {rows:List (List Bool)} {n:Nd} {j:Nat} (h:Some_ s rows n j) (hj:(parts n).length<=j) (hq:(n.op==19||n.op==20)=false):Has s (freeRow rows n):=by
 refine ⟨h.1,fun v hv=>?_⟩
 rw [h.2 v hv,flag_freeRow _ _ _ hv,List.take_of_length_le hj]
 unfold freeAt
 rw [hq];simp
theorem some_end_quant {s:Nat} {rows:List (List Bool)} {n:Nd} {j kk:Nat} (h:Some_ s rows n j) (hj:(parts n).length<=j) (hq:(n.op==19||n.op==20)=true) (hk:n.k=(kk:Int)) (h7:kk<=7):Has (s &&& (255 - 2 ^ kk)) (freeRow rows n):=by
 have e:=Nat.pow_le_pow_right (n:=2) (by omega) h7
 refine ⟨Nat.and_lt_two_pow _ (n:=8) (Nat.lt_of_le_of_lt (Nat.sub_le _ _) (by decide)),fun v hv=>?_⟩
 rw [Nat.testBit_and,h.2 v hv,flag_freeRow _ _ _ hv,List.take_of_length_le hj,bit_not _ _ (by omega) hv,bit_one]
 unfold freeAt
 rw [hq,hk]
 by_cases ev:kk=v
 ·subst ev;simp
 ·have e1:((kk:Int)==(v:Int))=false:=by simp;omega
  rw [e1];simp [ev]
theorem row_old (l:List Nd) (k:Nat) (p:Int) (h0:0<=p) (hp:p < k):row (freeRows l (k+1)) p=row (freeRows l k) p:=by
 unfold row
 show (freeRows l k++[_]).getD p.toNat []=_
 rw [List.getD_eq_getElem?_getD,List.getElem?_append_left (by rw [freeRows_length];omega),<- List.getD_eq_getElem?_getD]
theorem row_new (l:List Nd) (k:Nat):row (freeRows l (k+1)) (k:Int)=freeRow (freeRows l k) (nth l k):=by
 unfold row
 show (freeRows l k++[_]).getD k []=_
 rw [List.getD_eq_getElem?_getD,List.getElem?_append_right (by rw [freeRows_length];exact Nat.le_refl _),freeRows_length]
 simp
theorem nums_free {l:List Nd} {s:Nat} (h:Has s (freeTop l)):numsTo s 8=freeTo l 8:=by
 unfold numsTo freeTo
 congr 1
 apply List.filter_congr
 intro v hv
 exact h.2 v (List.mem_range.1 hv)
theorem set_zero {l:List Nd} {s:Nat} (hT:termOk l=true) (h:Has s (freeTop l)):s=0↔(freeL l).length=0:=by
 have e:freeL l=numsTo s 8:=by unfold freeL;rw [hT,nums_free h];rfl
 rw [e]
 constructor
 ·intro h0;subst h0;simp [numsTo]
 ·intro h0
  apply Nat.eq_of_testBit_eq
  intro v
  rw [Nat.zero_testBit]
  by_cases hv:v < 8
  ·cases hb:s.testBit v
   ·rfl
   ·have:(v:Int)∈numsTo s 8:=by
     unfold numsTo
     exact List.mem_map.2 ⟨v,List.mem_filter.2 ⟨List.mem_range.2 hv,hb⟩,rfl⟩
    rw [List.eq_nil_of_length_eq_zero h0] at this
    cases this
  ·exact Nat.testBit_lt_two_pow (Nat.lt_of_lt_of_le h.1 (Nat.pow_le_pow_right (n:=2) (by omega) (by omega:8<=v)))
end Tm7
namespace Tm12
open Nd0 Pl1 Tm0 Tm1 Tm4 Tm7
theorem nth_app_left {l:List Nd} {n:Nd} {i:Nat} (h:i < l.length):nth (l++[n]) i=nth l i:=by
 unfold nth
 rw [List.getD_eq_getElem?_getD,List.getElem?_append_left h,<- List.getD_eq_getElem?_getD]
theorem nth_app_last (l:List Nd) (n:Nd):nth (l++[n]) l.length=n:=by
 unfold nth
 rw [List.getD_eq_getElem?_getD,List.getElem?_append_right (Nat.le_refl _)]
 simp
theorem nodeOk_app {l:List Nd} {n:Nd} {i:Nat} (hi:i < l.length) (h:nodeOk l i=true):nodeOk (l++[n]) i=true:=by
 have hp:=parts_ok h
 have e:(parts (nth (l++[n]) i)).map (width (l++[n]))=(parts (nth l i)).map (width l):=by
  rw [nth_app_left hi]
  apply List.map_congr_left
  intro p hpm
  obtain ⟨j,hj,rfl⟩:=List.getElem_of_mem hpm
  have:=hp j hj
  unfold width
  rw [nth_app_left (by omega)]
 simp only [nodeOk] at h ⊢
 rw [e,nth_app_left hi]
 exact h
theorem termOk_quant {l:List Nd} (hT:termOk l=true) (hw:(nth l (l.length - 1)).w=1) (hl:l.length < 80) {op k b:Int} (hop:op=19\/op=20) (hk:0<=k/\k<=7) (hb:1<=b/\b<=8) :
 termOk (l++[⟨op,1,k,(l.length:Int) - 1,b,0⟩])=true:=by
 obtain ⟨hl1,hl2⟩:=term_len hT
 refine term_good (by simp;omega) (fun i hi=>?_)
 simp at hi
 by_cases e:i < l.length
 ·exact nodeOk_app e (term_node hT e)
 ·have e2:i=l.length:=by omega
  subst e2
  have hp:parts (nth (l++[⟨op,1,k,(l.length:Int) - 1,b,0⟩]) l.length)=[(l.length:Int) - 1]:=by
   rw [nth_app_last];exact parts_one (by simp only;omega)
  refine (node_kind (fun j hj=>?_) ?_).trans ?_
  ·simp only [hp] at hj ⊢
   simp at hj
   subst hj
   simp;omega
  ·rw [nth_app_last];simp
  ·rw [hp]
   have ew:width (l++[⟨op,1,k,(l.length:Int) - 1,b,0⟩]) ((l.length:Int) - 1)=1:=by
    unfold width
    have:((l.length:Int) - 1).toNat=l.length - 1:=by omega
    rw [this,nth_app_left (by omega)];exact hw
   rw [nth_app_last]
   simp only [List.map_cons,List.map_nil,ew]
   unfold shapeOk
   dsimp only
   rw [if_neg (by omega),if_neg (by omega),if_neg (by omega),if_neg (by omega),if_neg (by omega),if_neg (by omega),if_neg (by omega),if_neg (by omega),if_pos hop]
   simp;omega
end Tm12
namespace Tx3
open Nd0 Pl1 Tm0 Tm1 Tm3 Tm8 Tx0 Tx1 Tx2
structure Neat (t:List Nd):Prop where
 ok:∀ k,k < t.length->nodeOk t k=true
 one:∀ j k,j < t.length->k < t.length->nth t j=nth t k->j=k
theorem Neat.down {t:List Nd} (h:Neat t):Down t:=by
 intro i hi p hp
 obtain ⟨j,hj,rfl⟩:=List.getElem_of_mem hp
 exact parts_ok (h.ok i hi) j hj
theorem place_some {t:List Nd} {n:Nd} {j:Nat} (h:placeOf t n=some j):j < t.length/\nth t j=n:=by
 have h1:=List.mem_of_find?_eq_some h
 have h2:=List.find?_some h
 simp only [decide_eq_true_eq] at h2
 exact ⟨List.mem_range.1 h1,Nd.ext' h2⟩
theorem place_none {t:List Nd} {n:Nd} (h:placeOf t n=none) {j:Nat} (hj:j < t.length):nth t j≠n:=by
 intro e
 have:=List.find?_eq_none.1 h j (List.mem_range.2 hj)
 simp [e] at this
theorem place_at {t:List Nd} (hG:Neat t) {j:Nat} (hj:j < t.length):placeOf t (nth t j)=some j:=by
 cases h:placeOf t (nth t j) with
 | none=>exact absurd rfl (place_none h hj)
 | some i =>
   obtain ⟨h1,h2⟩:=place_some h
   rw [hG.one i j h1 hj h2]
theorem bd_tails (ts:List (List UInt8)) (ps:List Int) {y:List UInt8} (h:Bd y):Bd (tails ts ps++y):=by
 cases ps with
 | nil=>exact h
 | cons p ps=>exact bd_blank _
theorem widths_le {l:List Nd} {i:Nat} (hok:∀ k,k < i->nodeOk l k=true) (h:nodeOk l i=true):∀ x∈(parts (nth l i)).map (width l),x<=8:=by
 intro x hx
 obtain ⟨p,hp,rfl⟩:=List.mem_map.1 hx
 obtain ⟨j,hj,rfl⟩:=List.getElem_of_mem hp
 have:=parts_ok h j hj
 exact (node_width (hok (parts (nth l i))[j].toNat (by omega))).2
theorem node_read {l:List Nd} (hN:∀ k,k < l.length->nodeOk l k=true) (hD:Down l) {i:Nat} (hi:i < l.length) (hX:X l i≠[]) {t t2:List Nd} {is:List Nat} {g:Nat}
 (hl:is.length=(parts (nth l i)).length) (hw:is.map (fun (i:Nat)=>width t2 (i:Int))=(parts (nth l i)).map (width l))
 (hp:∀ p0 p q,Bd q->partsL (rdL g) p0 (parts (nth l i)).length ⟨p,tails (showTo l l.length) (parts (nth l i))++q,t⟩=.ok (⟨p+(tails (showTo l l.length) (parts (nth l i))).length,q,t2⟩,is))
 (p:Nat) (q:List UInt8) (hq:Bd q\/opens (X l i)=true) :
 rdL (g+1) ⟨p,X l i++q,t⟩=match putL t2 (reparts (nth l i) is) p with
  | .error e=>.error e
  | .ok (t3,j)=>.ok (⟨p+(X l i).length,q,t3⟩,j):=by
 have hok:=hN i hi
 have hXa:=X_at hD hi
 have hsh:shapeOk (nth l i) ((parts (nth l i)).map (width l))=true:=by
  simp only [nodeOk,Bool.and_eq_true] at hok;exact hok.2
 have hwd:=node_width hok
 have hle:=widths_le (fun k hk=>hN k (by omega)) hok
 generalize nth l i=n at hl hw hp hXa hsh hwd hle ⊢
 by_cases h0:n.op=0
 ·have hpn:parts n=[]:=parts_none (by omega) (by omega) (by omega)
  rw [hpn] at hl hp
  have his:is=[]:=List.eq_nil_of_length_eq_zero hl
  subst his
  have e2:t=t2:=by
   have:=hp 0 0 [] bd_nil
   simp only [List.length_nil,partsL] at this
   injection this with this
   injection this with this _
   injection this
  subst e2
  have hs2:(wok n.w n.k&&decide (n.a=0/\n.b=0/\n.c=0))=true:=by unfold shapeOk at hsh;rw [if_pos h0] at hsh;exact hsh
  simp only [Bool.and_eq_true,decide_eq_true_eq] at hs2
  obtain ⟨hwk,ha,hb,hc⟩:=hs2
  have hk:=wok_lt hwk
  have hx:X l i=35 :: (dec n.w.toNat++(58 :: dec n.k.toNat)):=by rw [hXa];unfold showN;rw [if_pos h0];simp
  have hne:reparts n []=⟨0,((n.w.toNat:Nat):Int),((n.k.toNat:Nat):Int),0,0,0⟩:=by
   unfold reparts;simp only [List.length_nil]
   apply Nd.ext';simp only
   refine ⟨h0,by omega,by omega,?_,?_,?_⟩
   ·rw [if_neg (by omega)];exact ha
   ·rw [if_neg (by omega)];exact hb
   ·rw [if_neg (by omega)];exact hc
  rw [hx] at hq ⊢
  have hbd:Bd q:=by rcases hq with h|h
                    ·exact h
                    ·cases h
  have m1:=word_mk p t (two_word 35 rfl n.w.toNat n.k.toNat) hbd
  have ho:opens ((35 :: (dec n.w.toNat++(58 :: dec n.k.toNat)))++q)=false:=rfl
  simp only [rdL]
  rw [ho]
  simp only [Bool.false_eq_true,if_false]
  unfold leafL
  rw [m1.1,m1.2,two_dec 35 (by omega) (by omega),hne]
  all_goals (simp only;rcases putL t ⟨0,((n.w.toNat:Nat):Int),((n.k.toNat:Nat):Int),0,0,0⟩ p with e|⟨t3,j⟩<;>rfl)
 by_cases h1:n.op=1
 ·have hpn:parts n=[]:=parts_none (by omega) (by omega) (by omega)
  rw [hpn] at hl hp
  have his:is=[]:=List.eq_nil_of_length_eq_zero hl
  subst his
  have e2:t=t2:=by
   have:=hp 0 0 [] bd_nil
   simp only [List.length_nil,partsL] at this
   injection this with this
   injection this with this _
   injection this
  subst e2
  have hs2:decide (0<=n.k/\n.k<=7/\n.a=0/\n.b=0/\n.c=0)=true:=by unfold shapeOk at hsh;rw [if_neg h0,if_pos h1] at hsh;exact hsh
  simp only [decide_eq_true_eq] at hs2
  obtain ⟨hk1,hk2,ha,hb,hc⟩:=hs2
  have hx:X l i=118 :: (dec n.k.toNat++(58 :: dec n.w.toNat)):=by rw [hXa];unfold showN;rw [if_neg h0,if_pos h1];simp
  have hne:reparts n []=⟨1,((n.w.toNat:Nat):Int),((n.k.toNat:Nat):Int),0,0,0⟩:=by
   unfold reparts;simp only [List.length_nil]
   apply Nd.ext';simp only
   refine ⟨h1,by omega,by omega,?_,?_,?_⟩
   ·rw [if_neg (by omega)];exact ha
   ·rw [if_neg (by omega)];exact hb
   ·rw [if_neg (by omega)];exact hc
  rw [hx] at hq ⊢
  have hbd:Bd q:=by rcases hq with h|h
                    ·exact h
                    ·cases h
  have m1:=word_mk p t (two_word 118 rfl n.k.toNat n.w.toNat) hbd
  have ho:opens ((118 :: (dec n.k.toNat++(58 :: dec n.w.toNat)))++q)=false:=rfl
  have hno:twoL 35 (118 :: (dec n.k.toNat++(58 :: dec n.w.toNat)))=none:=rfl
  simp only [rdL]
  rw [ho]
  simp only [Bool.false_eq_true,if_false]
  unfold leafL
  rw [m1.1,m1.2,hno]
  simp only
  rw [two_dec 118 (by omega) (by omega),hne]
  all_goals (simp only;rcases putL t ⟨1,((n.w.toNat:Nat):Int),((n.k.toNat:Nat):Int),0,0,0⟩ p with e|⟨t3,j⟩<;>rfl)
 ·rw [hXa] at hX
  obtain ⟨b1,b2,b3⟩:=showN_inner h0 h1 hX
  rw [hXa,b1]
  obtain ⟨w,hd,c1,c2,c3,c4,c5⟩:=head_read hsh hwd hle h0 h1
  have hm:madeL (hdr n) t2 is=reparts n is:=made_eq hsh hl hw h0 h1
  have e1:(40 :: (headL n++(tails (showTo l l.length) (parts n)++[41])))++q=40 :: (w++(hd++(tails (showTo l l.length) (parts n)++(41 :: q)))):=by rw [c1];simp
  rw [e1]
  have ho:opens (40 :: (w++(hd++(tails (showTo l l.length) (parts n)++(41 :: q)))))=true:=rfl
  simp only [rdL]
  rw [ho,if_pos rfl]
  have hb2:Bd (tails (showTo l l.length) (parts n)++(41 :: q)):=bd_tails _ _ (bd_shut q)
  have m1:=word_mk (p+1) t c2 (c4 _ hb2)
  have k1:=c5 (p+1+w.length) (tails (showTo l l.length) (parts n)++(41 :: q)) t hb2
  have k2:=hp p (p+1+w.length+hd.length) (41 :: q) (bd_shut q)
  unfold innerL
  simp only [List.tail_cons]
  rw [m1.1,m1.2,c3]
  simp only
  rw [k1]
  simp only
  rw [k2]
  simp only [if_true]
  rw [hm]
  have e3:p+1+w.length+hd.length+(tails (showTo l l.length) (parts n)).length+1=p+(40 :: (headL n++(tails (showTo l l.length) (parts n)++[41]))).length:=by
   rw [c1];simp;omega
  rw [e3]
  all_goals (rcases putL t2 (reparts n is) p with e|⟨t3,j⟩<;>rfl)
theorem parts_seq {g:Nat} {t:List Nd} (ts:List (List UInt8)) (p0:Nat):∀ (ps:List Int) (is:List Nat),is.length=ps.length ->
 (∀ x∈ps.zip is,∀ p q,Bd q->rdL g ⟨p,txt ts x.1++q,t⟩=.ok (⟨p+(txt ts x.1).length,q,t⟩,x.2)) ->
 ∀ p q,Bd q->partsL (rdL g) p0 ps.length ⟨p,tails ts ps++q,t⟩=.ok (⟨p+(tails ts ps).length,q,t⟩,is):=by
 intro ps
 induction ps with
 | nil =>
   intro is hl _ p q _
   have his:is=[]:=List.eq_nil_of_length_eq_zero hl
   subst his
   rfl
 | cons a ps ih =>
   intro is hl h p q hq
   match is,hl with
   | i :: is,hl =>
     have h1:=h (a,i) (by simp) (p+1) (tails ts ps++q) (bd_tails ts ps hq)
     have h2:=ih is (by simpa using hl) (fun x hx=>h x (by simp [hx])) (p+1+(txt ts a).length) q hq
     have e1:tails ts (a :: ps)++q=32 :: (txt ts a++(tails ts ps++q)):=by simp [tails]
     rw [e1,List.length_cons]
     simp only [partsL]
     rw [blank_mk]
     simp only
     rw [h1]
     simp only
     rw [h2]
     simp only
     congr 3
     simp [tails];omega
theorem X_len {l:List Nd} (hN:∀ k,k < l.length->nodeOk l k=true) (hD:Down l) {i:Nat} (hi:i < l.length):(X l i).length<=4000:=by
 have hok:=hN i hi
 have hXa:=X_at hD hi
 have hsh:shapeOk (nth l i) ((parts (nth l i)).map (width l))=true:=by
  simp only [nodeOk,Bool.and_eq_true] at hok;exact hok.2
 have hwd:=node_width hok
 generalize nth l i=n at hXa hsh hwd
 by_cases h0:n.op=0
 ·have hs2:(wok n.w n.k&&decide (n.a=0/\n.b=0/\n.c=0))=true:=by unfold shapeOk at hsh;rw [if_pos h0] at hsh;exact hsh
  simp only [Bool.and_eq_true] at hs2
  have hk:=wok_lt hs2.1
  have d1:=dec_len (n:=n.w.toNat) (by omega)
  have d2:=dec_len (n:=n.k.toNat) (by omega)
  rw [hXa];unfold showN;rw [if_pos h0];simp;omega
 by_cases h1:n.op=1
 ·have hs2:decide (0<=n.k/\n.k<=7/\n.a=0/\n.b=0/\n.c=0)=true:=by unfold shapeOk at hsh;rw [if_neg h0,if_pos h1] at hsh;exact hsh
  simp only [decide_eq_true_eq] at hs2
  have d1:=dec_len (n:=n.w.toNat) (by omega)
  have d2:=dec_len (n:=n.k.toNat) (by omega)
  rw [hXa];unfold showN;rw [if_neg h0,if_pos h1];simp;omega
 ·by_cases hX:showN n (showTo l l.length)=[]
  ·rw [hXa,hX];simp
  ·obtain ⟨b1,b2,b3⟩:=showN_inner h0 h1 hX
   rw [hXa,b1]
   simp at b3 ⊢;omega
theorem part_text {l:List Nd} (hD:Down l) {i:Nat} (hi:i < l.length) (hX:X l i≠[]) {p:Int} (hp:p∈parts (nth l i)):txt (showTo l l.length) p=X l p.toNat/\X l p.toNat≠[]/\(X l p.toNat).length+1 < (X l i).length/\opens (X l i)=true:=by
 have hd:=hD i hi p hp
 have hXa:=X_at hD hi
 have hpe:txt (showTo l l.length) p=X l p.toNat:=by
  unfold X;congr 1;omega
 have h0:(nth l i).op≠0:=by
  intro h;rw [parts_none (by omega) (by omega) (by omega)] at hp;cases hp
 have h1:(nth l i).op≠1:=by
  intro h;rw [parts_none (by omega) (by omega) (by omega)] at hp;cases hp
 rw [hXa] at hX
 obtain ⟨b1,b2,b3⟩:=showN_inner h0 h1 hX
 have b4:=b2 p hp
 rw [hpe] at b4
 have hmem:∀ (ps:List Int),p∈ps->(X l p.toNat).length+1<=(tails (showTo l l.length) ps).length:=by
  intro ps
  induction ps with
  | nil=>intro h;cases h
  | cons a ps ih =>
    intro h
    rcases List.mem_cons.1 h with e|e
    ·subst e;simp only [tails,List.flatMap_cons,List.length_append,List.length_cons];rw [hpe];omega
    ·have:=ih e
     simp only [tails,List.flatMap_cons,List.length_append,List.length_cons] at this ⊢;omega
 have:=hmem _ hp
 refine ⟨hpe,b4,?_,?_⟩
 ·rw [hXa,b1];simp;omega
 ·rw [hXa,b1];rfl
theorem reparts_self {l:List Nd} (hD:Down l) {i:Nat} (hi:i < l.length):reparts (nth l i) ((parts (nth l i)).map Int.toNat)=nth l i:=by
 have hd:=hD i hi
 unfold reparts
 rcases parts_cases (nth l i) with e|e|e|e
 ·rw [e];rfl
 ·rw [e] at hd ⊢
  have h1:=hd (nth l i).a (by simp)
  apply Nd.ext'
  simp;omega
 ·rw [e] at hd ⊢
  have h1:=hd (nth l i).a (by simp)
  have h2:=hd (nth l i).b (by simp)
  apply Nd.ext'
  simp;omega
 ·rw [e] at hd ⊢
  have h1:=hd (nth l i).a (by simp)
  have h2:=hd (nth l i).b (by simp)
  have h3:=hd (nth l i).c (by simp)
  apply Nd.ext'
  simp;omega
theorem mem_zip_map {α β:Type} (f:α->β):∀ (ps:List α) (x:α × β),x∈ps.zip (ps.map f)->x.1∈ps/\x.2=f x.1:=by
 intro ps
 induction ps with
 | nil=>intro x hx;cases hx
 | cons a ps ih =>
   intro x hx
   simp only [List.map_cons,List.zip_cons_cons,List.mem_cons] at hx
   rcases hx with e|e
   ·subst e;exact ⟨by simp,rfl⟩
   ·have:=ih x e;exact ⟨by simp [this.1],this.2⟩
theorem reread {t:List Nd} (hG:Neat t):∀ j,j < t.length->X t j≠[]->∀ g p q,(X t j).length < g->(Bd q\/opens (X t j)=true)->rdL g ⟨p,X t j++q,t⟩=.ok (⟨p+(X t j).length,q,t⟩,j):=by
 intro j
 induction j using Nat.strongRecOn with
 | ind j ih =>
   intro hj hX g p q hg hq
   have hD:=hG.down
   cases g with
   | zero=>omega
   | succ g =>
     have hp:∀ p0 p q,Bd q->partsL (rdL g) p0 (parts (nth t j)).length ⟨p,tails (showTo t t.length) (parts (nth t j))++q,t⟩=.ok (⟨p+(tails (showTo t t.length) (parts (nth t j))).length,q,t⟩,(parts (nth t j)).map Int.toNat):=by
      intro p0
      refine parts_seq (showTo t t.length) p0 (parts (nth t j)) _ (by simp) ?_
      intro x hx p q hq
      obtain ⟨h1,h2⟩:=mem_zip_map Int.toNat _ x hx
      obtain ⟨c1,c2,c3,c4⟩:=part_text hD hj hX h1
      have hd:=hD j hj x.1 h1
      rw [c1,h2]
      exact ih x.1.toNat (by omega) (by omega) c2 g p q (by omega) (.inl hq)
     have hw:((parts (nth t j)).map Int.toNat).map (fun (i:Nat)=>width t (i:Int))=(parts (nth t j)).map (width t):=by
      rw [List.map_map]
      apply List.map_congr_left
      intro p hp
      have hd:=hD j hj p hp
      simp only [Function.comp]
      congr 1;omega
     have key:=node_read hG.ok hD hj hX (by simp) hw hp p q hq
     rw [key,reparts_self hD hj]
     unfold putL
     rw [place_at hG hj]
theorem text_inj {t:List Nd} (hG:Neat t) {j k:Nat} (hj:j < t.length) (hk:k < t.length) (hX:X t j≠[]) (h:X t j=X t k):j=k:=by
 have h1:=reread hG j hj hX ((X t j).length+1) 0 [] (by omega) (.inl bd_nil)
 have h2:=reread hG k hk (by rw [<- h];exact hX) ((X t j).length+1) 0 [] (by rw [h];omega) (.inl bd_nil)
 rw [<- h,h1] at h2
 injection h2 with h2
 injection h2
end Tx3
end Go.Proofs.YthanhcobfehmnaaGreat
