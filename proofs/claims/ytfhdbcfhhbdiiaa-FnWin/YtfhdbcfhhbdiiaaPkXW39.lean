import Derived.Test.YtfhdbcfhhbdiiaaWp16
namespace Go.Proofs.Ytfhdbcfhhbdiiaa
set_option maxRecDepth 100000
set_option maxHeartbeats 8000000
set_option linter.unusedVariables false
namespace Wp17
open Go.RowKit
open Nd0 (Kept Ints WInts lt_of_cell)
open Nd6 (Bools)
open Ta1 (tab)
open Ta2 (bitB)
open Tc2 (tv ret_bool)
open Tc5 (Lay)
open Td1 (knw)
open Te1 (iKnown iBitOk)
open Ss0 (bs)
open Ap0 Wp12 Wp15 Wp16
theorem PoW.of_below {T:Type} {k:Kn} {J:T->Value->World->Prop} {SJ:T->Nat->Prop} {W W1:World} {t t':T} {vs:List Int} {vv:Value} {r:Bool} {e:Ending} {W':World} (hb:Below W.heap.size W W1) (h:PoW k J SJ W1 t vs vv r t' e W'):PoW k J SJ W t vs vv r t' e W':=by
 obtain ⟨h1,vv',h2,h3,h4,h5⟩:=h
 have:=hb.size
 exact ⟨h1,vv',h2,kept_on (Kept.ofBelow hb) h3 (fun _ _ h=>h),fun b hb'=>(h4 b hb').imp_right (fun h=>by omega),fun b hb'=>(h5 b hb').imp_right (fun h=>by omega)⟩
theorem PoW.same {T:Type} {k:Kn} {J:T->Value->World->Prop} {SJ:T->Nat->Prop} {W W':World} {t:T} {vs:List Int} {vv:Value} {r:Bool} (hb:Below W.heap.size W W') (h:Wl k J t vs vv W'):PoW k J SJ W t vs vv r t (.returned (.bool r)) W' :=
 ⟨rfl,vv,h,Kept.ofBelow hb,fun b hb=>.inl hb,fun b hb=>.inl hb⟩
/-- What is known. -/
theorem iFromKnown {T:Type} (k:Kn) (J:T->Value->World->Prop) (SJ:T->Nat->Prop) (ks:Ks k) (jm:Jm k J) (W:World) (t:T) (vs:List Int) (vv:Value) (n:Nat) (F:Nat->Bool) (hn:n<=12) (r:Bool)
 (hW:Wl k J t vs vv W) (hk:bitB (knw n F)=true) (hr:r=decide (knw n F=k.v)) :
 Calls Try.prog 58 #[tv (n:Int) (bs (tab n F)),ptr k.g,ptr k.vb,ptr k.gb,ptr k.wb] W (PoW k J SJ W t vs vv r t):=by
 obtain ⟨X0,hX0⟩:∃ X,X=W.alloc (.cells #[.int .i64 (n:Int),.string (bs (tab n F))] 26):=⟨_,rfl⟩
 have b0:Below W.heap.size W X0:=by rw [hX0];exact (Below.refl _ _).alloc (Nat.le_refl _) _
 have HB0:Hid (Below W.heap.size W X0):=b0
 have HL0:Hid (Lay X0 W.heap.size (.int .i64 (n:Int)) (.string (bs (tab n F)))):=by rw [hX0];exact Lay.made _ _ _ _
 have hE:W.alloc (.cells #[.int .i64 (n:Int),.string (bs (tab n F))] 26)=X0:=hX0.symm
 have HW0:Hid (Wl k J t vs vv X0):=hW.below ks jm b0
 have HKS:Hid (Ks k):=ks
 have HJM:Hid (Jm k J):=jm
 have HKN:Hid (∀ W,Calls Try.prog 59 #[tv (n:Int) (bs (tab n F))] W fun e w'=>e=.returned (.int .i64 (knw n F))/\Below W.heap.size W w'):=fun W=>iKnown n F W hn
 have HBO:Hid (∀ W,Calls Try.prog 54 #[.int .i64 (knw n F)] W fun e w'=>e=.returned (.bool true)/\w'=W):=fun W=>by
  have:=iBitOk (knw n F) W
  rwa [hk] at this
 have HRR:Hid (r=decide (knw n F=k.v)):=hr
 clear hX0 b0 hW hk hr hn
 generalize knw n F=kn at *
 generalize bs (tab n F)=S at *
 go_enter Try.func58,Try.ntmps58
 go_upto_region 1 with fail
 clear hE
 obtain ⟨d0,d1,_,_⟩:=HL0.out
 have hd:=HL0.out.lt
 go_wp2_with fail
 clear d0 d1 hd
 refine (HKN.out _).mono ?_
 rintro e w1 ⟨rfl,hb1⟩
 have HB1:Hid (Below W.heap.size W w1):=HB0.out.trans (hb1.mono HB0.out.size)
 have HW1:Hid (Wl k J t vs vv w1):=HW0.out.below HKS.out HJM.out hb1
 clear hb1 HB0 HL0 HW0
 have g2:w1.cell? ⟨k.g,2,none⟩=some (.int .i64 k.v):=HW1.out.gm.c2
 have gl:=lt_of_cell g2
 have HQ:Hid ((kn==k.v)=r):=by show _=_;rw [HRR.out];rfl
 clear HRR
 obtain ⟨q,hq⟩:∃ q,(kn==k.v)=q:=⟨_,rfl⟩
 have HQR:Hid (q=r):=by show _=_;rw [<- hq];exact HQ.out
 go_wp2_with (go_at_call 54;refine (HBO.out _).mono ?_;rintro e w' ⟨rfl,hw'⟩;have hw'':=hw'.symm;clear hw';subst hw'')
 go_ret
 have hqr:=HQR.out
 subst hqr
 exact PoW.same HB1.out HW1.out
end Wp17
namespace Wp18
open Go.RowKit
open Nd0 (Kept Ints WInts lt_of_cell)
open Nd6 (Bools)
open Ta1 (tab)
open Ta2 (bitB)
open Tc2 (tv ret_bool)
open Tc5 (Lay)
open Td1 (knw)
open Te1 (iKnown iBitOk)
open Ss0 (bs)
open Ap0 Wp12 Wp15 Wp16 Wp17
theorem PoW.trans {T:Type} {k:Kn} {J:T->Value->World->Prop} {SJ:T->Nat->Prop} {W W1 W2:World} {t t0 t1:T} {vs:List Int} {vv vv1:Value} {r:Bool} {e:Ending} (hk:Kept (fun b=>b=k.vb\/vv.ownBlock=some b\/SJ t b) W W1) (hn:∀ b,vv1.ownBlock=some b->vv.ownBlock=some b\/W.heap.size<=b) (hs:∀ b,SJ t0 b->SJ t b\/W.heap.size<=b) (h:PoW k J SJ W1 t0 vs vv1 r t1 e W2):PoW k J SJ W t vs vv r t1 e W2:=by
 obtain ⟨h1,vv',h2,h3,h4,h5⟩:=h
 have hz:=hk.size
 refine ⟨h1,vv',h2,kept_on hk h3 (fun b hb h=>?_),fun b hb'=>?_,fun b hb'=>?_⟩
 ·rcases h with e|e|e
  ·exact .inl e
  ·rcases hn b e with e2|e2
   ·exact .inr (.inl e2)
   ·omega
  ·rcases hs b e with e2|e2
   ·exact .inr (.inr e2)
   ·omega
 ·rcases h4 b hb' with e|e
  ·exact hn b e
  ·exact .inr (by omega)
 ·rcases h5 b hb' with e|e
  ·exact hs b e
  ·exact .inr (by omega)
/-- A bit that the other side has. -/
theorem iFromOther {T:Type} (k:Kn) (J:T->Value->World->Prop) (SJ:T->Nat->Prop) (ks:Ks k) (jm:Jm k J) (hS:∀ t vv W,J t vv W->∀ b,SJ t b->b < W.heap.size) (W:World) (t t0 t1:T) (vs:List Int) (vv:Value) (n:Nat) (F:Nat->Bool) (hn:n<=12) (r0 r1 r:Bool) (t':T) (hr:r=(r0&&r1)) (ht:t'=if r0=true then t1 else t0)
 (hW:Wl k J t vs vv W) (hk:bitB (knw n F)=false) (hlt:vs.length < k.OL.length) (hfl:k.OL[vs.length]=false)
 (h0:∀ vv1 W1,Wl k J t vs vv1 W1->Calls Try.prog 56 #[.int .i64 0,tv (n:Int) (bs (tab n F)),ptr k.vb,ptr k.fb] W1 (PoW k J SJ W1 t vs vv1 r0 t0))
 (h1:∀ vv1 W1,Wl k J t0 vs vv1 W1->Calls Try.prog 56 #[.int .i64 1,tv (n:Int) (bs (tab n F)),ptr k.vb,ptr k.fb] W1 (PoW k J SJ W1 t0 vs vv1 r1 t1)) :
 Calls Try.prog 58 #[tv (n:Int) (bs (tab n F)),ptr k.g,ptr k.vb,ptr k.gb,ptr k.wb] W (PoW k J SJ W t vs vv r t'):=by
 obtain ⟨va,vc,hvv,_⟩:=hW.vo.form
 subst hvv
 obtain ⟨X0,hX0⟩:∃ X,X=W.alloc (.cells #[.int .i64 (n:Int),.string (bs (tab n F))] 26):=⟨_,rfl⟩
 have b0:Below W.heap.size W X0:=by rw [hX0];exact (Below.refl _ _).alloc (Nat.le_refl _) _
 have HB0:Hid (Below W.heap.size W X0):=b0
 have HL0:Hid (Lay X0 W.heap.size (.int .i64 (n:Int)) (.string (bs (tab n F)))):=by rw [hX0];exact Lay.made _ _ _ _
 have hE:W.alloc (.cells #[.int .i64 (n:Int),.string (bs (tab n F))] 26)=X0:=hX0.symm
 have HW0:Hid (Wl k J t vs (.slice va vs.length vc) X0):=hW.below ks jm b0
 have HKS:Hid (Ks k):=ks
 have HJM:Hid (Jm k J):=jm
 have HOUT:Hid (∀ i,i=k.vb\/((.slice va vs.length vc):Value).ownBlock=some i\/SJ t i->i < W.heap.size):=fun i h=>by
  rcases h with e|e|e
  ·rw [e];exact lt_of_cell hW.vc
  ·exact (hW.vo.lt i e).2
  ·exact hS _ _ _ hW.j i e
 have HKN:Hid (∀ W,Calls Try.prog 59 #[tv (n:Int) (bs (tab n F))] W fun e w'=>e=.returned (.int .i64 (knw n F))/\Below W.heap.size W w'):=fun W=>iKnown n F W hn
 have HBO:Hid (∀ W,Calls Try.prog 54 #[.int .i64 (knw n F)] W fun e w'=>e=.returned (.bool false)/\w'=W):=fun W=>by
  have:=iBitOk (knw n F) W
  rwa [hk] at this
 obtain ⟨ab,aoo,hao,hfc⟩:∃ ab ao,k.ao=some ⟨ab,ao,none⟩/\∀ W',Wl k J t vs (.slice va vs.length vc) W'->W'.cell? ⟨ab,ao+vs.length,none⟩=some (.bool false):=by
  rcases hW.ow.2 with e|⟨ab,ao,e,hc⟩
  ·omega
  ·refine ⟨ab,ao,e,fun W' h'=>?_⟩
   rcases h'.ow.2 with e2|⟨ab2,ao2,e2,hc2⟩
   ·omega
   ·rw [e] at e2
    cases e2
    rw [<- hfl]
    exact hc2 vs.length hlt
 have HFC:Hid _:=hfc
 have HRR:Hid (r=(r0&&r1)):=hr
 have HTT:Hid (t'=if r0=true then t1 else t0):=ht
 have HLT:Hid (vs.length < k.OL.length):=hlt
 obtain ⟨vlen,hvlen⟩:∃ m,m=vs.length:=⟨_,rfl⟩
 have hltz:(vlen:Int) < (k.OL.length:Int):=by omega
 have H0:Hid (∀ vv1 W1,Wl k J t vs vv1 W1->Calls Try.prog 56 #[.int .i64 0,tv (n:Int) (bs (tab n F)),ptr k.vb,ptr k.fb] W1 (PoW k J SJ W1 t vs vv1 r0 t0)):=h0
 have H1:Hid (∀ vv1 W1,Wl k J t0 vs vv1 W1->Calls Try.prog 56 #[.int .i64 1,tv (n:Int) (bs (tab n F)),ptr k.vb,ptr k.fb] W1 (PoW k J SJ W1 t0 vs vv1 r1 t1)):=h1
 clear hX0 b0 hW hk hn hlt hfl hfc h0 h1 hS hr ht
 generalize knw n F=kn at *
 generalize bs (tab n F)=S at *
 go_enter Try.func58,Try.ntmps58
 go_upto_region 1 with fail
 clear hE
 obtain ⟨d0,d1,_,_⟩:=HL0.out
 have hd:=HL0.out.lt
 go_wp2_with fail
 clear d0 d1 hd
 refine (HKN.out _).mono ?_
 rintro e w1 ⟨rfl,hb1⟩
 have HB1:Hid (Below W.heap.size W w1):=HB0.out.trans (hb1.mono HB0.out.size)
 have HW1:Hid (Wl k J t vs (.slice va vs.length vc) w1):=HW0.out.below HKS.out HJM.out hb1
 have HL1:Hid (Lay w1 W.heap.size (.int .i64 (n:Int)) (.string S)):=HL0.out.below hb1
 clear hb1 HB0 HL0 HW0
 have g3:w1.cell? ⟨k.g,3,none⟩=some (.slice k.ao k.OL.length k.co):=HW1.out.gm.c3
 rw [hao] at g3
 have gl:=lt_of_cell g3
 have vcl:=HW1.out.vc
 have vll:=lt_of_cell vcl
 have fcl:=HFC.out _ HW1.out
 rw [<- hvlen] at vcl fcl
 have fll:=lt_of_cell fcl
 have HVL:Hid (vlen=vs.length):=hvlen
 clear hvlen
 go_upto_region 7 with (go_at_call 54;refine (HBO.out _).mono ?_;rintro e w' ⟨rfl,hw'⟩;have hw'':=hw'.symm;clear hw';subst hw'')
 clear g3 gl vcl vll fcl fll
 have cw:w1.cell? ⟨k.wb,0,none⟩=some (.func (.func 56) #[] #[ptr k.vb,ptr k.fb]):=HW1.out.wi
 have cwl:=lt_of_cell cw
 obtain ⟨d0,d1,_,_⟩:=HL1.out
 have hd:=HL1.out.lt
 go_wp2_with fail
 clear d0 d1 hd cw cwl
 refine (H0.out _ _ HW1.out).mono ?_
 rintro e w2 h2
 have H2:Hid (PoW k J SJ w1 t vs (.slice va vs.length vc) r0 t0 e w2):=h2
 obtain ⟨he,vv2,hw2,k2,n2,s2⟩:=h2
 subst he
 have HW2:Hid (Wl k J t0 vs vv2 w2):=hw2
 have HL2:Hid (Lay w2 W.heap.size (.int .i64 (n:Int)) (.string S)):=HL1.out.kept k2 (fun h=>Nat.lt_irrefl _ (HOUT.out _ h))
 have HT2:Hid (∀ e w3,PoW k J SJ w2 t0 vs vv2 r1 t1 e w3->PoW k J SJ W t vs (.slice va vs.length vc) r1 t1 e w3):=fun e w3 h3=>PoW.of_below HB1.out (PoW.trans k2 n2 s2 h3)
 have HE2:Hid (PoW k J SJ W t vs (.slice va vs.length vc) r0 t0 (.returned (.bool r0)) w2):=PoW.of_below HB1.out H2.out
 clear H2 hw2 k2 n2 s2
 cases r0 with
 | false =>
   have hr:=HRR.out
   have ht:=HTT.out
   rw [Bool.false_and] at hr
   rw [if_neg (by simp)] at ht
   subst hr ht
   go_wp2_with fail
   go_ret
   exact HE2.out
 | true =>
   have hr:=HRR.out
   have ht:=HTT.out
   rw [Bool.true_and] at hr
   rw [if_pos rfl] at ht
   subst hr ht
   have cw:w2.cell? ⟨k.wb,0,none⟩=some (.func (.func 56) #[] #[ptr k.vb,ptr k.fb]):=HW2.out.wi
   have cwl:=lt_of_cell cw
   obtain ⟨d0,d1,_,_⟩:=HL2.out
   have hd:=HL2.out.lt
   go_wp2_with fail
   clear d0 d1 hd cw cwl
   refine (H1.out _ _ HW2.out).mono ?_
   rintro e w3 h3
   have H3:=HT2.out _ _ h3
   have he:=h3.1
   subst he
   clear h3
   have H3':Hid (PoW k J SJ W t vs (.slice va vs.length vc) r t' (.returned (.bool r)) w3):=H3
   clear H3
   go_wp2_with fail
   go_ret
   exact H3'.out
end Wp18
end Go.Proofs.Ytfhdbcfhhbdiiaa
