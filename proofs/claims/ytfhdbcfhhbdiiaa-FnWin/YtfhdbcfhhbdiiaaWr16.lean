import Derived.Test.YtfhdbcfhhbdiiaaWp19
namespace Go.Proofs.Ytfhdbcfhhbdiiaa
set_option maxRecDepth 100000
set_option maxHeartbeats 8000000
set_option linter.unusedVariables false
namespace Wr16
open Go.RowKit
open Nd0 (Kept Ints WInts lt_of_cell)
open Nd6 (Bools)
open Ta1 (tab)
open Ta2 (bitB)
open Tc2 (tv ret_bool)
open Tc5 (Lay)
open Td1 (knw)
open Te1 (iKnown iBitOk)
open Ss0 (bs)
open Ap0 Wp12 Wp15 Wp16 Wp17 Wp18
/-- Where a walk that is won comes to: with what R holds of. -/
def PoX {T:Type} (k:Kn) (J:T->Value->World->Prop) (SJ:T->Nat->Prop) (W:World) (t:T) (vs:List Int) (vv:Value) (R:T->Prop) (e:Ending) (W':World):Prop:=∃ t',R t'/\PoW k J SJ W t vs vv true t' e W'
theorem iWithX {T:Type} (k:Kn) (J:T->Value->World->Prop) (SJ:T->Nat->Prop) (ks:Ks k) (jm:Jm k J) (W:World) (t:T) (R:T->Prop) (vs:List Int) (vv:Value) (b:Int) (N N1:Int) (S S1:ByteArray) (hl:vs.length<=100)
 (hW:Wl k J t vs vv W)
 (hH:∀ W,Calls Try.prog 57 #[tv N S,.int .i64 b] W fun e w'=>e=.returned (.tuple #[tv N1 S1,.bool true])/\Below W.heap.size W w')
 (hF:∀ vv1 W1,Wl k J t (vs++[b]) vv1 W1->Calls Try.prog 58 #[tv N1 S1,ptr k.g,ptr k.vb,ptr k.gb,ptr k.wb] W1 (PoX k J SJ W1 t (vs++[b]) vv1 R)) :
 Calls Try.prog 56 #[.int .i64 b,tv N S,ptr k.vb,ptr k.fb] W (PoX k J SJ W t vs vv R):=by
 obtain ⟨X0,hX0⟩:∃ X,X=W.alloc (.cells #[.int .i64 N,.string S] 26):=⟨_,rfl⟩
 have b0:Below W.heap.size W X0:=by rw [hX0];exact (Below.refl _ _).alloc (Nat.le_refl _) _
 have HB0:Hid (Below W.heap.size W X0):=b0
 have HL0:Hid (Lay X0 W.heap.size (.int .i64 N) (.string S)):=by rw [hX0];exact Lay.made _ _ _ _
 have hE:W.alloc (.cells #[.int .i64 N,.string S] 26)=X0:=hX0.symm
 have HW0:Hid (Wl k J t vs vv X0):=hW.below ks jm b0
 have HH:Hid _:=hH
 have HF:Hid (∀ vv1 W1,Wl k J t (vs++[b]) vv1 W1->Calls Try.prog 58 #[tv N1 S1,ptr k.g,ptr k.vb,ptr k.gb,ptr k.wb] W1 (PoX k J SJ W1 t (vs++[b]) vv1 R)):=hF
 have HKS:Hid (Ks k):=ks
 have HJM:Hid (Jm k J):=jm
 have HOL:Hid (∀ b,vv.ownBlock=some b->k.B<=b/\b < W.heap.size):=fun b hb=>hW.vo.lt b hb
 have hbl:=hW.bl
 have HVW:Hid (k.vb < W.heap.size):=lt_of_cell hW.vc
 clear hX0 b0 hH hF hW
 go_enter Try.func56,Try.ntmps56
 go_upto_region 1 with fail
 clear hE
 obtain ⟨d0,d1,_,_⟩:=HL0.out
 have hd:=HL0.out.lt
 go_wp2_with fail
 clear d0 d1 hd
 refine (HH.out _).mono ?_
 rintro e w1 ⟨rfl,hb1⟩
 go_upto_region 2 with fail
 obtain ⟨W1,hW1⟩:∃ X,X=w1.alloc (.cells #[.int .i64 N1,.string S1] 26):=⟨_,rfl⟩
 obtain ⟨qh,hqh⟩:∃ q,q=w1.heap.size:=⟨_,rfl⟩
 have hb2:Below X0.heap.size X0 W1:=by rw [hW1];exact hb1.alloc hb1.size _
 have HB1:Hid (Below W.heap.size W W1):=HB0.out.trans (hb2.mono HB0.out.size)
 have HW1:Hid (Wl k J t vs vv W1):=HW0.out.below HKS.out HJM.out hb2
 have HA1:Hid (Lay W1 qh (.int .i64 N1) (.string S1)):=by rw [hW1,hqh];exact Lay.made _ _ _ _
 have HQH:Hid (W.heap.size<=qh/\qh < W1.heap.size):=by
  refine ⟨by rw [hqh];exact Nat.le_trans HB0.out.size hb1.size,by rw [hW1,hqh];simp⟩
 rw [<- hW1,<- hqh]
 clear hW1 hqh hb1 hb2 HB0 HW0 HL0
 have c0:=HW1.out.vc
 have cl:=lt_of_cell c0
 have HNV:Hid (¬ vv.ownBlock=some k.vb):=fun e=>(HW1.out.nb _ e).1 rfl
 go_upto_region 3 with (at_builtin;go_must (refine app_int _ rfl _ _ rfl k.B vv vs b rfl rfl HW1.out.vo HW1.out.bl (by omega) ?_;intro g5 cp5 w5 ho5 hk5 hg5;have f5:w5.frozen? ⟨k.vb,0,none⟩=false:=(by rw [hk5.frozen (p:=⟨k.vb,0,none⟩) cl HNV.out];exact HW1.out.vf);have c5:w5.cell? ⟨k.vb,0,none⟩=some vv:=(by rw [hk5.cell (p:=⟨k.vb,0,none⟩) cl HNV.out];exact HW1.out.vc);have HO5:Hid (Ows w5 k.B (.slice (some ⟨g5,0,none⟩) (vs.length+1) cp5) (vs++[b])):=ho5;have HK5:Hid (Kept (fun i=>vv.ownBlock=some i) W1 w5):=hk5;have HG5:Hid (vv.ownBlock=some g5\/W1.heap.size<=g5):=hg5;have cl5:=lt_of_cell c5;clear ho5 hk5 hg5))
 clear c0 cl f5 cl5
 obtain ⟨W5,hW5⟩:∃ X,X=w5.setCell ⟨k.vb,0,none⟩ (.slice (some ⟨g5,0,none⟩) (vs.length+1) cp5):=⟨_,rfl⟩
 have K5:Kept (fun i=>i=k.vb\/vv.ownBlock=some i) W1 W5:=by rw [hW5];exact (HK5.out.mono (fun i hi=>.inr hi)).setCell (p:=⟨k.vb,0,none⟩) (.inl rfl) _
 have KS5:Kept (fun i=>i=k.vb) w5 W5:=by rw [hW5];exact (Kept.refl (fun i=>i=k.vb) w5).setCell (p:=⟨k.vb,0,none⟩) rfl _
 have HW5:Hid (Wl k J t (vs++[b]) (.slice (some ⟨g5,0,none⟩) (vs.length+1) cp5) W5):=by
  refine HW1.out.turn HKS.out HJM.out K5 (by rw [hW5];exact Nd0.set_same c5) (by rw [hW5,World.frozen?_setCell];exact (by rw [HK5.out.frozen (p:=⟨k.vb,0,none⟩) (lt_of_cell HW1.out.vc) HNV.out];exact HW1.out.vf)) (HO5.out.kept KS5 (fun i hi e=>by
   have h0:g5=i:=by simpa [Value.ownBlock] using hi
   rcases HG5.out with h|h
   ·exact (HW1.out.nb _ h).1 (h0.trans e)
   ·have h5:k.vb < W1.heap.size:=lt_of_cell HW1.out.vc
    omega)) (fun i hi=>?_)
  have:g5=i:=by simpa [Value.ownBlock] using hi
  rw [<- this]
  exact HG5.out
 have HK15:Hid (Kept (fun i=>i=k.vb\/vv.ownBlock=some i\/SJ t i) W W5):=kept_on (Kept.ofBelow HB1.out) (K5.mono (fun i hi=>by rcases hi with e|e;(exact .inl e);(exact .inr (.inl e)))) (fun i _ h=>h)
 have HN5:Hid (∀ i,((.slice (some ⟨g5,0,none⟩) (vs.length+1) cp5):Value).ownBlock=some i->vv.ownBlock=some i\/W.heap.size<=i):=fun i hi=>by
  have:g5=i:=by simpa [Value.ownBlock] using hi
  rw [<- this]
  rcases HG5.out with e|e
  ·exact .inl e
  ·exact .inr (by have:=HB1.out.size;omega)
 have HA5:Hid (Lay W5 qh (.int .i64 N1) (.string S1)):=HA1.out.kept K5 (fun e=>by
  have h1:=HQH.out.1
  rcases e with e|e
  ·have h4:=HVW.out
   omega
  ·have:=(HOL.out qh e).2
   omega)
 rw [<- hW5]
 clear hW5 K5 KS5 c5 HO5 HK5 HG5 HW1 HA1 HNV HB1
 have cf:W5.cell? ⟨k.fb,0,none⟩=some (.func (.func 58) #[] #[ptr k.g,ptr k.vb,ptr k.gb,ptr k.wb]):=HW5.out.fr
 have cfl:=lt_of_cell cf
 obtain ⟨d0,d1,_,_⟩:=HA5.out
 have hd:=HA5.out.lt
 go_wp2_with fail
 clear d0 d1 hd cf cfl
 refine (HF.out _ _ HW5.out).mono ?_
 rintro e w6 ⟨t',hR,rfl,vv6,h6,k6,n6,s6⟩
 have HRT:Hid (R t'):=hR
 obtain ⟨g6,c6,e6⟩:=ows_at h6.vo (by rw [List.length_append];simp)
 rw [List.length_append,List.length_singleton] at e6
 subst e6
 have HW6:Hid (Wl k J t' (vs++[b]) (.slice (some ⟨g6,0,none⟩) (vs.length+1) c6) w6):=h6
 have HK6:Hid (Kept (fun i=>i=k.vb\/vv.ownBlock=some i\/SJ t i) W w6):=kept_on HK15.out k6 (fun i hi h=>by
  rcases h with e|e|e
  ·exact .inl e
  ·rcases HN5.out i e with e2|e2
   ·exact .inr (.inl e2)
   ·omega
  ·exact .inr (.inr e))
 have hs5:=HK15.out.size
 have HN6:Hid (∀ i,((.slice (some ⟨g6,0,none⟩) (vs.length+1) c6):Value).ownBlock=some i->vv.ownBlock=some i\/W.heap.size<=i):=fun i hi=>by
  rcases n6 i hi with e|e
  ·exact HN5.out i e
  ·exact .inr (by omega)
 have HS6:Hid (∀ i,SJ t' i->SJ t i\/W.heap.size<=i):=fun i hi=>by
  rcases s6 i hi with e|e
  ·exact .inl e
  ·exact .inr (by omega)
 clear h6 k6 n6 s6 hR HK15 HN5 HW5 HA5 hs5
 have c0:=HW6.out.vc
 have f0:=HW6.out.vf
 have cl:=lt_of_cell c0
 have hcap:vs.length+1<=c6:=by
  have h:=HW6.out.vo
  rw [show vs.length+1=(vs++[b]).length by simp] at h
  have:=ows_cap h
  rw [List.length_append,List.length_singleton] at this
  exact this
 have hsl:=slI g6 0 (vs.length+1) c6 vs.length (by omega)
 have hw1:IntKind.i64.wrap ((vs.length:Int)+1 - 1)=(vs.length:Int):=by rw [IntKind.wrap_i64];omega
 go_wp2
 go_ret
 clear c0 f0 cl hsl hw1
 have K7:Kept (fun i=>i=k.vb\/((.slice (some ⟨g6,0,none⟩) (vs.length+1) c6):Value).ownBlock=some i) w6 (w6.setCell ⟨k.vb,0,none⟩ (.slice (some ⟨g6,0,none⟩) vs.length c6)):=(Kept.refl _ w6).setCell (p:=⟨k.vb,0,none⟩) (.inl rfl) _
 have KS7:Kept (fun i=>i=k.vb) w6 (w6.setCell ⟨k.vb,0,none⟩ (.slice (some ⟨g6,0,none⟩) vs.length c6)):=(Kept.refl (fun i=>i=k.vb) w6).setCell (p:=⟨k.vb,0,none⟩) rfl _
 refine ⟨t',HRT.out,rfl,.slice (some ⟨g6,0,none⟩) vs.length c6,?_,kept_on HK6.out KS7 (fun i _ h=>.inl h),?_,HS6.out⟩
 ·refine HW6.out.turn HKS.out HJM.out K7 (Nd0.set_same HW6.out.vc) (by rw [World.frozen?_setCell];exact HW6.out.vf) ((ows_less HW6.out.vo).kept KS7 (fun i hi e=>(HW6.out.nb i (by simpa [Value.ownBlock] using hi)).1 e)) (fun i hi=>.inl (by simpa [Value.ownBlock] using hi))
 ·intro i hi
  exact HN6.out i (by simpa [Value.ownBlock] using hi)
/-- A bit that the other side has. -/
theorem iFromOtherX {T:Type} (k:Kn) (J:T->Value->World->Prop) (SJ:T->Nat->Prop) (ks:Ks k) (jm:Jm k J) (hS:∀ t vv W,J t vv W->∀ b,SJ t b->b < W.heap.size) (W:World) (t:T) (R0 R:T->Prop) (vs:List Int) (vv:Value) (n:Nat) (F:Nat->Bool) (hn:n<=12)
 (hW:Wl k J t vs vv W) (hk:bitB (knw n F)=false) (hlt:vs.length < k.OL.length) (hfl:k.OL[vs.length]=false)
 (h0:∀ vv1 W1,Wl k J t vs vv1 W1->Calls Try.prog 56 #[.int .i64 0,tv (n:Int) (bs (tab n F)),ptr k.vb,ptr k.fb] W1 (PoX k J SJ W1 t vs vv1 R0))
 (h1:∀ t0,R0 t0->∀ vv1 W1,Wl k J t0 vs vv1 W1->Calls Try.prog 56 #[.int .i64 1,tv (n:Int) (bs (tab n F)),ptr k.vb,ptr k.fb] W1 (PoX k J SJ W1 t0 vs vv1 R)) :
 Calls Try.prog 58 #[tv (n:Int) (bs (tab n F)),ptr k.g,ptr k.vb,ptr k.gb,ptr k.wb] W (PoX k J SJ W t vs vv R):=by
 obtain ⟨va,vc,hvv,_⟩:=hW.vo.form
 subst hvv
 obtain ⟨X0,hX0⟩:∃ X,X=W.alloc (.cells #[.int .i64 (n:Int),.string (bs (tab n F))] 26):=⟨_,rfl⟩
 have b0:Below W.heap.size W X0:=by rw [hX0];exact (Below.refl _ _).alloc (Nat.le_refl _) _
 have HB0:Hid (Below W.heap.size W X0):=b0
 have HL0:Hid (Lay X0 W.heap.size (.int .i64 (n:Int)) (.string (bs (tab n F)))):=by rw [hX0];exact Lay.made _ _ _ _
 have hE:W.alloc (.cells #[.int .i64 (n:Int),.string (bs (tab n F))] 26)=X0:=hX0.symm
 have HW0:Hid (Wl k J t vs (.slice va vs.length vc) X0):=hW.below ks jm b0
 have HKS:Hid (Ks k):=ks
 have HJM:Hid (Jm k J):=jm
 have HOUT:Hid (∀ i,i=k.vb\/((.slice va vs.length vc):Value).ownBlock=some i\/SJ t i->i < W.heap.size):=fun i h=>by
  rcases h with e|e|e
  ·rw [e];exact lt_of_cell hW.vc
  ·exact (hW.vo.lt i e).2
  ·exact hS _ _ _ hW.j i e
 have HKN:Hid (∀ W,Calls Try.prog 59 #[tv (n:Int) (bs (tab n F))] W fun e w'=>e=.returned (.int .i64 (knw n F))/\Below W.heap.size W w'):=fun W=>iKnown n F W hn
 have HBO:Hid (∀ W,Calls Try.prog 54 #[.int .i64 (knw n F)] W fun e w'=>e=.returned (.bool false)/\w'=W):=fun W=>by
  have:=iBitOk (knw n F) W
  rwa [hk] at this
 obtain ⟨ab,aoo,hao,hfc⟩:∃ ab ao,k.ao=some ⟨ab,ao,none⟩/\∀ W',Wl k J t vs (.slice va vs.length vc) W'->W'.cell? ⟨ab,ao+vs.length,none⟩=some (.bool false):=by
  rcases hW.ow.2 with e|⟨ab,ao,e,hc⟩
  ·omega
  ·refine ⟨ab,ao,e,fun W' h'=>?_⟩
   rcases h'.ow.2 with e2|⟨ab2,ao2,e2,hc2⟩
   ·omega
   ·rw [e] at e2
    cases e2
    rw [<- hfl]
    exact hc2 vs.length hlt
 have HFC:Hid _:=hfc
 have HLT:Hid (vs.length < k.OL.length):=hlt
 obtain ⟨vlen,hvlen⟩:∃ m,m=vs.length:=⟨_,rfl⟩
 have hltz:(vlen:Int) < (k.OL.length:Int):=by omega
 have H0:Hid (∀ vv1 W1,Wl k J t vs vv1 W1->Calls Try.prog 56 #[.int .i64 0,tv (n:Int) (bs (tab n F)),ptr k.vb,ptr k.fb] W1 (PoX k J SJ W1 t vs vv1 R0)):=h0
 have H1:Hid (∀ t0,R0 t0->∀ vv1 W1,Wl k J t0 vs vv1 W1->Calls Try.prog 56 #[.int .i64 1,tv (n:Int) (bs (tab n F)),ptr k.vb,ptr k.fb] W1 (PoX k J SJ W1 t0 vs vv1 R)):=h1
 clear hX0 b0 hW hk hn hlt hfl hfc h0 h1 hS
 generalize knw n F=kn at *
 generalize bs (tab n F)=S at *
 go_enter Try.func58,Try.ntmps58
 go_upto_region 1 with fail
 clear hE
 obtain ⟨d0,d1,_,_⟩:=HL0.out
 have hd:=HL0.out.lt
 go_wp2_with fail
 clear d0 d1 hd
 refine (HKN.out _).mono ?_
 rintro e w1 ⟨rfl,hb1⟩
 have HB1:Hid (Below W.heap.size W w1):=HB0.out.trans (hb1.mono HB0.out.size)
 have HW1:Hid (Wl k J t vs (.slice va vs.length vc) w1):=HW0.out.below HKS.out HJM.out hb1
 have HL1:Hid (Lay w1 W.heap.size (.int .i64 (n:Int)) (.string S)):=HL0.out.below hb1
 clear hb1 HB0 HL0 HW0
 have g3:w1.cell? ⟨k.g,3,none⟩=some (.slice k.ao k.OL.length k.co):=HW1.out.gm.c3
 rw [hao] at g3
 have gl:=lt_of_cell g3
 have vcl:=HW1.out.vc
 have vll:=lt_of_cell vcl
 have fcl:=HFC.out _ HW1.out
 rw [<- hvlen] at vcl fcl
 have fll:=lt_of_cell fcl
 have HVL:Hid (vlen=vs.length):=hvlen
 clear hvlen
 go_upto_region 7 with (go_at_call 54;refine (HBO.out _).mono ?_;rintro e w' ⟨rfl,hw'⟩;have hw'':=hw'.symm;clear hw';subst hw'')
 clear g3 gl vcl vll fcl fll
 have cw:w1.cell? ⟨k.wb,0,none⟩=some (.func (.func 56) #[] #[ptr k.vb,ptr k.fb]):=HW1.out.wi
 have cwl:=lt_of_cell cw
 obtain ⟨d0,d1,_,_⟩:=HL1.out
 have hd:=HL1.out.lt
 go_wp2_with fail
 clear d0 d1 hd cw cwl
 refine (H0.out _ _ HW1.out).mono ?_
 rintro e w2 h2
 obtain ⟨t0,hR0,he,vv2,hw2,k2,n2,s2⟩:=h2
 subst he
 have HR0:Hid (R0 t0):=hR0
 have HW2:Hid (Wl k J t0 vs vv2 w2):=hw2
 have HL2:Hid (Lay w2 W.heap.size (.int .i64 (n:Int)) (.string S)):=HL1.out.kept k2 (fun h=>Nat.lt_irrefl _ (HOUT.out _ h))
 have HT2:Hid (∀ e w3,PoX k J SJ w2 t0 vs vv2 R e w3->PoX k J SJ W t vs (.slice va vs.length vc) R e w3):=fun e w3 h3=>by
  obtain ⟨t1,h4,h5⟩:=h3
  exact ⟨t1,h4,PoW.of_below HB1.out (PoW.trans k2 n2 s2 h5)⟩
 clear hR0 hw2 k2 n2 s2
 have cw:w2.cell? ⟨k.wb,0,none⟩=some (.func (.func 56) #[] #[ptr k.vb,ptr k.fb]):=HW2.out.wi
 have cwl:=lt_of_cell cw
 obtain ⟨d0,d1,_,_⟩:=HL2.out
 have hd:=HL2.out.lt
 go_wp2_with fail
 clear d0 d1 hd cw cwl
 refine (H1.out _ HR0.out _ _ HW2.out).mono ?_
 rintro e w3 h3
 have H3:=HT2.out _ _ h3
 clear h3
 obtain ⟨t',hR,h4⟩:=H3
 have he:=h4.1
 subst he
 have H3':Hid (PoX k J SJ W t vs (.slice va vs.length vc) R (.returned (.bool true)) w3):=⟨t',hR,h4⟩
 clear hR h4
 go_wp2_with fail
 go_ret
 exact H3'.out
/-- What a giver tells. -/
theorem iFromOwnX {T:Type} (k:Kn) (J:T->Value->World->Prop) (SJ:T->Nat->Prop) (ks:Ks k) (jm:Jm k J) (hS:∀ t vv W,J t vv W->∀ b,SJ t b->b < W.heap.size) (W:World) (t:T) (R1 R:T->Prop) (vs:List Int) (vv:Value) (n:Nat) (F:Nat->Bool) (hn:n<=12) (mr ml:Nat) (hg:k.give=.func (.func 30) #[] #[ptr mr,ptr ml]) (b:Int)
 (hW:Wl k J t vs vv W) (hk:bitB (knw n F)=false) (hlt:vs.length < k.OL.length) (hfl:k.OL[vs.length]=true)
 (h0:∀ W1,Wl k J t vs vv W1->Calls Try.prog 30 #[vv,tv (n:Int) (bs (tab n F)),ptr mr,ptr ml] W1 fun e w'=>e=.returned (.tuple #[.int .i64 b,.bool true])/\∃ t1,R1 t1/\Wl k J t1 vs vv w'/\Kept (fun i=>SJ t i) W1 w'/\∀ i,SJ t1 i->SJ t i\/W1.heap.size<=i)
 (h1:∀ t1,R1 t1->∀ vv1 W1,Wl k J t1 vs vv1 W1->Calls Try.prog 56 #[.int .i64 b,tv (n:Int) (bs (tab n F)),ptr k.vb,ptr k.fb] W1 (PoX k J SJ W1 t1 vs vv1 R)) :
 Calls Try.prog 58 #[tv (n:Int) (bs (tab n F)),ptr k.g,ptr k.vb,ptr k.gb,ptr k.wb] W (PoX k J SJ W t vs vv R):=by
 obtain ⟨va,vc,hvv,_⟩:=hW.vo.form
 subst hvv
 obtain ⟨X0,hX0⟩:∃ X,X=W.alloc (.cells #[.int .i64 (n:Int),.string (bs (tab n F))] 26):=⟨_,rfl⟩
 have b0:Below W.heap.size W X0:=by rw [hX0];exact (Below.refl _ _).alloc (Nat.le_refl _) _
 have HB0:Hid (Below W.heap.size W X0):=b0
 have HL0:Hid (Lay X0 W.heap.size (.int .i64 (n:Int)) (.string (bs (tab n F)))):=by rw [hX0];exact Lay.made _ _ _ _
 have hE:W.alloc (.cells #[.int .i64 (n:Int),.string (bs (tab n F))] 26)=X0:=hX0.symm
 have HW0:Hid (Wl k J t vs (.slice va vs.length vc) X0):=hW.below ks jm b0
 have HKS:Hid (Ks k):=ks
 have HJM:Hid (Jm k J):=jm
 have HOUT:Hid (∀ i,i=k.vb\/((.slice va vs.length vc):Value).ownBlock=some i\/SJ t i->i < W.heap.size):=fun i h=>by
  rcases h with e|e|e
  ·rw [e];exact lt_of_cell hW.vc
  ·exact (hW.vo.lt i e).2
  ·exact hS _ _ _ hW.j i e
 have HKN:Hid (∀ W,Calls Try.prog 59 #[tv (n:Int) (bs (tab n F))] W fun e w'=>e=.returned (.int .i64 (knw n F))/\Below W.heap.size W w'):=fun W=>iKnown n F W hn
 have HBO:Hid (∀ W,Calls Try.prog 54 #[.int .i64 (knw n F)] W fun e w'=>e=.returned (.bool false)/\w'=W):=fun W=>by
  have:=iBitOk (knw n F) W
  rwa [hk] at this
 obtain ⟨ab,aoo,hao,hfc⟩:∃ ab ao,k.ao=some ⟨ab,ao,none⟩/\∀ W',Wl k J t vs (.slice va vs.length vc) W'->W'.cell? ⟨ab,ao+vs.length,none⟩=some (.bool true):=by
  rcases hW.ow.2 with e|⟨ab,ao,e,hc⟩
  ·omega
  ·refine ⟨ab,ao,e,fun W' h'=>?_⟩
   rcases h'.ow.2 with e2|⟨ab2,ao2,e2,hc2⟩
   ·omega
   ·rw [e] at e2
    cases e2
    rw [<- hfl]
    exact hc2 vs.length hlt
 have HFC:Hid _:=hfc
 have HLT:Hid (vs.length < k.OL.length):=hlt
 obtain ⟨vlen,hvlen⟩:∃ m,m=vs.length:=⟨_,rfl⟩
 have hltz:(vlen:Int) < (k.OL.length:Int):=by omega
 have H0:Hid (∀ W1,Wl k J t vs (.slice va vs.length vc) W1->Calls Try.prog 30 #[.slice va vs.length vc,tv (n:Int) (bs (tab n F)),ptr mr,ptr ml] W1 fun e w'=>e=.returned (.tuple #[.int .i64 b,.bool true])/\∃ t1,R1 t1/\Wl k J t1 vs (.slice va vs.length vc) w'/\Kept (fun i=>SJ t i) W1 w'/\∀ i,SJ t1 i->SJ t i\/W1.heap.size<=i):=h0
 have H1:Hid (∀ t1,R1 t1->∀ vv1 W1,Wl k J t1 vs vv1 W1->Calls Try.prog 56 #[.int .i64 b,tv (n:Int) (bs (tab n F)),ptr k.vb,ptr k.fb] W1 (PoX k J SJ W1 t1 vs vv1 R)):=h1
 clear hX0 b0 hW hk hn hlt hfl hfc h0 h1 hS
 generalize knw n F=kn at *
 generalize bs (tab n F)=S at *
 go_enter Try.func58,Try.ntmps58
 go_upto_region 1 with fail
 clear hE
 obtain ⟨d0,d1,_,_⟩:=HL0.out
 have hd:=HL0.out.lt
 go_wp2_with fail
 clear d0 d1 hd
 refine (HKN.out _).mono ?_
 rintro e w1 ⟨rfl,hb1⟩
 have HB1:Hid (Below W.heap.size W w1):=HB0.out.trans (hb1.mono HB0.out.size)
 have HW1:Hid (Wl k J t vs (.slice va vs.length vc) w1):=HW0.out.below HKS.out HJM.out hb1
 have HL1:Hid (Lay w1 W.heap.size (.int .i64 (n:Int)) (.string S)):=HL0.out.below hb1
 clear hb1 HB0 HL0 HW0
 have g3:w1.cell? ⟨k.g,3,none⟩=some (.slice k.ao k.OL.length k.co):=HW1.out.gm.c3
 rw [hao] at g3
 have gl:=lt_of_cell g3
 have vcl:=HW1.out.vc
 have vll:=lt_of_cell vcl
 have fcl:=HFC.out _ HW1.out
 rw [<- hvlen] at vcl fcl
 have fll:=lt_of_cell fcl
 have HVL:Hid (vlen=vs.length):=hvlen
 clear hvlen
 go_upto_region 5 with (go_at_call 54;refine (HBO.out _).mono ?_;rintro e w' ⟨rfl,hw'⟩;have hw'':=hw'.symm;clear hw';subst hw'')
 clear g3 gl fcl fll
 have cg:w1.cell? ⟨k.gb,0,none⟩=some (.func (.func 30) #[] #[ptr mr,ptr ml]):=by rw [HW1.out.gi,hg]
 have cgl:=lt_of_cell cg
 have hvl:=HVL.out
 subst hvl
 obtain ⟨d0,d1,_,_⟩:=HL1.out
 have hd:=HL1.out.lt
 go_wp2_with fail
 clear d0 d1 hd cg cgl vcl vll
 refine (H0.out _ HW1.out).mono ?_
 rintro e w2 ⟨rfl,t1,hR1,hw2,k2,s2⟩
 have HR1:Hid (R1 t1):=hR1
 have HW2:Hid (Wl k J t1 vs (.slice va vs.length vc) w2):=hw2
 have HL2:Hid (Lay w2 W.heap.size (.int .i64 (n:Int)) (.string S)):=HL1.out.kept k2 (fun h=>Nat.lt_irrefl _ (HOUT.out _ (.inr (.inr h))))
 have hz2:=k2.size
 have HT2:Hid (∀ e w3,PoX k J SJ w2 t1 vs (.slice va vs.length vc) R e w3->PoX k J SJ W t vs (.slice va vs.length vc) R e w3):=fun e w3 h3=>by
  obtain ⟨t2,h4,h5⟩:=h3
  exact ⟨t2,h4,PoW.of_below HB1.out (PoW.trans (k2.mono (fun i h=>.inr (.inr h))) (fun i h=>.inl h) s2 h5)⟩
 clear hR1 hw2 k2 s2 hz2
 go_upto_region 6 with fail
 have cw:w2.cell? ⟨k.wb,0,none⟩=some (.func (.func 56) #[] #[ptr k.vb,ptr k.fb]):=HW2.out.wi
 have cwl:=lt_of_cell cw
 obtain ⟨d0,d1,_,_⟩:=HL2.out
 have hd:=HL2.out.lt
 go_wp2_with fail
 clear d0 d1 hd cw cwl
 refine (H1.out _ HR1.out _ _ HW2.out).mono ?_
 rintro e w3 h3
 have H3:=HT2.out _ _ h3
 clear h3
 obtain ⟨t',hR,h4⟩:=H3
 have he:=h4.1
 subst he
 have H3':Hid (PoX k J SJ W t vs (.slice va vs.length vc) R (.returned (.bool true)) w3):=⟨t',hR,h4⟩
 clear hR h4
 go_wp2_with fail
 go_ret
 exact H3'.out
end Wr16
end Go.Proofs.Ytfhdbcfhhbdiiaa
