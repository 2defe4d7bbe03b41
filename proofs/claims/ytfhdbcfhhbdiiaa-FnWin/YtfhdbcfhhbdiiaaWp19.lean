import Derived.Test.YtfhdbcfhhbdiiaaPkXW39
namespace Go.Proofs.Ytfhdbcfhhbdiiaa
set_option maxRecDepth 100000
set_option maxHeartbeats 8000000
set_option linter.unusedVariables false
namespace Wp19
open Go.RowKit
open Nd0 (Kept Ints WInts lt_of_cell)
open Nd6 (Bools)
open Ta1 (tab)
open Ta2 (bitB)
open Tc2 (tv ret_bool)
open Tc5 (Lay)
open Td1 (knw)
open Te1 (iKnown iBitOk)
open Ss0 (bs)
open Ap0 Wp12 Wp15 Wp16 Wp17 Wp18
/-- What a giver tells. -/
theorem iFromOwn {T:Type} (k:Kn) (J:T->Value->World->Prop) (SJ:T->Nat->Prop) (ks:Ks k) (jm:Jm k J) (hS:∀ t vv W,J t vv W->∀ b,SJ t b->b < W.heap.size) (W:World) (t t1 t':T) (vs:List Int) (vv:Value) (n:Nat) (F:Nat->Bool) (hn:n<=12) (mb:Nat) (hg:k.give=.func (.func 36) #[] #[ptr mb]) (b:Int) (th r:Bool)
 (hW:Wl k J t vs vv W) (hk:bitB (knw n F)=false) (hlt:vs.length < k.OL.length) (hfl:k.OL[vs.length]=true)
 (h0:∀ W1,Wl k J t vs vv W1->Calls Try.prog 36 #[vv,tv (n:Int) (bs (tab n F)),ptr mb] W1 fun e w'=>e=.returned (.tuple #[.int .i64 b,.bool th])/\Wl k J t1 vs vv w'/\Kept (fun i=>SJ t i) W1 w'/\∀ i,SJ t1 i->SJ t i\/W1.heap.size<=i)
 (h1:th=true->∀ vv1 W1,Wl k J t1 vs vv1 W1->Calls Try.prog 56 #[.int .i64 b,tv (n:Int) (bs (tab n F)),ptr k.vb,ptr k.fb] W1 (PoW k J SJ W1 t1 vs vv1 r t'))
 (h2:th=false->r=false/\t'=t1) :
 Calls Try.prog 58 #[tv (n:Int) (bs (tab n F)),ptr k.g,ptr k.vb,ptr k.gb,ptr k.wb] W (PoW k J SJ W t vs vv r t'):=by
 obtain ⟨va,vc,hvv,_⟩:=hW.vo.form
 subst hvv
 obtain ⟨X0,hX0⟩:∃ X,X=W.alloc (.cells #[.int .i64 (n:Int),.string (bs (tab n F))] 26):=⟨_,rfl⟩
 have b0:Below W.heap.size W X0:=by rw [hX0];exact (Below.refl _ _).alloc (Nat.le_refl _) _
 have HB0:Hid (Below W.heap.size W X0):=b0
 have HL0:Hid (Lay X0 W.heap.size (.int .i64 (n:Int)) (.string (bs (tab n F)))):=by rw [hX0];exact Lay.made _ _ _ _
 have hE:W.alloc (.cells #[.int .i64 (n:Int),.string (bs (tab n F))] 26)=X0:=hX0.symm
 have HW0:Hid (Wl k J t vs (.slice va vs.length vc) X0):=hW.below ks jm b0
 have HKS:Hid (Ks k):=ks
 have HJM:Hid (Jm k J):=jm
 have HOUT:Hid (∀ i,i=k.vb\/((.slice va vs.length vc):Value).ownBlock=some i\/SJ t i->i < W.heap.size):=fun i h=>by
  rcases h with e|e|e
  ·rw [e];exact lt_of_cell hW.vc
  ·exact (hW.vo.lt i e).2
  ·exact hS _ _ _ hW.j i e
 have HKN:Hid (∀ W,Calls Try.prog 59 #[tv (n:Int) (bs (tab n F))] W fun e w'=>e=.returned (.int .i64 (knw n F))/\Below W.heap.size W w'):=fun W=>iKnown n F W hn
 have HBO:Hid (∀ W,Calls Try.prog 54 #[.int .i64 (knw n F)] W fun e w'=>e=.returned (.bool false)/\w'=W):=fun W=>by
  have:=iBitOk (knw n F) W
  rwa [hk] at this
 obtain ⟨ab,aoo,hao,hfc⟩:∃ ab ao,k.ao=some ⟨ab,ao,none⟩/\∀ W',Wl k J t vs (.slice va vs.length vc) W'->W'.cell? ⟨ab,ao+vs.length,none⟩=some (.bool true):=by
  rcases hW.ow.2 with e|⟨ab,ao,e,hc⟩
  ·omega
  ·refine ⟨ab,ao,e,fun W' h'=>?_⟩
   rcases h'.ow.2 with e2|⟨ab2,ao2,e2,hc2⟩
   ·omega
   ·rw [e] at e2
    cases e2
    rw [<- hfl]
    exact hc2 vs.length hlt
 have HFC:Hid _:=hfc
 have HZ:Hid (th=false->r=false/\t'=t1):=h2
 have HLT:Hid (vs.length < k.OL.length):=hlt
 obtain ⟨vlen,hvlen⟩:∃ m,m=vs.length:=⟨_,rfl⟩
 have hltz:(vlen:Int) < (k.OL.length:Int):=by omega
 have H0:Hid (∀ W1,Wl k J t vs (.slice va vs.length vc) W1->Calls Try.prog 36 #[.slice va vs.length vc,tv (n:Int) (bs (tab n F)),ptr mb] W1 fun e w'=>e=.returned (.tuple #[.int .i64 b,.bool th])/\Wl k J t1 vs (.slice va vs.length vc) w'/\Kept (fun i=>SJ t i) W1 w'/\∀ i,SJ t1 i->SJ t i\/W1.heap.size<=i):=h0
 have H1:Hid (th=true->∀ vv1 W1,Wl k J t1 vs vv1 W1->Calls Try.prog 56 #[.int .i64 b,tv (n:Int) (bs (tab n F)),ptr k.vb,ptr k.fb] W1 (PoW k J SJ W1 t1 vs vv1 r t')):=h1
 clear hX0 b0 hW hk hn hlt hfl hfc h0 h1 h2 hS
 generalize knw n F=kn at *
 generalize bs (tab n F)=S at *
 go_enter Try.func58,Try.ntmps58
 go_upto_region 1 with fail
 clear hE
 obtain ⟨d0,d1,_,_⟩:=HL0.out
 have hd:=HL0.out.lt
 go_wp2_with fail
 clear d0 d1 hd
 refine (HKN.out _).mono ?_
 rintro e w1 ⟨rfl,hb1⟩
 have HB1:Hid (Below W.heap.size W w1):=HB0.out.trans (hb1.mono HB0.out.size)
 have HW1:Hid (Wl k J t vs (.slice va vs.length vc) w1):=HW0.out.below HKS.out HJM.out hb1
 have HL1:Hid (Lay w1 W.heap.size (.int .i64 (n:Int)) (.string S)):=HL0.out.below hb1
 clear hb1 HB0 HL0 HW0
 have g3:w1.cell? ⟨k.g,3,none⟩=some (.slice k.ao k.OL.length k.co):=HW1.out.gm.c3
 rw [hao] at g3
 have gl:=lt_of_cell g3
 have vcl:=HW1.out.vc
 have vll:=lt_of_cell vcl
 have fcl:=HFC.out _ HW1.out
 rw [<- hvlen] at vcl fcl
 have fll:=lt_of_cell fcl
 have HVL:Hid (vlen=vs.length):=hvlen
 clear hvlen
 go_upto_region 5 with (go_at_call 54;refine (HBO.out _).mono ?_;rintro e w' ⟨rfl,hw'⟩;have hw'':=hw'.symm;clear hw';subst hw'')
 clear g3 gl fcl fll
 have cg:w1.cell? ⟨k.gb,0,none⟩=some (.func (.func 36) #[] #[ptr mb]):=by rw [HW1.out.gi,hg]
 have cgl:=lt_of_cell cg
 have hvl:=HVL.out
 subst hvl
 obtain ⟨d0,d1,_,_⟩:=HL1.out
 have hd:=HL1.out.lt
 go_wp2_with fail
 clear d0 d1 hd cg cgl vcl vll
 refine (H0.out _ HW1.out).mono ?_
 rintro e w2 ⟨rfl,hw2,k2,s2⟩
 have HW2:Hid (Wl k J t1 vs (.slice va vs.length vc) w2):=hw2
 have HL2:Hid (Lay w2 W.heap.size (.int .i64 (n:Int)) (.string S)):=HL1.out.kept k2 (fun h=>Nat.lt_irrefl _ (HOUT.out _ (.inr (.inr h))))
 have hz2:=k2.size
 have HT2:Hid (∀ e w3,PoW k J SJ w2 t1 vs (.slice va vs.length vc) r t' e w3->PoW k J SJ W t vs (.slice va vs.length vc) r t' e w3):=fun e w3 h3=>PoW.of_below HB1.out (PoW.trans (k2.mono (fun i h=>.inr (.inr h))) (fun i h=>.inl h) s2 h3)
 have HE2:Hid (t'=t1->PoW k J SJ W t vs (.slice va vs.length vc) r t' (.returned (.bool r)) w2):=fun h=>HT2.out _ _ (by rw [h];exact PoW.same (Below.refl _ _) HW2.out)
 clear hw2 k2 s2 hz2
 go_upto_region 6 with fail
 cases th with
 | false =>
   obtain ⟨hr,ht⟩:=HZ.out rfl
   have H3:=HE2.out ht
   subst hr
   have H3':Hid (PoW k J SJ W t vs (.slice va vs.length vc) false t' (.returned (.bool false)) w2):=H3
   clear H3 ht
   go_wp2_with fail
   go_ret
   exact H3'.out
 | true =>
   have cw:w2.cell? ⟨k.wb,0,none⟩=some (.func (.func 56) #[] #[ptr k.vb,ptr k.fb]):=HW2.out.wi
   have cwl:=lt_of_cell cw
   obtain ⟨d0,d1,_,_⟩:=HL2.out
   have hd:=HL2.out.lt
   go_wp2_with fail
   clear d0 d1 hd cw cwl
   refine (H1.out (by first|trivial|rfl) _ _ HW2.out).mono ?_
   rintro e w3 h3
   have H3:=HT2.out _ _ h3
   have he:=h3.1
   subst he
   clear h3
   have H3':Hid (PoW k J SJ W t vs (.slice va vs.length vc) r t' (.returned (.bool r)) w3):=H3
   clear H3
   go_wp2_with fail
   go_ret
   exact H3'.out
end Wp19
end Go.Proofs.Ytfhdbcfhhbdiiaa
