import Derived.Test.YtfhdbcfhhbdiiaaWp15
namespace Go.Proofs.Ytfhdbcfhhbdiiaa
set_option maxRecDepth 100000
set_option maxHeartbeats 8000000
set_option linter.unusedVariables false
namespace Wp16
open Go.RowKit
open Nd0 (Kept Ints WInts lt_of_cell)
open Nd6 (Bools)
open Tc2 (tv ret_bool)
open Tc5 (Lay)
open Ap0 Wp12 Wp15
/-- Where a walk comes to: its answer; the values are as they were, what was there is but in what may turn. -/
def PoW {T:Type} (k:Kn) (J:T->Value->World->Prop) (SJ:T->Nat->Prop) (W:World) (t:T) (vs:List Int) (vv:Value) (r:Bool) (t':T) (e:Ending) (W':World):Prop :=
 e=.returned (.bool r)/\∃ vv',Wl k J t' vs vv' W'/\Kept (fun b=>b=k.vb\/vv.ownBlock=some b\/SJ t b) W W'/\(∀ b,vv'.ownBlock=some b->vv.ownBlock=some b\/W.heap.size<=b)/\(∀ b,SJ t' b->SJ t b\/W.heap.size<=b)
theorem kept_on {S S':Nat->Prop} {u v w:World} (h:Kept S u v) (h':Kept S' v w) (hs:∀ b,b < u.heap.size->S' b->S b):Kept S u w :=
 ⟨h'.os.trans h.os,h'.tape.trans h.tape,h'.output.trans h.output,Nat.le_trans h.size h'.size,fun i hi hb=>(h'.block i (Nat.lt_of_lt_of_le hi h.size) (fun x=>hb (hs i hi x))).trans (h.block i hi hb)⟩
theorem slI (b o n c k:Nat) (h:k<=c) (w:World) :
 (Instr.slice 35 (.slice (some ⟨b,o,none⟩) n c) none (some (.int .i64 (k:Int))) none).run Try.prog w=.ok (.slice (some ⟨b,o,none⟩) k c) w:=by
 rw [run_slice_h w 35 _ _ _ Try.underlying35 .i64 (k:Int) (by omega) (by omega)]
 by_cases e:c=0
 ·simp [go_sem,e,sliced]
 ·simp [go_sem,e,sliced]
theorem ows_cap {w:World} {B g c:Nat} {l:List Int} (h:Ows w B (.slice (some ⟨g,0,none⟩) l.length c) l):l.length<=c:=by
 rcases h.2 with ⟨e,_⟩|⟨g',cap,cur,e,hb,hg,hn,_⟩
 ·cases e
 ·cases e
  exact hn
theorem ows_at {w:World} {B:Nat} {v:Value} {l:List Int} (h:Ows w B v l) (hl:1<=l.length):∃ g c,v=.slice (some ⟨g,0,none⟩) l.length c:=by
 rcases h.2 with ⟨e,h0⟩|⟨g,cap,cur,e,hb,hg,_⟩
 ·omega
 ·exact ⟨g,cap,e⟩
theorem iWith {T:Type} (k:Kn) (J:T->Value->World->Prop) (SJ:T->Nat->Prop) (ks:Ks k) (jm:Jm k J) (W:World) (t t':T) (vs:List Int) (vv:Value) (b:Int) (N N1:Int) (S S1:ByteArray) (r:Bool) (hl:vs.length<=100)
 (hW:Wl k J t vs vv W)
 (hH:∀ W,Calls Try.prog 57 #[tv N S,.int .i64 b] W fun e w'=>e=.returned (.tuple #[tv N1 S1,.bool true])/\Below W.heap.size W w')
 (hF:∀ vv1 W1,Wl k J t (vs++[b]) vv1 W1->Calls Try.prog 58 #[tv N1 S1,ptr k.g,ptr k.vb,ptr k.gb,ptr k.wb] W1 (PoW k J SJ W1 t (vs++[b]) vv1 r t')) :
 Calls Try.prog 56 #[.int .i64 b,tv N S,ptr k.vb,ptr k.fb] W (PoW k J SJ W t vs vv r t'):=by
 obtain ⟨X0,hX0⟩:∃ X,X=W.alloc (.cells #[.int .i64 N,.string S] 26):=⟨_,rfl⟩
 have b0:Below W.heap.size W X0:=by rw [hX0];exact (Below.refl _ _).alloc (Nat.le_refl _) _
 have HB0:Hid (Below W.heap.size W X0):=b0
 have HL0:Hid (Lay X0 W.heap.size (.int .i64 N) (.string S)):=by rw [hX0];exact Lay.made _ _ _ _
 have hE:W.alloc (.cells #[.int .i64 N,.string S] 26)=X0:=hX0.symm
 have HW0:Hid (Wl k J t vs vv X0):=hW.below ks jm b0
 have HH:Hid _:=hH
 have HF:Hid (∀ vv1 W1,Wl k J t (vs++[b]) vv1 W1->Calls Try.prog 58 #[tv N1 S1,ptr k.g,ptr k.vb,ptr k.gb,ptr k.wb] W1 (PoW k J SJ W1 t (vs++[b]) vv1 r t')):=hF
 have HKS:Hid (Ks k):=ks
 have HJM:Hid (Jm k J):=jm
 have HOL:Hid (∀ b,vv.ownBlock=some b->k.B<=b/\b < W.heap.size):=fun b hb=>hW.vo.lt b hb
 have hbl:=hW.bl
 have HVW:Hid (k.vb < W.heap.size):=lt_of_cell hW.vc
 clear hX0 b0 hH hF hW
 go_enter Try.func56,Try.ntmps56
 go_upto_region 1 with fail
 clear hE
 obtain ⟨d0,d1,_,_⟩:=HL0.out
 have hd:=HL0.out.lt
 go_wp2_with fail
 clear d0 d1 hd
 refine (HH.out _).mono ?_
 rintro e w1 ⟨rfl,hb1⟩
 go_upto_region 2 with fail
 obtain ⟨W1,hW1⟩:∃ X,X=w1.alloc (.cells #[.int .i64 N1,.string S1] 26):=⟨_,rfl⟩
 obtain ⟨qh,hqh⟩:∃ q,q=w1.heap.size:=⟨_,rfl⟩
 have hb2:Below X0.heap.size X0 W1:=by rw [hW1];exact hb1.alloc hb1.size _
 have HB1:Hid (Below W.heap.size W W1):=HB0.out.trans (hb2.mono HB0.out.size)
 have HW1:Hid (Wl k J t vs vv W1):=HW0.out.below HKS.out HJM.out hb2
 have HA1:Hid (Lay W1 qh (.int .i64 N1) (.string S1)):=by rw [hW1,hqh];exact Lay.made _ _ _ _
 have HQH:Hid (W.heap.size<=qh/\qh < W1.heap.size):=by
  refine ⟨by rw [hqh];exact Nat.le_trans HB0.out.size hb1.size,by rw [hW1,hqh];simp⟩
 rw [<- hW1,<- hqh]
 clear hW1 hqh hb1 hb2 HB0 HW0 HL0
 have c0:=HW1.out.vc
 have cl:=lt_of_cell c0
 have HNV:Hid (¬ vv.ownBlock=some k.vb):=fun e=>(HW1.out.nb _ e).1 rfl
 go_upto_region 3 with (at_builtin;go_must (refine app_int _ rfl _ _ rfl k.B vv vs b rfl rfl HW1.out.vo HW1.out.bl (by omega) ?_;intro g5 cp5 w5 ho5 hk5 hg5;have f5:w5.frozen? ⟨k.vb,0,none⟩=false:=(by rw [hk5.frozen (p:=⟨k.vb,0,none⟩) cl HNV.out];exact HW1.out.vf);have c5:w5.cell? ⟨k.vb,0,none⟩=some vv:=(by rw [hk5.cell (p:=⟨k.vb,0,none⟩) cl HNV.out];exact HW1.out.vc);have HO5:Hid (Ows w5 k.B (.slice (some ⟨g5,0,none⟩) (vs.length+1) cp5) (vs++[b])):=ho5;have HK5:Hid (Kept (fun i=>vv.ownBlock=some i) W1 w5):=hk5;have HG5:Hid (vv.ownBlock=some g5\/W1.heap.size<=g5):=hg5;have cl5:=lt_of_cell c5;clear ho5 hk5 hg5))
 clear c0 cl f5 cl5
 obtain ⟨W5,hW5⟩:∃ X,X=w5.setCell ⟨k.vb,0,none⟩ (.slice (some ⟨g5,0,none⟩) (vs.length+1) cp5):=⟨_,rfl⟩
 have K5:Kept (fun i=>i=k.vb\/vv.ownBlock=some i) W1 W5:=by rw [hW5];exact (HK5.out.mono (fun i hi=>.inr hi)).setCell (p:=⟨k.vb,0,none⟩) (.inl rfl) _
 have KS5:Kept (fun i=>i=k.vb) w5 W5:=by rw [hW5];exact (Kept.refl (fun i=>i=k.vb) w5).setCell (p:=⟨k.vb,0,none⟩) rfl _
 have HW5:Hid (Wl k J t (vs++[b]) (.slice (some ⟨g5,0,none⟩) (vs.length+1) cp5) W5):=by
  refine HW1.out.turn HKS.out HJM.out K5 (by rw [hW5];exact Nd0.set_same c5) (by rw [hW5,World.frozen?_setCell];exact (by rw [HK5.out.frozen (p:=⟨k.vb,0,none⟩) (lt_of_cell HW1.out.vc) HNV.out];exact HW1.out.vf)) (HO5.out.kept KS5 (fun i hi e=>by
   have h0:g5=i:=by simpa [Value.ownBlock] using hi
   rcases HG5.out with h|h
   ·exact (HW1.out.nb _ h).1 (h0.trans e)
   ·have h5:k.vb < W1.heap.size:=lt_of_cell HW1.out.vc
    omega)) (fun i hi=>?_)
  have:g5=i:=by simpa [Value.ownBlock] using hi
  rw [<- this]
  exact HG5.out
 have HK15:Hid (Kept (fun i=>i=k.vb\/vv.ownBlock=some i\/SJ t i) W W5):=kept_on (Kept.ofBelow HB1.out) (K5.mono (fun i hi=>by rcases hi with e|e;(exact .inl e);(exact .inr (.inl e)))) (fun i _ h=>h)
 have HN5:Hid (∀ i,((.slice (some ⟨g5,0,none⟩) (vs.length+1) cp5):Value).ownBlock=some i->vv.ownBlock=some i\/W.heap.size<=i):=fun i hi=>by
  have:g5=i:=by simpa [Value.ownBlock] using hi
  rw [<- this]
  rcases HG5.out with e|e
  ·exact .inl e
  ·exact .inr (by have:=HB1.out.size;omega)
 have HA5:Hid (Lay W5 qh (.int .i64 N1) (.string S1)):=HA1.out.kept K5 (fun e=>by
  have h1:=HQH.out.1
  rcases e with e|e
  ·have h4:=HVW.out
   omega
  ·have:=(HOL.out qh e).2
   omega)
 rw [<- hW5]
 clear hW5 K5 KS5 c5 HO5 HK5 HG5 HW1 HA1 HNV HB1
 have cf:W5.cell? ⟨k.fb,0,none⟩=some (.func (.func 58) #[] #[ptr k.g,ptr k.vb,ptr k.gb,ptr k.wb]):=HW5.out.fr
 have cfl:=lt_of_cell cf
 obtain ⟨d0,d1,_,_⟩:=HA5.out
 have hd:=HA5.out.lt
 go_wp2_with fail
 clear d0 d1 hd cf cfl
 refine (HF.out _ _ HW5.out).mono ?_
 rintro e w6 ⟨rfl,vv6,h6,k6,n6,s6⟩
 obtain ⟨g6,c6,e6⟩:=ows_at h6.vo (by rw [List.length_append];simp)
 rw [List.length_append,List.length_singleton] at e6
 subst e6
 have HW6:Hid (Wl k J t' (vs++[b]) (.slice (some ⟨g6,0,none⟩) (vs.length+1) c6) w6):=h6
 have HK6:Hid (Kept (fun i=>i=k.vb\/vv.ownBlock=some i\/SJ t i) W w6):=kept_on HK15.out k6 (fun i hi h=>by
  rcases h with e|e|e
  ·exact .inl e
  ·rcases HN5.out i e with e2|e2
   ·exact .inr (.inl e2)
   ·omega
  ·exact .inr (.inr e))
 have hs5:=HK15.out.size
 have HN6:Hid (∀ i,((.slice (some ⟨g6,0,none⟩) (vs.length+1) c6):Value).ownBlock=some i->vv.ownBlock=some i\/W.heap.size<=i):=fun i hi=>by
  rcases n6 i hi with e|e
  ·exact HN5.out i e
  ·exact .inr (by omega)
 have HS6:Hid (∀ i,SJ t' i->SJ t i\/W.heap.size<=i):=fun i hi=>by
  rcases s6 i hi with e|e
  ·exact .inl e
  ·exact .inr (by omega)
 clear h6 k6 n6 s6 HK15 HN5 HW5 HA5 hs5
 have c0:=HW6.out.vc
 have f0:=HW6.out.vf
 have cl:=lt_of_cell c0
 have hcap:vs.length+1<=c6:=by
  have h:=HW6.out.vo
  rw [show vs.length+1=(vs++[b]).length by simp] at h
  have:=ows_cap h
  rw [List.length_append,List.length_singleton] at this
  exact this
 have hsl:=slI g6 0 (vs.length+1) c6 vs.length (by omega)
 have hw1:IntKind.i64.wrap ((vs.length:Int)+1 - 1)=(vs.length:Int):=by rw [IntKind.wrap_i64];omega
 go_wp2
 go_ret
 clear c0 f0 cl hsl hw1
 have K7:Kept (fun i=>i=k.vb\/((.slice (some ⟨g6,0,none⟩) (vs.length+1) c6):Value).ownBlock=some i) w6 (w6.setCell ⟨k.vb,0,none⟩ (.slice (some ⟨g6,0,none⟩) vs.length c6)):=(Kept.refl _ w6).setCell (p:=⟨k.vb,0,none⟩) (.inl rfl) _
 have KS7:Kept (fun i=>i=k.vb) w6 (w6.setCell ⟨k.vb,0,none⟩ (.slice (some ⟨g6,0,none⟩) vs.length c6)):=(Kept.refl (fun i=>i=k.vb) w6).setCell (p:=⟨k.vb,0,none⟩) rfl _
 refine ⟨rfl,.slice (some ⟨g6,0,none⟩) vs.length c6,?_,kept_on HK6.out KS7 (fun i _ h=>.inl h),?_,HS6.out⟩
 ·refine HW6.out.turn HKS.out HJM.out K7 (Nd0.set_same HW6.out.vc) (by rw [World.frozen?_setCell];exact HW6.out.vf) ((ows_less HW6.out.vo).kept KS7 (fun i hi e=>(HW6.out.nb i (by simpa [Value.ownBlock] using hi)).1 e)) (fun i hi=>.inl (by simpa [Value.ownBlock] using hi))
 ·intro i hi
  exact HN6.out i (by simpa [Value.ownBlock] using hi)
theorem iWith0 {T:Type} (k:Kn) (J:T->Value->World->Prop) (SJ:T->Nat->Prop) (ks:Ks k) (jm:Jm k J) (W:World) (t:T) (vs:List Int) (vv:Value) (b:Int) (N N1:Int) (S S1:ByteArray) (hl:vs.length<=100)
 (hW:Wl k J t vs vv W)
 (hH:∀ W,Calls Try.prog 57 #[tv N S,.int .i64 b] W fun e w'=>e=.returned (.tuple #[tv N1 S1,.bool false])/\Below W.heap.size W w') :
 Calls Try.prog 56 #[.int .i64 b,tv N S,ptr k.vb,ptr k.fb] W (PoW k J SJ W t vs vv false t):=by
 obtain ⟨X0,hX0⟩:∃ X,X=W.alloc (.cells #[.int .i64 N,.string S] 26):=⟨_,rfl⟩
 have b0:Below W.heap.size W X0:=by rw [hX0];exact (Below.refl _ _).alloc (Nat.le_refl _) _
 have HB0:Hid (Below W.heap.size W X0):=b0
 have HL0:Hid (Lay X0 W.heap.size (.int .i64 N) (.string S)):=by rw [hX0];exact Lay.made _ _ _ _
 have hE:W.alloc (.cells #[.int .i64 N,.string S] 26)=X0:=hX0.symm
 have HW0:Hid (Wl k J t vs vv X0):=hW.below ks jm b0
 have HH:Hid _:=hH
 have HKS:Hid (Ks k):=ks
 have HJM:Hid (Jm k J):=jm
 have HOL:Hid (∀ b,vv.ownBlock=some b->k.B<=b/\b < W.heap.size):=fun b hb=>hW.vo.lt b hb
 have hbl:=hW.bl
 have HVW:Hid (k.vb < W.heap.size):=lt_of_cell hW.vc
 clear hX0 b0 hH hW
 go_enter Try.func56,Try.ntmps56
 go_upto_region 1 with fail
 clear hE
 obtain ⟨d0,d1,_,_⟩:=HL0.out
 have hd:=HL0.out.lt
 go_wp2_with fail
 clear d0 d1 hd
 refine (HH.out _).mono ?_
 rintro e w1 ⟨rfl,hb1⟩
 go_upto_region 2 with fail
 obtain ⟨W1,hW1⟩:∃ X,X=w1.alloc (.cells #[.int .i64 N1,.string S1] 26):=⟨_,rfl⟩
 obtain ⟨qh,hqh⟩:∃ q,q=w1.heap.size:=⟨_,rfl⟩
 have hb2:Below X0.heap.size X0 W1:=by rw [hW1];exact hb1.alloc hb1.size _
 have HB1:Hid (Below W.heap.size W W1):=HB0.out.trans (hb2.mono HB0.out.size)
 have HW1:Hid (Wl k J t vs vv W1):=HW0.out.below HKS.out HJM.out hb2
 have HA1:Hid (Lay W1 qh (.int .i64 N1) (.string S1)):=by rw [hW1,hqh];exact Lay.made _ _ _ _
 have HQH:Hid (W.heap.size<=qh/\qh < W1.heap.size):=by
  refine ⟨by rw [hqh];exact Nat.le_trans HB0.out.size hb1.size,by rw [hW1,hqh];simp⟩
 rw [<- hW1,<- hqh]
 clear hW1 hqh hb1 hb2 HB0 HW0 HL0
 have c0:=HW1.out.vc
 have cl:=lt_of_cell c0
 have HNV:Hid (¬ vv.ownBlock=some k.vb):=fun e=>(HW1.out.nb _ e).1 rfl
 go_upto_region 3 with (at_builtin;go_must (refine app_int _ rfl _ _ rfl k.B vv vs b rfl rfl HW1.out.vo HW1.out.bl (by omega) ?_;intro g5 cp5 w5 ho5 hk5 hg5;have f5:w5.frozen? ⟨k.vb,0,none⟩=false:=(by rw [hk5.frozen (p:=⟨k.vb,0,none⟩) cl HNV.out];exact HW1.out.vf);have c5:w5.cell? ⟨k.vb,0,none⟩=some vv:=(by rw [hk5.cell (p:=⟨k.vb,0,none⟩) cl HNV.out];exact HW1.out.vc);have HO5:Hid (Ows w5 k.B (.slice (some ⟨g5,0,none⟩) (vs.length+1) cp5) (vs++[b])):=ho5;have HK5:Hid (Kept (fun i=>vv.ownBlock=some i) W1 w5):=hk5;have HG5:Hid (vv.ownBlock=some g5\/W1.heap.size<=g5):=hg5;have cl5:=lt_of_cell c5;clear ho5 hk5 hg5))
 clear c0 cl f5 cl5
 obtain ⟨W5,hW5⟩:∃ X,X=w5.setCell ⟨k.vb,0,none⟩ (.slice (some ⟨g5,0,none⟩) (vs.length+1) cp5):=⟨_,rfl⟩
 have K5:Kept (fun i=>i=k.vb\/vv.ownBlock=some i) W1 W5:=by rw [hW5];exact (HK5.out.mono (fun i hi=>.inr hi)).setCell (p:=⟨k.vb,0,none⟩) (.inl rfl) _
 have KS5:Kept (fun i=>i=k.vb) w5 W5:=by rw [hW5];exact (Kept.refl (fun i=>i=k.vb) w5).setCell (p:=⟨k.vb,0,none⟩) rfl _
 have HW5:Hid (Wl k J t (vs++[b]) (.slice (some ⟨g5,0,none⟩) (vs.length+1) cp5) W5):=by
  refine HW1.out.turn HKS.out HJM.out K5 (by rw [hW5];exact Nd0.set_same c5) (by rw [hW5,World.frozen?_setCell];exact (by rw [HK5.out.frozen (p:=⟨k.vb,0,none⟩) (lt_of_cell HW1.out.vc) HNV.out];exact HW1.out.vf)) (HO5.out.kept KS5 (fun i hi e=>by
   have h0:g5=i:=by simpa [Value.ownBlock] using hi
   rcases HG5.out with h|h
   ·exact (HW1.out.nb _ h).1 (h0.trans e)
   ·have h5:k.vb < W1.heap.size:=lt_of_cell HW1.out.vc
    omega)) (fun i hi=>?_)
  have:g5=i:=by simpa [Value.ownBlock] using hi
  rw [<- this]
  exact HG5.out
 have HK15:Hid (Kept (fun i=>i=k.vb\/vv.ownBlock=some i\/SJ t i) W W5):=kept_on (Kept.ofBelow HB1.out) (K5.mono (fun i hi=>by rcases hi with e|e;(exact .inl e);(exact .inr (.inl e)))) (fun i _ h=>h)
 have HN5:Hid (∀ i,((.slice (some ⟨g5,0,none⟩) (vs.length+1) cp5):Value).ownBlock=some i->vv.ownBlock=some i\/W.heap.size<=i):=fun i hi=>by
  have:g5=i:=by simpa [Value.ownBlock] using hi
  rw [<- this]
  rcases HG5.out with e|e
  ·exact .inl e
  ·exact .inr (by have:=HB1.out.size;omega)
 have HA5:Hid (Lay W5 qh (.int .i64 N1) (.string S1)):=HA1.out.kept K5 (fun e=>by
  have h1:=HQH.out.1
  rcases e with e|e
  ·have h4:=HVW.out
   omega
  ·have:=(HOL.out qh e).2
   omega)
 rw [<- hW5]
 clear hW5 K5 KS5 c5 HO5 HK5 HG5 HW1 HA1 HNV HB1
 generalize g5=g6 at *
 generalize cp5=c6 at *
 generalize W5=w6 at *
 have HW6:Hid (Wl k J t (vs++[b]) (.slice (some ⟨g6,0,none⟩) (vs.length+1) c6) w6):=HW5.out
 have HK6:Hid (Kept (fun i=>i=k.vb\/vv.ownBlock=some i\/SJ t i) W w6):=HK15.out
 have HN6:Hid (∀ i,((.slice (some ⟨g6,0,none⟩) (vs.length+1) c6):Value).ownBlock=some i->vv.ownBlock=some i\/W.heap.size<=i):=HN5.out
 have HS6:Hid (∀ i,SJ t i->SJ t i\/W.heap.size<=i):=fun i hi=>.inl hi
 clear HK15 HN5 HW5 HA5
 have c0:=HW6.out.vc
 have f0:=HW6.out.vf
 have cl:=lt_of_cell c0
 have hcap:vs.length+1<=c6:=by
  have h:=HW6.out.vo
  rw [show vs.length+1=(vs++[b]).length by simp] at h
  have:=ows_cap h
  rw [List.length_append,List.length_singleton] at this
  exact this
 have hsl:=slI g6 0 (vs.length+1) c6 vs.length (by omega)
 have hw1:IntKind.i64.wrap ((vs.length:Int)+1 - 1)=(vs.length:Int):=by rw [IntKind.wrap_i64];omega
 go_wp2
 go_ret
 clear c0 f0 cl hsl hw1
 have K7:Kept (fun i=>i=k.vb\/((.slice (some ⟨g6,0,none⟩) (vs.length+1) c6):Value).ownBlock=some i) w6 (w6.setCell ⟨k.vb,0,none⟩ (.slice (some ⟨g6,0,none⟩) vs.length c6)):=(Kept.refl _ w6).setCell (p:=⟨k.vb,0,none⟩) (.inl rfl) _
 have KS7:Kept (fun i=>i=k.vb) w6 (w6.setCell ⟨k.vb,0,none⟩ (.slice (some ⟨g6,0,none⟩) vs.length c6)):=(Kept.refl (fun i=>i=k.vb) w6).setCell (p:=⟨k.vb,0,none⟩) rfl _
 refine ⟨rfl,.slice (some ⟨g6,0,none⟩) vs.length c6,?_,kept_on HK6.out KS7 (fun i _ h=>.inl h),?_,HS6.out⟩
 ·refine HW6.out.turn HKS.out HJM.out K7 (Nd0.set_same HW6.out.vc) (by rw [World.frozen?_setCell];exact HW6.out.vf) ((ows_less HW6.out.vo).kept KS7 (fun i hi e=>(HW6.out.nb i (by simpa [Value.ownBlock] using hi)).1 e)) (fun i hi=>.inl (by simpa [Value.ownBlock] using hi))
 ·intro i hi
  exact HN6.out i (by simpa [Value.ownBlock] using hi)
end Wp16
end Go.Proofs.Ytfhdbcfhhbdiiaa
