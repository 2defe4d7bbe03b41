import Derived.Test.YtfhdbcfhhbdiiaaWr3
namespace Go.Proofs.Ytfhdbcfhhbdiiaa
set_option maxRecDepth 100000
set_option maxHeartbeats 8000000
set_option linter.unusedVariables false
namespace Wr4
open Go.RowKit
open Nd0 (Kept Ints WInts lt_of_cell set_same)
open Nd6 (Bools)
open Op6 (Pk PkAt Pks)
open Ta1 (tab tab_length tokB tok_tab)
open Ta2 (bitB)
open Tc2 (tv ret_bool)
open Tc5 (Lay)
open Ss0 (bs bs_size)
open Ss1 (tl bs_tl)
open Dq1 (ownF ownL ownL_yes)
open De0 (dc)
open Dp4 (iDecide iDecide0 iRuled0)
open Ap0 Wp12 Wp15 Wp16 Wp17 Wp18 Wr0 Wr1 Wr2 Wr3 Wr16
set_option linter.unusedSimpArgs false
def kn (n:Nat) (N:Int) (S:ByteArray) (v:Int) (a:Option Addr) (o:Nat) (OL:List Bool) (gi:Value):Kn:=⟨n,n+1+1+1,n+1,n+1+1+1+1,n+1+1+1+1+1,n+1+1,N,S,v,a,o,OL,gi⟩
theorem ks_n (w:World) (N:Int) (S:ByteArray) (v:Int) (a:Option Addr) (o:Nat) (OL:List Bool) (gi:Value) (hB:Bools w a OL):Ks (kn w.heap.size N S v a o OL gi):=by
 refine ⟨?_,?_,?_,?_,?_,?_,?_⟩
 ·show w.heap.size < w.heap.size+1+1;omega
 ·show w.heap.size+1 < w.heap.size+1+1;omega
 ·show w.heap.size≠w.heap.size+1+1+1;omega
 ·show w.heap.size+1≠w.heap.size+1+1+1;omega
 ·show w.heap.size+1+1+1+1≠w.heap.size+1+1+1;omega
 ·show w.heap.size+1+1+1+1+1≠w.heap.size+1+1+1;omega
 ·intro x hx hl
  rcases hB.2 with e|⟨b,i,e,hc⟩
  ·have:0 < OL.length:=hl
   omega
  ·have hx':a=some x:=hx
   rw [e] at hx'
   cases hx'
   have:=lt_of_cell (hc 0 hl)
   show b < w.heap.size+1+1/\b≠w.heap.size+1+1+1
   have h2:b < w.heap.size:=this
   exact ⟨by omega,by omega⟩
theorem wl_n {T:Type} (J:T->Value->World->Prop) (t:T) (w:World) (N:Int) (S:ByteArray) (v:Int) (a:Option Addr) (o:Nat) (OL:List Bool) (gi:Value) (hB:Bools w a OL) (hJ:∀ X,Below w.heap.size w X->J t (.slice (some ⟨w.heap.size+1+1,0,none⟩) 0 0) X) (T0 T1 T3 T4 T5:Nat) :
 ∀ X,X=((((((w.alloc (.cells #[.int .i64 N,.string S,.int .i64 v,.slice a OL.length o] T0)).alloc (.cells #[gi] T1)).alloc (.cells #[] 3)).alloc (.cells #[.slice (some ⟨w.heap.size+1+1,0,none⟩) 0 0] T3)).alloc (.cells #[(kn w.heap.size N S v a o OL gi).from_] T4)).alloc (.cells #[(kn w.heap.size N S v a o OL gi).with_] T5))->Wl (kn w.heap.size N S v a o OL gi) J t [] (.slice (some ⟨w.heap.size+1+1,0,none⟩) 0 0) X/\Below w.heap.size w X:=by
 intro X hX
 rw [hX]
 clear hX X
 obtain ⟨fr,hfr⟩:∃ x,x=(kn w.heap.size N S v a o OL gi).from_:=⟨_,rfl⟩
 obtain ⟨wi,hwi⟩:∃ x,x=(kn w.heap.size N S v a o OL gi).with_:=⟨_,rfl⟩
 rw [<- hfr,<- hwi]
 obtain ⟨X1,h1⟩:∃ X,X=w.alloc (.cells #[.int .i64 N,.string S,.int .i64 v,.slice a OL.length o] T0):=⟨_,rfl⟩
 have z1:X1.heap.size=w.heap.size+1:=by rw [h1];simp
 have g1:G4 X1 w.heap.size (.int .i64 N) (.string S) (.int .i64 v) (.slice a OL.length o):=by rw [h1];exact G4.made _ _ _ _ _ _
 have b1:Below w.heap.size w X1:=by rw [h1];exact (Below.refl _ _).alloc (Nat.le_refl _) _
 rw [<- h1]
 obtain ⟨X2,h2⟩:∃ X,X=X1.alloc (.cells #[gi] T1):=⟨_,rfl⟩
 have z2:X2.heap.size=w.heap.size+1+1:=by rw [h2,<- z1];simp
 have c2:X2.cell? ⟨w.heap.size+1,0,none⟩=some gi:=by rw [h2,<- z1];simp
 have b2:Below X1.heap.size X1 X2:=by rw [h2];exact (Below.refl _ _).alloc (Nat.le_refl _) _
 rw [<- h2]
 obtain ⟨X3,h3⟩:∃ X,X=X2.alloc (.cells #[] 3):=⟨_,rfl⟩
 have z3:X3.heap.size=w.heap.size+1+1+1:=by rw [h3,<- z2];simp
 have o3:Ows X3 (w.heap.size+1+1) (.slice (some ⟨w.heap.size+1+1,0,none⟩) 0 0) []:=by rw [h3,<- z2];exact Ows.lit X2 _ (Nat.le_refl _)
 have b3:Below X2.heap.size X2 X3:=by rw [h3];exact (Below.refl _ _).alloc (Nat.le_refl _) _
 rw [<- h3]
 obtain ⟨X4,h4⟩:∃ X,X=X3.alloc (.cells #[.slice (some ⟨w.heap.size+1+1,0,none⟩) 0 0] T3):=⟨_,rfl⟩
 have z4:X4.heap.size=w.heap.size+1+1+1+1:=by rw [h4,<- z3];simp
 have c4:X4.cell? ⟨w.heap.size+1+1+1,0,none⟩=some (.slice (some ⟨w.heap.size+1+1,0,none⟩) 0 0):=by rw [h4,<- z3];simp
 have f4:X4.frozen? ⟨w.heap.size+1+1+1,0,none⟩=false:=by rw [h4,<- z3];simp
 have b4:Below X3.heap.size X3 X4:=by rw [h4];exact (Below.refl _ _).alloc (Nat.le_refl _) _
 rw [<- h4]
 obtain ⟨X5,h5⟩:∃ X,X=X4.alloc (.cells #[fr] T4):=⟨_,rfl⟩
 have z5:X5.heap.size=w.heap.size+1+1+1+1+1:=by rw [h5,<- z4];simp
 have c5:X5.cell? ⟨w.heap.size+1+1+1+1,0,none⟩=some fr:=by rw [h5,<- z4];simp
 have b5:Below X4.heap.size X4 X5:=by rw [h5];exact (Below.refl _ _).alloc (Nat.le_refl _) _
 rw [<- h5]
 obtain ⟨X6,h6⟩:∃ X,X=X5.alloc (.cells #[wi] T5):=⟨_,rfl⟩
 have c6:X6.cell? ⟨w.heap.size+1+1+1+1+1,0,none⟩=some wi:=by rw [h6,<- z5];simp
 have b6:Below X5.heap.size X5 X6:=by rw [h6];exact (Below.refl _ _).alloc (Nat.le_refl _) _
 rw [<- h6]
 have a5:Below X4.heap.size X4 X6:=b5.trans (b6.mono b5.size)
 have a4:Below X3.heap.size X3 X6:=b4.trans (a5.mono b4.size)
 have a3:Below X2.heap.size X2 X6:=b3.trans (a4.mono b3.size)
 have a2:Below X1.heap.size X1 X6:=b2.trans (a3.mono b2.size)
 have a1:Below w.heap.size w X6:=b1.trans (a2.mono b1.size)
 have zz:=a5.size
 refine ⟨⟨g1.below a2,hB.below a1,?_,?_,?_,?_,?_,?_,?_,?_,?_⟩,a1⟩
 ·exact (a5.cell (p:=⟨w.heap.size+1+1+1,0,none⟩) (lt_of_cell c4)).trans c4
 ·exact (a5.frozen (p:=⟨w.heap.size+1+1+1,0,none⟩) (lt_of_cell c4)).trans f4
 ·exact o3.kept (S:=fun _=>False) (Kept.ofBelow a4) (fun _ _ h=>h)
 ·exact (a3.cell (p:=⟨w.heap.size+1,0,none⟩) (lt_of_cell c2)).trans c2
 ·rw [<- hfr];exact (b6.cell (p:=⟨w.heap.size+1+1+1+1,0,none⟩) (lt_of_cell c5)).trans c5
 ·rw [<- hwi];exact c6
 ·exact hJ X6 a1
 ·show w.heap.size+1+1<=X6.heap.size
  omega
 ·intro b hb
  have hb':w.heap.size+1+1=b:=by simpa [Value.ownBlock] using hb
  show b≠w.heap.size+1+1+1/\b≠w.heap.size+1+1+1+1/\b≠w.heap.size+1+1+1+1+1
  exact ⟨by omega,by omega,by omega⟩
theorem jw_up {k:Kn} {ml mr:Nat} {ra:Option Addr} {row:List Bool} {rc B:Nat} {t:Tl} {vv vv':Value} {w X:World} (h:Jw k ml mr ra row rc B t vv w) (hb:Below w.heap.size w X) (hn:∀ b,vv'.ownBlock=some b->w.heap.size<=b):Jw k ml mr ra row rc B t vv' X:=by
 have lm:ml < w.heap.size:=lt_of_cell h.cm
 have lr:mr < w.heap.size:=lt_of_cell h.cr
 refine ⟨by rw [hb.cell (p:=⟨ml,0,none⟩) lm];exact h.cm,by rw [hb.frozen (p:=⟨ml,0,none⟩) lm];exact h.fm,by rw [hb.cell (p:=⟨mr,0,none⟩) lr];exact h.cr,h.rb.below hb,h.lq.below hb,h.mg,h.mo,h.ap,fun b hv=>?_⟩
 have:=hn b hv
 exact ⟨fun hf=>by have:=h.lt hf;omega,by omega,fun x hx hl=>by have:=ra_lt h.rb hx hl;omega⟩
/-- What a walk of Win leaves. -/
def Won (ml B:Nat) (t:Tl) (ps:List Pk) (w w':World):Prop:=∃ t':Tl,pks t'=ps/\w'.cell? ⟨ml,0,none⟩=some (.slice (some ⟨t'.g,0,none⟩) t'.qs.length t'.cap)/\Lq w' B t'.g t'.cap t'.qs/\Kept (Sw ml t) w w'/\(t'.g=t.g\/w.heap.size<=t'.g)
abbrev gw (ml mr:Nat):Value:=.func (.func 30) #[] #[ptr mr,ptr ml]
theorem own_two {n b:Nat} (h:((.slice (some ⟨n+1+1,0,none⟩) 0 0):Value).ownBlock=some b):n < b:=by
 have h:n+1+1=b:=by simpa [Value.ownBlock] using h
 omega
theorem at_w (F:Nat->Bool) (v:Int) (d:Bool) (row:List Bool) (ra a:Option Addr) (rc o ml mr B:Nat) (t:Tl) (w:World) (hn:row.length<=12) (hv:v=(d.toNat:Int)) (hd:dc row F=d) (hrc:row.length<=rc) (hB:Bools w a (ownL v row))
 (hj:Jw (kn w.heap.size (row.length:Int) (bs (tab row.length F)) v a o (ownL v row) (gw ml mr)) ml mr ra row rc B t (.slice none 0 0) w) (hq:t.qs=[]) (T0 T1 T3 T4 T5:Nat) :
 Calls Try.prog 58 #[tv (row.length:Int) (bs (tab row.length F)),ptr w.heap.size,ptr (w.heap.size+1+1+1),ptr (w.heap.size+1),ptr (w.heap.size+1+1+1+1+1)] ((((((w.alloc (.cells #[.int .i64 (row.length:Int),.string (bs (tab row.length F)),.int .i64 v,.slice a (ownL v row).length o] T0)).alloc (.cells #[(.func (.func 30) #[] #[ptr mr,ptr ml])] T1)).alloc (.cells #[] 3)).alloc (.cells #[.slice (some ⟨w.heap.size+1+1,0,none⟩) 0 0] T3)).alloc (.cells #[(.func (.func 58) #[] #[ptr w.heap.size,ptr (w.heap.size+1+1+1),ptr (w.heap.size+1),ptr (w.heap.size+1+1+1+1+1)])] T4)).alloc (.cells #[(.func (.func 56) #[] #[ptr (w.heap.size+1+1+1),ptr (w.heap.size+1+1+1+1)])] T5)) fun e w'=>e=.returned (.bool true)/\Won ml B t (wn v row F []) w w':=by
 have hvb:bitB v=true:=by subst hv;cases d<;>rfl
 have H:=wl_n (Jw (kn w.heap.size (row.length:Int) (bs (tab row.length F)) v a o (ownL v row) (gw ml mr)) ml mr ra row rc B) t w (row.length:Int) (bs (tab row.length F)) v a o (ownL v row) (gw ml mr) hB (fun X hX=>jw_up hj hX (fun b hb=>Nat.le_of_lt (own_two hb))) T0 T1 T3 T4 T5 _ rfl
 have lm:ml < w.heap.size:=lt_of_cell hj.cm
 have lr:mr < w.heap.size:=lt_of_cell hj.cr
 have h:=fw_all (k:=kn w.heap.size (row.length:Int) (bs (tab row.length F)) v a o (ownL v row) (gw ml mr)) (ml:=ml) (mr:=mr) (ra:=ra) (row0:=row) (rc:=rc) (B:=B) (ks_n w _ _ v a o _ _ hB) ⟨by show mr≠w.heap.size+1+1+1;omega,fun x hx hl=>by have:=ra_lt hj.rb hx hl;show x.block≠w.heap.size+1+1+1;omega⟩ rfl hn hrc row F [] t _ _ d H.1 (by show (ownL v row).drop 0=_;rw [List.drop_zero];exact ownL_yes hvb) rfl (by simp) hd hv (by
  have:2 ^ row.length<=2 ^ 12:=Nat.pow_le_pow_right (by decide) hn
  rw [hq];simp only [List.length_nil];omega)
 refine h.mono ?_
 rintro e w' ⟨t',ht,he,vv',hW,hK,_,hs⟩
 refine ⟨he,t',by rw [ht,show pks t=[] from by unfold pks;rw [hq];rfl,List.nil_append];rfl,hW.j.cm,hW.j.lq,kept_on (Kept.ofBelow H.2) hK (fun b hb hx=>?_),?_⟩
 ·rcases hx with e|e|e
  ·have e':b=w.heap.size+1+1+1:=e
   omega
  ·have:=own_two e
   omega
  ·exact e
 ·rcases hs t'.g (.inr rfl) with e|e
  ·rcases e with e|e
   ·exact absurd e.symm hW.j.mg
   ·exact .inl e
  ·exact .inr (Nat.le_trans H.2.size e)
theorem iWalkW (F:Nat->Bool) (v:Int) (d:Bool) (row:List Bool) (ra a:Option Addr) (rc o ml mr B:Nat) (t:Tl) (w:World) (hn:row.length<=12) (hv:v=(d.toNat:Int)) (hd:dc row F=d) (hrc:row.length<=rc) (hB:Bools w a (ownL v row))
 (hj:Jw (kn w.heap.size (row.length:Int) (bs (tab row.length F)) v a o (ownL v row) (gw ml mr)) ml mr ra row rc B t (.slice none 0 0) w) (hq:t.qs=[]) :
 Calls Try.prog 29 #[gv (row.length:Int) (bs (tab row.length F)) v a (ownL v row).length o,.func (.func 30) #[] #[ptr mr,ptr ml]] w fun e w'=>e=.returned (.bool true)/\Won ml B t (wn v row F []) w w':=by
 have HAT:Hid _:=fun T0 T1 T3 T4 T5=>at_w F v d row ra a rc o ml mr B t w hn hv hd hrc hB hj hq T0 T1 T3 T4 T5
 clear hn hv hd hrc hB hj hq
 obtain ⟨R,hR⟩:∃ R,R=Won ml B t (wn v row F []) w:=⟨_,rfl⟩
 rw [<- hR] at HAT ⊢
 clear hR
 generalize (ownL v row).length=m at *
 generalize bs (tab row.length F)=S at *
 go_enter Try.func29,Try.ntmps29
 go_upto_region 5 with fail
 go_wp2_with fail
 refine Calls.mono (R:=fun e w'=>e=.returned (.bool true)/\R w') ?_ ?_
 ·exact HAT.out _ _ _ _ _
 ·rintro e w' ⟨rfl,hb⟩
  have HB:Hid (R w'):=hb
  clear hb
  go_wp2_with fail
  go_ret
  exact ⟨rfl,HB.out⟩
/-- What stands in Win ahead of its walk. -/
structure Wi (W:World) (n:Nat) (ra:Option Addr) (L c:Nat) (N:Int) (S:ByteArray) (T3:Nat):Prop where
 cr:W.cell? ⟨n,0,none⟩=some (.slice ra L c)
 t0:W.cell? ⟨n+1,0,none⟩=some (.int .i64 N)
 t1:W.cell? ⟨n+1,1,none⟩=some (.string S)
 b2:W.heap[n+1+1]? = some (.cells #[] 61 (0,0))
 b3:W.heap[n+1+1+1]? = some (.cells #[.slice (some ⟨n+1+1,0,none⟩) 0 0] T3 (0,0))
theorem Wi.below {W W':World} {n:Nat} {ra:Option Addr} {L c:Nat} {N:Int} {S:ByteArray} {T3:Nat} (h:Wi W n ra L c N S T3) (k:Below W.heap.size W W'):Wi W' n ra L c N S T3 :=
 ⟨by rw [k.cell (p:=⟨n,0,none⟩) (lt_of_cell h.cr)];exact h.cr,by rw [k.cell (p:=⟨n+1,0,none⟩) (lt_of_cell h.t0)];exact h.t0,by rw [k.cell (p:=⟨n+1,1,none⟩) (lt_of_cell h.t1)];exact h.t1,by rw [k.block _ (Array.getElem?_eq_some_iff.1 h.b2).1];exact h.b2,by rw [k.block _ (Array.getElem?_eq_some_iff.1 h.b3).1];exact h.b3⟩
theorem Wi.cm {W:World} {n:Nat} {ra:Option Addr} {L c:Nat} {N:Int} {S:ByteArray} {T3:Nat} (h:Wi W n ra L c N S T3):W.cell? ⟨n+1+1+1,0,none⟩=some (.slice (some ⟨n+1+1,0,none⟩) 0 0):=by
 rw [cell_of_row W _ 0 _ _ _ h.b3];rfl
theorem Wi.made (w:World) (ra:Option Addr) (L c:Nat) (N:Int) (S:ByteArray) (T0 T1 T3:Nat):Wi ((((w.alloc (.cells #[.slice ra L c] T0)).alloc (.cells #[.int .i64 N,.string S] T1)).alloc (.cells #[] 61)).alloc (.cells #[.slice (some ⟨w.heap.size+1+1,0,none⟩) 0 0] T3)) w.heap.size ra L c N S T3:=by
 obtain ⟨X0,h0⟩:∃ X,X=w.alloc (.cells #[.slice ra L c] T0):=⟨_,rfl⟩
 have z0:X0.heap.size=w.heap.size+1:=by rw [h0];simp
 have c0:X0.cell? ⟨w.heap.size,0,none⟩=some (.slice ra L c):=by rw [h0];simp
 rw [<- h0]
 obtain ⟨X1,h1⟩:∃ X,X=X0.alloc (.cells #[.int .i64 N,.string S] T1):=⟨_,rfl⟩
 have z1:X1.heap.size=w.heap.size+1+1:=by rw [h1,<- z0];simp
 have c1:X1.cell? ⟨w.heap.size+1,0,none⟩=some (.int .i64 N):=by rw [h1,<- z0];simp
 have d1:X1.cell? ⟨w.heap.size+1,1,none⟩=some (.string S):=by rw [h1,<- z0];simp
 have b1:Below X0.heap.size X0 X1:=by rw [h1];exact (Below.refl _ _).alloc (Nat.le_refl _) _
 rw [<- h1]
 obtain ⟨X2,h2⟩:∃ X,X=X1.alloc (.cells #[] 61):=⟨_,rfl⟩
 have z2:X2.heap.size=w.heap.size+1+1+1:=by rw [h2,<- z1];simp
 have e2:X2.heap[w.heap.size+1+1]? = some (.cells #[] 61 (0,0)):=by rw [h2,<- z1];exact heap_alloc_new X1 _
 have b2:Below X1.heap.size X1 X2:=by rw [h2];exact (Below.refl _ _).alloc (Nat.le_refl _) _
 rw [<- h2]
 obtain ⟨X3,h3⟩:∃ X,X=X2.alloc (.cells #[.slice (some ⟨w.heap.size+1+1,0,none⟩) 0 0] T3):=⟨_,rfl⟩
 have e3:X3.heap[w.heap.size+1+1+1]? = some (.cells #[.slice (some ⟨w.heap.size+1+1,0,none⟩) 0 0] T3 (0,0)):=by rw [h3,<- z2];exact heap_alloc_new X2 _
 have b3:Below X2.heap.size X2 X3:=by rw [h3];exact (Below.refl _ _).alloc (Nat.le_refl _) _
 rw [<- h3]
 have a2:Below X1.heap.size X1 X3:=b2.trans (b3.mono b2.size)
 have a1:Below X0.heap.size X0 X3:=b1.trans (a2.mono b1.size)
 exact ⟨by rw [a1.cell (p:=⟨w.heap.size,0,none⟩) (lt_of_cell c0)];exact c0,by rw [a2.cell (p:=⟨w.heap.size+1,0,none⟩) (lt_of_cell c1)];exact c1,by rw [a2.cell (p:=⟨w.heap.size+1,1,none⟩) (lt_of_cell d1)];exact d1,by rw [b3.block _ (by omega)];exact e2,e3⟩
/-- Win's giver at the walk's beginning. -/
theorem Wi.jw {W:World} {n:Nat} {ra a:Option Addr} {row OL:List Bool} {c o:Nat} {N v:Int} {S:ByteArray} {T3:Nat} {gi:Value} (h:Wi W n ra row.length c N S T3) (hR:Bools W ra row) (hra:∀ x,ra=some x->0 < row.length->x.block < n) (hO:Bools W a OL):Jw (kn W.heap.size N S v a o OL gi) (n+1+1+1) n ra row c n ⟨n+1+1,0,[]⟩ (.slice none 0 0) W:=by
 have hlt:n+1+1+1 < W.heap.size:=lt_of_cell h.cm
 have hft:∀ b,Ft (n+1+1+1) ⟨n+1+1,0,[]⟩ b->b=n+1+1+1\/b=n+1+1:=fun b hb=>by
  rcases hb with e|e|⟨q,hq,_⟩
  ·exact .inl e
  ·exact .inr e
  ·cases hq
 refine ⟨h.cm,by simp [World.frozen?,h.b3],h.cr,hR,⟨⟨rfl,.inr ⟨n+1+1,0,#[],rfl,by omega,h.b2,Nat.le_refl _,Nat.zero_le _,rfl,rfl⟩⟩,fun _ hq=>(by cases hq),List.Pairwise.nil,fun _ hq=>(by cases hq)⟩,by show n+1+1+1≠n+1+1;omega,fun _ hq=>(by cases hq),fun b hb=>?_,fun b hb=>by simp [Value.ownBlock] at hb⟩
 have hb2:b≠W.heap.size/\b≠W.heap.size+1+1+1/\b≠W.heap.size+1/\b≠W.heap.size+1+1+1+1/\b≠W.heap.size+1+1+1+1+1/\b≠n:=by
  rcases hft b hb with e|e<;>exact ⟨by omega,by omega,by omega,by omega,by omega,by omega⟩
 refine ⟨hb2.1,hb2.2.1,hb2.2.2.1,hb2.2.2.2.1,hb2.2.2.2.2.1,hb2.2.2.2.2.2,fun x hx hl e=>?_,fun x hx hl e=>?_⟩
 ·rcases hO.2 with e0|⟨y,i,e0,hc⟩
  ·have hl':0 < OL.length:=hl
   omega
  ·have hx':a=some x:=hx
   rw [e0] at hx'
   cases hx'
   have e':y=b:=e
   subst e'
   have h0:=hc 0 hl
   rcases hft y hb with e1|e1
   ·subst e1
    rw [cell_of_row W _ _ _ _ _ h.b3] at h0
    cases i with
    | zero=>cases h0
    | succ i=>simp at h0
   ·subst e1
    rw [cell_of_row W _ _ _ _ _ h.b2] at h0
    simp at h0
 ·have:=hra x hx hl
  rcases hft b hb with e1|e1<;>omega
theorem iWin (row:List Bool) (F:Nat->Bool) (ra:Option Addr) (c:Nat) (w:World) (hn:row.length<=12) (hB:Bools w ra row) (hc:row.length<=c) :
 Calls Try.prog 7 #[.slice ra row.length c,tv (row.length:Int) (bs (tab row.length F))] w fun e w'=>∃ g cap qs,e=.returned (.tuple #[.slice (some ⟨g,0,none⟩) qs.length cap,.int .i64 ((dc row F).toNat:Int),.bool true])/\qs.map Pq.pk=wn ((dc row F).toNat:Int) row F []/\Lq w' w.heap.size g cap qs/\Below w.heap.size w w':=by
 obtain ⟨X1,hX1⟩:∃ X,X=(((w.alloc (.cells #[.slice ra row.length c] 24)).alloc (.cells #[.int .i64 (row.length:Int),.string (bs (tab row.length F))] 26)).alloc (.cells #[] 61)).alloc (.cells #[.slice (some ⟨w.heap.size+1+1,0,none⟩) 0 0] 29):=⟨_,rfl⟩
 have b1:Below w.heap.size w X1:=by rw [hX1];exact ((((Below.refl _ _).alloc (Nat.le_refl _) _).alloc (by simp) _).alloc (by simp;omega) _).alloc (by simp;omega) _
 have HB1:Hid (Below w.heap.size w X1):=b1
 have HW1:Hid (Wi X1 w.heap.size ra row.length c (row.length:Int) (bs (tab row.length F)) 29):=by rw [hX1];exact Wi.made _ _ _ _ _ _ _ _ _
 have HRW:Hid (∀ W,Below w.heap.size w W->Bools W ra row):=fun W hb=>hB.below hb
 have HRA:Hid (∀ x,ra=some x->0 < row.length->x.block < w.heap.size):=fun x hx hl=>ra_lt hB hx hl
 obtain ⟨d,hd⟩:∃ d,d=dc row F:=⟨_,rfl⟩
 have HD:Hid (dc row F=d):=hd.symm
 have HDE:Hid (∀ W,Below w.heap.size w W->Calls Try.prog 27 #[.slice ra row.length c,tv (row.length:Int) (bs (tab row.length F))] W fun e w'=>e=.returned (.tuple #[.int .i64 (d.toNat:Int),.bool true])/\Below W.heap.size W w'):=fun W hb=>by
  rw [hd]
  exact iDecide row.length F ra row c W hn rfl (hB.below hb)
 have HGA:Hid (∀ W,Below w.heap.size w W->Calls Try.prog 28 #[.int .i64 (d.toNat:Int),.slice ra row.length c,tv (row.length:Int) (bs (tab row.length F))] W fun e w'=>(∃ a o,e=.returned (.tuple #[gv (row.length:Int) (bs (tab row.length F)) (d.toNat:Int) a (ownL (d.toNat:Int) row).length o,.bool true])/\Bools w' a (ownL (d.toNat:Int) row))/\Below W.heap.size W w'):=fun W hb=>iGame row.length F (d.toNat:Int) row ra c W hn rfl (hB.below hb) (by cases d<;>rfl)
 have HWK:Hid (∀ W a o,Wi W w.heap.size ra row.length c (row.length:Int) (bs (tab row.length F)) 29->Bools W ra row->Bools W a (ownL (d.toNat:Int) row)->Calls Try.prog 29 #[gv (row.length:Int) (bs (tab row.length F)) (d.toNat:Int) a (ownL (d.toNat:Int) row).length o,.func (.func 30) #[] #[ptr w.heap.size,ptr (w.heap.size+1+1+1)]] W fun e w'=>e=.returned (.bool true)/\Won (w.heap.size+1+1+1) w.heap.size ⟨w.heap.size+1+1,0,[]⟩ (wn (d.toNat:Int) row F []) W w'):=fun W a o hW hR hO=>iWalkW F (d.toNat:Int) d row ra a c o (w.heap.size+1+1+1) w.heap.size w.heap.size ⟨w.heap.size+1+1,0,[]⟩ W hn rfl hd.symm hc hO (hW.jw hR HRA.out hO) rfl
 rw [<- hd]
 clear b1 hB hd
 generalize ownL (d.toNat:Int) row=OL at *
 generalize wn (d.toNat:Int) row F []=PS at *
 generalize bs (tab row.length F)=S at *
 go_enter Try.func7,Try.ntmps7
 go_upto_region 2 with fail
 rw [<- hX1]
 clear hX1
 obtain ⟨c0,c1,c2,_,_⟩:=HW1.out
 have l0:=lt_of_cell c0
 have l1:=lt_of_cell c1
 go_wp2_with fail
 clear c0 c1 c2 l0 l1
 refine (HDE.out _ HB1.out).mono ?_
 rintro e w2 ⟨rfl,hb2⟩
 have HB2:Hid (Below w.heap.size w w2):=HB1.out.trans (hb2.mono HB1.out.size)
 have HW2:Hid (Wi w2 w.heap.size ra row.length c (row.length:Int) S 29):=HW1.out.below hb2
 clear hb2 HW1 HB1
 obtain ⟨c0,c1,c2,_,_⟩:=HW2.out
 have l0:=lt_of_cell c0
 have l1:=lt_of_cell c1
 go_wp2_with fail
 clear c0 c1 c2 l0 l1
 refine (HGA.out _ HB2.out).mono ?_
 rintro e w3 ⟨⟨a,o,rfl,ho3⟩,hb3⟩
 have HB3:Hid (Below w.heap.size w w3):=HB2.out.trans (hb3.mono HB2.out.size)
 have HW3:Hid (Wi w3 w.heap.size ra row.length c (row.length:Int) S 29):=HW2.out.below hb3
 have HO3:Hid (Bools w3 a OL):=ho3
 clear hb3 ho3 HW2 HB2
 obtain ⟨W4,hW4⟩:∃ X,X=w3.alloc (.cells #[.int .i64 (row.length:Int),.string S,.int .i64 (d.toNat:Int),.slice a OL.length o] 55):=⟨_,rfl⟩
 have hb4:Below w3.heap.size w3 W4:=by rw [hW4];exact (Below.refl _ _).alloc (Nat.le_refl _) _
 have HB4:Hid (Below w.heap.size w W4):=HB3.out.trans (hb4.mono HB3.out.size)
 have HK4:Hid _:=HWK.out W4 a o (HW3.out.below hb4) (HRW.out _ HB4.out) (HO3.out.below hb4)
 have HZ4:Hid (w.heap.size+1+1+1 < W4.heap.size):=lt_of_cell (HW3.out.below hb4).cm
 clear hb4 HWK HDE HGA HB3 HO3
 go_upto_region 3 with fail
 rw [<- hW4]
 clear hW4
 refine Calls.mono HK4.out ?_
 rintro e w5 ⟨rfl,t',ht,hcm,hlq,hk,hg⟩
 have HB5:Hid (Below w.heap.size w w5):=HB4.out.trans (hk.below (fun b hb=>by
  rcases hb with e|e
  ·rw [e];omega
  ·have e':b=w.heap.size+1+1:=e
   omega) HB4.out.size)
 have HL5:Hid (pks t'=PS/\Lq w5 w.heap.size t'.g t'.cap t'.qs):=⟨ht,hlq⟩
 have hml:=lt_of_cell hcm
 clear ht hlq hk hg HK4 HZ4
 go_wp2
 go_ret3
 exact ⟨t'.g,t'.cap,t'.qs,rfl,HL5.out.1,HL5.out.2,HB5.out⟩
end Wr4
end Go.Proofs.Ytfhdbcfhhbdiiaa
