import Derived.Test.YtfhdbcfhhbdiiaaWp12
namespace Go.Proofs.Ytfhdbcfhhbdiiaa
set_option maxRecDepth 100000
set_option maxHeartbeats 8000000
set_option linter.unusedVariables false
namespace Wp15
open Go.RowKit
open Nd0 (Kept Ints WInts lt_of_cell)
open Nd6 (Bools)
open Ap0 Wp12
/-- What stays as it is in a walk: its boxes, the game, what gives. B: the memory that the values' lists lie behind. -/
structure Kn where
 g:Nat
 vb:Nat
 gb:Nat
 fb:Nat
 wb:Nat
 B:Nat
 N:Int
 S:ByteArray
 v:Int
 ao:Option Addr
 co:Nat
 OL:List Bool
 give:Value
abbrev ptr (b:Nat):Value:=.pointer (some ⟨b,0,none⟩)
/-- The closure 'from', the closure 'with'. -/
def Kn.from_ (k:Kn):Value:=.func (.func 58) #[] #[ptr k.g,ptr k.vb,ptr k.gb,ptr k.wb]
def Kn.with_ (k:Kn):Value:=.func (.func 56) #[] #[ptr k.vb,ptr k.fb]
/-- The boxes lie apart from the values' box. -/
structure Ks (k:Kn):Prop where
 lg:k.g < k.B
 li:k.gb < k.B
 ng:k.g≠k.vb
 ni:k.gb≠k.vb
 nf:k.fb≠k.vb
 nw:k.wb≠k.vb
 na:∀ x,k.ao=some x->0 < k.OL.length->x.block < k.B/\x.block≠k.vb
/-- A walk at work, at the values vs; J: what the giver keeps (t: what it has told). -/
structure Wl {T:Type} (k:Kn) (J:T->Value->World->Prop) (t:T) (vs:List Int) (vv:Value) (W:World):Prop where
 gm:G4 W k.g (.int .i64 k.N) (.string k.S) (.int .i64 k.v) (.slice k.ao k.OL.length k.co)
 ow:Bools W k.ao k.OL
 vc:W.cell? ⟨k.vb,0,none⟩=some vv
 vf:W.frozen? ⟨k.vb,0,none⟩=false
 vo:Ows W k.B vv vs
 gi:W.cell? ⟨k.gb,0,none⟩=some k.give
 fr:W.cell? ⟨k.fb,0,none⟩=some k.from_
 wi:W.cell? ⟨k.wb,0,none⟩=some k.with_
 j:J t vv W
 bl:k.B<=W.heap.size
 nb:∀ b,vv.ownBlock=some b->b≠k.vb/\b≠k.fb/\b≠k.wb
/-- What the giver keeps stands while the values turn. -/
def Jm {T:Type} (k:Kn) (J:T->Value->World->Prop):Prop :=
 ∀ t vv vv' W W',J t vv W->Kept (fun b=>b=k.vb\/vv.ownBlock=some b) W W'->(∀ b,vv'.ownBlock=some b->vv.ownBlock=some b\/W.heap.size<=b)->J t vv' W'
theorem bools_kept {W W':World} {a:Option Addr} {l:List Bool} (h:Bools W a l) {S:Nat->Prop} (kk:Kept S W W') (hs:∀ x,a=some x->0 < l.length->¬ S x.block):Bools W' a l:=by
 refine ⟨h.1,?_⟩
 rcases h.2 with e|⟨b,o,e,hc⟩
 ·exact .inl e
 ·exact .inr ⟨b,o,e,fun i hi=>by rw [kk.cell (p:=⟨b,o+i,none⟩) (lt_of_cell (hc i hi)) (hs ⟨b,o,none⟩ e (by omega))];exact hc i hi⟩
/-- The values have turned. -/
theorem Wl.turn {T:Type} {k:Kn} {J:T->Value->World->Prop} {t:T} {vs vs':List Int} {vv vv':Value} {W W':World} (ks:Ks k) (jm:Jm k J) (h:Wl k J t vs vv W) (kk:Kept (fun b=>b=k.vb\/vv.ownBlock=some b) W W')
 (hc:W'.cell? ⟨k.vb,0,none⟩=some vv') (hf:W'.frozen? ⟨k.vb,0,none⟩=false) (ho:Ows W' k.B vv' vs') (hn:∀ b,vv'.ownBlock=some b->vv.ownBlock=some b\/W.heap.size<=b):Wl k J t vs' vv' W':=by
 have hb:∀ b,b < k.B->b≠k.vb->¬ (b=k.vb\/vv.ownBlock=some b):=fun b h1 h2 h3=>by
  rcases h3 with e|e
  ·exact h2 e
  ·have:=(h.vo.lt b e).1
   omega
 exact ⟨h.gm.kept kk (hb _ ks.lg ks.ng),bools_kept h.ow kk (fun x hx hl=>hb _ (ks.na x hx hl).1 (ks.na x hx hl).2),hc,hf,ho,
  by rw [kk.cell (p:=⟨k.gb,0,none⟩) (lt_of_cell h.gi) (hb _ ks.li ks.ni)];exact h.gi,
  by rw [kk.cell (p:=⟨k.fb,0,none⟩) (lt_of_cell h.fr) (fun h3=>h3.elim ks.nf (fun e=>(h.nb _ e).2.1 rfl))];exact h.fr,
  by rw [kk.cell (p:=⟨k.wb,0,none⟩) (lt_of_cell h.wi) (fun h3=>h3.elim ks.nw (fun e=>(h.nb _ e).2.2 rfl))];exact h.wi,
  jm _ _ _ _ _ h.j kk hn,Nat.le_trans h.bl kk.size,fun b hb'=>(hn b hb').elim (h.nb b) (fun e=>by
   have l1:k.vb < W.heap.size:=lt_of_cell h.vc
   have l2:k.fb < W.heap.size:=lt_of_cell h.fr
   have l3:k.wb < W.heap.size:=lt_of_cell h.wi
   exact ⟨by omega,by omega,by omega⟩)⟩
/-- New memory alone. -/
theorem Wl.below {T:Type} {k:Kn} {J:T->Value->World->Prop} {t:T} {vs:List Int} {vv:Value} {W W':World} (ks:Ks k) (jm:Jm k J) (h:Wl k J t vs vv W) (kk:Below W.heap.size W W'):Wl k J t vs vv W' :=
 h.turn ks jm (Kept.ofBelow kk) (by rw [kk.cell (p:=⟨k.vb,0,none⟩) (lt_of_cell h.vc)];exact h.vc) (by rw [kk.frozen (p:=⟨k.vb,0,none⟩) (lt_of_cell h.vc)];exact h.vf) (h.vo.kept (S:=fun _=>False) (Kept.ofBelow kk) (fun _ _ h=>h)) (fun b hb=>.inl hb)
/-- One value less. -/
theorem ows_less {W:World} {B:Nat} {g c n:Nat} {l:List Int} {x:Int} (h:Ows W B (.slice (some ⟨g,0,none⟩) n c) (l++[x])):Ows W B (.slice (some ⟨g,0,none⟩) l.length c) l:=by
 obtain ⟨h1,h2⟩:=h
 refine ⟨by simp,?_⟩
 rcases h2 with ⟨e,_⟩|⟨g',cap,cur,e,hb,hg,hn,hm,hs,ht⟩
 ·cases e
 ·cases e
  refine .inr ⟨g,c,cur,rfl,hb,hg,?_,hm,hs,?_⟩
  ·rw [List.length_append] at hn;omega
  ·have h3:=congrArg (List.take (l.length*1)) ht
   rw [List.take_take] at h3
   rw [List.length_append,List.length_singleton] at h3
   rw [show min (l.length*1) ((l.length+1)*1)=l.length*1 by omega] at h3
   rw [h3,List.map_append,List.take_append_of_le_length (by simp),Nat.mul_one]
   exact List.take_of_length_le (by simp)
end Wp15
end Go.Proofs.Ytfhdbcfhhbdiiaa
