import Derived.Maps.OwnSet
import Derived.Maps.Views
import Derived.DeepKeys4
import Derived.MapViews
import Derived.Lib.QuietBelow
import Derived.Test.YtfhdbcfhhbdiiaaWq0
import Derived.Test.YtfhdbcfhhbdiiaaWp19
namespace Go.Proofs.Ytfhdbcfhhbdiiaa
set_option maxRecDepth 100000
set_option maxHeartbeats 8000000
set_option linter.unusedVariables false
namespace Mv0
open Go.RowKit
open Nd0 (Kept)
open Go.Maps Go.WideMaps
theorem laidOut:laidOutB Try.prog=true:=by kernel_rfl
theorem rowSpot:(68:TypeId) < Try.prog.types.size:=of_decide_eq_true (by kernel_rfl)
theorem wideSpot:(match Try.prog.underlying 68 with|some (.array _ _)|some (.struct _)=>true|_=>false)=true:=by kernel_rfl
theorem law:Keyed Try.prog 68:=Keyed.of_law (deep_law_laid laidOut (m:=2) (by omega) rowSpot (by kernel_rfl) wideSpot)
theorem zeroInt (w:World):(zeroValue 3).run Try.prog w=.ok (.int .i64 0) w:=by kernel_rfl
theorem wf_small {x:Nat} (h:x<=1000000):(Lit.int .i64 (x:Int)).wf=true:=by
 have e1:IntKind.i64.min = -9223372036854775808:=by decide
 have e2:IntKind.i64.max=9223372036854775807:=by decide
 simp [Lit.wf,e1,e2];omega
/-- A spot: so many bits, told as a number. -/
abbrev Sp:=Nat × Nat
def Sm (x:Sp):Prop:=x.1<=1000000/\x.2<=1000000
def cl (x:Sp):List Value:=[.int .i64 (x.1:Int),.int .i64 (x.2:Int)]
abbrev agg (x:Sp):Value:=.agg #[.int .i64 (x.1:Int),.int .i64 (x.2:Int)]
theorem agg_inj {m n:Sp} (h:agg m=agg n):m=n:=by
 unfold agg at h
 injection h with h
 have h1:=congrArg (fun z=>z.toList) h
 simp at h1
 exact Prod.ext (by omega) (by omega)
theorem lits_int (d:Nat) {x:Int} (h:(Lit.int .i64 x).wf=true):Try.prog.keyLits (d+1) 3 [.int .i64 x]=some [.int .i64 x]:=by
 simp only [Program.keyLits,Try.underlying3]
 rw [if_pos ⟨trivial,h⟩]
theorem cellsInt:Try.prog.cellsOf 3=1:=by kernel_rfl
theorem cellsSpot:Try.prog.cellsOf 68=2:=by kernel_rfl
theorem underSpot:∃ fs,Try.prog.underlying 68=some (.struct fs)/\fs.all (·.name != "_")=true/\fs.toList.map (fun f=>(f.type,f.offset))=[(3,0),(3,1)]:=⟨_,Try.underlying68,by decide +kernel,by decide +kernel⟩
theorem lits_spot (d:Nat) {x:Sp} (h:Sm x):∃ l,Try.prog.keyLits (d+1+1) 68 (cl x)=some l:=by
 obtain ⟨h0,h1⟩:=h
 obtain ⟨fs,hu,hall,hts⟩:=underSpot
 have hlen:(cl x).length=Try.prog.cellsOf 68:=by rw [cellsSpot];rfl
 unfold Program.keyLits
 simp only [hu]
 rw [if_pos ⟨hlen,hall⟩]
 have hm:(fs.toList.mapM fun f=>Try.prog.keyLits (d+1) f.type (((cl x).drop f.offset).take (Try.prog.cellsOf f.type)))=((fs.toList.map (fun f=>(f.type,f.offset))).mapM fun y=>Try.prog.keyLits (d+1) y.1 (((cl x).drop y.2).take (Try.prog.cellsOf y.1))):=by
  rw [List.mapM_map]
  simp only [Function.comp_def]
 rw [hm,hts]
 simp [cellsInt,cl,lits_int d (wf_small h0),lits_int d (wf_small h1)]
theorem formedSpot (x:Sp):(agg x).formed Try.prog 68=true:=by
 obtain ⟨fs,hu,_,_⟩:=underSpot
 simp [Value.formed,hu,cellsSpot]
theorem key_some {x:Sp} (h:Sm x):∃ l,keyOf Try.prog 68 (agg x)=some l:=by
 obtain ⟨d,hd⟩:∃ d,Try.prog.types.size+1=d+1+1:=⟨Try.prog.types.size - 1,by
  have h9:1<=Try.prog.types.size:=Nat.le_trans (by decide) (Nat.le_of_lt rowSpot)
  omega⟩
 obtain ⟨l,hl⟩:=lits_spot d h
 have hkt:Try.prog.keyType 68=true:=by kernel_rfl
 obtain ⟨fs,hu,_,_⟩:=underSpot
 unfold keyOf
 simp only [hu]
 rw [hkt,formedSpot,hd]
 refine ⟨.string (keyBytes l),?_⟩
 have hc:(agg x).cells.toList=cl x:=rfl
 rw [hc,hl];rfl
noncomputable def keyA (x:Sp):Lit:=(keyOf Try.prog 68 (agg x)).getD .nil
theorem key_eq {x:Sp} (h:Sm x):keyOf Try.prog 68 (agg x)=some (keyA x):=by
 obtain ⟨l,hl⟩:=key_some h
 unfold keyA;rw [hl];rfl
theorem key_ne {m n:Sp} (hm:Sm m) (hn:Sm n) (h:m≠n):keyA m≠keyA n:=fun e=>h (agg_inj (law.inj (key_eq hm) (by rw [key_eq hn,e])))
/-- The map in block bm has c keys and says f. -/
def Mv (w:World) (bm c:Nat) (f:Sp->Option Int):Prop :=
 ∃ D:DataW Unit,w.ownsMap Try.prog 68 (plainElem Try.prog 3) bm c D/\∀ x,Sm x->Maps.has D (keyA x)=(f x).isSome/\∀ v z,f x=some v->D.atKey (keyA x) z=.lit (.int .i64 v)
theorem Mv.new (w:World):Mv (w.alloc (.map #[] 0)) w.heap.size 0 (fun _=>none) :=
 ⟨.map [],World.ownsMap_made w _ _ _,fun x _=>⟨rfl,fun v z h=>by cases h⟩⟩
theorem Mv.lt {w:World} {bm c:Nat} {f:Sp->Option Int} (h:Mv w bm c f):bm < w.heap.size:=by obtain ⟨D,h,_⟩:=h;exact h.lt
theorem Mv.kept {w w':World} {bm c:Nat} {f:Sp->Option Int} (h:Mv w bm c f) {S:Nat->Prop} (k:Kept S w w') (hs:¬ S bm):Mv w' bm c f:=by
 obtain ⟨D,ho,hp⟩:=h
 refine ⟨D,?_,hp⟩
 obtain ⟨es,clock,hb,F⟩:=ho
 exact ⟨es,clock,by rw [k.block bm (Array.getElem?_eq_some_iff.1 hb).1 hs];exact hb,F⟩
theorem Mv.below {w w':World} {bm c:Nat} {f:Sp->Option Int} (h:Mv w bm c f) (k:Below w.heap.size w w'):Mv w' bm c f:=h.kept (S:=fun _=>False) (Kept.ofBelow k) (fun h=>h)
theorem Mv.look {w:World} {bm c:Nat} {f:Sp->Option Int} (h:Mv w bm c f) {x:Sp} (hx:Sm x) :
 (Instr.lookup 65 (.map (some bm)) (agg x) true).run Try.prog w=.ok (.tuple #[.int .i64 ((f x).getD 0),.bool (f x).isSome]) w:=by
 obtain ⟨D,ho,hp⟩:=h
 obtain ⟨v,ps,hrun,hv⟩:=ho.look_ok law Try.underlying65 (zeroInt w) (plainElem_int Try.underlying3 (a:=0) rfl) (key_eq hx)
 rw [hrun]
 obtain ⟨h1,h2⟩:=hp x hx
 obtain ⟨a,rfl,hz,_⟩:=plainElem_int_inv Try.underlying3 hv
 cases hf:f x with
 | none =>
   rw [hf] at h1
   rw [Maps.atKey_of_not_has h1] at hz
   rw [h1]
   cases hz;rfl
 | some u =>
   rw [hf] at h1
   rw [h1]
   rw [h2 u _ hf] at hz
   cases hz;rfl
def putF (f:Sp->Option Int) (x:Sp) (v:Int):Sp->Option Int:=fun y=>if y=x then some v else f y
theorem Mv.store {w:World} {bm c:Nat} {f:Sp->Option Int} (h:Mv w bm c f) {x:Sp} (hx:Sm x) {v:Int} (hv:(Lit.int .i64 v).wf=true) (hn:f x=none) (hl:c<=1048576) :
 ∃ w' c',(Instr.mapUpdate 65 (.map (some bm)) (agg x) (.int .i64 v)).run Try.prog w=.ok () w'/\c'<=c+1/\Mv w' bm c' (putF f x v)/\Kept (fun k=>k=bm) w w':=by
 obtain ⟨D,ho,hpp⟩:=h
 obtain ⟨w',hrun,ho',hg⟩:=ho.update law Try.underlying65 (by unfold maxLen;omega) (key_eq hx) (plainElem_int Try.underlying3 (a:=v) hv)
 refine ⟨w',_,hrun,?_,⟨_,ho',fun m hm=>?_⟩,⟨hg.os,hg.tape,hg.output,hg.size,fun i hi hne=>hg.block i hi (fun e=>hne (by cases e;rfl))⟩⟩
 ·omega
 ·unfold putF
  by_cases e:m=x
  ·subst e
   rw [if_pos rfl]
   refine ⟨Maps.has_put_same ho.isMap (law.key (key_eq hx)) _,fun u z hu=>?_⟩
   cases hu
   exact Maps.atKey_put_same ho.isMap (law.key (key_eq hx)) _ z
  ·rw [if_neg e]
   have hk:=key_ne hm hx e
   obtain ⟨h1,h2⟩:=hpp m hm
   exact ⟨by rw [Maps.has_put_other hk];exact h1,fun u z hu=>by rw [Maps.atKey_put_other hk];exact h2 u z hu⟩
end Mv0
namespace Wp13
open Go.RowKit
open Nd0 (Kept Ints WInts IntsIn lt_of_cell)
open Op6 (Pk PkAt Pks)
open Ta2 (bitB plc)
open Vo0 (allB valB iVals)
open Tc5 (Lay)
open Mv0 (Mv Sp Sm putF)
open Wp0 Wp7 Wp12
def sp (l:List Int):Sp:=(l.length,plc l l.length)
/-- The Val of the first pick at a spot. -/
def fp:List Pk->Sp->Option Int
 | [],_=>none
 | p :: r,x=>if valB p.l 12=true/\sp p.l=x then some p.v else fp r x
theorem fp_snoc (l:List Pk) (p:Pk) (x:Sp):fp (l++[p]) x=if (fp l x).isSome=true then fp l x else if valB p.l 12=true/\sp p.l=x then some p.v else none:=by
 induction l with
 | nil=>rfl
 | cons q r ih =>
   show fp (q :: (r++[p])) x=_
   unfold fp
   by_cases h:valB q.l 12=true/\sp q.l=x
   ·rw [if_pos h,if_pos h];rfl
   ·rw [if_neg h,if_neg h]
    exact ih
theorem val_bits {l:List Int} (h:valB l 12=true):(∀ i,i < l.length->bitB (l.getD i 0)=true)/\l.length<=12:=by
 unfold valB allB at h
 simp at h
 refine ⟨fun i hi=>?_,by omega⟩
 have:l.getD i 0=l[i]:=by simp [List.getD,hi]
 rw [this]
 exact h.1 _ (List.getElem_mem hi)
theorem sp_small {l:List Int} (h:valB l 12=true):Sm (sp l):=by
 obtain ⟨h1,h2⟩:=val_bits h
 have h3:=Ta2.plc_lt h1
 have h4:2 ^ l.length<=2 ^ 12:=Nat.pow_le_pow_right (by decide) h2
 exact ⟨by show l.length<=_;omega,by show plc l l.length<=_;omega⟩
theorem iFirst (w:World) (a:Option Addr) (ps:List Pk) (c:Nat) (h:Pks w a ps) (hl:ps.length<=1048576) (hw:∀ p∈ps,(Lit.int .i64 p.v).wf=true) :
 Calls Try.prog 35 #[.slice a ps.length c] w fun e w'=>(∃ bm,e=.returned (.map (some bm))/\w.heap.size<=bm/\∃ k,Mv w' bm k (fp ps))/\Below w.heap.size w w':=by
 have H:Hid (Pks w a ps):=h
 have HWF:Hid (∀ p∈ps,(Lit.int .i64 p.v).wf=true):=hw
 clear h hw
 have hmm:=@run_makeMap Try.prog
 go_enter Try.func35,Try.ntmps35
 go_wp2
 clear hmm
 go_loopw [12] (fun i wr=>∃ k c':Nat,k<=ps.length/\i=.int .i64 k/\c'<=k/\Mv wr w.heap.size c' (fp (ps.take k))/\Below w.heap.size w wr) (fun i _=>ps.length - (intOf i).toNat)
 case atStart=>exact ⟨0,0,Nat.zero_le _,rfl,Nat.le_refl _,Mv.new w,(Below.refl _ _).alloc (Nat.le_refl _) _⟩
 case round =>
  obtain ⟨k,c',hk,rfl,hck,hmv,hbr⟩:=hrel
  have HM:Hid (Mv wr w.heap.size c' (fp (ps.take k))):=hmv
  have HB:Hid (Below w.heap.size w wr):=hbr
  clear hmv hbr
  by_cases hlt:k < ps.length
  ·have hlz:(k:Int) < (ps.length:Int):=by omega
   obtain ⟨b,o,ha,hc⟩:∃ b o,a=some ⟨b,o,none⟩/\PkAt wr b (o+k*2) ps[k]:=by
    rcases (pks_below H.out HB.out).2 with e|⟨b,o,e,hc⟩
    ·omega
    ·exact ⟨b,o,e,hc k hlt⟩
   subst ha
   obtain ⟨a5,c5,p0,p1,p2⟩:=hc
   have hbl:=lt_of_cell p0
   have P2:Hid (Ints wr a5 ps[k].l):=p2
   have HW5:Hid ((Lit.int .i64 ps[k].v).wf=true):=HWF.out _ (List.getElem_mem hlt)
   have HNX:Hid (∀ x,fp (ps.take (k+1)) x=if (fp (ps.take k) x).isSome=true then fp (ps.take k) x else if valB ps[k].l 12=true/\sp ps[k].l=x then some ps[k].v else none):=fun x=>by
    rw [List.take_succ_eq_append_getElem hlt]
    exact fp_snoc _ _ _
   clear p2
   generalize ps[k].l=l5 at *
   generalize ps[k].v=v5 at *
   go_upto_region 5 with fail
   clear p0 p1 hbl
   obtain ⟨W1,hW1⟩:∃ X,X=wr.alloc (.cells #[.slice a5 l5.length c5,.int .i64 v5] 61):=⟨_,rfl⟩
   obtain ⟨qp,hqp⟩:∃ q,q=wr.heap.size:=⟨_,rfl⟩
   have hb1:Below wr.heap.size wr W1:=by rw [hW1];exact (Below.refl _ _).alloc (Nat.le_refl _) _
   have HP1:Hid (Pb W1 qp a5 l5.length c5 v5):=by rw [hW1,hqp];exact Pb.made _ _ _ _ _ _
   have HI1:Hid (Ints W1 a5 l5):=P2.out.below hb1
   have HB1:Hid (Below w.heap.size w W1):=HB.out.trans (hb1.mono HB.out.size)
   have HM1:Hid (Mv W1 w.heap.size c' (fp (ps.take k))):=HM.out.below hb1
   rw [<- hW1,<- hqp]
   clear hW1 hqp hb1 P2 HB HM
   have HVO:Hid (Calls Try.prog 64 #[.slice a5 l5.length c5,.int .i64 12] W1 fun e w'=>e=.returned (.bool (valB l5 12))/\w'=W1):=iVals a5 l5 c5 12 W1 HI1.out
   obtain ⟨p0,p1⟩:=HP1.out
   have hp:=HP1.out.lt
   cases hval:valB l5 12
   ·rw [hval] at HVO
    have HE:Hid (fp (ps.take (k+1))=fp (ps.take k)):=by
     show _=_
     funext x
     rw [HNX.out,hval]
     split
     ·rfl
     ·rename_i hs
      rw [if_neg (by simp)]
      cases hh:fp (ps.take k) x
      ·rfl
      ·rw [hh] at hs;exact absurd rfl hs
    clear hval
    go_wp2_with (go_at_call 64;refine Calls.mono HVO.out ?_;rintro e w2 ⟨rfl,hw2⟩;have hw2':=hw2.symm;clear hw2;subst hw2')
    go_roundw
    case rel=>exact ⟨k+1,c',by omega,by go_num,by omega,by rw [HE.out];exact HM1.out,HB1.out⟩
    case measure=>simp [intOf];omega
   ·rw [hval] at HVO
    obtain ⟨v1,v2⟩:=val_bits hval
    have HSM:Hid (Sm (sp l5)):=sp_small hval
    have HSP:Hid _:=iSpot a5 l5 c5 W1 v2 v1 HI1.out
    go_upto_region 6 with (go_at_call 64;refine Calls.mono HVO.out ?_;rintro e w2 ⟨rfl,hw2⟩;have hw2':=hw2.symm;clear hw2;subst hw2')
    clear p0 p1 hp
    obtain ⟨p0,p1⟩:=HP1.out
    have hp:=HP1.out.lt
    go_wp2_with fail
    clear p0 p1 hp
    refine Calls.mono HSP.out ?_
    rintro e w2 ⟨rfl,hb2⟩
    go_upto_region 7 with fail
    obtain ⟨X,hX⟩:∃ X:Sp,X=sp l5:=⟨_,rfl⟩
    have hX1:(l5.length:Int)=(X.1:Int):=by rw [hX];rfl
    have hX2:((plc l5 l5.length:Nat):Int)=(X.2:Int):=by rw [hX];rfl
    rw [hX1,hX2]
    obtain ⟨W2,hW2⟩:∃ Z,Z=w2.alloc (.cells #[.int .i64 (X.1:Int),.int .i64 (X.2:Int)] 68):=⟨_,rfl⟩
    obtain ⟨qs,hqs⟩:∃ q,q=w2.heap.size:=⟨_,rfl⟩
    have hb3:Below W1.heap.size W1 W2:=by rw [hW2];exact hb2.alloc hb2.size _
    have HP2:Hid (Pb W2 qp a5 l5.length c5 v5):=HP1.out.below hb3
    have HS2:Hid (Lay W2 qs (.int .i64 (X.1:Int)) (.int .i64 (X.2:Int))):=by rw [hW2,hqs];exact Lay.made _ _ _ _
    have HB2:Hid (Below w.heap.size w W2):=HB1.out.trans (hb3.mono HB1.out.size)
    have HM2:Hid (Mv W2 w.heap.size c' (fp (ps.take k))):=HM1.out.below hb3
    have HSMX:Hid (Sm X):=by rw [hX];exact HSM.out
    have HVX:Hid (∀ x,(valB l5 12=true/\sp l5=x)↔x=X):=fun x=>by rw [hX];exact ⟨fun h=>h.2.symm,fun h=>⟨hval,h.symm⟩⟩
    rw [<- hW2,<- hqs]
    clear hW2 hqs hb2 hb3 hX hX1 hX2 hval v1 v2 HP1 HB1 HM1 HI1 HVO HSP HSM
    have hlk:=HM2.out.look HSMX.out
    obtain ⟨s0,s1,_,_⟩:=HS2.out
    have hs:=HS2.out.lt
    obtain ⟨p0,p1⟩:=HP2.out
    have hp:=HP2.out.lt
    cases hf:fp (ps.take k) X with
    | some u =>
      rw [hf] at hlk
      have HE:Hid (fp (ps.take (k+1))=fp (ps.take k)):=by
       show _=_
       funext x
       rw [HNX.out]
       by_cases e:x=X
       ·subst e;rw [hf];rfl
       ·rw [if_neg (c:=valB l5 12=true/\sp l5=x) (fun h=>e ((HVX.out x).1 h))]
        cases hh:fp (ps.take k) x<;>rfl
      clear hf
      go_wp2
      go_roundw
      case rel=>exact ⟨k+1,c',by omega,by go_num,by omega,by rw [HE.out];exact HM2.out,HB2.out⟩
      case measure=>simp [intOf];omega
    | none =>
      rw [hf] at hlk
      obtain ⟨w3,c3,hst,hc3,hm3,hk3⟩:=HM2.out.store HSMX.out HW5.out hf (by omega)
      have HE:Hid (fp (ps.take (k+1))=putF (fp (ps.take k)) X v5):=by
       show _=_
       funext x
       rw [HNX.out]
       unfold putF
       by_cases e:x=X
       ·subst e;rw [hf,if_pos rfl,if_pos ((HVX.out x).2 rfl)];rfl
       ·rw [if_neg (c:=valB l5 12=true/\sp l5=x) (fun h=>e ((HVX.out x).1 h)),if_neg e]
        cases hh:fp (ps.take k) x<;>rfl
      have HM3:Hid (Mv w3 w.heap.size c3 (putF (fp (ps.take k)) X v5)):=hm3
      have HB3:Hid (Below w.heap.size w w3):=HB2.out.trans (hk3.below (fun b hb=>by omega) HB2.out.size)
      clear hf hm3 hk3
      go_wp2
      go_roundw
      case rel=>exact ⟨k+1,c3,by omega,by go_num,by omega,by rw [HE.out];exact HM3.out,HB3.out⟩
      case measure=>simp [intOf];omega
  ·have hlz:¬ (k:Int) < (ps.length:Int):=by omega
   have HE:Hid (ps.take k=ps):=List.take_of_length_le (by omega)
   go_wp2
   go_ret
   exact ⟨⟨w.heap.size,rfl,Nat.le_refl _,c',by have:=HM.out;rwa [HE.out] at this⟩,HB.out⟩
end Wp13
namespace Wp9
open Go.RowKit
open Nd0 (Kept Ints WInts IntsIn lt_of_cell)
open Op6 (Pk PkAt Pks)
open Ta2 (bitB)
open Tc2 (sInT sInF ret_bool)
open Wp7
theorem sSame (w:World) (a b:Option Addr) (l m:List Int) (c d:Nat) (h:Ints w a l) (h':Ints w b m) :
 Calls Try.prog 85 #[.slice a l.length c,.slice b m.length d] w fun e w'=>e=.returned (.bool (decide (l=m)))/\Below w.heap.size w w':=by
 have H:Hid (Ints w a l):=h
 have H':Hid (Ints w b m):=h'
 have hm:=h.1
 unfold maxLen at hm
 clear h h'
 by_cases hl:l.length=m.length
 rotate_left
 ·have HF:Hid (decide (l=m)=false):=decide_eq_false (fun e=>hl (by rw [e]))
  have hz:((l.length:Int) != (m.length:Int))=true:=by simp;omega
  have hz2:¬ (l.length:Int)=(m.length:Int):=by omega
  clear hl
  go_enter Try.func85,Try.ntmps85
  go_wp2
  go_ret
  exact ⟨ret_bool HF.out.symm,Below.refl _ _⟩
 have HL:Hid (l.length=m.length):=hl
 obtain ⟨n,hn⟩:∃ n,n=l.length:=⟨_,rfl⟩
 rw [<- hl,<- hn]
 have HN:Hid (n=l.length):=hn
 rw [<- hn] at hm
 clear hl hn
 go_enter Try.func85,Try.ntmps85
 go_wp2
 go_loopw [5] (fun i wr=>∃ k:Nat,k<=n/\i=.int .i64 k/\(∀ j (h1:j < l.length) (h2:j < m.length),j < k->l[j]=m[j])/\Below w.heap.size w wr) (fun i _=>n - (intOf i).toNat)
 case atStart=>exact ⟨0,Nat.zero_le _,rfl,fun j _ _ hj=>by omega,Below.refl _ _⟩
 case round =>
  obtain ⟨k,hk,rfl,he,hb⟩:=hrel
  have HB:Hid (Below w.heap.size w wr):=hb
  clear hb
  have HE:Hid (∀ j (h1:j < l.length) (h2:j < m.length),j < k->l[j]=m[j]):=he
  clear he
  by_cases hlt:k < n
  ·have hlz:(k:Int) < (n:Int):=by omega
   have k1:k < l.length:=by have:=HN.out;omega
   have k2:k < m.length:=by have:=HN.out;have:=HL.out;omega
   obtain ⟨b1,o1,e1,c1⟩:∃ b o,a=some ⟨b,o,none⟩/\wr.cell? ⟨b,o+k,none⟩=some (.int .i64 l[k]):=by
    rcases (H.out.below HB.out).2 with e|⟨b,o,e,hc⟩
    ·omega
    ·exact ⟨b,o,e,hc k k1⟩
   obtain ⟨b2,o2,e2,c2⟩:∃ b' o,b=some ⟨b',o,none⟩/\wr.cell? ⟨b',o+k,none⟩=some (.int .i64 m[k]):=by
    rcases (H'.out.below HB.out).2 with e|⟨b,o,e,hc⟩
    ·omega
    ·exact ⟨b,o,e,hc k k2⟩
   subst e1 e2
   have hl1:=lt_of_cell c1
   have hl2:=lt_of_cell c2
   by_cases hx:l[k]=m[k]
   ·have HNX:Hid (∀ j (h1:j < l.length) (h2:j < m.length),j < k+1->l[j]=m[j]):=fun j h1 h2 h3=>by
     by_cases e:j=k
     ·subst e;exact hx
     ·exact HE.out j h1 h2 (by omega)
    rw [hx] at c1
    generalize m[k]=x at *
    clear hx
    have hxx:(x != x)=false:=by simp
    go_wp2
    go_quiet (fail)
    go_wp2
    go_roundw
    case rel=>exact ⟨k+1,by omega,by go_num,HNX.out,HB.out.trans ⟨rfl,rfl,rfl,Nat.le_refl _,fun _ _=>rfl⟩⟩
    case measure=>simp [intOf];omega
   ·have HF:Hid (decide (l=m)=false):=decide_eq_false (fun e=>hx (by subst e;rfl))
    have hxx:(l[k] != m[k])=true:=by simpa using hx
    generalize l[k]=x at *
    generalize m[k]=y at *
    go_wp2
    go_quiet (fail)
    go_wp2
    go_ret
    exact ⟨ret_bool HF.out.symm,HB.out.trans ⟨rfl,rfl,rfl,Nat.le_refl _,fun _ _=>rfl⟩⟩
  ·have hlz:¬ (k:Int) < (n:Int):=by omega
   have HT:Hid (decide (l=m)=true):=by
    refine decide_eq_true ?_
    apply List.ext_getElem HL.out
    intro j h1 h2
    exact HE.out j h1 h2 (by have:=HN.out;omega)
   go_wp2
   go_ret
   exact ⟨ret_bool HT.out.symm,HB.out⟩
/-- What a list picks behind some values. -/
def findP:List Pk->List Int->Int
 | [],_ => -1
 | p :: r,l=>if p.l=l then (if bitB p.v=true then p.v else -1) else findP r l
theorem find_drop {ps:List Pk} {j:Nat} (h:j < ps.length) (l:List Int):findP (ps.drop j) l=if ps[j].l=l then (if bitB ps[j].v=true then ps[j].v else -1) else findP (ps.drop (j+1)) l:=by
 rw [List.drop_eq_getElem_cons h]
 rfl
theorem bit_in {x:Int}:bitB x=true↔0<=x/\x<=1:=by
 unfold bitB
 rw [decide_eq_true_iff]
 omega
theorem ret_int {a b:Int} (h:a=b):Ending.returned (.int .i64 a)=.returned (.int .i64 b):=by rw [h]
theorem sFind (w:World) (a b:Option Addr) (ps:List Pk) (l:List Int) (c d:Nat) (h:Pks w a ps) (h':Ints w b l) :
 Calls Try.prog 74 #[.slice a ps.length c,.slice b l.length d] w fun e w'=>e=.returned (.int .i64 (findP ps l))/\Below w.heap.size w w':=by
 have H:Hid (Pks w a ps):=h
 have H':Hid (Ints w b l):=h'
 have hm:=h.1
 unfold maxLen at hm
 clear h h'
 go_enter Try.func74,Try.ntmps74
 go_wp2
 go_loopw [5] (fun i wr=>∃ k:Nat,k<=ps.length/\i=.int .i64 k/\findP ps l=findP (ps.drop k) l/\Below w.heap.size w wr) (fun i _=>ps.length - (intOf i).toNat)
 case atStart=>exact ⟨0,Nat.zero_le _,rfl,rfl,Below.refl _ _⟩
 case round =>
  obtain ⟨k,hk,rfl,he,hb⟩:=hrel
  have HB:Hid (Below w.heap.size w wr):=hb
  clear hb
  have HE:Hid (findP ps l=findP (ps.drop k) l):=he
  clear he
  by_cases hlt:k < ps.length
  ·have hlz:(k:Int) < (ps.length:Int):=by omega
   have HD:Hid _:=find_drop hlt l
   obtain ⟨b1,o1,e1,a5,c5,p0,p1,p2⟩:∃ b o,a=some ⟨b,o,none⟩/\PkAt wr b (o+k*2) ps[k]:=by
    rcases (pks_below H.out HB.out).2 with e|⟨b,o,e,hc⟩
    ·omega
    ·exact ⟨b,o,e,hc k hlt⟩
   subst e1
   have hbl:=lt_of_cell p0
   have HSM:Hid _:=sSame wr a5 b ps[k].l l c5 d p2 (H'.out.below HB.out)
   have P1:Hid (wr.cell? ⟨b1,o1+k*2+1,none⟩=some (.int .i64 ps[k].v)):=p1
   clear p2
   by_cases hx:ps[k].l=l
   ·rw [decide_eq_true hx] at HSM
    have HV:Hid (findP ps l=if bitB ps[k].v=true then ps[k].v else -1):=by
     show _=_
     rw [HE.out,HD.out,if_pos hx]
    clear hx HD
    generalize ps[k].l.length=n5 at *
    generalize ps[k].v=v5 at *
    cases hb:bitB v5
    ·have hno:¬ (0<=v5/\v5<=1):=fun e=>by rw [bit_in.2 e] at hb;cases hb
     have HR:Hid (findP ps l = -1):=by show _=_;rw [HV.out,hb];rfl
     clear hb
     go_wp2_with (first|(go_at_call 85;refine Calls.mono HSM.out ?_;rintro e w1 ⟨rfl,hb1⟩;have p1:w1.cell? ⟨b1,o1+k*2+1,none⟩=some (.int .i64 v5):=(by rw [hb1.cell (p:=⟨b1,o1+k*2+1,none⟩) hbl];exact P1.out);have hbl1:=lt_of_cell p1;have HB1:Hid (Below w.heap.size w w1):=HB.out.trans (hb1.mono HB.out.size);clear hb1)|(go_at_call 44;refine (sInF _ hno).mono ?_;rintro e w' ⟨rfl,hw'⟩;have hw'':=hw'.symm;clear hw';subst hw''))
     go_ret
     exact ⟨ret_int HR.out.symm,HB1.out⟩
    ·have hyes:=bit_in.1 hb
     have HR:Hid (findP ps l=v5):=by show _=_;rw [HV.out,hb];rfl
     clear hb
     go_wp2_with (first|(go_at_call 85;refine Calls.mono HSM.out ?_;rintro e w1 ⟨rfl,hb1⟩;have p1:w1.cell? ⟨b1,o1+k*2+1,none⟩=some (.int .i64 v5):=(by rw [hb1.cell (p:=⟨b1,o1+k*2+1,none⟩) hbl];exact P1.out);have hbl1:=lt_of_cell p1;have HB1:Hid (Below w.heap.size w w1):=HB.out.trans (hb1.mono HB.out.size);clear hb1)|(go_at_call 44;refine (sInT _ hyes).mono ?_;rintro e w' ⟨rfl,hw'⟩;have hw'':=hw'.symm;clear hw';subst hw''))
     go_ret
     exact ⟨ret_int HR.out.symm,HB1.out⟩
   ·rw [decide_eq_false hx] at HSM
    have HNX:Hid (findP ps l=findP (ps.drop (k+1)) l):=by
     show _=_
     rw [HE.out,HD.out,if_neg hx]
    clear hx HD
    generalize ps[k].l.length=n5 at *
    generalize ps[k].v=v5 at *
    go_wp2_with (go_at_call 85;refine Calls.mono HSM.out ?_;rintro e w1 ⟨rfl,hb1⟩;have p1:w1.cell? ⟨b1,o1+k*2+1,none⟩=some (.int .i64 v5):=(by rw [hb1.cell (p:=⟨b1,o1+k*2+1,none⟩) hbl];exact P1.out);have hbl1:=lt_of_cell p1;have HB1:Hid (Below w.heap.size w w1):=HB.out.trans (hb1.mono HB.out.size);clear hb1)
    go_roundw
    case rel=>exact ⟨k+1,by omega,by go_num,HNX.out,HB1.out⟩
    case measure=>simp [intOf];omega
  ·have hlz:¬ (k:Int) < (ps.length:Int):=by omega
   have HR:Hid (findP ps l = -1):=by
    show _=_
    rw [HE.out,List.drop_of_length_le (by omega)]
    rfl
   go_wp2
   go_ret
   exact ⟨ret_int HR.out.symm,HB.out⟩
end Wp9
namespace Wp14
open Go.RowKit
open Nd0 (Kept Ints WInts IntsIn lt_of_cell)
open Op6 (Pk PkAt Pks)
open Ta2 (bitB plc)
open Vo0 (allB valB iVals)
open Tc2 (tv)
open Mv0 (Mv Sp Sm putF)
open Wp9 (findP bit_in)
open Wp12 Wp13
theorem plc_pre (l:List Int) (y:Int) (k:Nat) (h:k<=l.length):plc (l++[y]) k=plc l k:=by
 induction k with
 | zero=>rfl
 | succ k ih =>
   show 2*plc (l++[y]) k+((l++[y]).getD k 0).toNat=2*plc l k+(l.getD k 0).toNat
   have e:(l++[y]).getD k 0=l.getD k 0:=by simp [List.getD,List.getElem?_append_left (show k < l.length by omega)]
   rw [e,ih (by omega)]
theorem plc_snoc (l:List Int) (y:Int):plc (l++[y]) (l++[y]).length=2*plc l l.length+y.toNat:=by
 rw [List.length_append,List.length_singleton]
 show 2*plc (l++[y]) l.length+((l++[y]).getD l.length 0).toNat=_
 rw [plc_pre l y l.length (Nat.le_refl _)]
 simp [List.getD]
/-- Bits are told by how many they are and by their number. -/
theorem sp_inj (n:Nat):∀ {l m:List Int},l.length=n->m.length=n->(∀ b∈l,bitB b=true)->(∀ b∈m,bitB b=true)->plc l l.length=plc m m.length->l=m:=by
 induction n with
 | zero =>
   intro l m h1 h2 _ _ _
   rw [List.eq_nil_of_length_eq_zero h1,List.eq_nil_of_length_eq_zero h2]
 | succ n ih =>
   intro l m h1 h2 h3 h4 h5
   have hl:l≠[]:=fun e=>by rw [e] at h1;cases h1
   have hm:m≠[]:=fun e=>by rw [e] at h2;cases h2
   obtain ⟨l',x,rfl⟩:∃ l' x,l=l'++[x]:=⟨l.dropLast,l.getLast hl,(List.dropLast_concat_getLast hl).symm⟩
   obtain ⟨m',y,rfl⟩:∃ m' y,m=m'++[y]:=⟨m.dropLast,m.getLast hm,(List.dropLast_concat_getLast hm).symm⟩
   rw [List.length_append,List.length_singleton] at h1 h2
   rw [plc_snoc,plc_snoc] at h5
   have hx:=bit_in.1 (h3 x (by simp))
   have hy:=bit_in.1 (h4 y (by simp))
   have e1:x=y:=by omega
   have e2:l'=m':=ih (by omega) (by omega) (fun b hb=>h3 b (by simp [hb])) (fun b hb=>h4 b (by simp [hb])) (by omega)
   rw [e1,e2]
theorem val_mem {l:List Int} (h:valB l 12=true):(∀ b∈l,bitB b=true)/\l.length<=12:=by
 unfold valB allB at h
 simp at h
 exact ⟨h.1,by omega⟩
theorem sp_eq {l m:List Int} (hl:valB l 12=true) (hm:valB m 12=true):sp l=sp m↔l=m:=by
 refine ⟨fun h=>?_,fun h=>by rw [h]⟩
 have e1:l.length=m.length:=congrArg Prod.fst h
 have e2:plc l l.length=plc m m.length:=congrArg Prod.snd h
 exact sp_inj l.length rfl e1.symm (val_mem hl).1 (val_mem hm).1 e2
/-- What the map says at right values is what the list picks. -/
theorem fp_find {ps:List Pk} {vs:List Int} (h:valB vs 12=true):findP ps vs=(match fp ps (sp vs) with|some v=>if bitB v=true then v else -1|none => -1):=by
 induction ps with
 | nil=>rfl
 | cons p r ih =>
   unfold findP fp
   by_cases e:p.l=vs
   ·have hy:valB p.l 12=true/\sp p.l=sp vs:=⟨by rw [e];exact h,by rw [e]⟩
    rw [if_pos e,if_pos (c:=valB p.l 12=true/\sp p.l=sp vs) hy]
   ·have hn:¬ (valB p.l 12=true/\sp p.l=sp vs):=fun c=>e ((sp_eq c.1 h).1 c.2)
    rw [if_neg e,if_neg hn,ih]
theorem iGive (va:Option Addr) (vs:List Int) (vc:Nat) (N:Int) (S:ByteArray) (mb bm k:Nat) (f:Sp->Option Int) (w:World) (h:valB vs 12=true) (hI:Ints w va vs) (hm:w.cell? ⟨mb,0,none⟩=some (.map (some bm))) (hM:Mv w bm k f) :
 Calls Try.prog 36 #[.slice va vs.length vc,tv N S,.pointer (some ⟨mb,0,none⟩)] w fun e w'=>e=.returned (.tuple #[.int .i64 ((f (sp vs)).getD 0),.bool (f (sp vs)).isSome])/\Below w.heap.size w w':=by
 obtain ⟨v1,v2⟩:=val_bits h
 obtain ⟨X0,hX0⟩:∃ X,X=w.alloc (.cells #[.int .i64 N,.string S] 26):=⟨_,rfl⟩
 have HB0:Hid (Below w.heap.size w X0):=by rw [hX0];exact (Below.refl _ _).alloc (Nat.le_refl _) _
 have hE:w.alloc (.cells #[.int .i64 N,.string S] 26)=X0:=hX0.symm
 have HBD:Hid (Below w.heap.size w X0.drew):=HB0.out.drew
 have cD:X0.drew.cell? ⟨mb,0,none⟩=some (.map (some bm)):=by rw [HBD.out.cell (p:=⟨mb,0,none⟩) (lt_of_cell hm)];exact hm
 have HSP:Hid _:=iSpot va vs vc X0.drew v2 v1 (hI.below HBD.out)
 have HMD:Hid (Mv X0.drew bm k f):=hM.below HBD.out
 have HSM:Hid (Sm (sp vs)):=sp_small h
 have hmb:=lt_of_cell cD
 have CD:Hid (X0.drew.cell? ⟨mb,0,none⟩=some (.map (some bm))):=cD
 obtain ⟨X,hX⟩:∃ X:Sp,X=sp vs:=⟨_,rfl⟩
 have hX1:(vs.length:Int)=(X.1:Int):=by rw [hX];rfl
 have hX2:((plc vs vs.length:Nat):Int)=(X.2:Int):=by rw [hX];rfl
 rw [hX2] at HSP
 have HSP2:Hid (Calls Try.prog 37 #[.slice va vs.length vc] X0.drew fun e w'=>e=.returned (Mv0.agg X)/\Below X0.drew.heap.size X0.drew w'):=Calls.mono HSP.out fun e w' h=>by rw [hX1] at h;exact h
 rw [<- hX] at HSM ⊢
 clear hX0 h v1 v2 hI hm hM HSP hX hX1 hX2
 go_enter Try.func36,Try.ntmps36
 go_upto_region 1 with fail
 clear hE
 go_region_held3 (fun w'=>w'.cell? ⟨mb,0,none⟩=some (.map (some bm))) ((first|(with_reducible exact CD.out)|(with_reducible exact CE.out))) ((go_at_call 37;(with_reducible refine Calls.mono HSP2.out ?_);rintro e x1 ⟨rfl,hb1⟩;have CE:Hid (x1.cell? ⟨mb,0,none⟩=some (.map (some bm))):=(by show _=_;rw [hb1.cell (p:=⟨mb,0,none⟩) (lt_of_cell CD.out)];exact CD.out);have hlk:=(HMD.out.below hb1).look HSM.out;have HB1:Hid (Below w.heap.size w x1):=HBD.out.trans (hb1.mono HBD.out.size);clear hb1))
 go_wp2
 go_ret2
 exact ⟨rfl,HB1.out⟩
end Wp14
namespace Wp10
open Go.RowKit
open Nd0 (Kept Ints WInts IntsIn lt_of_cell)
open Nd6 (Bools)
open Op6 (Pk PkAt Pks)
open Ta1 (tab)
open Ta2 (bitB)
open Ta3 (hb)
open Tc2 (tv sInT sInF ret_bool)
open Tc5 (Lay)
open Td1 (knw sKnown knw_same)
open Td4 (sHalf)
open Ss0 (bs)
open Ap0 Wp7 Wp9 Wq0
open Go.Sort (grow)
/-- Whether a list is a strategy for the verdict v, from some values on. -/
def chk (ps:List Pk) (v:Int):List Bool->(Nat->Bool)->List Int->Bool
 | [],F,_=>decide (knw 0 F=v)
 | q :: r,F,vs=>if 0<=knw (r.length+1) F then decide (knw (r.length+1) F=v)
   else if (q==(v==0))=true then (if findP ps vs=0 then chk ps v r (hb r.length 0 F) (vs++[0]) else if findP ps vs=1 then chk ps v r (hb r.length 1 F) (vs++[1]) else false)
   else (chk ps v r (hb r.length 0 F) (vs++[0])&&chk ps v r (hb r.length 1 F) (vs++[1]))
def MC (ps:List Pk) (v:Int) (row:List Bool):Prop:=∀ (F:Nat->Bool) (W:World) (ra la va:Option Addr) (c lc vc:Nat) (vs:List Int),Bools W ra row->row.length<=c->Pks W la ps->Ints W va vs->vs.length+row.length<=100 ->
 Calls Try.prog 45 #[.slice ra row.length c,tv (row.length:Int) (bs (tab row.length F)),.int .i64 v,.slice la ps.length lc,.slice va vs.length vc] W fun e w'=>e=.returned (.bool (chk ps v row F vs))/\Below W.heap.size W w'
theorem knw_zero (F:Nat->Bool):0<=knw 0 F:=by
 rw [knw_same (fun j hj=>by have:j=0:=(by simpa using hj);rw [this])]
 omega
/-- What is known. -/
theorem mc_known (ps:List Pk) (v:Int) (n:Nat) (F:Nat->Bool) (hn:n<=12) (W:World) (ra la va:Option Addr) (k c lc vc m:Nat) (b:Bool) (hk:0<=knw n F) (hb:b=decide (knw n F=v)) :
 Calls Try.prog 45 #[.slice ra k c,tv (n:Int) (bs (tab n F)),.int .i64 v,.slice la ps.length lc,.slice va m vc] W fun e w'=>e=.returned (.bool b)/\Below W.heap.size W w':=by
 obtain ⟨X0,hX0⟩:∃ X,X=W.alloc (.cells #[.int .i64 (n:Int),.string (bs (tab n F))] 26):=⟨_,rfl⟩
 have HB0:Hid (Below W.heap.size W X0):=by rw [hX0];exact (Below.refl _ _).alloc (Nat.le_refl _) _
 have HL0:Hid (Lay X0 W.heap.size (.int .i64 (n:Int)) (.string (bs (tab n F)))):=by rw [hX0];exact Lay.made _ _ _ _
 have hE:W.alloc (.cells #[.int .i64 (n:Int),.string (bs (tab n F))] 26)=X0:=hX0.symm
 have HKN:Hid (∀ W,Calls Try.prog 73 #[tv (n:Int) (bs (tab n F))] W fun e w'=>e=.returned (.int .i64 (knw n F))/\Below W.heap.size W w'):=fun W=>sKnown n F W hn
 have HBQ:Hid (b=decide (knw n F=v)):=hb
 clear hX0 hb hn
 generalize knw n F=kn at *
 generalize bs (tab n F)=S at *
 go_enter Try.func45,Try.ntmps45
 go_upto_region 1 with fail
 clear hE
 obtain ⟨d0,d1,_,_⟩:=HL0.out
 have hd:=HL0.out.lt
 go_wp2_with fail
 clear d0 d1 hd
 refine (HKN.out _).mono ?_
 rintro e w1 ⟨rfl,hb1⟩
 have HB1:Hid (Below W.heap.size W w1):=HB0.out.trans (hb1.mono HB0.out.size)
 clear hb1
 have HQ:Hid ((kn==v)=b):=by show _=_;rw [HBQ.out];rfl
 cases hq:(kn==v)
 ·have HR:Hid (b=false):=by show _=_;rw [<- HQ.out,hq]
  go_wp2
  go_ret
  exact ⟨ret_bool HR.out.symm,HB1.out⟩
 ·have HR:Hid (b=true):=by show _=_;rw [<- HQ.out,hq]
  go_wp2
  go_ret
  exact ⟨ret_bool HR.out.symm,HB1.out⟩
/-- What is not known. -/
theorem mc_on (ps:List Pk) (v:Int) (n:Nat) (F:Nat->Bool) (hn:n<=11) (q:Bool) (W:World) (b o t:Nat) (la va:Option Addr) (c c1 lc vc:Nat) (vs:List Int) (z0 z1:Bool) (hk:¬ 0<=knw (n+1) F)
 (p0:W.cell? ⟨b,o,none⟩=some (.bool q)) (hsl:∀ w:World,(Instr.slice 24 (.slice (some ⟨b,o,none⟩) (n+1) c) (some (.int .i64 1)) none none).run Try.prog w=.ok (.slice (some ⟨b,t,none⟩) n c1) w)
 (hP:Pks W la ps) (hI:Ints W va vs) (hlen:vs.length<=100)
 (h0:∀ (W':World) a c,Below W.heap.size W W'->Ints W' a (vs++[0])->Calls Try.prog 45 #[.slice (some ⟨b,t,none⟩) n c1,tv (n:Int) (bs (tab n (hb n 0 F))),.int .i64 v,.slice la ps.length lc,.slice a (vs.length+1) c] W' fun e w'=>e=.returned (.bool z0)/\Below W'.heap.size W' w')
 (h1:∀ (W':World) a c,Below W.heap.size W W'->Ints W' a (vs++[1])->Calls Try.prog 45 #[.slice (some ⟨b,t,none⟩) n c1,tv (n:Int) (bs (tab n (hb n 1 F))),.int .i64 v,.slice la ps.length lc,.slice a (vs.length+1) c] W' fun e w'=>e=.returned (.bool z1)/\Below W'.heap.size W' w') :
 Calls Try.prog 45 #[.slice (some ⟨b,o,none⟩) (n+1) c,tv ((n:Int)+1) (bs (tab (n+1) F)),.int .i64 v,.slice la ps.length lc,.slice va vs.length vc] W fun e w'=>e=.returned (.bool (if (q==(v==0))=true then (if findP ps vs=0 then z0 else if findP ps vs=1 then z1 else false) else (z0&&z1)))/\Below W.heap.size W w':=by
 obtain ⟨R,hR⟩:∃ R,R=(if (q==(v==0))=true then (if findP ps vs=0 then z0 else if findP ps vs=1 then z1 else false) else (z0&&z1)):=⟨_,rfl⟩
 have HR:Hid (R=(if (q==(v==0))=true then (if findP ps vs=0 then z0 else if findP ps vs=1 then z1 else false) else (z0&&z1))):=hR
 rw [<- hR]
 obtain ⟨X0,hX0⟩:∃ X,X=W.alloc (.cells #[.int .i64 ((n:Int)+1),.string (bs (tab (n+1) F))] 26):=⟨_,rfl⟩
 have HB0:Hid (Below W.heap.size W X0):=by rw [hX0];exact (Below.refl _ _).alloc (Nat.le_refl _) _
 have HL0:Hid (Lay X0 W.heap.size (.int .i64 ((n:Int)+1)) (.string (bs (tab (n+1) F)))):=by rw [hX0];exact Lay.made _ _ _ _
 have hE:W.alloc (.cells #[.int .i64 ((n:Int)+1),.string (bs (tab (n+1) F))] 26)=X0:=hX0.symm
 have HKN:Hid (∀ W,Calls Try.prog 73 #[tv ((n:Int)+1) (bs (tab (n+1) F))] W fun e w'=>e=.returned (.int .i64 (knw (n+1) F))/\Below W.heap.size W w'):=fun W=>sKnown (n+1) F W (by omega)
 have HH0:Hid (∀ W,Calls Try.prog 63 #[tv ((n:Int)+1) (bs (tab (n+1) F)),.int .i64 0] W fun e w'=>e=.returned (.tuple #[tv (n:Int) (bs (tab n (hb n 0 F))),.bool true])/\Below W.heap.size W w'):=fun W=>sHalf n 0 F W (by omega) (by omega)
 have HH1:Hid (∀ W,Calls Try.prog 63 #[tv ((n:Int)+1) (bs (tab (n+1) F)),.int .i64 1] W fun e w'=>e=.returned (.tuple #[tv (n:Int) (bs (tab n (hb n 1 F))),.bool true])/\Below W.heap.size W w'):=fun W=>sHalf n 1 F W (by omega) (by omega)
 have HF:Hid (∀ W',Below W.heap.size W W'->Calls Try.prog 74 #[.slice la ps.length lc,.slice va vs.length vc] W' fun e w'=>e=.returned (.int .i64 (findP ps vs))/\Below W'.heap.size W' w'):=fun W' hb=>sFind W' la va ps vs lc vc (pks_below hP hb) (hI.below hb)
 have HI0:Hid _:=h0
 have HI1:Hid _:=h1
 have HV:Hid (Ints W va vs):=hI
 have HLV:Hid (vs.length<=1048576):=by show _<=_;omega
 have P0:Hid (W.cell? ⟨b,o,none⟩=some (.bool q)):=p0
 clear hR hX0 h0 h1 hP hI p0 hn hlen
 generalize knw (n+1) F=kn at *
 generalize bs (tab (n+1) F)=S at *
 generalize bs (tab n (hb n 0 F))=S0 at *
 generalize bs (tab n (hb n 1 F))=S1 at *
 go_enter Try.func45,Try.ntmps45
 go_upto_region 1 with fail
 clear hE
 obtain ⟨d0,d1,_,_⟩:=HL0.out
 have hd:=HL0.out.lt
 go_wp2_with fail
 clear d0 d1 hd
 refine (HKN.out _).mono ?_
 rintro e w1 ⟨rfl,hb1⟩
 have HB1:Hid (Below W.heap.size W w1):=HB0.out.trans (hb1.mono HB0.out.size)
 have HL1:Hid (Lay w1 W.heap.size (.int .i64 ((n:Int)+1)) (.string S)):=HL0.out.below hb1
 clear hb1 HB0 HL0
 obtain ⟨d0,d1,_,_⟩:=HL1.out
 have hd:=HL1.out.lt
 go_wp2_with fail
 clear d0 d1 hd
 refine (HH0.out _).mono ?_
 rintro e w2 ⟨rfl,hb2⟩
 go_upto_region 5 with fail
 obtain ⟨W2,hW2⟩:∃ X,X=w2.alloc (.cells #[.int .i64 (n:Int),.string S0] 26):=⟨_,rfl⟩
 obtain ⟨ql,hql⟩:∃ q,q=w2.heap.size:=⟨_,rfl⟩
 have hb3:Below w1.heap.size w1 W2:=by rw [hW2];exact hb2.alloc hb2.size _
 have HB2:Hid (Below W.heap.size W W2):=HB1.out.trans (hb3.mono HB1.out.size)
 have HL2:Hid (Lay W2 W.heap.size (.int .i64 ((n:Int)+1)) (.string S)):=HL1.out.below hb3
 have HA2:Hid (Lay W2 ql (.int .i64 (n:Int)) (.string S0)):=by rw [hW2,hql];exact Lay.made _ _ _ _
 rw [<- hW2,<- hql]
 clear hW2 hql hb2 hb3 HB1 HL1
 obtain ⟨d0,d1,_,_⟩:=HL2.out
 have hd:=HL2.out.lt
 go_wp2_with fail
 clear d0 d1 hd
 refine (HH1.out _).mono ?_
 rintro e w3 ⟨rfl,hb3⟩
 go_upto_region 6 with fail
 obtain ⟨W3,hW3⟩:∃ X,X=w3.alloc (.cells #[.int .i64 (n:Int),.string S1] 26):=⟨_,rfl⟩
 obtain ⟨qh,hqh⟩:∃ q,q=w3.heap.size:=⟨_,rfl⟩
 have hb4:Below W2.heap.size W2 W3:=by rw [hW3];exact hb3.alloc hb3.size _
 have HB3:Hid (Below W.heap.size W W3):=HB2.out.trans (hb4.mono HB2.out.size)
 have HA3:Hid (Lay W3 ql (.int .i64 (n:Int)) (.string S0)):=HA2.out.below hb4
 have HC3:Hid (Lay W3 qh (.int .i64 (n:Int)) (.string S1)):=by rw [hW3,hqh];exact Lay.made _ _ _ _
 rw [<- hW3,<- hqh]
 clear hW3 hqh hb3 hb4 HB2 HL2 HA2
 go_upto_region 7 with (at_builtin;go_must (first|(refine app_int _ rfl _ _ rfl w5.heap.size v6 vs 1 rfl rfl HO6.out HB6.out.size HLV.out ?_;intro g7 cp7 w7 ho7 hk7 hg7;have HO7:Hid (Ows w7 w5.heap.size (.slice (some ⟨g7,0,none⟩) (vs.length+1) cp7) (vs++[1])):=ho7;have HB7:Hid (Below w5.heap.size w5 w7):=HB6.out.trans (hk7.below (fun i hi=>(HO6.out.lt i hi).1) HB6.out.size);clear ho7 hk7 hg7)|(refine allIs _ rfl _ _ rfl vs va vc _ rfl rfl rfl (HV.out.below (HB3.out.trans (HB5.out.mono HB3.out.size))) HLV.out ?_;intro v6 w6 ho6 hb6;have HO6:Hid (Ows w6 w5.heap.size v6 vs):=ho6;have HB6:Hid (Below w5.heap.size w5 w6):=hb6;clear ho6 hb6)|(refine app_int _ rfl _ _ rfl W3.heap.size v4 vs 0 rfl rfl HO4.out HB4.out.size HLV.out ?_;intro g5 cp5 w5 ho5 hk5 hg5;have HO5:Hid (Ows w5 W3.heap.size (.slice (some ⟨g5,0,none⟩) (vs.length+1) cp5) (vs++[0])):=ho5;have HB5:Hid (Below W3.heap.size W3 w5):=HB4.out.trans (hk5.below (fun i hi=>(HO4.out.lt i hi).1) HB4.out.size);clear ho5 hk5 hg5)|(refine allIs _ rfl _ _ rfl vs va vc _ rfl rfl rfl (HV.out.below HB3.out) HLV.out ?_;intro v4 w4 ho4 hb4;have HO4:Hid (Ows w4 W3.heap.size v4 vs):=ho4;have HB4:Hid (Below W3.heap.size W3 w4):=hb4;clear ho4 hb4)))
 have HBW:Hid (Below W.heap.size W w7):=(HB3.out.trans (HB5.out.mono HB3.out.size)).trans (HB7.out.mono (Nat.le_trans HB3.out.size HB5.out.size))
 have h57:Below W3.heap.size W3 w7:=HB5.out.trans (HB7.out.mono HB5.out.size)
 have HA7:Hid (Lay w7 ql (.int .i64 (n:Int)) (.string S0)):=HA3.out.below h57
 have HC7:Hid (Lay w7 qh (.int .i64 (n:Int)) (.string S1)):=HC3.out.below h57
 have HZ0:Hid (Ints w7 (some ⟨g5,0,none⟩) (vs++[0])):=by
  obtain ⟨a9,c9,e9,f9⟩:=HO5.out.form
  injection e9 with ea eb ec
  rw [<- ea] at f9
  exact f9.ints.below HB7.out
 have HZ1:Hid (Ints w7 (some ⟨g7,0,none⟩) (vs++[1])):=by
  obtain ⟨a9,c9,e9,f9⟩:=HO7.out.form
  injection e9 with ea eb ec
  rw [<- ea] at f9
  exact f9.ints
 have p0:w7.cell? ⟨b,o,none⟩=some (.bool q):=by rw [HBW.out.cell (p:=⟨b,o,none⟩) (lt_of_cell P0.out)];exact P0.out
 have hpl:=lt_of_cell p0
 clear h57 HB3 HB4 HB5 HB6 HB7 HO4 HO5 HO6 HO7 HA3 HC3 HKN HH0 HH1 HV P0
 obtain ⟨z,hz⟩:∃ z,z=findP ps vs:=⟨_,rfl⟩
 rw [<- hz] at HF HR
 clear hz hk
 have hcn:(1:Int)<=(n:Int)+1:=by omega
 cases ht:(q==(v==0))
 ·have HRR:Hid (R=(z0&&z1)):=by show _=_;rw [HR.out,ht];rfl
  clear HR
  go_upto_region 14 with fail
  clear p0 hpl ht HF
  have HQ0:Hid (∀ d os,Calls Try.prog 45 #[.slice (some ⟨b,t,none⟩) n c1,tv (n:Int) S0,.int .i64 v,.slice la ps.length lc,.slice (some ⟨g5,0,none⟩) (vs.length+1) cp5] (grow (redrawn w7 d) os) fun e w''=>e=.returned (.bool z0)/\∃ p:Regrown,w''=grow (redrawn w7 p.d) p.os):=fun d os=>Calls.regrown_of (HI0.out _ _ _ (HBW.out.trans ((below_regrown w7 d os).mono HBW.out.size)) (HZ0.out.below (below_regrown w7 d os)))
  cases z0
  ·have HR3:Hid (R=false):=by show _=_;rw [HRR.out];rfl
   have a0:∀ d os,(grow (redrawn w7 d) os).cell? ⟨ql,0,none⟩=some (.int .i64 (n:Int)):=fun d os=>cell_regrown HA7.out.c0 d os
   have a1:∀ d os,(grow (redrawn w7 d) os).cell? ⟨ql,1,none⟩=some (.string S0):=fun d os=>cell_regrown HA7.out.c1 d os
   clear HZ0 HZ1 HI0 HI1 HA7 HC7 HRR HLV
   refine wp_region_quiet_below (by kernel_rfl) (by kernel_rfl) ?_
   iterate 17 (go_big_quiet_step ((go_at_call 45;exact HQ0.out _ _)))
   refine wpQuiet_nil ?_
   intro w9 hw9
   obtain ⟨pp,hw8⟩:=hw9
   subst hw8
   go_wp2
   go_ret
   exact ⟨ret_bool HR3.out.symm,HBW.out.trans ((below_regrown w7 pp.d pp.os).mono HBW.out.size)⟩
  ·have HR3:Hid (R=z1):=by show _=_;rw [HRR.out];rfl
   have dd:Below w7.heap.size w7 w7.drew:=(Below.refl _ _).drew
   have HBD:Hid (Below W.heap.size W w7.drew):=HBW.out.drew
   have LAD:=HA7.out.below dd
   have LCD:=HC7.out.below dd
   have Z0D:Hid (Ints w7.drew (some ⟨g5,0,none⟩) (vs++[0])):=HZ0.out.below dd
   have Z1D:Hid (Ints w7.drew (some ⟨g7,0,none⟩) (vs++[1])):=HZ1.out.below dd
   clear dd HBW HA7 HC7 HZ0 HZ1 HQ0
   go_region_held3 (fun w'=>w'.cell? ⟨ql,0,none⟩=some (.int .i64 (n:Int))/\w'.cell? ⟨ql,1,none⟩=some (.string S0)/\w'.cell? ⟨qh,0,none⟩=some (.int .i64 (n:Int))/\w'.cell? ⟨qh,1,none⟩=some (.string S1)) ((first|(with_reducible exact ⟨LAD.c0,LAD.c1,LCD.c0,LCD.c1⟩)|(with_reducible exact ⟨LAE.c0,LAE.c1,LCE.c0,LCE.c1⟩)|(with_reducible exact ⟨LAG.c0,LAG.c1,LCG.c0,LCG.c1⟩))) ((first|(go_at_call 45;(with_reducible refine (HI0.out _ _ _ HBD.out Z0D.out).mono ?_);rintro e w9 ⟨rfl,hb9⟩;have LAE:=LAD.below hb9;have LCE:=LCD.below hb9;have Z1E:Hid (Ints w9 (some ⟨g7,0,none⟩) (vs++[1])):=Z1D.out.below hb9;have HB9:Hid (Below W.heap.size W w9):=HBD.out.trans (hb9.mono HBD.out.size);clear hb9)|(go_at_call 45;(with_reducible refine (HI1.out _ _ _ HB9.out Z1E.out).mono ?_);rintro e w10 ⟨rfl,hb9⟩;have LAG:=LAE.below hb9;have LCG:=LCE.below hb9;have HB10:Hid (Below W.heap.size W w10):=HB9.out.trans (hb9.mono HB9.out.size);clear hb9)))
   go_wp2
   go_ret
   exact ⟨ret_bool HR3.out.symm,HB10.out⟩
 ·have HRR:Hid (R=(if z=0 then z0 else if z=1 then z1 else false)):=by show _=_;rw [HR.out,ht];rfl
  clear HR
  go_wp2_with fail
  clear p0 hpl ht
  refine (HF.out _ HBW.out).mono ?_
  rintro e w8 ⟨rfl,hb8⟩
  have HB8:Hid (Below W.heap.size W w8):=HBW.out.trans (hb8.mono HBW.out.size)
  have HA8:Hid (Lay w8 ql (.int .i64 (n:Int)) (.string S0)):=HA7.out.below hb8
  have HC8:Hid (Lay w8 qh (.int .i64 (n:Int)) (.string S1)):=HC7.out.below hb8
  have HZ08:Hid (Ints w8 (some ⟨g5,0,none⟩) (vs++[0])):=HZ0.out.below hb8
  have HZ18:Hid (Ints w8 (some ⟨g7,0,none⟩) (vs++[1])):=HZ1.out.below hb8
  clear hb8 HBW HA7 HC7 HZ0 HZ1 HF
  have dd:Below w8.heap.size w8 w8.drew:=(Below.refl _ _).drew
  have HBD:Hid (Below W.heap.size W w8.drew):=HB8.out.drew
  have LAD:=HA8.out.below dd
  have LCD:=HC8.out.below dd
  have Z0D:Hid (Ints w8.drew (some ⟨g5,0,none⟩) (vs++[0])):=HZ08.out.below dd
  have Z1D:Hid (Ints w8.drew (some ⟨g7,0,none⟩) (vs++[1])):=HZ18.out.below dd
  clear dd
  by_cases e0:z=0
  ·have hz0:(z==0)=true:=by rw [e0];rfl
   have HR3:Hid (R=z0):=by show _=_;rw [HRR.out,if_pos e0]
   clear e0
   go_upto_region 10 with fail
   go_region_held3 (fun w'=>w'.cell? ⟨ql,0,none⟩=some (.int .i64 (n:Int))/\w'.cell? ⟨ql,1,none⟩=some (.string S0)) ((first|(with_reducible exact ⟨LAD.c0,LAD.c1⟩)|(with_reducible exact ⟨LAE.c0,LAE.c1⟩))) ((go_at_call 45;(with_reducible refine (HI0.out _ _ _ HBD.out Z0D.out).mono ?_);rintro e w9 ⟨rfl,hb9⟩;have LAE:=LAD.below hb9;have HB9:Hid (Below W.heap.size W w9):=HBD.out.trans (hb9.mono HBD.out.size);clear hb9))
   go_wp2
   go_ret
   exact ⟨ret_bool HR3.out.symm,HB9.out⟩
  ·have hz0:(z==0)=false:=beq_eq_false_iff_ne.2 e0
   by_cases e1:z=1
   ·have hz1:(z==1)=true:=by rw [e1];rfl
    have HR3:Hid (R=z1):=by show _=_;rw [HRR.out,if_neg e0,if_pos e1]
    clear e0 e1
    go_upto_region 12 with fail
    go_region_held3 (fun w'=>w'.cell? ⟨qh,0,none⟩=some (.int .i64 (n:Int))/\w'.cell? ⟨qh,1,none⟩=some (.string S1)) ((first|(with_reducible exact ⟨LCD.c0,LCD.c1⟩)|(with_reducible exact ⟨LCE.c0,LCE.c1⟩))) ((go_at_call 45;(with_reducible refine (HI1.out _ _ _ HBD.out Z1D.out).mono ?_);rintro e w9 ⟨rfl,hb9⟩;have LCE:=LCD.below hb9;have HB9:Hid (Below W.heap.size W w9):=HBD.out.trans (hb9.mono HBD.out.size);clear hb9))
    go_wp2
    go_ret
    exact ⟨ret_bool HR3.out.symm,HB9.out⟩
   ·have hz1:(z==1)=false:=beq_eq_false_iff_ne.2 e1
    have HR3:Hid (R=false):=by show _=_;rw [HRR.out,if_neg e0,if_neg e1]
    clear e0 e1
    go_wp2
    go_ret
    exact ⟨ret_bool HR3.out.symm,HB8.out⟩
theorem mc_nil (ps:List Pk) (v:Int):MC ps v []:=by
 intro F W ra la va c lc vc vs _ _ _ _ _
 exact mc_known ps v 0 F (by omega) W ra la va 0 c lc vc vs.length _ (knw_zero F) rfl
theorem mc_cons {ps:List Pk} {v:Int} {q:Bool} {r:List Bool} (hr:r.length<=11) (ih:MC ps v r):MC ps v (q :: r):=by
 intro F W ra la va c lc vc vs hB hc hP hI hlen
 rw [List.length_cons] at hc hlen ⊢
 by_cases hk:0<=knw (r.length+1) F
 ·exact mc_known ps v (r.length+1) F (by omega) W ra la va (r.length+1) c lc vc vs.length _ hk (by unfold chk;rw [if_pos hk])
 ·obtain ⟨b,o,rfl,p0,t,ht,hT⟩:=Wq0.tail hB hc
  have h:=mc_on ps v r.length F hr q W b o t la va c (c - 1) lc vc vs (chk ps v r (hb r.length 0 F) (vs++[0])) (chk ps v r (hb r.length 1 F) (vs++[1])) hk p0 (slc b o r.length c t (c - 1) hc ht rfl) hP hI (by omega)
   (fun W' a cc hbw hi=>by
    have h:=ih (hb r.length 0 F) W' (some ⟨b,t,none⟩) la a (c - 1) lc cc (vs++[0]) (hT.below hbw) (by omega) (pks_below hP hbw) hi (by rw [List.length_append,List.length_singleton];omega)
    rw [List.length_append,List.length_singleton] at h
    exact h)
   (fun W' a cc hbw hi=>by
    have h:=ih (hb r.length 1 F) W' (some ⟨b,t,none⟩) la a (c - 1) lc cc (vs++[1]) (hT.below hbw) (by omega) (pks_below hP hbw) hi (by rw [List.length_append,List.length_singleton];omega)
    rw [List.length_append,List.length_singleton] at h
    exact h)
  have e:chk ps v (q :: r) F vs=(if (q==(v==0))=true then (if findP ps vs=0 then chk ps v r (hb r.length 0 F) (vs++[0]) else if findP ps vs=1 then chk ps v r (hb r.length 1 F) (vs++[1]) else false) else (chk ps v r (hb r.length 0 F) (vs++[0])&&chk ps v r (hb r.length 1 F) (vs++[1]))):=by
   conv=>lhs;unfold chk
   rw [if_neg hk]
  rw [e]
  exact h
theorem mc_all (ps:List Pk) (v:Int):∀ row:List Bool,row.length<=12->MC ps v row:=by
 intro row
 induction row with
 | nil=>exact fun _=>mc_nil ps v
 | cons q r ih=>exact fun h=>mc_cons (by rw [List.length_cons] at h;omega) (ih (by rw [List.length_cons] at h;omega))
end Wp10
namespace Wp20
open Go.RowKit
open Nd0 (Kept Ints WInts lt_of_cell)
open Nd6 (Bools)
open Op6 (Pk PkAt Pks)
open Ta1 (tab tab_length)
open Ta2 (bitB)
open Ta3 (hb)
open Tc2 (tv ret_bool)
open Tc5 (Lay)
open Td1 (knw)
open Te3 (iHalf iHalf0)
open Ss0 (bs bs_size)
open Vo0 (allB valB)
open Mv0 (Mv Sp Sm)
open Dq1 (ownF)
open Wp9 (findP)
open Wp10 (chk knw_zero)
open Wp13 (sp fp)
open Wp14 (iGive fp_find)
open Ap0 Wp12 Wp15 Wp16 Wp17 Wp18 Wp19
/-- What Checks' giver keeps: the map. -/
def Jc (mb bm c:Nat) (ps:List Pk) (_:Unit) (vv:Value) (W:World):Prop :=
 W.cell? ⟨mb,0,none⟩=some (.map (some bm))/\Mv W bm c (fp ps)/\∀ b,vv.ownBlock=some b->b≠mb/\b≠bm
def S0 (_:Unit) (_:Nat):Prop:=False
theorem jm_c {k:Kn} {mb bm c:Nat} {ps:List Pk} (h1:mb≠k.vb) (h2:bm≠k.vb):Jm k (Jc mb bm c ps):=by
 intro t vv vv' W W' hj kk hn
 obtain ⟨j1,j2,j3⟩:=hj
 have l1:mb < W.heap.size:=lt_of_cell j1
 have l2:=j2.lt
 have nm:∀ x,(x=mb\/x=bm)->¬ (x=k.vb\/vv.ownBlock=some x):=fun x hx h=>by
  rcases h with e|e
  ·rcases hx with e2|e2
   ·exact h1 (e2.symm.trans e)
   ·exact h2 (e2.symm.trans e)
  ·rcases hx with e2|e2
   ·exact (j3 x e).1 e2
   ·exact (j3 x e).2 e2
 refine ⟨by rw [kk.cell (p:=⟨mb,0,none⟩) l1 (nm mb (.inl rfl))];exact j1,j2.kept kk (nm bm (.inr rfl)),fun b hb=>?_⟩
 rcases hn b hb with e|e
 ·exact j3 b e
 ·exact ⟨by omega,by omega⟩
theorem knw_b (n:Nat) (F:Nat->Bool):bitB (knw n F)=decide (0<=knw n F):=by
 have:=Ta3.knw_range n F
 unfold bitB
 exact decide_eq_decide.mpr (by omega)
theorem val_of {vs:List Int} (h:∀ b∈vs,bitB b=true) (hl:vs.length<=12):valB vs 12=true:=by
 unfold valB allB
 simp
 exact ⟨h,by omega⟩
/-- Where the walk is right. -/
def FC (k:Kn) (mb bm c:Nat) (ps:List Pk) (row:List Bool):Prop:=∀ (F:Nat->Bool) (vs:List Int) (vv:Value) (W:World),Wl k (Jc mb bm c ps) () vs vv W->(∀ b∈vs,bitB b=true)->k.OL.drop vs.length=row.map (ownF k.v)->vs.length+row.length<=12 ->
 Calls Try.prog 58 #[tv (row.length:Int) (bs (tab row.length F)),ptr k.g,ptr k.vb,ptr k.gb,ptr k.wb] W (PoW k (Jc mb bm c ps) S0 W () vs vv (chk ps k.v row F vs) ())
theorem fc_nil (k:Kn) (mb bm c:Nat) (ps:List Pk) (ks:Ks k) (h1:mb≠k.vb) (h2:bm≠k.vb):FC k mb bm c ps []:=by
 intro F vs vv W hW hb hd hl
 exact iFromKnown k _ S0 ks (jm_c h1 h2) W () vs vv 0 F (by omega) _ hW (by rw [knw_b];exact decide_eq_true (knw_zero F)) rfl
theorem fc_cons {k:Kn} {mb bm c:Nat} {ps:List Pk} (ks:Ks k) (h1:mb≠k.vb) (h2:bm≠k.vb) (hg:k.give=.func (.func 36) #[] #[ptr mb]) {q:Bool} {r:List Bool} (ih:FC k mb bm c ps r):FC k mb bm c ps (q :: r):=by
 intro F vs vv W hW hv hd hl
 rw [List.length_cons] at hl ⊢
 have hS:∀ (t:Unit) vv W,Jc mb bm c ps t vv W->∀ b,S0 t b->b < W.heap.size:=fun _ _ _ _ _ h=>h.elim
 have jm:=jm_c (c:=c) (ps:=ps) h1 h2
 by_cases hk:0<=knw (r.length+1) F
 ·exact iFromKnown k _ S0 ks jm W () vs vv (r.length+1) F (by omega) _ hW (by rw [knw_b];exact decide_eq_true hk) (by unfold chk;rw [if_pos hk])
 ·have hkb:bitB (knw (r.length+1) F)=false:=by rw [knw_b];exact decide_eq_false hk
  have e:chk ps k.v (q :: r) F vs=(if (q==(k.v==0))=true then (if findP ps vs=0 then chk ps k.v r (hb r.length 0 F) (vs++[0]) else if findP ps vs=1 then chk ps k.v r (hb r.length 1 F) (vs++[1]) else false) else (chk ps k.v r (hb r.length 0 F) (vs++[0])&&chk ps k.v r (hb r.length 1 F) (vs++[1]))):=by
   conv=>lhs;unfold chk
   rw [if_neg hk]
  have hlt:vs.length < k.OL.length:=by
   have:=congrArg List.length hd
   rw [List.length_drop,List.length_map,List.length_cons] at this
   omega
  have hq:k.OL[vs.length]=(q==(k.v==0)):=by
   have:=hd
   rw [List.drop_eq_getElem_cons hlt,List.map_cons] at this
   exact (List.cons.inj this).1
  have hd':∀ b:Int,k.OL.drop (vs++[b]).length=r.map (ownF k.v):=fun b=>by
   have:=hd
   rw [List.drop_eq_getElem_cons hlt,List.map_cons] at this
   rw [List.length_append,List.length_singleton]
   exact (List.cons.inj this).2
  have hw:∀ (b:Nat),b<=1->∀ vv1 W1,Wl k (Jc mb bm c ps) () vs vv1 W1->Calls Try.prog 56 #[.int .i64 (b:Int),tv ((r.length+1:Nat):Int) (bs (tab (r.length+1) F)),ptr k.vb,ptr k.fb] W1 (PoW k (Jc mb bm c ps) S0 W1 () vs vv1 (chk ps k.v r (hb r.length b F) (vs++[(b:Int)])) ()):=fun b hb1 vv1 W1 hW1 =>
   iWith k _ S0 ks jm W1 () () vs vv1 (b:Int) _ _ _ _ _ (by omega) hW1 (fun W=>iHalf r.length b F W (by omega) hb1) (fun vv2 W2 hW2 =>
    ih (hb r.length b F) (vs++[(b:Int)]) vv2 W2 hW2 (fun x hx=>by
     rcases List.mem_append.mp hx with h|h
     ·exact hv x h
     ·rw [List.mem_singleton.mp h];exact decide_eq_true (by omega)) (hd' _) (by rw [List.length_append,List.length_singleton];omega))
  by_cases hqo:(q==(k.v==0))=true
  ·rw [e,if_pos hqo]
   have hvb:=val_of hv (by omega)
   have hf:=fp_find (ps:=ps) hvb
   refine iFromOwn k _ S0 ks jm hS W () () () vs vv (r.length+1) F (by omega) mb hg ((fp ps (sp vs)).getD 0) (fp ps (sp vs)).isSome _ hW hkb hlt (by rw [hq];exact hqo) (fun W1 hW1=>?_) (fun hth vv1 W1 hW1=>?_) (fun hth=>?_)
   ·obtain ⟨va,vc,evv,hI⟩:=hW1.vo.form
    subst evv
    refine (iGive va vs vc _ _ mb bm c (fp ps) W1 hvb hI.ints hW1.j.1 hW1.j.2.1).mono ?_
    rintro e w' ⟨he,hbw⟩
    exact ⟨he,hW1.below ks jm hbw,Kept.ofBelow hbw,fun i h=>h.elim⟩
   ·cases hfp:fp ps (sp vs) with
    | none=>rw [hfp] at hth;cases hth
    | some z =>
      rw [hfp] at hf
      show Calls _ _ #[.int .i64 z,_,_,_] _ _
      by_cases z0:z=0
      ·subst z0
       rw [if_pos (by rw [hf];rfl)]
       exact hw 0 (by omega) vv1 W1 hW1
      ·by_cases z1:z=1
       ·subst z1
        rw [if_neg (by rw [hf];decide),if_pos (by rw [hf];rfl)]
        exact hw 1 (by omega) vv1 W1 hW1
       ·have hz:bitB z=false:=decide_eq_false (by omega)
        have hf1:findP ps vs = -1:=by rw [hf];show (if bitB z=true then z else -1) = -1;rw [hz];rfl
        rw [if_neg (by rw [hf1];decide),if_neg (by rw [hf1];decide)]
        refine iWith0 k _ S0 ks jm W1 () vs vv1 z _ _ _ _ (by omega) hW1 (fun W=>iHalf0 W ?_ (fun h=>by rw [hz] at h;exact absurd h.2.2 (by decide)))
        rw [bs_size,tab_length]
        have:2 ^ (r.length+1)<=2 ^ 12:=Nat.pow_le_pow_right (by decide) (by omega)
        omega
   ·refine ⟨?_,rfl⟩
    cases hfp:fp ps (sp vs) with
    | some z=>rw [hfp] at hth;cases hth
    | none =>
      rw [hfp] at hf
      have hf1:findP ps vs = -1:=hf
      rw [if_neg (by rw [hf1];decide),if_neg (by rw [hf1];decide)]
  ·rw [e,if_neg hqo]
   exact iFromOther k _ S0 ks jm hS W () () () vs vv (r.length+1) F (by omega) _ _ _ () rfl (by simp) hW hkb hlt (by rw [hq];exact Bool.eq_false_iff.mpr hqo) (hw 0 (by omega)) (hw 1 (by omega))
theorem fc_all {k:Kn} {mb bm c:Nat} {ps:List Pk} (ks:Ks k) (h1:mb≠k.vb) (h2:bm≠k.vb) (hg:k.give=.func (.func 36) #[] #[ptr mb]):∀ row,FC k mb bm c ps row:=by
 intro row
 induction row with
 | nil=>exact fc_nil k mb bm c ps ks h1 h2
 | cons q r ih=>exact fc_cons ks h1 h2 hg ih
end Wp20
end Go.Proofs.Ytfhdbcfhhbdiiaa
